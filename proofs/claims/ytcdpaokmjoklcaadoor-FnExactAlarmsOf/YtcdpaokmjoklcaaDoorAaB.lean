/- Proved here: how many numbers lie beyond a border, of the model; a list turned upside down. -/
import Derived.Test.YtcdpaokmjoklcaaDoorAaM
import Derived.Test.YtcdpaokmjoklcaaDoorCpA
import Derived.Deep.AppendLies
namespace Go.Proofs.YtcdpaokmjoklcaaDoor
open Go.RowKit
set_option linter.unusedVariables false
set_option linter.unusedSimpArgs false

set_option maxRecDepth 10000 in
set_option maxHeartbeats 3200000 in
theorem spec_by (b : Int) (P i : Nat) {w : World} {v : Value} {dl : List Int} (hP : P ≤ 13) (hi0 : i < dl.length) (hn : dl.length ≤ 1000) (h : RdI w v dl) :
    Calls Tryd.prog 24 #[v, .int .i64 i, .int .i64 P, .int .i64 b] w fun e w' => e = .returned (.int .i64 ((cd (fun j => dl.getD j 0) b i (min P (i + 1)) : Nat) : Int)) ∧ w' = w := by
  obtain ⟨g, o, c, rfl, hg, hj⟩ := h.ri (by omega)
  obtain ⟨n, hnn⟩ : ∃ n, n = dl.length := ⟨_, rfl⟩
  obtain ⟨C, hC⟩ : ∃ C : Nat, C = cd (fun j => dl.getD j 0) b i (min P (i + 1)) := ⟨_, rfl⟩
  rw [← hC]
  have H : Hid ((∀ j, j < dl.length → w.cell? ⟨g, o + j, none⟩ = some (.int .i64 (dl.getD j 0))) ∧ n = dl.length ∧ C = cd (fun j => dl.getD j 0) b i (min P (i + 1))) := ⟨hj, hnn, hC⟩
  rw [← hnn] at hi0 hn ⊢
  clear h hj hC hnn
  have e1 : IntKind.i64.wrap ((i : Int) - (P : Int)) = (i : Int) - (P : Int) := by rw [IntKind.wrap_i64]; omega
  go_enter Tryd.func24, Tryd.ntmps24
  go_wp2
  go_loopw [9, 10] (fun m p wr => ∃ (t : Nat) (M : Nat) (I : Int), t ≤ min P (i + 1) ∧ m = .int .i64 (M : Int) ∧ p = .int .i64 I ∧ w = wr ∧ Hid (I = (i : Int) - (t : Int) ∧ M = cd (fun j => dl.getD j 0) b i t)) (fun _ p _ => (intOf p + 1).toNat)
  case atStart => exact ⟨0, 0, (i : Int), Nat.zero_le _, rfl, rfl, rfl, by omega, rfl⟩
  case round =>
    obtain ⟨t, M, I, ht, rfl, rfl, rfl, hR⟩ := hrel
    have hMb : M ≤ 13 := by rw [hR.out.2]; have := cd_le (fun j => dl.getD j 0) b i t; omega
    by_cases hlt : t < min P (i + 1)
    · obtain ⟨p, hp⟩ : ∃ p : Nat, p = i - t := ⟨_, rfl⟩
      have hIp : I = (p : Int) := by rw [hR.out.1]; omega
      have hR2 : Hid (p = i - t ∧ M = cd (fun j => dl.getD j 0) b i t ∧ t < min P (i + 1)) := ⟨hp, hR.out.2, hlt⟩
      clear hR
      subst hIp
      have c0 := H.out.1 p (by rw [← H.out.2.1]; omega)
      obtain ⟨x, hx⟩ : ∃ x, x = dl.getD p 0 := ⟨_, rfl⟩
      rw [← hx] at c0
      have HN : Hid (cd (fun j => dl.getD j 0) b i (t + 1) = M + (if b < x then 1 else 0)) := by unfold Hid; rw [cd, hx, hR2.out.2.1, hR2.out.1]
      have HT : Hid ((p : Int) - 1 = (i : Int) - ((t + 1 : Nat) : Int) ∧ t + 1 ≤ min P (i + 1)) := ⟨by have := hR2.out.1; have := hR2.out.2.2; omega, by omega⟩
      have g1 : (i : Int) - (P : Int) < (p : Int) := by have := hR2.out.1; have := hR2.out.2.2; omega
      have b0 : (0 : Int) ≤ (p : Int) := by omega
      have b1 : (p : Int) < (n : Int) := by have := hR2.out.1; omega
      have e2 : IntKind.i64.wrap ((p : Int) - 1) = (p : Int) - 1 := by rw [IntKind.wrap_i64]; omega
      have e3 : IntKind.i64.wrap ((M : Int) + 1) = (M : Int) + 1 := by rw [IntKind.wrap_i64]; omega
      clear hx hlt ht hR2 hp
      by_cases hc : b < x
      · have HE : Hid (M + 1 = cd (fun j => dl.getD j 0) b i (t + 1)) := by unfold Hid; rw [HN.out, if_pos hc]
        clear HN
        go_wp2
        go_roundw
        case rel => exact ⟨t + 1, M + 1, _, HT.out.2, by go_num, rfl, by first | rfl | trivial, HT.out.1, HE.out⟩
        case measure => simp [intOf]
      · have HE : Hid (M = cd (fun j => dl.getD j 0) b i (t + 1)) := by unfold Hid; rw [HN.out, if_neg hc]; rfl
        clear HN
        go_wp2
        go_roundw
        case rel => exact ⟨t + 1, M, _, HT.out.2, rfl, rfl, by first | rfl | trivial, HT.out.1, HE.out⟩
        case measure => simp [intOf]
    · have HE : Hid (C = M) := by unfold Hid; rw [H.out.2.2, hR.out.2, show t = min P (i + 1) by omega]
      have hI := hR.out.1
      by_cases hc : (i : Int) - (P : Int) < I
      · have hn0 : ¬ (0 : Int) ≤ I := by omega
        clear hR hI
        go_wp2
        go_returns
        exact ⟨by rw [HE.out]; try rfl, rfl⟩
      · clear hR hI
        go_wp2
        go_returns
        exact ⟨by rw [HE.out]; try rfl, rfl⟩

set_option maxRecDepth 10000 in
set_option maxHeartbeats 3200000 in
theorem spec_ng {w : World} {v : Value} {s : List Int} (hn : s.length ≤ 1000) (hb : ∀ k, k < s.length → -10000000 ≤ s.getD k 0 ∧ s.getD k 0 ≤ 10000000) (h : RdI w v s) :
    Calls Tryd.prog 15 #[v] w fun e w' => ∃ v', e = .returned v' ∧ IS w' w.heap.size v' (rgL (fun j => -s.getD j 0) s.length) ∧ Below w.heap.size w w' := by
  obtain ⟨i0, hi, hz0, hz1, hz2⟩ := info_parts info_i64
  obtain ⟨a, c, rfl⟩ := h.form
  obtain ⟨n, hnn⟩ : ∃ n, n = s.length := ⟨_, rfl⟩
  rw [← hnn] at hn h ⊢
  have H : Hid (RdI w (.slice a n c) s ∧ n = s.length ∧ ∀ k, k < s.length → -10000000 ≤ s.getD k 0 ∧ s.getD k 0 ≤ 10000000) := ⟨h, hnn, hb⟩
  clear h hnn hb
  go_enter Tryd.func15, Tryd.ntmps15
  go_wp2
  go_loopw [3, 4] (fun l i wr => ∃ (k : Nat) (v : Value), k ≤ n ∧ v = l ∧ i = .int .i64 k ∧ Hid (IS wr w.heap.size v (rgL (fun j => -s.getD j 0) k) ∧ Below w.heap.size w wr)) (fun _ i _ => n - (intOf i).toNat)
  case atStart => exact ⟨0, _, Nat.zero_le _, rfl, rfl, is_lit0 w _ (Nat.le_refl _), by (repeat' (first | (with_reducible exact Below.refl _ _) | (with_reducible assumption) | (with_reducible refine Below.setCell ?_ ?_ _) | (with_reducible refine Below.alloc ?_ ?_ _) | (with_reducible refine below_drewN ?_ _) | (with_reducible refine Below.drew ?_) | (with_reducible exact Nat.le_refl _) | omega | (simp; done) | (simp; omega)))⟩
  case round =>
    obtain ⟨k, v, hk, rfl, rfl, hQ⟩ := hrel
    obtain ⟨cur, hcur⟩ : ∃ c, c = rgL (fun j => -s.getD j 0) k := ⟨_, rfl⟩
    obtain ⟨m, hm⟩ : ∃ m, m = cur.length := ⟨_, rfl⟩
    rw [← hcur] at hQ
    obtain ⟨va, vc, hvf⟩ := hQ.out.1.form
    rw [← hm] at hvf
    subst hvf
    have hmb : m ≤ 1000 := by rw [hm, hcur, rgL_len]; omega
    by_cases hlt : k < n
    · have hkl : k < s.length := by rw [← H.out.2.1]; exact hlt
      obtain ⟨g, o, c2, he, hg, hj⟩ := (H.out.1.below hQ.out.2).ri (by omega)
      simp only [Value.slice.injEq] at he
      obtain ⟨rfl, hx1, hx2⟩ := he
      clear hx1 hx2
      have c0 := hj k hkl
      obtain ⟨x, hx⟩ : ∃ x, x = s.getD k 0 := ⟨_, rfl⟩
      rw [← hx] at c0
      have hxb := H.out.2.2 k hkl
      rw [← hx] at hxb
      have HOW : Hid (wr.ownsRow w.heap.size 2 1 (.slice va m vc) m (cur.map (Value.int .i64))) := by
        have h1 := hQ.out.1
        unfold IS at h1
        rw [← hm] at h1
        exact h1
      have HST : Hid (rgL (fun j => -s.getD j 0) (k + 1) = cur ++ [-x] ∧ m = cur.length ∧ Below w.heap.size w wr ∧ IS wr w.heap.size (.slice va m vc) cur) := ⟨by rw [rgL_succ, hcur, hx], hm, hQ.out.2, hQ.out.1⟩
      have hws := hQ.out.2.size
      have e1 : IntKind.i64.wrap (-x) = -x := by rw [IntKind.wrap_i64]; omega
      have b0 : (0 : Int) ≤ (k : Int) := by omega
      have b1 : (k : Int) < (n : Int) := by omega
      clear hj hx hQ hm hcur
      go_wp2_with (at_builtin; refine wpList_append_own _ rfl _ _ 22 rfl w.heap.size 2 i0 (.int .i64 0) 1 8 Tryd.underlying22 hi hz0 hz1 hz2 rfl (by decide) _ _ _ rfl (World.ownsRow.alloc HOW.out _) ⟨wr.heap.size, 0, none⟩ 1 1 [.int .i64 (-x)] rfl rfl (World.news_of_block (cs := #[.int .i64 (-x)]) (t := 2) (fr := (0, 0)) (heap_alloc_new wr _)) (by simp [Value.oneCell']) (by unfold maxLen; omega) (by omega) (by simp; omega) ?_; intro v6 w6 hown6 hgrow6 _)
      have R6 : Hid (IS w6 w.heap.size v6 (rgL (fun j => -s.getD j 0) (k + 1)) ∧ Below w.heap.size w w6) := by
        refine ⟨?_, (HST.out.2.2.1.alloc hws _).grown hgrow6 (by simp; omega) (fun q hq => (World.ownsRow.lt HST.out.2.2.2 q hq).1)⟩
        rw [HST.out.1]
        unfold IS
        rw [List.length_append, List.map_append, ← HST.out.2.1]
        exact hown6
      clear hown6 hgrow6 HOW HST
      go_wp2
      go_roundw
      case rel => exact ⟨k + 1, v6, by omega, rfl, by go_num, R6.out⟩
      case measure => simp [intOf]; omega
    · have HE : Hid (IS wr w.heap.size (.slice va m vc) (rgL (fun j => -s.getD j 0) n) ∧ Below w.heap.size w wr) := ⟨by have h1 := hQ.out.1; rw [hcur, show k = n by omega] at h1; exact h1, hQ.out.2⟩
      clear hQ hcur hm
      go_wp2
      go_returns
      exact ⟨_, rfl, HE.out.1, HE.out.2⟩

end Go.Proofs.YtcdpaokmjoklcaaDoor
