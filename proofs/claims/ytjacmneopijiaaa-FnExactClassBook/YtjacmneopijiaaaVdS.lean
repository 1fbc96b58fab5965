/- Proved here: DefectsFault of the model: vdF. (And ahead of it: Proved here: l15Class of the model: the place of the first class that fits, or -1. (And ahead of it: Proved here: a number between two others, of the model (l4In).)) -/
import Derived.Test.YtjacmneopijiaaaKept
import Derived.Test.YtjacmneopijiaaaVtM
import Derived.Test.YtjacmneopijiaaaVkM
import Derived.Deep.DeepCutAuto
import Derived.Test.YtjacmneopijiaaaBase
namespace Go.Proofs.Ytjacmneopijiaaa
open Go.RowKit
set_option linter.unusedVariables false
set_option linter.unusedSimpArgs false

set_option maxHeartbeats 800000 in
theorem spec_in10 (n a b : Int) (w : World) : Calls Try.prog 35 #[.int .i64 n, .int .i64 a, .int .i64 b] w fun e w' => e = .returned (.bool (decide (a ≤ n ∧ n ≤ b))) ∧ w' = w := by
  obtain ⟨r, hr⟩ : ∃ r, r = decide (a ≤ n ∧ n ≤ b) := ⟨_, rfl⟩
  rw [← hr]
  have H : Hid ((¬ a ≤ n → r = false) ∧ (a ≤ n → n ≤ b → r = true) ∧ (a ≤ n → ¬ n ≤ b → r = false)) := by
    unfold Hid; rw [hr]
    exact ⟨fun h => by simp [h], fun h1 h2 => by simp [h1, h2], fun h1 h2 => by simp [h1, h2]⟩
  clear hr
  by_cases h1 : a ≤ n
  · by_cases h2 : n ≤ b
    · obtain rfl := H.out.2.1 h1 h2
      go_enter Try.func35, Try.ntmps35
      go_wp2
      go_returns
      exact ⟨rfl, rfl⟩
    · obtain rfl := H.out.2.2 h1 h2
      go_enter Try.func35, Try.ntmps35
      go_wp2
      go_returns
      exact ⟨rfl, rfl⟩
  · obtain rfl := H.out.1 h1
    go_enter Try.func35, Try.ntmps35
    go_wp2
    go_returns
    exact ⟨rfl, rfl⟩

end Go.Proofs.Ytjacmneopijiaaa

namespace Go.Proofs.Ytjacmneopijiaaa
open Go.RowKit
set_option linter.unusedVariables false
set_option linter.unusedSimpArgs false

/-- None of the first j classes fits. -/
def Vnf (d : Dft) (cs : List Cls) (j : Nat) : Prop := ∀ q (hq : q < cs.length), q < j → vfit d cs[q] = false
theorem Vnf.here {d : Dft} {cs : List Cls} {j : Nat} (h : Vnf d cs j) (hj : j < cs.length) (hy : vfit d cs[j] = true) : vff d cs = j := by
  unfold vff
  rw [List.findIdx_eq hj]
  exact ⟨hy, fun q hq => h q (by omega) hq⟩
theorem Vnf.succ {d : Dft} {cs : List Cls} {j : Nat} (h : Vnf d cs j) (hj : j < cs.length) (hy : vfit d cs[j] = false) : Vnf d cs (j + 1) := by
  intro q hq h1
  rcases Nat.lt_or_ge q j with h2 | h2
  · exact h q hq h2
  · obtain rfl : q = j := by omega
    exact hy
theorem Vnf.none {d : Dft} {cs : List Cls} {j : Nat} (h : Vnf d cs j) (hj : cs.length ≤ j) : vff d cs = cs.length := by
  unfold vff
  rw [List.findIdx_eq_length]
  intro c hc
  obtain ⟨q, hq, rfl⟩ := List.getElem_of_mem hc
  exact h q hq (by omega)
def vcl (d : Dft) (cs : List Cls) : Int := if vff d cs < cs.length then (vff d cs : Int) else -1
theorem vfit_of {d : Dft} {c : Cls} (h : c.k = -1 ∨ c.k = d.k) : vfit d c = vsz d c := by
  unfold vfit
  rcases h with h | h <;> simp [h]
theorem vfit_no {d : Dft} {c : Cls} (h1 : ¬ c.k = -1) (h2 : ¬ c.k = d.k) : vfit d c = false := by
  unfold vfit
  simp [h1, h2]
set_option maxRecDepth 10000 in
set_option maxHeartbeats 6400000 in
theorem spec_cl {W : World} {v : Value} {cs : List Cls} (d : Dft) (hn : cs.length ≤ 20) (h : RG 6 vcC W v cs) :
    Calls Try.prog 43 #[.agg #[.int .i64 d.x, .int .i64 d.y, .int .i64 d.z, .int .i64 d.k], v] W fun e w' => e = .returned (.int .i64 (vcl d cs)) ∧ Below W.heap.size W w' := by
  obtain ⟨a, c, rfl⟩ := h.form
  obtain ⟨n, hnn⟩ : ∃ n, n = cs.length := ⟨_, rfl⟩
  obtain ⟨R, hR⟩ : ∃ R, R = vcl d cs := ⟨_, rfl⟩
  rw [← hnn] at h hn ⊢
  rw [← hR]
  have H : Hid (RG 6 vcC W (.slice a n c) cs ∧ n = cs.length ∧ R = vcl d cs) := ⟨h, hnn, hR⟩
  clear h hnn hR
  obtain ⟨V0, hV0⟩ : ∃ V, V = W.alloc (.cells #[.int .i64 d.x, .int .i64 d.y, .int .i64 d.z, .int .i64 d.k] 41) := ⟨_, rfl⟩
  obtain ⟨k0, hk0⟩ : ∃ k, k = W.heap.size := ⟨_, rfl⟩
  have HQ : Hid (V0.heap[k0]? = some (.cells #[.int .i64 d.x, .int .i64 d.y, .int .i64 d.z, .int .i64 d.k] 41) ∧ Below W.heap.size W V0 ∧ k0 < V0.heap.size) := by
    rw [hV0, hk0]; exact ⟨heap_alloc_new W _, by (repeat' (first | (with_reducible exact Below.refl _ _) | (with_reducible assumption) | (with_reducible refine Below.setCell ?_ ?_ _) | (with_reducible refine Below.alloc ?_ ?_ _) | (with_reducible refine below_drewN ?_ _) | (with_reducible refine Below.drew ?_) | (with_reducible exact Nat.le_refl _) | omega | (simp; done) | (simp; omega))), by simp⟩
  have HV0 : Hid (V0 = W.alloc (.cells #[.int .i64 d.x, .int .i64 d.y, .int .i64 d.z, .int .i64 d.k] 41)) := hV0
  have HK0 : Hid (k0 = W.heap.size) := hk0
  clear hV0 hk0
  go_enter Try.func43, Try.ntmps43
  go_wp2
  rw [← HV0.out, ← HK0.out]
  clear HV0 HK0
  go_loopw [5] (fun i wr => ∃ j : Nat, j ≤ n ∧ i = .int .i64 j ∧ Hid (Vnf d cs j ∧ Below V0.heap.size V0 wr)) (fun i _ => n - (intOf i).toNat)
  case atStart => exact ⟨0, Nat.zero_le _, rfl, fun q hq h9 => absurd h9 (by omega), Below.refl _ _⟩
  case round =>
    obtain ⟨j, hj, rfl, hR⟩ := hrel
    have HBW : Hid (Below W.heap.size W wr) := HQ.out.2.1.trans (hR.out.2.mono HQ.out.2.1.size)
    by_cases hlt : j < n
    · have hjl : j < cs.length := by rw [← H.out.2.1]; exact hlt
      have q1 := (hR.out.2.block k0 HQ.out.2.2).trans HQ.out.1
      obtain ⟨g, o, c2, he, hg, hjc⟩ := (H.out.1.below HBW.out).pos (by omega)
      simp only [Value.slice.injEq] at he
      obtain ⟨rfl, hx1, hx2⟩ := he
      clear hx1 hx2
      obtain ⟨c0, c1, c2', c3, c4, c5⟩ := vcC_at (hjc j hjl)
      obtain ⟨m, hm⟩ : ∃ m, m = cs[j] := ⟨_, rfl⟩
      rw [← hm] at c0 c1 c2' c3 c4 c5
      obtain ⟨r5, e5⟩ : ∃ r, r = vsz d m := ⟨_, rfl⟩
      have HN : Hid ((vfit d m = true → R = j) ∧ (vfit d m = false → Vnf d cs (j + 1)) ∧ (m.k = -1 ∨ m.k = d.k → vfit d m = r5) ∧ (¬ m.k = -1 → ¬ m.k = d.k → vfit d m = false)) := by
        refine ⟨fun h5 => ?_, fun h5 => ?_, fun h5 => by rw [e5]; exact vfit_of h5, vfit_no⟩
        · rw [hm] at h5
          have h9 := hR.out.1.here hjl h5
          rw [H.out.2.2]; unfold vcl; rw [h9, if_pos hjl]
        · rw [hm] at h5
          exact hR.out.1.succ hjl h5
      have HI : Hid (∀ X, Calls Try.prog 35 #[.int .i64 d.z, .int .i64 m.lo, .int .i64 m.hi] X fun e w' => e = .returned (.bool r5) ∧ w' = X) := fun X => by rw [e5]; exact spec_in10 _ _ _ X
      have HBX : Hid (Below V0.heap.size V0 wr) := hR.out.2
      clear hjc hm e5 hR
      obtain ⟨k, lo, hi, nm, qn, qd⟩ := m
      simp only at c0 c1 c2' c3 c4 c5
      have p2 : wr.cell? ⟨k0, 2, none⟩ = some (.int .i64 d.z) := cellOf q1 2 rfl
      have p3 : wr.cell? ⟨k0, 3, none⟩ = some (.int .i64 d.k) := cellOf q1 3 rfl
      have l1 : k0 < wr.heap.size := ltOf q1
      clear q1
      have b0 : (0 : Int) ≤ (j : Int) := by omega
      have b1 : (j : Int) < (n : Int) := by omega
      have HAL : Hid (Below wr.heap.size wr (wr.alloc (.cells #[.int .i64 k, .int .i64 lo, .int .i64 hi, .int .i64 nm, .int .i64 qn, .int .i64 qd] 66))) := by unfold Hid; (repeat' (first | (with_reducible exact Below.refl _ _) | (with_reducible assumption) | (with_reducible refine Below.setCell ?_ ?_ _) | (with_reducible refine Below.alloc ?_ ?_ _) | (with_reducible refine below_drewN ?_ _) | (with_reducible refine Below.drew ?_) | (with_reducible exact Nat.le_refl _) | omega | (simp; done) | (simp; omega)))
      have HF : Hid (Below W.heap.size W (wr.alloc (.cells #[.int .i64 k, .int .i64 lo, .int .i64 hi, .int .i64 nm, .int .i64 qn, .int .i64 qd] 66)) ∧ Below V0.heap.size V0 (wr.alloc (.cells #[.int .i64 k, .int .i64 lo, .int .i64 hi, .int .i64 nm, .int .i64 qn, .int .i64 qd] 66))) := ⟨HBW.out.trans (HAL.out.mono HBW.out.size), HBX.out.trans (HAL.out.mono HBX.out.size)⟩
      clear HAL HBW HBX
      have fin : True := trivial
      by_cases h1 : k = -1
      · have HS : Hid (vfit d ⟨k, lo, hi, nm, ⟨qn, qd⟩⟩ = r5) := HN.out.2.2.1 (Or.inl h1)
        have h2 : (k == -1) = true := by simp [h1]
        clear h1
        go_wp2_with (fail)
        refine (HI.out _).mono ?_
        rintro e w9 ⟨rfl, rfl⟩
        cases r5 with
        | true =>
          have HRJ : Hid (R = j) := HN.out.1 HS.out
          clear HN HS HI
          go_wp2
          go_returns
          exact ⟨by rw [HRJ.out]; rfl, HF.out.1⟩
        | false =>
          have HV : Hid (Vnf d cs (j + 1)) := HN.out.2.1 HS.out
          clear HN HS HI
          go_wp2
          go_roundw
          case rel => exact ⟨j + 1, by omega, by go_num, HV.out, HF.out.2⟩
          case measure => simp [intOf]; omega
      · have h2 : (k == -1) = false := by simp [h1]
        by_cases h3 : k = d.k
        · have HS : Hid (vfit d ⟨k, lo, hi, nm, ⟨qn, qd⟩⟩ = r5) := HN.out.2.2.1 (Or.inr h3)
          have h4 : (k == d.k) = true := by simp [h3]
          clear h1 h3
          go_wp2_with (fail)
          refine (HI.out _).mono ?_
          rintro e w9 ⟨rfl, rfl⟩
          cases r5 with
          | true =>
            have HRJ : Hid (R = j) := HN.out.1 HS.out
            clear HN HS HI
            go_wp2
            go_returns
            exact ⟨by rw [HRJ.out]; rfl, HF.out.1⟩
          | false =>
            have HV : Hid (Vnf d cs (j + 1)) := HN.out.2.1 HS.out
            clear HN HS HI
            go_wp2
            go_roundw
            case rel => exact ⟨j + 1, by omega, by go_num, HV.out, HF.out.2⟩
            case measure => simp [intOf]; omega
        · have HV : Hid (Vnf d cs (j + 1)) := HN.out.2.1 (HN.out.2.2.2 h1 h3)
          have h4 : (k == d.k) = false := by simp [h3]
          clear HN HI h1 h3
          go_wp2
          go_roundw
          case rel => exact ⟨j + 1, by omega, by go_num, HV.out, HF.out.2⟩
          case measure => simp [intOf]; omega
    · have HE : Hid (R = -1) := by unfold Hid; rw [H.out.2.2]; unfold vcl; rw [hR.out.1.none (by rw [← H.out.2.1]; omega), if_neg (by omega)]
      clear hR
      go_wp2
      go_returns
      exact ⟨by rw [HE.out]; rfl, HBW.out⟩

end Go.Proofs.Ytjacmneopijiaaa

namespace Go.Proofs.Ytjacmneopijiaaa
open Go.RowKit
set_option linter.unusedVariables false
set_option linter.unusedSimpArgs false

theorem vd_four {w : World} {k : Nat} {a b c d : Value} {T : TypeId} (h : w.heap[k]? = some (.cells #[a, b, c, d] T)) :
    w.cell? ⟨k, 0, none⟩ = some a ∧ w.cell? ⟨k, 1, none⟩ = some b ∧ w.cell? ⟨k, 2, none⟩ = some c ∧ w.cell? ⟨k, 3, none⟩ = some d ∧ k < w.heap.size := by
  refine ⟨by simp [World.cell?, h], by simp [World.cell?, h], by simp [World.cell?, h], by simp [World.cell?, h], ?_⟩
  rcases Nat.lt_or_ge k w.heap.size with h' | h'
  · exact h'
  · rw [Array.getElem?_eq_none h'] at h; cases h

set_option maxRecDepth 10000 in
set_option maxHeartbeats 6400000 in
theorem spec_vdF {w : World} {v : Value} {s : List Dft} (hn : s.length ≤ 1048576) (h : RG 4 vdC w v s) :
    Calls Try.prog 10 #[v] w fun e w' => e = .returned (.int .i64 (vdF s)) ∧ Below w.heap.size w w' := by
  obtain ⟨a, c, rfl⟩ := h.form
  obtain ⟨n, hnn⟩ : ∃ n, n = s.length := ⟨_, rfl⟩
  obtain ⟨C, hC⟩ : ∃ C, C = vdF s := ⟨_, rfl⟩
  rw [← hnn] at h hn ⊢
  rw [← hC]
  have H : Hid (RG 4 vdC w (.slice a n c) s ∧ n = s.length ∧ C = vdF s) := ⟨h, hnn, hC⟩
  clear h hnn hC
  by_cases h1 : (60 : Int) < (n : Int)
  · have HC : Hid (C = 2) := by unfold Hid; rw [H.out.2.2]; unfold vdF; rw [if_pos (by rw [← H.out.2.1]; omega)]
    clear H
    go_enter Try.func10, Try.ntmps10
    go_wp2
    go_returns
    exact ⟨by rw [HC.out]; rfl, Below.refl _ _⟩
  have HC : Hid (C = vdG s) := by unfold Hid; rw [H.out.2.2]; unfold vdF; rw [if_neg (by rw [← H.out.2.1]; omega)]
  go_enter Try.func10, Try.ntmps10
  go_wp2
  go_loopw [3] (fun i wr => ∃ k : Nat, k ≤ n ∧ i = .int .i64 k ∧ Hid (C = vdG (s.drop k) ∧ Below w.heap.size w wr)) (fun i _ => n - (intOf i).toNat)
  case atStart => exact ⟨0, Nat.zero_le _, rfl, HC.out, Below.refl _ _⟩
  case round =>
    obtain ⟨k, hk, rfl, hR⟩ := hrel
    by_cases hlt : k < n
    · have hjl : k < s.length := by rw [← H.out.2.1]; exact hlt
      obtain ⟨g, o, c2, he, hg, hj⟩ := (H.out.1.below hR.out.2).pos (by omega)
      simp only [Value.slice.injEq] at he
      obtain ⟨rfl, hx1, hx2⟩ := he
      clear hx1 hx2
      obtain ⟨c0, c1, c2', c3⟩ := vdC_at (hj k hjl)
      obtain ⟨d, hd⟩ : ∃ d, d = s[k] := ⟨_, rfl⟩
      rw [← hd] at c0 c1 c2' c3
      have HN : Hid (C = if vdO d = 0 then vdG (s.drop (k + 1)) else vdO d) := by unfold Hid; rw [hR.out.1, vdG_step hjl, hd]
      have HB : Hid (Below w.heap.size w wr) := hR.out.2
      clear hR hj hd
      obtain ⟨r1, h1'⟩ : ∃ r, r = decide (0 ≤ d.x ∧ d.x ≤ 10000) := ⟨_, rfl⟩
      obtain ⟨r2, h2⟩ : ∃ r, r = decide (0 ≤ d.y ∧ d.y ≤ 10000) := ⟨_, rfl⟩
      obtain ⟨r3, h3⟩ : ∃ r, r = decide (1 ≤ d.z ∧ d.z ≤ 1000) := ⟨_, rfl⟩
      obtain ⟨r4, h4⟩ : ∃ r, r = decide (0 ≤ d.k ∧ d.k ≤ 9) := ⟨_, rfl⟩
      have HE : Hid (vdO d = vdR r1 r2 r3 r4) := by unfold Hid vdO; rw [h1', h2, h3, h4]
      have H1 : Hid (∀ W, Calls Try.prog 35 #[.int .i64 d.x, .int .i64 0, .int .i64 10000] W fun e w' => e = .returned (.bool r1) ∧ w' = W) := fun W => by rw [h1']; exact spec_in10 _ _ _ W
      have H2 : Hid (∀ W, Calls Try.prog 35 #[.int .i64 d.y, .int .i64 0, .int .i64 10000] W fun e w' => e = .returned (.bool r2) ∧ w' = W) := fun W => by rw [h2]; exact spec_in10 _ _ _ W
      have H3 : Hid (∀ W, Calls Try.prog 35 #[.int .i64 d.z, .int .i64 1, .int .i64 1000] W fun e w' => e = .returned (.bool r3) ∧ w' = W) := fun W => by rw [h3]; exact spec_in10 _ _ _ W
      have H4 : Hid (∀ W, Calls Try.prog 35 #[.int .i64 d.k, .int .i64 0, .int .i64 9] W fun e w' => e = .returned (.bool r4) ∧ w' = W) := fun W => by rw [h4]; exact spec_in10 _ _ _ W
      clear h1' h2 h3 h4
      have b0 : (0 : Int) ≤ (k : Int) := by omega
      have b1 : (k : Int) < (n : Int) := by omega
      go_wp2_with (fail)
      obtain ⟨V, hV⟩ : ∃ V, V = wr.alloc (.cells #[.int .i64 d.x, .int .i64 d.y, .int .i64 d.z, .int .i64 d.k] 41) := ⟨_, rfl⟩
      rw [← hV]
      have kV : V.heap[wr.heap.size]? = some (.cells #[.int .i64 d.x, .int .i64 d.y, .int .i64 d.z, .int .i64 d.k] 41) := by rw [hV]; exact heap_alloc_new wr _
      have bV : Below wr.heap.size wr V := by rw [hV]; (repeat' (first | (with_reducible exact Below.refl _ _) | (with_reducible assumption) | (with_reducible refine Below.setCell ?_ ?_ _) | (with_reducible refine Below.alloc ?_ ?_ _) | (with_reducible refine below_drewN ?_ _) | (with_reducible refine Below.drew ?_) | (with_reducible exact Nat.le_refl _) | omega | (simp; done) | (simp; omega)))
      have HBV : Hid (Below w.heap.size w V) := HB.out.trans (bV.mono HB.out.size)
      obtain ⟨p0, p1, p2, p3, pl⟩ := vd_four kV
      clear hV kV bV c0 c1 c2' c3 hg HB
      refine (H1.out _).mono ?_
      rintro e w1 ⟨rfl, rfl⟩
      cases r1 with
      | false =>
        have HZ : Hid (C = vdR false r2 r3 r4) := by unfold Hid; rw [HN.out, HE.out]; (try cases r2) <;> (try cases r3) <;> (try cases r4) <;> rfl
        go_wp2
        go_returns
        exact ⟨by rw [HZ.out]; (try cases r2) <;> (try cases r3) <;> (try cases r4) <;> rfl, HBV.out⟩
      | true =>
      go_wp2_with (fail)
      refine (H2.out _).mono ?_
      rintro e w2 ⟨rfl, rfl⟩
      cases r2 with
      | false =>
        have HZ : Hid (C = vdR true false r3 r4) := by unfold Hid; rw [HN.out, HE.out]; (try cases r2) <;> (try cases r3) <;> (try cases r4) <;> rfl
        go_wp2
        go_returns
        exact ⟨by rw [HZ.out]; (try cases r2) <;> (try cases r3) <;> (try cases r4) <;> rfl, HBV.out⟩
      | true =>
      go_wp2_with (fail)
      refine (H3.out _).mono ?_
      rintro e w3 ⟨rfl, rfl⟩
      cases r3 with
      | false =>
        have HZ : Hid (C = vdR true true false r4) := by unfold Hid; rw [HN.out, HE.out]; (try cases r2) <;> (try cases r3) <;> (try cases r4) <;> rfl
        go_wp2
        go_returns
        exact ⟨by rw [HZ.out]; (try cases r2) <;> (try cases r3) <;> (try cases r4) <;> rfl, HBV.out⟩
      | true =>
      go_wp2_with (fail)
      refine (H4.out _).mono ?_
      rintro e w4 ⟨rfl, rfl⟩
      cases r4 with
      | false =>
        have HZ : Hid (C = vdR true true true false) := by unfold Hid; rw [HN.out, HE.out]; (try cases r2) <;> (try cases r3) <;> (try cases r4) <;> rfl
        go_wp2
        go_returns
        exact ⟨by rw [HZ.out]; (try cases r2) <;> (try cases r3) <;> (try cases r4) <;> rfl, HBV.out⟩
      | true =>
        have HZ : Hid (C = vdG (s.drop (k + 1))) := by unfold Hid; rw [HN.out, HE.out]; rfl
        go_wp2
        go_roundw
        case rel => exact ⟨k + 1, by omega, by go_num, HZ.out, HBV.out⟩
        case measure => simp [intOf]; omega
    · have HM : Hid (C = 0) := by
        unfold Hid; rw [hR.out.1, List.drop_eq_nil_of_le (by rw [← H.out.2.1]; omega)]; rfl
      go_wp2
      go_returns
      exact ⟨by rw [HM.out]; rfl, hR.out.2⟩

end Go.Proofs.Ytjacmneopijiaaa
