/- Proved here: DefectsFault of the model: vdF. -/
import Derived.Test.YtngpjglcjbdblaaVdM
import Derived.Test.YtngpjglcjbdblaaInS
import Derived.Deep.DeepCutAuto
namespace Go.Proofs.Ytngpjglcjbdblaa
open Go.RowKit
set_option linter.unusedVariables false
set_option linter.unusedSimpArgs false

theorem vd_four {w : World} {k : Nat} {a b c d : Value} {T : TypeId} (h : w.heap[k]? = some (.cells #[a, b, c, d] T)) :
    w.cell? ⟨k, 0, none⟩ = some a ∧ w.cell? ⟨k, 1, none⟩ = some b ∧ w.cell? ⟨k, 2, none⟩ = some c ∧ w.cell? ⟨k, 3, none⟩ = some d ∧ k < w.heap.size := by
  refine ⟨by simp [World.cell?, h], by simp [World.cell?, h], by simp [World.cell?, h], by simp [World.cell?, h], ?_⟩
  rcases Nat.lt_or_ge k w.heap.size with h' | h'
  · exact h'
  · rw [Array.getElem?_eq_none h'] at h; cases h

set_option maxRecDepth 10000 in
set_option maxHeartbeats 6400000 in
theorem spec_vdF {w : World} {v : Value} {s : List Dft} (hn : s.length ≤ 1048576) (h : RG 4 vdC w v s) :
    Calls Try.prog 19 #[v] w fun e w' => e = .returned (.int .i64 (vdF s)) ∧ Below w.heap.size w w' := by
  obtain ⟨a, c, rfl⟩ := h.form
  obtain ⟨n, hnn⟩ : ∃ n, n = s.length := ⟨_, rfl⟩
  obtain ⟨C, hC⟩ : ∃ C, C = vdF s := ⟨_, rfl⟩
  rw [← hnn] at h hn ⊢
  rw [← hC]
  have H : Hid (RG 4 vdC w (.slice a n c) s ∧ n = s.length ∧ C = vdF s) := ⟨h, hnn, hC⟩
  clear h hnn hC
  by_cases h1 : (60 : Int) < (n : Int)
  · have HC : Hid (C = 2) := by unfold Hid; rw [H.out.2.2]; unfold vdF; rw [if_pos (by rw [← H.out.2.1]; omega)]
    clear H
    go_enter Try.func19, Try.ntmps19
    go_wp2
    go_returns
    exact ⟨by rw [HC.out]; rfl, Below.refl _ _⟩
  have HC : Hid (C = vdG s) := by unfold Hid; rw [H.out.2.2]; unfold vdF; rw [if_neg (by rw [← H.out.2.1]; omega)]
  go_enter Try.func19, Try.ntmps19
  go_wp2
  go_loopw [3] (fun i wr => ∃ k : Nat, k ≤ n ∧ i = .int .i64 k ∧ Hid (C = vdG (s.drop k) ∧ Below w.heap.size w wr)) (fun i _ => n - (intOf i).toNat)
  case atStart => exact ⟨0, Nat.zero_le _, rfl, HC.out, Below.refl _ _⟩
  case round =>
    obtain ⟨k, hk, rfl, hR⟩ := hrel
    by_cases hlt : k < n
    · have hjl : k < s.length := by rw [← H.out.2.1]; exact hlt
      obtain ⟨g, o, c2, he, hg, hj⟩ := (H.out.1.below hR.out.2).pos (by omega)
      simp only [Value.slice.injEq] at he
      obtain ⟨rfl, hx1, hx2⟩ := he
      clear hx1 hx2
      obtain ⟨c0, c1, c2', c3⟩ := vdC_at (hj k hjl)
      obtain ⟨d, hd⟩ : ∃ d, d = s[k] := ⟨_, rfl⟩
      rw [← hd] at c0 c1 c2' c3
      have HN : Hid (C = if vdO d = 0 then vdG (s.drop (k + 1)) else vdO d) := by unfold Hid; rw [hR.out.1, vdG_step hjl, hd]
      have HB : Hid (Below w.heap.size w wr) := hR.out.2
      clear hR hj hd
      obtain ⟨r1, h1'⟩ : ∃ r, r = decide (0 ≤ d.x ∧ d.x ≤ 10000) := ⟨_, rfl⟩
      obtain ⟨r2, h2⟩ : ∃ r, r = decide (0 ≤ d.y ∧ d.y ≤ 10000) := ⟨_, rfl⟩
      obtain ⟨r3, h3⟩ : ∃ r, r = decide (1 ≤ d.z ∧ d.z ≤ 1000) := ⟨_, rfl⟩
      obtain ⟨r4, h4⟩ : ∃ r, r = decide (0 ≤ d.k ∧ d.k ≤ 9) := ⟨_, rfl⟩
      have HE : Hid (vdO d = vdR r1 r2 r3 r4) := by unfold Hid vdO; rw [h1', h2, h3, h4]
      have H1 : Hid (∀ W, Calls Try.prog 20 #[.int .i64 d.x, .int .i64 0, .int .i64 10000] W fun e w' => e = .returned (.bool r1) ∧ w' = W) := fun W => by rw [h1']; exact spec_in10 _ _ _ W
      have H2 : Hid (∀ W, Calls Try.prog 20 #[.int .i64 d.y, .int .i64 0, .int .i64 10000] W fun e w' => e = .returned (.bool r2) ∧ w' = W) := fun W => by rw [h2]; exact spec_in10 _ _ _ W
      have H3 : Hid (∀ W, Calls Try.prog 20 #[.int .i64 d.z, .int .i64 1, .int .i64 1000] W fun e w' => e = .returned (.bool r3) ∧ w' = W) := fun W => by rw [h3]; exact spec_in10 _ _ _ W
      have H4 : Hid (∀ W, Calls Try.prog 20 #[.int .i64 d.k, .int .i64 0, .int .i64 9] W fun e w' => e = .returned (.bool r4) ∧ w' = W) := fun W => by rw [h4]; exact spec_in10 _ _ _ W
      clear h1' h2 h3 h4
      have b0 : (0 : Int) ≤ (k : Int) := by omega
      have b1 : (k : Int) < (n : Int) := by omega
      go_wp2_with (fail)
      obtain ⟨V, hV⟩ : ∃ V, V = wr.alloc (.cells #[.int .i64 d.x, .int .i64 d.y, .int .i64 d.z, .int .i64 d.k] 47) := ⟨_, rfl⟩
      rw [← hV]
      have kV : V.heap[wr.heap.size]? = some (.cells #[.int .i64 d.x, .int .i64 d.y, .int .i64 d.z, .int .i64 d.k] 47) := by rw [hV]; exact heap_alloc_new wr _
      have bV : Below wr.heap.size wr V := by rw [hV]; (repeat' (first | (with_reducible exact Below.refl _ _) | (with_reducible assumption) | (with_reducible refine Below.setCell ?_ ?_ _) | (with_reducible refine Below.alloc ?_ ?_ _) | (with_reducible refine below_drewN ?_ _) | (with_reducible refine Below.drew ?_) | (with_reducible exact Nat.le_refl _) | omega | (simp; done) | (simp; omega)))
      have HBV : Hid (Below w.heap.size w V) := HB.out.trans (bV.mono HB.out.size)
      obtain ⟨p0, p1, p2, p3, pl⟩ := vd_four kV
      clear hV kV bV c0 c1 c2' c3 hg HB
      refine (H1.out _).mono ?_
      rintro e w1 ⟨rfl, rfl⟩
      cases r1 with
      | false =>
        have HZ : Hid (C = vdR false r2 r3 r4) := by unfold Hid; rw [HN.out, HE.out]; (try cases r2) <;> (try cases r3) <;> (try cases r4) <;> rfl
        go_wp2
        go_returns
        exact ⟨by rw [HZ.out]; (try cases r2) <;> (try cases r3) <;> (try cases r4) <;> rfl, HBV.out⟩
      | true =>
      go_wp2_with (fail)
      refine (H2.out _).mono ?_
      rintro e w2 ⟨rfl, rfl⟩
      cases r2 with
      | false =>
        have HZ : Hid (C = vdR true false r3 r4) := by unfold Hid; rw [HN.out, HE.out]; (try cases r2) <;> (try cases r3) <;> (try cases r4) <;> rfl
        go_wp2
        go_returns
        exact ⟨by rw [HZ.out]; (try cases r2) <;> (try cases r3) <;> (try cases r4) <;> rfl, HBV.out⟩
      | true =>
      go_wp2_with (fail)
      refine (H3.out _).mono ?_
      rintro e w3 ⟨rfl, rfl⟩
      cases r3 with
      | false =>
        have HZ : Hid (C = vdR true true false r4) := by unfold Hid; rw [HN.out, HE.out]; (try cases r2) <;> (try cases r3) <;> (try cases r4) <;> rfl
        go_wp2
        go_returns
        exact ⟨by rw [HZ.out]; (try cases r2) <;> (try cases r3) <;> (try cases r4) <;> rfl, HBV.out⟩
      | true =>
      go_wp2_with (fail)
      refine (H4.out _).mono ?_
      rintro e w4 ⟨rfl, rfl⟩
      cases r4 with
      | false =>
        have HZ : Hid (C = vdR true true true false) := by unfold Hid; rw [HN.out, HE.out]; (try cases r2) <;> (try cases r3) <;> (try cases r4) <;> rfl
        go_wp2
        go_returns
        exact ⟨by rw [HZ.out]; (try cases r2) <;> (try cases r3) <;> (try cases r4) <;> rfl, HBV.out⟩
      | true =>
        have HZ : Hid (C = vdG (s.drop (k + 1))) := by unfold Hid; rw [HN.out, HE.out]; rfl
        go_wp2
        go_roundw
        case rel => exact ⟨k + 1, by omega, by go_num, HZ.out, HBV.out⟩
        case measure => simp [intOf]; omega
    · have HM : Hid (C = 0) := by
        unfold Hid; rw [hR.out.1, List.drop_eq_nil_of_le (by rw [← H.out.2.1]; omega)]; rfl
      go_wp2
      go_returns
      exact ⟨by rw [HM.out]; rfl, hR.out.2⟩

end Go.Proofs.Ytngpjglcjbdblaa
