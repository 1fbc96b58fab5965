/- Proved here: DefectsFault of the program: vdF. -/
import Derived.Test.YtngpjglcjbdblaaVdM
import Derived.Test.YtngpjglcjbdblaaInsC
namespace Go.Proofs.Ytngpjglcjbdblaa
open Go.RowKit
set_option linter.unusedVariables false
set_option linter.unusedSimpArgs false

set_option maxRecDepth 10000 in
set_option maxHeartbeats 3200000 in
theorem impl_vdO (d : Dft) (w : World) :
    Calls Try.prog 35 #[.agg #[.int .i64 d.x, .int .i64 d.y, .int .i64 d.z, .int .i64 d.k]] w fun e w' => e = .returned (.int .i64 (vdO d)) ∧ Below w.heap.size w w' := by
  obtain ⟨r1, h1⟩ : ∃ r, r = decide (0 ≤ d.x ∧ d.x ≤ 10000) := ⟨_, rfl⟩
  obtain ⟨r2, h2⟩ : ∃ r, r = decide (0 ≤ d.y ∧ d.y ≤ 10000) := ⟨_, rfl⟩
  obtain ⟨r3, h3⟩ : ∃ r, r = decide (1 ≤ d.z ∧ d.z ≤ 1000) := ⟨_, rfl⟩
  obtain ⟨r4, h4⟩ : ∃ r, r = decide (0 ≤ d.k ∧ d.k ≤ 9) := ⟨_, rfl⟩
  have HE : Hid (vdO d = vdR r1 r2 r3 r4) := by unfold Hid vdO; rw [h1, h2, h3, h4]
  obtain ⟨x, y, z, k⟩ := d
  have H1 : Hid (∀ W, Calls Try.prog 24 #[.int .i64 x, .int .i64 0, .int .i64 10000] W fun e w' => e = .returned (.bool r1) ∧ w' = W) := fun W => impl_insC _ _ _ _ h1 W
  have H2 : Hid (∀ W, Calls Try.prog 24 #[.int .i64 y, .int .i64 0, .int .i64 10000] W fun e w' => e = .returned (.bool r2) ∧ w' = W) := fun W => impl_insC _ _ _ _ h2 W
  have H3 : Hid (∀ W, Calls Try.prog 24 #[.int .i64 z, .int .i64 1, .int .i64 1000] W fun e w' => e = .returned (.bool r3) ∧ w' = W) := fun W => impl_insC _ _ _ _ h3 W
  have H4 : Hid (∀ W, Calls Try.prog 24 #[.int .i64 k, .int .i64 0, .int .i64 9] W fun e w' => e = .returned (.bool r4) ∧ w' = W) := fun W => impl_insC _ _ _ _ h4 W
  clear h1 h2 h3 h4
  go_enter Try.func35, Try.ntmps35
  go_wp2_with (fail)
  refine (H1.out _).mono ?_
  rintro e w1 ⟨rfl, rfl⟩
  cases r1 with
  | false =>
    go_wp2
    go_returns
    exact ⟨by rw [HE.out]; (try cases r1) <;> (try cases r2) <;> (try cases r3) <;> rfl, by (repeat' (first | (with_reducible exact Below.refl _ _) | (with_reducible assumption) | (with_reducible refine Below.setCell ?_ ?_ _) | (with_reducible refine Below.alloc ?_ ?_ _) | (with_reducible refine below_drewN ?_ _) | (with_reducible refine Below.drew ?_) | (with_reducible exact Nat.le_refl _) | omega | (simp; done) | (simp; omega)))⟩
  | true =>
  go_wp2_with (fail)
  refine (H2.out _).mono ?_
  rintro e w2 ⟨rfl, rfl⟩
  cases r2 with
  | false =>
    go_wp2
    go_returns
    exact ⟨by rw [HE.out]; (try cases r1) <;> (try cases r2) <;> (try cases r3) <;> rfl, by (repeat' (first | (with_reducible exact Below.refl _ _) | (with_reducible assumption) | (with_reducible refine Below.setCell ?_ ?_ _) | (with_reducible refine Below.alloc ?_ ?_ _) | (with_reducible refine below_drewN ?_ _) | (with_reducible refine Below.drew ?_) | (with_reducible exact Nat.le_refl _) | omega | (simp; done) | (simp; omega)))⟩
  | true =>
  go_wp2_with (fail)
  refine (H3.out _).mono ?_
  rintro e w3 ⟨rfl, rfl⟩
  cases r3 with
  | false =>
    go_wp2
    go_returns
    exact ⟨by rw [HE.out]; (try cases r1) <;> (try cases r2) <;> (try cases r3) <;> rfl, by (repeat' (first | (with_reducible exact Below.refl _ _) | (with_reducible assumption) | (with_reducible refine Below.setCell ?_ ?_ _) | (with_reducible refine Below.alloc ?_ ?_ _) | (with_reducible refine below_drewN ?_ _) | (with_reducible refine Below.drew ?_) | (with_reducible exact Nat.le_refl _) | omega | (simp; done) | (simp; omega)))⟩
  | true =>
  go_wp2_with (fail)
  refine (H4.out _).mono ?_
  rintro e w4 ⟨rfl, rfl⟩
  cases r4 with
  | false =>
    go_wp2
    go_returns
    exact ⟨by rw [HE.out]; (try cases r1) <;> (try cases r2) <;> (try cases r3) <;> rfl, by (repeat' (first | (with_reducible exact Below.refl _ _) | (with_reducible assumption) | (with_reducible refine Below.setCell ?_ ?_ _) | (with_reducible refine Below.alloc ?_ ?_ _) | (with_reducible refine below_drewN ?_ _) | (with_reducible refine Below.drew ?_) | (with_reducible exact Nat.le_refl _) | omega | (simp; done) | (simp; omega)))⟩
  | true =>
    go_wp2
    go_returns
    exact ⟨by rw [HE.out]; rfl, by (repeat' (first | (with_reducible exact Below.refl _ _) | (with_reducible assumption) | (with_reducible refine Below.setCell ?_ ?_ _) | (with_reducible refine Below.alloc ?_ ?_ _) | (with_reducible refine below_drewN ?_ _) | (with_reducible refine Below.drew ?_) | (with_reducible exact Nat.le_refl _) | omega | (simp; done) | (simp; omega)))⟩

set_option maxRecDepth 10000 in
set_option maxHeartbeats 3200000 in
theorem impl_vdF {w : World} {v : Value} {s : List Dft} (hn : s.length ≤ 1048576) (h : RG 4 vdC w v s) :
    Calls Try.prog 23 #[v] w fun e w' => e = .returned (.int .i64 (vdF s)) ∧ Below w.heap.size w w' := by
  obtain ⟨a, c, rfl⟩ := h.form
  obtain ⟨n, hnn⟩ : ∃ n, n = s.length := ⟨_, rfl⟩
  obtain ⟨C, hC⟩ : ∃ C, C = vdF s := ⟨_, rfl⟩
  rw [← hnn] at h hn ⊢
  rw [← hC]
  have H : Hid (RG 4 vdC w (.slice a n c) s ∧ n = s.length ∧ C = vdF s) := ⟨h, hnn, hC⟩
  clear h hnn hC
  by_cases h1 : (60 : Int) < (n : Int)
  · have HC : Hid (C = 2) := by unfold Hid; rw [H.out.2.2]; unfold vdF; rw [if_pos (by rw [← H.out.2.1]; omega)]
    clear H
    go_enter Try.func23, Try.ntmps23
    go_wp2
    go_returns
    exact ⟨by rw [HC.out]; rfl, Below.refl _ _⟩
  have HC : Hid (C = vdG s) := by unfold Hid; rw [H.out.2.2]; unfold vdF; rw [if_neg (by rw [← H.out.2.1]; omega)]
  go_enter Try.func23, Try.ntmps23
  go_wp2
  go_loopw [11] (fun i wr => ∃ k : Nat, k ≤ n ∧ i = .int .i64 k ∧ Hid (C = vdG (s.drop k) ∧ Below w.heap.size w wr)) (fun i _ => n - (intOf i).toNat)
  case atStart => exact ⟨0, Nat.zero_le _, rfl, HC.out, Below.refl _ _⟩
  case round =>
    obtain ⟨k, hk, rfl, hR⟩ := hrel
    by_cases hlt : k < n
    · have hjl : k < s.length := by rw [← H.out.2.1]; exact hlt
      obtain ⟨g, o, c2, he, hg, hj⟩ := (H.out.1.below hR.out.2).pos (by omega)
      simp only [Value.slice.injEq] at he
      obtain ⟨rfl, hx1, hx2⟩ := he
      clear hx1 hx2
      obtain ⟨c0, c1, c2', c3⟩ := vdC_at (hj k hjl)
      obtain ⟨d, hd⟩ : ∃ d, d = s[k] := ⟨_, rfl⟩
      rw [← hd] at c0 c1 c2' c3
      obtain ⟨q, hq⟩ : ∃ q, q = vdO d := ⟨_, rfl⟩
      have HQ : Hid (C = if q = 0 then vdG (s.drop (k + 1)) else q) := by unfold Hid; rw [hR.out.1, vdG_step hjl, hq, hd]
      have HO : Hid (∀ W, Calls Try.prog 35 #[.agg #[.int .i64 d.x, .int .i64 d.y, .int .i64 d.z, .int .i64 d.k]] W fun e w' => e = .returned (.int .i64 q) ∧ Below W.heap.size W w') := fun W => by rw [hq]; exact impl_vdO d W
      clear hj hd hq
      have b0 : (0 : Int) ≤ (k : Int) := by omega
      have b1 : (k : Int) < (n : Int) := by omega
      go_wp2_with (fail)
      refine (HO.out _).mono ?_
      rintro e w5 ⟨rfl, hb5⟩
      have HB : Hid (Below w.heap.size w w5) := by
        have hal : Below w.heap.size w (wr.alloc (.cells #[.int .i64 d.x, .int .i64 d.y, .int .i64 d.z, .int .i64 d.k] 47)) := hR.out.2.alloc hR.out.2.size _
        exact hal.trans (hb5.mono hal.size)
      clear HO hb5 hR c0 c1 c2' c3
      by_cases hq0 : q = 0
      · have HN : Hid (C = vdG (s.drop (k + 1))) := by unfold Hid; rw [HQ.out, if_pos hq0]
        clear HQ
        subst hq0
        go_wp2
        go_roundw
        case rel => exact ⟨k + 1, by omega, by go_num, HN.out, HB.out⟩
        case measure => simp [intOf]; omega
      · have HN : Hid (C = q) := by unfold Hid; rw [HQ.out, if_neg hq0]
        have hq1 : (q != 0) = true := by simpa using hq0
        clear HQ
        go_wp2
        go_returns
        exact ⟨by rw [HN.out]; rfl, HB.out⟩
    · have HM : Hid (C = 0) := by
        unfold Hid; rw [hR.out.1, List.drop_eq_nil_of_le (by rw [← H.out.2.1]; omega)]; rfl
      go_wp2
      go_returns
      exact ⟨by rw [HM.out]; rfl, hR.out.2⟩

end Go.Proofs.Ytngpjglcjbdblaa
