/- Proved here: MessageFault of the program: mgF. -/
import Derived.Test.YtejpjbihdclngaaMsM
import Derived.Test.YtejpjbihdclngaaInsC
import Derived.Test.YtejpjbihdclngaaLwS
namespace Go.Proofs.Ytejpjbihdclngaa
open Go.RowKit
set_option linter.unusedVariables false
set_option linter.unusedSimpArgs false

set_option maxHeartbeats 3200000 in
theorem impl_mg (A B C : Int) {w : World} {v : Value} {s : List UInt8} (h : RBy w v s) :
    Calls Try.prog 17 #[.agg #[.int .i64 A, .int .i64 B, .int .i64 C, v]] w fun e w' => e = .returned (.int .i64 (mgF A B C s.length)) ∧ Below w.heap.size w w' := by
  obtain ⟨a, c, rfl⟩ := h.form
  obtain ⟨n, hnn⟩ : ∃ n, n = s.length := ⟨_, rfl⟩
  rw [← hnn]
  clear h hnn
  obtain ⟨q1, hq1⟩ : ∃ b, b = decide (1 ≤ A ∧ A ≤ 127) := ⟨_, rfl⟩
  obtain ⟨q2, hq2⟩ : ∃ b, b = decide (0 ≤ B ∧ B ≤ 255) := ⟨_, rfl⟩
  obtain ⟨q3, hq3⟩ : ∃ b, b = decide (0 ≤ C ∧ C ≤ 255) := ⟨_, rfl⟩
  have H1 : Hid (∀ W, Calls Try.prog 49 #[.int .i64 A, .int .i64 1, .int .i64 127] W fun e w' => e = .returned (.bool q1) ∧ w' = W) := impl_insC A 1 127 q1 hq1
  have H2 : Hid (∀ W, Calls Try.prog 49 #[.int .i64 B, .int .i64 0, .int .i64 255] W fun e w' => e = .returned (.bool q2) ∧ w' = W) := impl_insC B 0 255 q2 hq2
  have H3 : Hid (∀ W, Calls Try.prog 49 #[.int .i64 C, .int .i64 0, .int .i64 255] W fun e w' => e = .returned (.bool q3) ∧ w' = W) := impl_insC C 0 255 q3 hq3
  obtain ⟨R, hR⟩ : ∃ R, R = mgF A B C n := ⟨_, rfl⟩
  rw [← hR]
  have HR : Hid (R = if q1 && q2 && q3 then (if 2000 < n then 2 else 0) else 3) := by unfold Hid; rw [hR, hq1, hq2, hq3]; rfl
  clear hR hq1 hq2 hq3
  go_enter Try.func17, Try.ntmps17
  go_wp2_with (fail)
  refine (H1.out _).mono ?_
  rintro e w1 ⟨rfl, hw⟩
  subst w1
  cases q1
  · have HZ : Hid (R = 3) := by unfold Hid; rw [HR.out]; simp
    go_wp2
    go_returns
    exact ⟨by rw [HZ.out]; rfl, by (repeat' (first | (with_reducible exact Below.refl _ _) | (with_reducible assumption) | (with_reducible refine Below.setCell ?_ ?_ _) | (with_reducible refine Below.alloc ?_ ?_ _) | (with_reducible refine below_drewN ?_ _) | (with_reducible refine Below.drew ?_) | (with_reducible exact Nat.le_refl _) | omega | (simp; done) | (simp; omega)))⟩
  go_wp2_with (fail)
  refine (H2.out _).mono ?_
  rintro e w2 ⟨rfl, hw⟩
  subst w2
  cases q2
  · have HZ : Hid (R = 3) := by unfold Hid; rw [HR.out]; simp
    go_wp2
    go_returns
    exact ⟨by rw [HZ.out]; rfl, by (repeat' (first | (with_reducible exact Below.refl _ _) | (with_reducible assumption) | (with_reducible refine Below.setCell ?_ ?_ _) | (with_reducible refine Below.alloc ?_ ?_ _) | (with_reducible refine below_drewN ?_ _) | (with_reducible refine Below.drew ?_) | (with_reducible exact Nat.le_refl _) | omega | (simp; done) | (simp; omega)))⟩
  go_wp2_with (fail)
  refine (H3.out _).mono ?_
  rintro e w3 ⟨rfl, hw⟩
  subst w3
  cases q3
  · have HZ : Hid (R = 3) := by unfold Hid; rw [HR.out]; simp
    go_wp2
    go_returns
    exact ⟨by rw [HZ.out]; rfl, by (repeat' (first | (with_reducible exact Below.refl _ _) | (with_reducible assumption) | (with_reducible refine Below.setCell ?_ ?_ _) | (with_reducible refine Below.alloc ?_ ?_ _) | (with_reducible refine below_drewN ?_ _) | (with_reducible refine Below.drew ?_) | (with_reducible exact Nat.le_refl _) | omega | (simp; done) | (simp; omega)))⟩
  by_cases h8 : (2000 : Int) < (n : Int)
  · have HZ : Hid (R = 2) := by unfold Hid; rw [HR.out]; simp; omega
    go_wp2
    go_returns
    exact ⟨by rw [HZ.out]; rfl, by (repeat' (first | (with_reducible exact Below.refl _ _) | (with_reducible assumption) | (with_reducible refine Below.setCell ?_ ?_ _) | (with_reducible refine Below.alloc ?_ ?_ _) | (with_reducible refine below_drewN ?_ _) | (with_reducible refine Below.drew ?_) | (with_reducible exact Nat.le_refl _) | omega | (simp; done) | (simp; omega)))⟩
  · have HZ : Hid (R = 0) := by unfold Hid; rw [HR.out]; simp; omega
    go_wp2
    go_returns
    exact ⟨by rw [HZ.out]; rfl, by (repeat' (first | (with_reducible exact Below.refl _ _) | (with_reducible assumption) | (with_reducible refine Below.setCell ?_ ?_ _) | (with_reducible refine Below.alloc ?_ ?_ _) | (with_reducible refine below_drewN ?_ _) | (with_reducible refine Below.drew ?_) | (with_reducible exact Nat.le_refl _) | omega | (simp; done) | (simp; omega)))⟩

end Go.Proofs.Ytejpjbihdclngaa
