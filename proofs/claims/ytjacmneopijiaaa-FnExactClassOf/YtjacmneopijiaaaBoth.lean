/- Proved here: whether two fractions are right, as the program and as the model ask it, for every two fractions. -/
import Derived.Test.YtjacmneopijiaaaFault
import Derived.Test.YtjacmneopijiaaaBt3
namespace Go.Proofs.Ytjacmneopijiaaa
open Go.ChangeShapes Go.WideShapes Go.ChangeAt Go.RowKit
set_option linter.unusedVariables false

/-- Both fractions are right. -/
def bothB (a b c d : Int) : Bool := okF a b && okF c d

theorem okF_in {n d : Int} (h : okF n d = true) : inB n d = true ∧ Int.gcd n d = 1 := by
  unfold okF at h; simpa using h
theorem codeF_t {n d : Int} (h : okF n d = true) : codeF n d = 0 := by unfold codeF; rw [h]; rfl
theorem codeF_f {n d : Int} (h : okF n d = false) : codeF n d = 1 := by unfold codeF; rw [h]; rfl
theorem both_in {a b c d : Int} (h : bothB a b c d = true) : (1 ≤ b ∧ b ≤ 1000000000 ∧ -1000000000 ≤ a ∧ a ≤ 1000000000) ∧ (1 ≤ d ∧ d ≤ 1000000000 ∧ -1000000000 ≤ c ∧ c ≤ 1000000000) := by
  unfold bothB at h
  rw [Bool.and_eq_true] at h
  exact ⟨inB_true (okF_in h.1).1, inB_true (okF_in h.2).1⟩

set_option maxHeartbeats 400000 in
theorem impl_both (a b c d : Int) (w : World) :
    Calls Try.prog 77 #[.agg #[.int .i64 a, .int .i64 b], .agg #[.int .i64 c, .int .i64 d]] w fun e w' => e = .returned (.bool (bothB a b c d)) ∧ Below w.heap.size w w' := by
  cases h : okF a b with
  | false =>
    have e1 := codeF_f h
    rw [show bothB a b c d = false by unfold bothB; rw [h]; rfl]
    go_enter Try.func77, Try.ntmps77
    go_wp2_with (fail)
    refine (impl_fault _ _ _).mono ?_
    rintro e w1 ⟨rfl, hb1⟩
    rw [e1]
    obtain ⟨hc1, hf1⟩ := bcell hb1
    go_wp2
    go_returns
    exact ⟨rfl, Below.trans (by (repeat' (first | (with_reducible exact Below.refl _ _) | (with_reducible assumption) | (with_reducible refine Below.setCell ?_ ?_ _) | (with_reducible refine Below.alloc ?_ ?_ _) | (with_reducible refine below_drewN ?_ _) | (with_reducible refine Below.drew ?_) | (with_reducible exact Nat.le_refl _) | omega | (simp; done) | (simp; omega)))) (hb1.mono (by simp; omega))⟩
  | true =>
    have e1 := codeF_t h
    rw [show bothB a b c d = okF c d by unfold bothB; rw [h]; rfl]
    go_enter Try.func77, Try.ntmps77
    go_wp2_with (fail)
    refine (impl_fault _ _ _).mono ?_
    rintro e w1 ⟨rfl, hb1⟩
    rw [e1]
    obtain ⟨hc1, hf1⟩ := bcell hb1
    go_wp2_with (fail)
    refine (impl_fault _ _ _).mono ?_
    rintro e w2 ⟨rfl, hb2⟩
    have hB : Below w.heap.size w w2 := Below.trans (Below.trans (by (repeat' (first | (with_reducible exact Below.refl _ _) | (with_reducible assumption) | (with_reducible refine Below.setCell ?_ ?_ _) | (with_reducible refine Below.alloc ?_ ?_ _) | (with_reducible refine below_drewN ?_ _) | (with_reducible refine Below.drew ?_) | (with_reducible exact Nat.le_refl _) | omega | (simp; done) | (simp; omega)))) (hb1.mono (by simp; omega))) (hb2.mono (by have := hb1.size; simp at this; omega))
    clear hc1 hf1 hb1 hb2
    cases h2 : okF c d with
    | false => rw [codeF_f h2]; go_wp2; go_returns; exact ⟨by rw [h2]; rfl, hB⟩
    | true => rw [codeF_t h2]; go_wp2; go_returns; exact ⟨by rw [h2]; rfl, hB⟩

set_option maxHeartbeats 400000 in
theorem spec_both (a b c d : Int) (w : World) :
    Calls Try.prog 74 #[.agg #[.int .i64 a, .int .i64 b], .agg #[.int .i64 c, .int .i64 d]] w fun e w' => e = .returned (.bool (bothB a b c d)) ∧ Below w.heap.size w w' := by
  cases h : okF a b with
  | false =>
    have e1 := codeF_f h
    rw [show bothB a b c d = false by unfold bothB; rw [h]; rfl]
    go_enter Try.func74, Try.ntmps74
    go_wp2_with (fail)
    refine (spec_fault _ _ _).mono ?_
    rintro e w1 ⟨rfl, hb1⟩
    rw [e1]
    obtain ⟨hc1, hf1⟩ := bcell hb1
    go_wp2
    go_returns
    exact ⟨rfl, Below.trans (by (repeat' (first | (with_reducible exact Below.refl _ _) | (with_reducible assumption) | (with_reducible refine Below.setCell ?_ ?_ _) | (with_reducible refine Below.alloc ?_ ?_ _) | (with_reducible refine below_drewN ?_ _) | (with_reducible refine Below.drew ?_) | (with_reducible exact Nat.le_refl _) | omega | (simp; done) | (simp; omega)))) (hb1.mono (by simp; omega))⟩
  | true =>
    have e1 := codeF_t h
    rw [show bothB a b c d = okF c d by unfold bothB; rw [h]; rfl]
    go_enter Try.func74, Try.ntmps74
    go_wp2_with (fail)
    refine (spec_fault _ _ _).mono ?_
    rintro e w1 ⟨rfl, hb1⟩
    rw [e1]
    obtain ⟨hc1, hf1⟩ := bcell hb1
    go_wp2_with (fail)
    refine (spec_fault _ _ _).mono ?_
    rintro e w2 ⟨rfl, hb2⟩
    have hB : Below w.heap.size w w2 := Below.trans (Below.trans (by (repeat' (first | (with_reducible exact Below.refl _ _) | (with_reducible assumption) | (with_reducible refine Below.setCell ?_ ?_ _) | (with_reducible refine Below.alloc ?_ ?_ _) | (with_reducible refine below_drewN ?_ _) | (with_reducible refine Below.drew ?_) | (with_reducible exact Nat.le_refl _) | omega | (simp; done) | (simp; omega)))) (hb1.mono (by simp; omega))) (hb2.mono (by have := hb1.size; simp at this; omega))
    clear hc1 hf1 hb1 hb2
    cases h2 : okF c d with
    | false => rw [codeF_f h2]; go_wp2; go_returns; exact ⟨by rw [h2]; rfl, hB⟩
    | true => rw [codeF_t h2]; go_wp2; go_returns; exact ⟨by rw [h2]; rfl, hB⟩

end Go.Proofs.Ytjacmneopijiaaa
