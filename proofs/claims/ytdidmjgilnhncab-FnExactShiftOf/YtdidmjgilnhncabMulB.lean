/- Proved here: bounds on products of numbers of at most 10 to the 9. (And ahead of it: Proved here: whether two fractions are right, as the program and as the model ask it, for every two fractions.) (And ahead of it: Proved here: the program's and the model's quotients in lowest terms are the same.) -/
import Derived.Test.YtdidmjgilnhncabLow
import Derived.Test.YtdidmjgilnhncabFault
namespace Go.Proofs.Ytdidmjgilnhncab
open Go.ChangeShapes Go.WideShapes Go.ChangeAt Go.RowKit
set_option linter.unusedVariables false

/-- Two functions answer one and the same three numbers, and turn no old memory. -/
def Both3 (f g : Nat) (args : Array Value) : Prop :=
  ∃ c x y : Int, (∀ w, Calls Try.prog f args w fun e w' => e = .returned (.agg #[.int .i64 c, .int .i64 x, .int .i64 y]) ∧ Below w.heap.size w w') ∧
    (∀ w, Calls Try.prog g args w fun e w' => e = .returned (.agg #[.int .i64 c, .int .i64 x, .int .i64 y]) ∧ Below w.heap.size w w')

theorem rq_pos (n d : Int) (hd : 1 ≤ d) (hd' : d ≤ 4000000000000000000) (h1 : -4000000000000000000 ≤ n) (h2 : n ≤ 4000000000000000000) :
    Both3 64 87 #[.int .i64 n, .int .i64 d] :=
  ⟨_, _, _, fun w => spec_low_pos n d w hd hd' h1 h2, fun w => impl_rq_pos n d w hd hd' h1 h2⟩
theorem rq_neg (n d : Int) (hd : d ≤ -1) (hd' : -4000000000000000000 ≤ d) (h1 : -4000000000000000000 ≤ n) (h2 : n ≤ 4000000000000000000) :
    Both3 64 87 #[.int .i64 n, .int .i64 d] :=
  ⟨_, _, _, fun w => spec_low_neg n d w hd hd' h1 h2, fun w => impl_rq_neg n d w hd hd' h1 h2⟩

end Go.Proofs.Ytdidmjgilnhncab

namespace Go.Proofs.Ytdidmjgilnhncab
open Go.ChangeShapes Go.WideShapes Go.ChangeAt Go.RowKit
set_option linter.unusedVariables false

/-- Both fractions are right. -/
def bothB (a b c d : Int) : Bool := okF a b && okF c d

theorem okF_in {n d : Int} (h : okF n d = true) : inB n d = true ∧ Int.gcd n d = 1 := by
  unfold okF at h; simpa using h
theorem codeF_t {n d : Int} (h : okF n d = true) : codeF n d = 0 := by unfold codeF; rw [h]; rfl
theorem codeF_f {n d : Int} (h : okF n d = false) : codeF n d = 1 := by unfold codeF; rw [h]; rfl
theorem both_in {a b c d : Int} (h : bothB a b c d = true) : (1 ≤ b ∧ b ≤ 1000000000 ∧ -1000000000 ≤ a ∧ a ≤ 1000000000) ∧ (1 ≤ d ∧ d ≤ 1000000000 ∧ -1000000000 ≤ c ∧ c ≤ 1000000000) := by
  unfold bothB at h
  rw [Bool.and_eq_true] at h
  exact ⟨inB_true (okF_in h.1).1, inB_true (okF_in h.2).1⟩

set_option maxHeartbeats 400000 in
theorem impl_both (a b c d : Int) (w : World) :
    Calls Try.prog 86 #[.agg #[.int .i64 a, .int .i64 b], .agg #[.int .i64 c, .int .i64 d]] w fun e w' => e = .returned (.bool (bothB a b c d)) ∧ Below w.heap.size w w' := by
  cases h : okF a b with
  | false =>
    have e1 := codeF_f h
    rw [show bothB a b c d = false by unfold bothB; rw [h]; rfl]
    go_enter Try.func86, Try.ntmps86
    go_wp2_with (fail)
    refine (impl_fault _ _ _).mono ?_
    rintro e w1 ⟨rfl, hb1⟩
    rw [e1]
    obtain ⟨hc1, hf1⟩ := bcell hb1
    go_wp2
    go_returns
    exact ⟨rfl, Below.trans (by (repeat' (first | (with_reducible exact Below.refl _ _) | (with_reducible assumption) | (with_reducible refine Below.setCell ?_ ?_ _) | (with_reducible refine Below.alloc ?_ ?_ _) | (with_reducible refine below_drewN ?_ _) | (with_reducible refine Below.drew ?_) | (with_reducible exact Nat.le_refl _) | omega | (simp; done) | (simp; omega)))) (hb1.mono (by simp; omega))⟩
  | true =>
    have e1 := codeF_t h
    rw [show bothB a b c d = okF c d by unfold bothB; rw [h]; rfl]
    go_enter Try.func86, Try.ntmps86
    go_wp2_with (fail)
    refine (impl_fault _ _ _).mono ?_
    rintro e w1 ⟨rfl, hb1⟩
    rw [e1]
    obtain ⟨hc1, hf1⟩ := bcell hb1
    go_wp2_with (fail)
    refine (impl_fault _ _ _).mono ?_
    rintro e w2 ⟨rfl, hb2⟩
    have hB : Below w.heap.size w w2 := Below.trans (Below.trans (by (repeat' (first | (with_reducible exact Below.refl _ _) | (with_reducible assumption) | (with_reducible refine Below.setCell ?_ ?_ _) | (with_reducible refine Below.alloc ?_ ?_ _) | (with_reducible refine below_drewN ?_ _) | (with_reducible refine Below.drew ?_) | (with_reducible exact Nat.le_refl _) | omega | (simp; done) | (simp; omega)))) (hb1.mono (by simp; omega))) (hb2.mono (by have := hb1.size; simp at this; omega))
    clear hc1 hf1 hb1 hb2
    cases h2 : okF c d with
    | false => rw [codeF_f h2]; go_wp2; go_returns; exact ⟨by rw [h2]; rfl, hB⟩
    | true => rw [codeF_t h2]; go_wp2; go_returns; exact ⟨by rw [h2]; rfl, hB⟩

set_option maxHeartbeats 400000 in
theorem spec_both (a b c d : Int) (w : World) :
    Calls Try.prog 63 #[.agg #[.int .i64 a, .int .i64 b], .agg #[.int .i64 c, .int .i64 d]] w fun e w' => e = .returned (.bool (bothB a b c d)) ∧ Below w.heap.size w w' := by
  cases h : okF a b with
  | false =>
    have e1 := codeF_f h
    rw [show bothB a b c d = false by unfold bothB; rw [h]; rfl]
    go_enter Try.func63, Try.ntmps63
    go_wp2_with (fail)
    refine (spec_fault _ _ _).mono ?_
    rintro e w1 ⟨rfl, hb1⟩
    rw [e1]
    obtain ⟨hc1, hf1⟩ := bcell hb1
    go_wp2
    go_returns
    exact ⟨rfl, Below.trans (by (repeat' (first | (with_reducible exact Below.refl _ _) | (with_reducible assumption) | (with_reducible refine Below.setCell ?_ ?_ _) | (with_reducible refine Below.alloc ?_ ?_ _) | (with_reducible refine below_drewN ?_ _) | (with_reducible refine Below.drew ?_) | (with_reducible exact Nat.le_refl _) | omega | (simp; done) | (simp; omega)))) (hb1.mono (by simp; omega))⟩
  | true =>
    have e1 := codeF_t h
    rw [show bothB a b c d = okF c d by unfold bothB; rw [h]; rfl]
    go_enter Try.func63, Try.ntmps63
    go_wp2_with (fail)
    refine (spec_fault _ _ _).mono ?_
    rintro e w1 ⟨rfl, hb1⟩
    rw [e1]
    obtain ⟨hc1, hf1⟩ := bcell hb1
    go_wp2_with (fail)
    refine (spec_fault _ _ _).mono ?_
    rintro e w2 ⟨rfl, hb2⟩
    have hB : Below w.heap.size w w2 := Below.trans (Below.trans (by (repeat' (first | (with_reducible exact Below.refl _ _) | (with_reducible assumption) | (with_reducible refine Below.setCell ?_ ?_ _) | (with_reducible refine Below.alloc ?_ ?_ _) | (with_reducible refine below_drewN ?_ _) | (with_reducible refine Below.drew ?_) | (with_reducible exact Nat.le_refl _) | omega | (simp; done) | (simp; omega)))) (hb1.mono (by simp; omega))) (hb2.mono (by have := hb1.size; simp at this; omega))
    clear hc1 hf1 hb1 hb2
    cases h2 : okF c d with
    | false => rw [codeF_f h2]; go_wp2; go_returns; exact ⟨by rw [h2]; rfl, hB⟩
    | true => rw [codeF_t h2]; go_wp2; go_returns; exact ⟨by rw [h2]; rfl, hB⟩

end Go.Proofs.Ytdidmjgilnhncab

namespace Go.Proofs.Ytdidmjgilnhncab

theorem mul_bd {x y : Int} (h1 : -1000000000 ≤ x) (h2 : x ≤ 1000000000) (h3 : -1000000000 ≤ y) (h4 : y ≤ 1000000000) : -1000000000000000000 ≤ x * y ∧ x * y ≤ 1000000000000000000 := by
  have key : ∀ u v : Int, 0 ≤ u → u ≤ 1000000000 → 0 ≤ v → v ≤ 1000000000 → 0 ≤ u * v ∧ u * v ≤ 1000000000000000000 := fun u v a b c d => by
    have p := Int.mul_nonneg a c
    have q := Int.mul_le_mul b d c (by omega : (0:Int) ≤ 1000000000)
    omega
  rcases Int.le_total 0 x with hx | hx <;> rcases Int.le_total 0 y with hy | hy
  · have := key x y hx h2 hy h4; omega
  · have := key x (-y) hx h2 (by omega) (by omega); rw [Int.mul_neg] at this; omega
  · have := key (-x) y (by omega) (by omega) hy h4; rw [Int.neg_mul] at this; omega
  · have := key (-x) (-y) (by omega) (by omega) (by omega) (by omega); rw [Int.neg_mul_neg] at this; omega
theorem mul_pos {x y : Int} (h1 : 1 ≤ x) (h2 : 1 ≤ y) : 1 ≤ x * y := by
  have := Int.mul_le_mul h1 h2 (by omega) (by omega)
  omega

end Go.Proofs.Ytdidmjgilnhncab
