/- Proved here: differences of fractions, of both, as numbers. -/
import Derived.Test.YtdidmjgilnhncabFqM
import Derived.Test.YtdidmjgilnhncabSubFrac
namespace Go.Proofs.Ytdidmjgilnhncab
open Go.RowKit
set_option linter.unusedVariables false
set_option linter.unusedSimpArgs false

theorem spec_suQ (a b : Fr) (w : World) :
    Calls Try.prog 49 #[.agg #[.int .i64 a.n, .int .i64 a.d], .agg #[.int .i64 b.n, .int .i64 b.d]] w fun e w' => e = .returned (.agg #[.int .i64 (suQ a b).c, .int .i64 (suQ a b).n, .int .i64 (suQ a b).d]) ∧ Below w.heap.size w w' := by
  cases h : bothB a.n a.d b.n b.d with
  | false =>
    have e : suQ a b = ⟨1, 0, 0⟩ := by unfold suQ; rw [h]; rfl
    rw [e]; exact spec_su_no _ _ _ _ w h
  | true =>
    have e : suQ a b = rqQ (a.n * b.d - b.n * a.d) (a.d * b.d) := by unfold suQ; rw [h]; rfl
    rw [e]
    have hi := both_in h
    have m1 := mul_bd (x := a.n) (y := b.d) (by omega) (by omega) (by omega) (by omega)
    have m2 := mul_bd (x := b.n) (y := a.d) (by omega) (by omega) (by omega) (by omega)
    have m3 := mul_bd (x := a.d) (y := b.d) (by omega) (by omega) (by omega) (by omega)
    have m4 := mul_bd (x := a.n) (y := b.n) (by omega) (by omega) (by omega) (by omega)
    have m5 := mul_pos hi.1.1 hi.2.1
    exact spec_su_yes a.n a.d b.n b.d _ _ _ w h (fun W => spec_low_pos (a.n * b.d - b.n * a.d) (a.d * b.d) W m5 (by omega) (by omega) (by omega))

theorem impl_suQ (a b : Fr) (w : World) :
    Calls Try.prog 67 #[.agg #[.int .i64 a.n, .int .i64 a.d], .agg #[.int .i64 b.n, .int .i64 b.d]] w fun e w' => e = .returned (.agg #[.int .i64 (suQ a b).c, .int .i64 (suQ a b).n, .int .i64 (suQ a b).d]) ∧ Below w.heap.size w w' := by
  cases h : bothB a.n a.d b.n b.d with
  | false =>
    have e : suQ a b = ⟨1, 0, 0⟩ := by unfold suQ; rw [h]; rfl
    rw [e]; exact impl_su_no _ _ _ _ w h
  | true =>
    have e : suQ a b = rqQ (a.n * b.d - b.n * a.d) (a.d * b.d) := by unfold suQ; rw [h]; rfl
    rw [e]
    have hi := both_in h
    have m1 := mul_bd (x := a.n) (y := b.d) (by omega) (by omega) (by omega) (by omega)
    have m2 := mul_bd (x := b.n) (y := a.d) (by omega) (by omega) (by omega) (by omega)
    have m3 := mul_bd (x := a.d) (y := b.d) (by omega) (by omega) (by omega) (by omega)
    have m4 := mul_bd (x := a.n) (y := b.n) (by omega) (by omega) (by omega) (by omega)
    have m5 := mul_pos hi.1.1 hi.2.1
    exact impl_su_yes a.n a.d b.n b.d _ _ _ w h (fun W => impl_rq_pos (a.n * b.d - b.n * a.d) (a.d * b.d) W m5 (by omega) (by omega) (by omega))

end Go.Proofs.Ytdidmjgilnhncab
