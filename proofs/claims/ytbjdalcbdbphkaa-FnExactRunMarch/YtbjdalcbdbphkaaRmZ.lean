/- Proved here: a fault of a memory by value in the laws: copied; how one that came in is read; what RunMarch answers, compared. -/
import Derived.Test.YtbjdalcbdbphkaaLwS
import Derived.Test.YtbjdalcbdbphkaaTyGen
import Derived.OpenShut
import Derived.Lib.SmallJoins
namespace Go.Proofs.Ytbjdalcbdbphkaa
open Go.ChangeShapes Go.WideShapes Go.ChangeAt Go.RowKit Go.Joins Go.Deep
set_option linter.unusedVariables false
set_option linter.unusedSimpArgs false

set_option maxHeartbeats 800000 in
theorem toMemFault_is (a b c d : Int) (w : World) :
    Calls Try.prog 11 #[.agg #[.int .i64 a, .int .i64 b, .int .i64 c, .int .i64 d]] w fun e w' => e = .returned (.agg #[.int .i64 a, .int .i64 b, .int .i64 c, .int .i64 d]) ∧ Below w.heap.size w w' := by
  go_enter Try.func11, Try.ntmps11
  go_wp2
  go_returns
  exact ⟨rfl, by (repeat' (first | (with_reducible exact Below.refl _ _) | (with_reducible assumption) | (with_reducible refine Below.setCell ?_ ?_ _) | (with_reducible refine Below.alloc ?_ ?_ _) | (with_reducible refine below_drewN ?_ _) | (with_reducible refine Below.drew ?_) | (with_reducible exact Nat.le_refl _) | omega | (simp; done) | (simp; omega)))⟩
set_option maxHeartbeats 1600000 in
theorem eqMarchResult_to (a : Int) (f : Bool) (b c : Int) (w : World) :
    Calls Try.prog 13 #[.agg #[.int .i64 a, .bool f, .int .i64 b, .int .i64 c], .agg #[.int .i64 a, .bool f, .int .i64 b, .int .i64 c]] w fun e w' => e = .returned (.bool true) ∧ Below w.heap.size w w' := by
  cases f <;> (
  go_enter Try.func13, Try.ntmps13
  go_wp2
  go_returns
  exact ⟨rfl, by (repeat' (first | (with_reducible exact Below.refl _ _) | (with_reducible assumption) | (with_reducible refine Below.setCell ?_ ?_ _) | (with_reducible refine Below.alloc ?_ ?_ _) | (with_reducible refine below_drewN ?_ _) | (with_reducible refine Below.drew ?_) | (with_reducible exact Nat.le_refl _) | omega | (simp; done) | (simp; omega)))⟩)
set_option maxRecDepth 100000 in
theorem memfault_open {H : Type} {enc : TypeId × Value → H} {W : World} {base : Nat} {v : Value} {d : DataW H} {p : List MemPlace}
    (hv : Value.okWide Try.prog W .any base 24 v) (h : DataW.Trod enc Try.prog W 0 (fun _ => true) true 24 v d p) :
    ∃ a0 a1 a2 a3 : Int, v = .agg #[.int .i64 a0, .int .i64 a1, .int .i64 a2, .int .i64 a3] := by
  obtain ⟨cs, rfl, hsz⟩ := okWide_struct Try.underlying24 hv
  obtain ⟨fuel, hf⟩ := h
  obtain ⟨y0, y1, y2, y3, n, hx, hl, h0, h1, h2, h3⟩ := trod_struct4 Try.underlying24 hf
  have k6 : Try.prog.cellsOf 24 = 4 := by kernel_rfl
  have k1 : Try.prog.cellsOf 2 = 1 := by kernel_rfl
  rw [k6] at hl
  obtain ⟨l⟩ := cs
  obtain ⟨c0, c1, c2, c3, rfl⟩ : ∃ c0 c1 c2 c3, l = [c0, c1, c2, c3] := by
    have hl' : l.length = 4 := by simpa [Value.cells] using hl
    match l, hl' with
    | [c0, c1, c2, c3], _ => exact ⟨c0, c1, c2, c3, rfl⟩
  obtain ⟨m0, f0, _, _⟩ := DataW.trod_int Try.underlying2 h0
  obtain ⟨m1, f1, _, _⟩ := DataW.trod_int Try.underlying2 h1
  obtain ⟨m2, f2, _, _⟩ := DataW.trod_int Try.underlying2 h2
  obtain ⟨m3, f3, _, _⟩ := DataW.trod_int Try.underlying2 h3
  simp [k1, Value.cells] at f0 f1 f2 f3
  subst f0 f1 f2 f3
  exact ⟨m0, m1, m2, m3, rfl⟩

end Go.Proofs.Ytbjdalcbdbphkaa
