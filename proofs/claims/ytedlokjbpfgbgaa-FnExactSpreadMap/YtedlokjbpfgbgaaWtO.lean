/- Proved here: a writer that came in: how it is read. No condition. -/
import Derived.Test.YtedlokjbpfgbgaaWtB
import Derived.Test.YtedlokjbpfgbgaaOpenBq
namespace Go.Proofs.Ytedlokjbpfgbgaa
open Go.ChangeShapes Go.WideShapes Go.ChangeAt Go.RowKit Go.Joins Go.Deep
set_option linter.unusedVariables false
set_option linter.unusedSimpArgs false

set_option maxRecDepth 100000 in
/-- A writer that came in. -/
theorem writer_open {H : Type} {enc : TypeId × Value → H} {W : World} {base : Nat} {v : Value} {d : DataW H} {p : List MemPlace}
    (hv : Value.okWide Try.prog W .any base 26 v) (h : DataW.Trod enc Try.prog W 0 (fun _ => true) true 26 v d p) :
    ∃ x : Wt, v = .agg #[.int .i64 x.f.x0, .int .i64 x.f.y0, .int .i64 x.f.x1, .int .i64 x.f.y1, .int .i64 x.o, .int .i64 x.s, .int .i64 x.r] := by
  obtain ⟨cs, rfl, hsz⟩ := okWide_struct Try.underlying26 hv
  have k6 : Try.prog.cellsOf 26 = 7 := by kernel_rfl
  have k1 : Try.prog.cellsOf 2 = 1 := by kernel_rfl
  rw [k6] at hsz
  obtain ⟨l⟩ := cs
  obtain ⟨c0, c1, c2, c3, c4, c5, c6, rfl⟩ : ∃ c0 c1 c2 c3 c4 c5 c6, l = [c0, c1, c2, c3, c4, c5, c6] := by
    match l, hsz with
    | [c0, c1, c2, c3, c4, c5, c6], _ => exact ⟨c0, c1, c2, c3, c4, c5, c6, rfl⟩
  obtain ⟨fuel, hf⟩ := h
  obtain ⟨y0, y1, y2, y3, n, hx, hl, h0, h1, h2, h3⟩ := trod_struct4 Try.underlying26 hf
  obtain ⟨n4, e4, _, _⟩ := DataW.trod_int Try.underlying2 h1
  obtain ⟨n5, e5, _, _⟩ := DataW.trod_int Try.underlying2 h2
  obtain ⟨n6, e6, _, _⟩ := DataW.trod_int Try.underlying2 h3
  obtain ⟨z0, z1, z2, z3, n2, hx2, hl2, q0, q1, q2, q3⟩ := trod_struct4 Try.underlying24 h0
  obtain ⟨m0, f0, _, _⟩ := DataW.trod_int Try.underlying2 q0
  obtain ⟨m1, f1, _, _⟩ := DataW.trod_int Try.underlying2 q1
  obtain ⟨m2, f2, _, _⟩ := DataW.trod_int Try.underlying2 q2
  obtain ⟨m3, f3, _, _⟩ := DataW.trod_int Try.underlying2 q3
  simp [Value.cells, k1, cells_laws_Box] at e4 e5 e6 f0 f1 f2 f3
  subst e4 e5 e6 f0 f1 f2 f3
  exact ⟨⟨⟨m0, m1, m2, m3⟩, n4, n5, n6⟩, rfl⟩

end Go.Proofs.Ytedlokjbpfgbgaa
