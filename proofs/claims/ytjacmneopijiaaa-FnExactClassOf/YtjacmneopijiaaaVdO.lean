/- Proved here: a defect by value in the laws: copied; how one that came in is read. -/
import Derived.Test.YtjacmneopijiaaaVdB
namespace Go.Proofs.Ytjacmneopijiaaa
open Go.ChangeShapes Go.WideShapes Go.ChangeAt Go.RowKit Go.Joins Go.Deep
set_option linter.unusedVariables false
set_option linter.unusedSimpArgs false

theorem toDefect_is (a b c d : Int) (w : World) :
    Calls Try.prog 20 #[.agg #[.int .i64 a, .int .i64 b, .int .i64 c, .int .i64 d]] w fun e w' => e = .returned (.agg #[.int .i64 a, .int .i64 b, .int .i64 c, .int .i64 d]) ∧ Below w.heap.size w w' := toDefect_any ⟨a, b, c, d⟩ w
set_option maxRecDepth 100000 in
theorem defect_open {H : Type} {enc : TypeId × Value → H} {W : World} {base : Nat} {v : Value} {d : DataW H} {p : List MemPlace}
    (hv : Value.okWide Try.prog W .any base 37 v) (h : DataW.Trod enc Try.prog W 0 (fun _ => true) true 37 v d p) :
    ∃ a0 a1 a2 a3 : Int, v = .agg #[.int .i64 a0, .int .i64 a1, .int .i64 a2, .int .i64 a3] ∧ Hid (-9223372036854775808 ≤ a3 ∧ a3 ≤ 9223372036854775807) := by
  obtain ⟨cs, rfl, hsz⟩ := okWide_struct Try.underlying37 hv
  obtain ⟨fuel, hf⟩ := h
  obtain ⟨a, ha, _⟩ := defect_cells hf
  obtain ⟨y0, y1, y2, y3, n, hx, hl, h0, h1, h2, h3⟩ := trod_struct4 Try.underlying37 hf
  obtain ⟨m3, f3, g3, g4⟩ := DataW.trod_int Try.underlying2 h3
  have k1 : Try.prog.cellsOf 2 = 1 := by kernel_rfl
  obtain ⟨l⟩ := cs
  have ha' : l = vdC a := ha
  subst ha'
  simp [k1, Value.cells, vdC] at f3
  refine ⟨a.x, a.y, a.z, a.k, rfl, ?_⟩
  unfold Hid
  rw [f3]
  have h9 := g4
  simp [Lit.wf, IntKind.min, IntKind.max, IntKind.signed, IntKind.bits] at h9
  exact h9

end Go.Proofs.Ytjacmneopijiaaa
