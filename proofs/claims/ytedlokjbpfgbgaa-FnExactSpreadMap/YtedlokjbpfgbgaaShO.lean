/- Proved here: a list of shots that came in: how it is read. No condition. -/
import Derived.Test.YtedlokjbpfgbgaaShB
import Derived.Test.YtedlokjbpfgbgaaTyGen
import Derived.Test.YtedlokjbpfgbgaaOpenBq
namespace Go.Proofs.Ytedlokjbpfgbgaa
open Go.ChangeShapes Go.WideShapes Go.ChangeAt Go.RowKit Go.Joins Go.Deep
set_option linter.unusedVariables false
set_option linter.unusedSimpArgs false

set_option maxRecDepth 100000 in
theorem shot_cells {H : Type} {enc : TypeId × Value → H} {W : World} {fuel : Nat} {cs : List Value} {x : DataW H × List MemPlace} (h : DataW.trod enc Try.prog W 0 (fun _ => true) true fuel 61 cs = some x) : ∃ a : Sh, cs = shC a ∧ True := by
  obtain ⟨y0, y1, n, hx, hl, h0, h1⟩ := trod_struct2 Try.underlying61 h
  have k6 : Try.prog.cellsOf 61 = 5 := by kernel_rfl
  have k1 : Try.prog.cellsOf 2 = 1 := by kernel_rfl
  rw [k6] at hl
  obtain ⟨c0, c1, c2, c3, c4, rfl⟩ : ∃ c0 c1 c2 c3 c4, cs = [c0, c1, c2, c3, c4] := by
    match cs, hl with
    | [c0, c1, c2, c3, c4], _ => exact ⟨c0, c1, c2, c3, c4, rfl⟩
  obtain ⟨n4, e4, _, _⟩ := DataW.trod_int Try.underlying2 h1
  obtain ⟨z0, z1, z2, z3, n2, hx2, hl2, q0, q1, q2, q3⟩ := trod_struct4 Try.underlying24 h0
  obtain ⟨m0, f0, _, _⟩ := DataW.trod_int Try.underlying2 q0
  obtain ⟨m1, f1, _, _⟩ := DataW.trod_int Try.underlying2 q1
  obtain ⟨m2, f2, _, _⟩ := DataW.trod_int Try.underlying2 q2
  obtain ⟨m3, f3, _, _⟩ := DataW.trod_int Try.underlying2 q3
  simp [k1, cells_laws_Box] at e4 f0 f1 f2 f3
  subst e4 f0 f1 f2 f3
  exact ⟨⟨⟨m0, m1, m2, m3⟩, n4⟩, rfl, trivial⟩

set_option maxRecDepth 100000 in
/-- A list of shots that came in. -/
theorem shots_open {H : Type} {enc : TypeId × Value → H} {W : World} {base : Nat} {v : Value} {d : DataW H} {p : List MemPlace}
    (hv : Value.okWide Try.prog W .any base 22 v) (h : DataW.Trod enc Try.prog W 0 (fun _ => true) true 22 v d p) :
    ∃ (a : Option Addr) (n c : Nat) (s : List Sh), v = .slice a n c ∧ RG 5 shC W (.slice a n c) s ∧ s.length ≤ maxLen := by
  obtain ⟨a0, len0, cap0, rfl⟩ := okWide_slice Try.underlying22 hv
  obtain ⟨fuel, hf⟩ := h
  have : Nonempty Sh := ⟨⟨⟨0, 0, 0, 0⟩, 0⟩⟩
  obtain ⟨a, n, c, s, k, h1, h2, _⟩ := rg_of_trod (Q := fun _ => True) Try.underlying22 (show Try.prog.cellsOf 61 = 5 by kernel_rfl) (by omega) shC_len (fun _ _ _ h => shot_cells h) hf
  simp [Value.cells] at k
  obtain ⟨rfl, rfl, rfl⟩ := k
  exact ⟨_, _, _, s, rfl, h1, h2⟩

end Go.Proofs.Ytedlokjbpfgbgaa
