/- Proved here: a netlist, and a list of numbers, of the laws' package that came in: how they are read. No condition. -/
import Derived.Test.YtbjdalcbdbphkaaMeT
import Derived.Test.YtbjdalcbdbphkaaTyGen
namespace Go.Proofs.Ytbjdalcbdbphkaa
open Go.ChangeShapes Go.WideShapes Go.ChangeAt Go.RowKit Go.Joins Go.Deep
set_option linter.unusedVariables false
set_option linter.unusedSimpArgs false

set_option maxRecDepth 100000 in
theorem er_cells {H : Type} {enc : TypeId × Value → H} {W : World} {fuel : Nat} {cs : List Value} {x : DataW H × List MemPlace} (h : DataW.trod enc Try.prog W 0 (fun _ => true) true fuel 64 cs = some x) : ∃ a : Erd, cs = erC a ∧ ∃ d : Elm, Erd1 W a d ∧ okE d := by
  obtain ⟨n, hl, hf⟩ := trod_fields Try.underlying64 (by kernel_rfl) (by kernel_rfl) h
  obtain ⟨c0, c1, rfl⟩ : ∃ c0 c1, cs = [c0, c1] := by
    match cs, hl with
    | [c0, c1], _ => exact ⟨c0, c1, rfl⟩
  obtain ⟨_, y0, e0, t0⟩ := hf 0 _ rfl
  obtain ⟨_, y1, e1, t1⟩ := hf 1 _ rfl
  obtain ⟨n0, k0, _⟩ := DataW.trod_bool Try.underlying4 t0
  have : Nonempty Int := ⟨0⟩
  obtain ⟨ba, bn, bc, bs, k1, hb1, hb2, _⟩ := rg_of_trod (Q := fun _ => True) Try.underlying38 (show Try.prog.cellsOf 2 = 1 by kernel_rfl) (by omega) inC_len (fun _ _ _ h => int_cell h) t1
  simp at e0 e1 k0 k1
  subst e0 e1
  subst k0 k1
  exact ⟨⟨n0, ba, bn, bc⟩, rfl, ⟨n0, bs⟩, ⟨rfl, hb1⟩, hb2⟩

set_option maxRecDepth 100000 in
/-- A list of devices, out of its cell. -/
theorem elements_cells {H : Type} {enc : TypeId × Value → H} {W : World} {fuel : Nat} {cs : List Value} {x : DataW H × List MemPlace} (h : DataW.trod enc Try.prog W 0 (fun _ => true) true fuel 22 cs = some x) :
    ∃ (a : Option Addr) (n c : Nat) (s : List Elm), cs = [.slice a n c] ∧ REl W (.slice a n c) s ∧ n ≤ maxLen ∧ ∀ j (h : j < s.length), okE s[j] := by
  obtain ⟨a, n, c, rs, hcs, h1, h2, h3⟩ := rg_of_trod (Q := fun a : Erd => ∃ d : Elm, Erd1 W a d ∧ okE d) Try.underlying22 (show Try.prog.cellsOf 64 = 2 by kernel_rfl) (by omega) erC_len (fun _ _ _ h => er_cells h) h
  have each : ∀ j, ∃ d : Elm, ∀ (h : j < rs.length), Erd1 W rs[j] d ∧ okE d := by
    intro j
    by_cases hj : j < rs.length
    · obtain ⟨d, hd⟩ := h3 j hj
      exact ⟨d, fun _ => hd⟩
    · exact ⟨⟨false, []⟩, fun h => absurd h hj⟩
  let f : Nat → Elm := fun i => Classical.choose (each i)
  have hf' : ∀ j (h : j < rs.length), Erd1 W rs[j] (f j) ∧ okE (f j) := fun j => Classical.choose_spec (each j)
  refine ⟨a, n, c, (List.range rs.length).map f, hcs, ⟨rs, h1, ⟨by simp, fun j hj hj' => ?_⟩⟩, by rw [h1.len]; exact h2, fun j hj => ?_⟩
  · have := (hf' j hj).1
    simpa using this
  · simp at hj
    have := (hf' j hj).2
    simpa using this

set_option maxRecDepth 100000 in
theorem elements_open {H : Type} {enc : TypeId × Value → H} {W : World} {base : Nat} {v : Value} {d : DataW H} {p : List MemPlace}
    (hv : Value.okWide Try.prog W .any base 22 v) (h : DataW.Trod enc Try.prog W 0 (fun _ => true) true 22 v d p) :
    ∃ (a : Option Addr) (n c : Nat) (s : List Elm), v = .slice a n c ∧ REl W (.slice a n c) s ∧ (n ≤ maxLen ∧ ∀ j (h : j < s.length), okE s[j]) := by
  obtain ⟨a0, len0, cap0, rfl⟩ := okWide_slice Try.underlying22 hv
  obtain ⟨fuel, hf⟩ := h
  obtain ⟨a, n, c, s, k, h1, h2, h3⟩ := elements_cells hf
  simp [Value.cells] at k
  obtain ⟨rfl, rfl, rfl⟩ := k
  exact ⟨_, _, _, s, rfl, h1, h2, h3⟩

end Go.Proofs.Ytbjdalcbdbphkaa
