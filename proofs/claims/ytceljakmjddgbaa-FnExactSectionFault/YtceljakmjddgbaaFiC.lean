/- Proved here: films: their cells. -/
import Derived.Test.YtceljakmjddgbaaGen
import Derived.LoopTactic
import Derived.OpenShut
import Derived.Lib.SmallJoins
namespace Go.Proofs.Ytceljakmjddgbaa
open Go.ChangeShapes Go.WideShapes Go.ChangeAt Go.RowKit Go.Joins Go.Deep
set_option linter.unusedVariables false
set_option linter.unusedSimpArgs false

/-- A film. -/
structure Flm where
  m : Int
  t : Int

def flC (x : Flm) : List Value := [.int .i64 x.m, .int .i64 x.t]
theorem flC_len (x : Flm) : (flC x).length = 2 := rfl
theorem flC_one (x : Flm) : ∀ u ∈ flC x, u.oneCell' = true := by
  intro u hu
  simp only [flC, List.mem_cons, List.not_mem_nil, or_false] at hu
  rcases hu with rfl | rfl <;> rfl
theorem info_Film : (Try.prog.info? 86).map (fun i => (i.zero, i.size, i.bytes)) = some (some (.agg #[.int .i64 0, .int .i64 0]), 2, 16) := by kernel_rfl
/-- The cells of an element, one by one. -/
theorem flC_at {w : World} {g o : Nat} {x : Flm} (h : ∀ i, i < 2 → w.cell? ⟨g, o + i, none⟩ = (flC x)[i]?) : w.cell? ⟨g, o, none⟩ = some (.int .i64 x.m) ∧ w.cell? ⟨g, o + 1, none⟩ = some (.int .i64 x.t) :=
  ⟨h 0 (by omega), h 1 (by omega)⟩

theorem og_nil (T k : Nat) {α : Type} (enc : α → List Value) (w : World) (B : Nat) : OG T k enc w B (.slice none 0 0) ([] : List α) := ⟨by simp, Or.inl ⟨rfl, rfl⟩⟩

end Go.Proofs.Ytceljakmjddgbaa
