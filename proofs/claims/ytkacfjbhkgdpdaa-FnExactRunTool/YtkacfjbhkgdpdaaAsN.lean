/- Proved here: when a method is missing, an assertion to an interface fails. No condition on the program. -/
import Derived.Test.YtkacfjbhkgdpdaaAtL
namespace Go.Proofs.Ytkacfjbhkgdpdaa
open Go.RowKit
set_option linter.unusedVariables false
set_option linter.unusedSimpArgs false

theorem least_cons (a : String) (l : List String) : ∃ m, Instr.least (a :: l) = some m := ⟨_, rfl⟩
theorem mm_some {want : Array (String × TypeId)} {got : Array Method} (h : ((want.toList.filter fun (x : String × TypeId) => !got.any fun m => m.name == x.1 && m.sig == x.2).isEmpty) = false) : ∃ m, Instr.missingMethod want got = some m := by
  unfold Instr.missingMethod
  simp only
  have hx : ∀ l : List (String × TypeId), l.isEmpty = false → ∃ m, (match (l.map (·.1)).partition (·.contains '.') with | (unexported, exported) => Instr.least exported <|> Instr.least (unexported.map fun id => (id.splitOn ".").getLastD id)) = some m := by
    intro l hl
    rw [List.partition_eq_filter_filter]
    simp only
    cases h1 : List.filter (not ∘ fun x : String => x.contains '.') (l.map (·.1)) with
    | cons a t => obtain ⟨m, hm⟩ := least_cons a t; exact ⟨m, by rw [hm]; rfl⟩
    | nil =>
      cases h2 : List.filter (fun x : String => x.contains '.') (l.map (·.1)) with
      | cons a t => exact ⟨_, rfl⟩
      | nil =>
        exfalso
        cases l with
        | nil => simp at hl
        | cons b t =>
          simp only [List.map_cons, List.filter_cons, Function.comp] at h1 h2
          cases hb : b.1.contains '.' <;> simp [hb] at h1 h2
  exact hx _ h
theorem mm_none {want : Array (String × TypeId)} {got : Array Method} (h : Instr.missingMethod want got = none) (hb : ((want.toList.filter fun (x : String × TypeId) => !got.any fun m => m.name == x.1 && m.sig == x.2).isEmpty) = false) : False := by
  obtain ⟨m, hm⟩ := mm_some hb
  rw [hm] at h
  cases h

end Go.Proofs.Ytkacfjbhkgdpdaa
