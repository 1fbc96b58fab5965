/- Proved here: small rules on rows of the call's own memory. No condition on the program. (And ahead of it: Proved here: films: their cells.) -/
import Derived.Test.YtceljakmjddgbabGen
import Derived.LoopTactic
import Derived.OpenShut
import Derived.Lib.SmallJoins
namespace Go.Proofs.Ytceljakmjddgbab
open Go.ChangeShapes Go.WideShapes Go.ChangeAt Go.RowKit Go.Joins Go.Deep
set_option linter.unusedVariables false
set_option linter.unusedSimpArgs false

/-- A film. -/
structure Flm where
  m : Int
  t : Int

def flC (x : Flm) : List Value := [.int .i64 x.m, .int .i64 x.t]
theorem flC_len (x : Flm) : (flC x).length = 2 := rfl
theorem flC_one (x : Flm) : ∀ u ∈ flC x, u.oneCell' = true := by
  intro u hu
  simp only [flC, List.mem_cons, List.not_mem_nil, or_false] at hu
  rcases hu with rfl | rfl <;> rfl
theorem info_Film : (Try.prog.info? 76).map (fun i => (i.zero, i.size, i.bytes)) = some (some (.agg #[.int .i64 0, .int .i64 0]), 2, 16) := by kernel_rfl
/-- The cells of an element, one by one. -/
theorem flC_at {w : World} {g o : Nat} {x : Flm} (h : ∀ i, i < 2 → w.cell? ⟨g, o + i, none⟩ = (flC x)[i]?) : w.cell? ⟨g, o, none⟩ = some (.int .i64 x.m) ∧ w.cell? ⟨g, o + 1, none⟩ = some (.int .i64 x.t) :=
  ⟨h 0 (by omega), h 1 (by omega)⟩

theorem og_nil (T k : Nat) {α : Type} (enc : α → List Value) (w : World) (B : Nat) : OG T k enc w B (.slice none 0 0) ([] : List α) := ⟨by simp, Or.inl ⟨rfl, rfl⟩⟩

end Go.Proofs.Ytceljakmjddgbab

namespace Go.Proofs.Ytceljakmjddgbab
open Go.RowKit
set_option linter.unusedVariables false
set_option linter.unusedSimpArgs false

def rat (vs : List Value) (i : Nat) : Value := vs.getD i (.slice none 0 0)
theorem rat_get {vs : List Value} {i : Nat} (h : i < vs.length) : rat vs i = vs[i] := by simp [rat, h]
theorem kindsR {w : World} {g : Nat} {cs ds : Array Value} {s t : TypeId} (h1 : w.heap[g]? = some (.cells cs s (0, 0))) (h2 : w.heap[g]? = some (.cells ds t (0, 0))) (hn : s ≠ t) : False := by
  rw [h1] at h2
  simp only [Option.some.injEq, Obj.cells.injEq] at h2
  exact hn h2.2.1
theorem rowKept {w w' : World} {B T k n : Nat} {v : Value} {xs : List Value} (h : w.ownsRow B T k v n xs) (hb : ∀ g, v.ownBlock = some g → w'.heap[g]? = w.heap[g]?) : w'.ownsRow B T k v n xs := by
  refine ⟨h.1, ?_⟩
  rcases h.2 with h' | ⟨g, cap, cur, rfl, hB, hg, hr⟩
  · exact Or.inl h'
  · exact Or.inr ⟨g, cap, cur, rfl, hB, by rw [hb g rfl]; exact hg, hr⟩
theorem rowBlk {w : World} {B T k n g : Nat} {v : Value} {xs : List Value} (h : w.ownsRow B T k v n xs) (hg : v.ownBlock = some g) : B ≤ g ∧ g < w.heap.size ∧ ∃ cs, w.heap[g]? = some (.cells cs T (0, 0)) := by
  refine ⟨(World.ownsRow.lt h g hg).1, (World.ownsRow.lt h g hg).2, ?_⟩
  rcases h.2 with ⟨e, _⟩ | ⟨g', cap, cur, e, hB, hgg, hr⟩
  · rw [e] at hg; cases hg
  · rw [e] at hg
    simp only [Value.ownBlock, Option.some.injEq] at hg
    subst hg
    exact ⟨_, hgg⟩
theorem rowLow {w : World} {A B T k n : Nat} {v : Value} {xs : List Value} (h : w.ownsRow B T k v n xs) (hab : A ≤ B) : w.ownsRow A T k v n xs := by
  refine ⟨h.1, ?_⟩
  rcases h.2 with h' | ⟨g, cap, cur, rfl, hB, hr⟩
  · exact Or.inl h'
  · exact Or.inr ⟨g, cap, cur, rfl, by omega, hr⟩

end Go.Proofs.Ytceljakmjddgbab
