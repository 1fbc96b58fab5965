/- Proved here: what is cut, and what is open: cgL, opL. -/
import Derived.Test.YthmddnachancfaaGvM
import Derived.Test.YthmddnachancfaaGtB
namespace Go.Proofs.Ythmddnachancfaa
open Go.RowKit
set_option linter.unusedVariables false
set_option linter.unusedSimpArgs false

def cgT (lv x : Int) : Int := if lv ≤ x then 1 else 0
def opT (at_ x : Int) : Int := if x ≤ at_ then 1 else 0
def cgL (ls : List (List Int)) (lv : Int) : List (List Int) := if gfC ls 1000000 = 0 then tnL (cgT lv) ls else []
def opL (ls : List (List Int)) (lv : Int) : List (List Int) := if gfC ls 256000000 = 0 then tnL (opT lv) ls else []
theorem totR_tn (T : Int → Int) (ls : List (List Int)) (i : Nat) : totR (tnL T ls) i = totR ls i := by
  induction i with
  | zero => rfl
  | succ i ih => rw [totR, totR, ih, tnL_row, List.length_map]
theorem tnL_sm {T : Int → Int} {ls : List (List Int)} (h : SmR ls) : SmR (tnL T ls) := by
  refine ⟨by unfold tnL; rw [List.length_map]; exact h.len, ?_⟩
  rw [totR_tn]
  unfold tnL; rw [List.length_map]; exact h.tot
theorem nil_sm : SmR [] := ⟨by simp, by simp [totR]⟩
theorem cgL_sm (ls : List (List Int)) (lv : Int) (h : SmR ls) : SmR (cgL ls lv) := by
  unfold cgL; split
  · exact tnL_sm h
  · exact nil_sm
theorem opL_sm (ls : List (List Int)) (lv : Int) (h : SmR ls) : SmR (opL ls lv) := by
  unfold opL; split
  · exact tnL_sm h
  · exact nil_sm
/-- Where a call stands whose answer's block is the k-th of its own. -/
theorem ri_result {w V : World} {B k : Nat} {v : Value} {L : List (List Int)} {vs : List Value} (h : RI V B v L vs) (hk : k < B) (o : Nat) (u : Value) : RI (V.setCell ⟨k, o, none⟩ u) B v L vs := by
  refine h.kept (fun g hg => ?_) fun i hi g hg => ?_
  · exact heap_setCell_other _ _ _ _ (by have := (rowBlk h.o hg).1; intro e; simp at e; omega)
  · exact heap_setCell_other _ _ _ _ (by have := (rowBlk (h.bx i hi) hg).1; intro e; simp at e; omega)

end Go.Proofs.Ythmddnachancfaa
