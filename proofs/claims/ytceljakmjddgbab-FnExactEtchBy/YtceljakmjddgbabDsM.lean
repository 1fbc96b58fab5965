/- Proved here: columns of the model under way. No condition on the program. -/
import Derived.Test.YtceljakmjddgbabDpM
import Derived.Test.YtceljakmjddgbabAfM
import Derived.Test.YtceljakmjddgbabCoS
import Derived.Test.YtceljakmjddgbabDsT
namespace Go.Proofs.Ytceljakmjddgbab
open Go.RowKit
set_option linter.unusedVariables false
set_option linter.unusedSimpArgs false

/-- The first j columns have the film put on. -/
def onK (s : List (List Flm)) (m : Int) (th : List Flm → Int) (j : Nat) : List (List Flm) := (List.range s.length).map fun q => if q < j then putF (s.getD q []) ⟨m, th (s.getD q [])⟩ else s.getD q []
theorem onK_len (s : List (List Flm)) (m : Int) (th : List Flm → Int) (j : Nat) : (onK s m th j).length = s.length := by simp [onK]
theorem onK_zero (s : List (List Flm)) (m : Int) (th : List Flm → Int) : onK s m th 0 = s := by
  apply List.ext_getElem
  · simp [onK]
  · intro i h1 h2
    simp [onK, h2]
theorem onK_all (s : List (List Flm)) (m : Int) (th : List Flm → Int) : onK s m th s.length = onS s m th := by
  apply List.ext_getElem
  · simp [onK, onS]
  · intro i h1 h2
    rw [onK_len] at h1
    simp [onK, onS, h1]
theorem onK_at (s : List (List Flm)) (m : Int) (th : List Flm → Int) {j : Nat} (h : j < s.length) : (onK s m th j).getD j [] = s.getD j [] := by simp [onK, h]
theorem onK_set (s : List (List Flm)) (m : Int) (th : List Flm → Int) {j : Nat} (h : j < s.length) : (onK s m th j).set j (putF (s.getD j []) ⟨m, th (s.getD j [])⟩) = onK s m th (j + 1) := by
  apply List.ext_getElem
  · simp [onK]
  · intro i h1 h2
    rw [List.length_set, onK_len] at h1
    rw [List.getElem_set]
    split
    · rename_i e; subst e; simp [onK]
    · rename_i e
      simp only [onK, List.getElem_map, List.getElem_range]
      by_cases h3 : i < j
      · rw [if_pos h3, if_pos (by omega)]
      · rw [if_neg h3, if_neg (by omega)]
/-- Where a step over columns of the model stands. -/
structure DP (w V : World) (K n cc gC : Nat) (ls : List (List Flm)) (wr : World) : Prop where
  ro : ∃ vs, RoF wr V.heap.size (.slice (some ⟨gC, 0, none⟩) n cc) ls vs
  kb : wr.heap[K]? = some (.cells #[.slice (some ⟨gC, 0, none⟩) n cc] 30)
  bl : Below V.heap.size V wr
theorem DP.below {w V : World} {K n cc gC : Nat} {ls : List (List Flm)} {wr w' : World} (h : DP w V K n cc gC ls wr) (hb : Below wr.heap.size wr w') : DP w V K n cc gC ls w' := by
  obtain ⟨vs, h1⟩ := h.ro
  exact ⟨⟨vs, h1.below hb⟩, (hb.block _ (ltOf h.kb)).trans h.kb, h.bl.trans (hb.mono h.bl.size)⟩
theorem DP.swap {w V : World} {K n cc gC k : Nat} {ls : List (List Flm)} {vs : List Value} {wr w' : World} {u : Value} {l : List Flm} (h : DP w V K n cc gC ls wr) (hv : RoF wr V.heap.size (.slice (some ⟨gC, 0, none⟩) n cc) ls vs) (hk : k < ls.length) (hp : PF V.heap.size wr w' (rat vs k) u l) :
    DP w V K n cc gC (ls.set k l) (w'.setCell ⟨gC, k, none⟩ u) ∧ w'.heap[gC]? = wr.heap[gC]? ∧ w'.heap[K]? = some (.cells #[.slice (some ⟨gC, 0, none⟩) n cc] 30) := by
  have hC := rowBlk hv.o (show (Value.slice (some ⟨gC, 0, none⟩) n cc).ownBlock = some gC from rfl)
  have hCk : w'.heap[gC]? = wr.heap[gC]? := hp.g.block gC hC.2.1 fun e => hv.rowNot (show (Value.slice (some ⟨gC, 0, none⟩) n cc).ownBlock = some gC from rfl) (hv.bx k hk) e.symm rfl
  have hK : w'.heap[K]? = wr.heap[K]? := hp.g.block K (ltOf h.kb) fun e => by
    obtain ⟨_, _, ds, hd⟩ := rowBlk (hv.bx k hk) e.symm
    exact kindsR h.kb hd (by decide)
  have hKC : K ≠ gC := fun e => by
    obtain ⟨_, _, ds, hd⟩ := hC
    rw [← e] at hd
    exact kindsR h.kb hd (by decide)
  refine ⟨⟨⟨_, hv.swap hk hp⟩, ?_, ?_⟩, hCk, hK.trans h.kb⟩
  · rw [heap_setCell_other _ _ _ _ (by simpa using hKC)]; exact hK.trans h.kb
  · refine Below.setCell ?_ hC.1 _
    exact h.bl.grown hp.g h.bl.size fun q hq => (rowBlk (hv.bx k hk) hq).1

end Go.Proofs.Ytceljakmjddgbab
