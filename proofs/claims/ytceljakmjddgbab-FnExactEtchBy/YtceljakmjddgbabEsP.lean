/- Proved here: rows of the model that grow by a row. No condition on the program. -/
import Derived.Test.YtceljakmjddgbabEsM
import Derived.Test.YtceljakmjddgbabLyQ
namespace Go.Proofs.Ytceljakmjddgbab
open Go.RowKit
set_option linter.unusedVariables false
set_option linter.unusedSimpArgs false

/-- Where the columns of the model stand, that grow row by row. -/
structure PP (V : World) (K : Nat) (oa : Option Addr) (j oc : Nat) (LL : List (List Flm)) (vs : List Value) (wr : World) : Prop where
  ro : RoF wr (K + 1) (.slice oa j oc) (LL.take j) vs
  kb : wr.heap[K]? = some (.cells #[.slice oa j oc] 30)
  bl : Below V.heap.size V wr
  ks : K + 1 ≤ wr.heap.size
  vk : V.heap.size ≤ K
theorem keep_box {wr w6 : World} {K : Nat} {oa : Option Addr} {j oc : Nat} {ob : Obj} {vs : List Value} (hk : wr.heap[K]? = some (.cells #[.slice oa j oc] 30)) (ho : wr.ownsRow (K + 1) 62 1 (.slice oa j oc) j vs) (hg : (wr.alloc ob).grownBy w6 (Value.slice oa j oc).ownBlock) :
    w6.cell? ⟨K, 0, none⟩ = some (.slice oa j oc) ∧ w6.frozen? ⟨K, 0, none⟩ = false ∧ K < w6.heap.size := by
  have h1 : w6.heap[K]? = some (.cells #[.slice oa j oc] 30) := by
    rw [hg.block K (by have := ltOf hk; simp; omega) fun e => by have := (rowBlk ho e.symm).1; omega]
    rw [Below.heap_alloc _ _ _ (ltOf hk)]; exact hk
  exact ⟨cellOf h1 0 rfl, frozOf h1 0, ltOf h1⟩
theorem pp_push {V w2 wr w6 : World} {K : Nat} {oa ca : Option Addr} {j oc cn cp : Nat} {LL : List (List Flm)} {vs : List Value} {v6 : Value} {l : List Flm} (h : PP V K oa j oc LL vs w2) (hb : Below w2.heap.size w2 wr) (hu : OG 76 2 flC wr w2.heap.size (.slice ca cn cp) l) (htl : (LL.take j).length = j)
    (ho : w6.ownsRow (K + 1) 62 1 v6 (j + 1) (vs ++ [.slice ca cn cp])) (hg : (wr.alloc (.cells #[.slice ca cn cp] 62)).grownBy w6 (Value.slice oa j oc).ownBlock) :
    LL.take (j + 1) = LL.take j ++ [l] → j + 1 ≤ LL.length → ∃ na nc, v6 = .slice na (j + 1) nc ∧ ∃ vs, PP V K na (j + 1) nc LL vs (w6.setCell ⟨K, 0, none⟩ (.slice na (j + 1) nc)) := by
  intro e1 hjl
  have hba : Below w2.heap.size w2 (wr.alloc (.cells #[.slice ca cn cp] 62)) := hb.alloc hb.size _
  have hP := h.ro.push hb h.ks hu (by rw [htl]; exact ho) hg
  rw [← e1] at hP
  obtain ⟨na, nc, e2⟩ := hP.form
  rw [List.length_take, Nat.min_eq_left hjl] at e2
  subst e2
  have hkb : w6.heap[K]? = some (.cells #[.slice oa j oc] 30) := by
    rw [hg.block K (by have := ltOf h.kb; have := hba.size; omega) fun e => by have := (rowBlk h.ro.o e.symm).1; omega]
    rw [hba.block K (ltOf h.kb)]; exact h.kb
  have hoth : ∀ q, q ≠ K → (w6.setCell ⟨K, 0, none⟩ (.slice na (j + 1) nc)).heap[q]? = w6.heap[q]? := fun q hq => heap_setCell_other _ _ _ _ (by simpa using hq)
  refine ⟨na, nc, rfl, _, hP.kept (fun q hq => hoth q ?_) (fun i hi q hq => hoth q ?_), ?_, ?_, ?_, h.vk⟩
  · have := (rowBlk hP.o hq).1; omega
  · have := (rowBlk (hP.bx i hi) hq).1; omega
  · have := heap_setCell_same _ _ 0 _ _ (.slice na (j + 1) nc) hkb
    simpa using this
  · refine Below.setCell ?_ h.vk _
    have h7 := h.bl.trans (hba.mono h.bl.size)
    exact h7.grown hg h7.size fun q hq => by have := (rowBlk h.ro.o hq).1; have := h.vk; omega
  · have := ltOf hkb; simp; omega

end Go.Proofs.Ytceljakmjddgbab
