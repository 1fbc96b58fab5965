/- Proved here: columns of the model under way. No condition on the program. (And ahead of it: Proved here: l12Told of the model.) -/
import Derived.Test.YtceljakmjddgbabScS
import Derived.Test.YtceljakmjddgbabLwS
import Derived.Test.YtceljakmjddgbabEtM
import Derived.Test.YtceljakmjddgbabAfM
import Derived.Test.YtceljakmjddgbabCoS
namespace Go.Proofs.Ytceljakmjddgbab
open Go.RowKit
set_option linter.unusedVariables false
set_option linter.unusedSimpArgs false

theorem kn_at1s (w : World) (a b : Obj) : ((w.alloc a).alloc b).heap[w.heap.size + 1]? = some b := by have := heap_alloc_new (w.alloc a) b; simpa using this
theorem two_ofs {w : World} {k : Nat} {a b : Value} {T : TypeId} (h : w.heap[k]? = some (.cells #[a, b] T)) :
    w.cell? ⟨k, 0, none⟩ = some a ∧ w.cell? ⟨k, 1, none⟩ = some b ∧ w.frozen? ⟨k, 0, none⟩ = false ∧ w.frozen? ⟨k, 1, none⟩ = false ∧ k < w.heap.size :=
  ⟨cellOf h 0 rfl, cellOf h 1 rfl, frozOf h 0, frozOf h 1, ltOf h⟩
theorem one_ofs {w : World} {k : Nat} {a : Value} {T : TypeId} (h : w.heap[k]? = some (.cells #[a] T)) : w.cell? ⟨k, 0, none⟩ = some a ∧ k < w.heap.size :=
  ⟨cellOf h 0 rfl, ltOf h⟩

set_option maxRecDepth 10000 in
set_option maxHeartbeats 6400000 in
theorem spec_told {w : World} {a : Option Addr} {n c : Nat} {s : List (List Flm)} (hn : SmF s) (h : RsF w (.slice a n c) s) :
    Calls Try.prog 60 #[.agg #[.slice a n c]] w fun e w' => e = .returned (.agg #[.int .i64 (secF s), if secF s = 0 then .slice a n c else .slice none 0 0]) ∧ Below w.heap.size w w' := by
  obtain ⟨C, hC⟩ : ∃ C, C = secF s := ⟨_, rfl⟩
  rw [← hC]
  have HA : Hid (∀ W, Below w.heap.size w W → Calls Try.prog 36 #[.agg #[.slice a n c]] W fun e w' => e = .returned (.int .i64 C) ∧ Below W.heap.size W w') := fun W hW => by rw [hC]; exact spec_secF hn (h.below hW)
  clear h hn hC
  go_enter Try.func60, Try.ntmps60
  go_wp2_with (fail)
  refine (HA.out _ (by (repeat' (first | (with_reducible exact Below.refl _ _) | (with_reducible assumption) | (with_reducible refine Below.setCell ?_ ?_ _) | (with_reducible refine Below.alloc ?_ ?_ _) | (with_reducible refine below_drewN ?_ _) | (with_reducible refine Below.drew ?_) | (with_reducible exact Nat.le_refl _) | omega | (simp; done) | (simp; omega))))).mono ?_
  rintro e w1 ⟨rfl, hb1⟩
  have k0 := (hb1.block w.heap.size (by simp <;> omega)).trans ((Below.heap_alloc _ _ _ (by simp)).trans (heap_alloc_new w _))
  have k1 := (hb1.block (w.heap.size + 1) (by simp)).trans (kn_at1s w _ _)
  have HB : Hid (Below w.heap.size w w1) := (show Below w.heap.size w _ from by (repeat' (first | (with_reducible exact Below.refl _ _) | (with_reducible assumption) | (with_reducible refine Below.setCell ?_ ?_ _) | (with_reducible refine Below.alloc ?_ ?_ _) | (with_reducible refine below_drewN ?_ _) | (with_reducible refine Below.drew ?_) | (with_reducible exact Nat.le_refl _) | omega | (simp; done) | (simp; omega)))).trans (hb1.mono (by simp; omega))
  obtain ⟨a0, al⟩ := one_ofs k0
  obtain ⟨p0, p1, f0, f1, pl⟩ := two_ofs k1
  clear hb1 k0 k1 HA
  by_cases hF : C = 0
  · have HB2 : Hid (Below w.heap.size w ((w1.setCell ⟨w.heap.size + 1, 0, none⟩ (.int .i64 0)).setCell ⟨w.heap.size + 1, 1, none⟩ (.slice a n c))) := by
      have := HB.out; unfold Hid; (repeat' (first | (with_reducible exact Below.refl _ _) | (with_reducible assumption) | (with_reducible refine Below.setCell ?_ ?_ _) | (with_reducible refine Below.alloc ?_ ?_ _) | (with_reducible refine below_drewN ?_ _) | (with_reducible refine Below.drew ?_) | (with_reducible exact Nat.le_refl _) | omega | (simp; done) | (simp; omega)))
    subst hF
    go_wp2
    refine bodyPost_ret (by simp [results, Try.results60, go_sem, p0, p1, pl]; try rfl) rfl ⟨by first | rfl | simp, HB2.out⟩
  · have hF' : (C == 0) = false := by simpa using hF
    have HB2 : Hid (Below w.heap.size w ((w1.setCell ⟨w.heap.size + 1, 0, none⟩ (.int .i64 C)).setCell ⟨w.heap.size + 1, 1, none⟩ (.slice none 0 0))) := by
      have := HB.out; unfold Hid; (repeat' (first | (with_reducible exact Below.refl _ _) | (with_reducible assumption) | (with_reducible refine Below.setCell ?_ ?_ _) | (with_reducible refine Below.alloc ?_ ?_ _) | (with_reducible refine below_drewN ?_ _) | (with_reducible refine Below.drew ?_) | (with_reducible exact Nat.le_refl _) | omega | (simp; done) | (simp; omega)))
    go_wp2
    refine bodyPost_ret (by simp [results, Try.results60, go_sem, p0, p1, pl]; try rfl) rfl ⟨by first | rfl | (rw [if_neg hF]) | simp [hF], HB2.out⟩

end Go.Proofs.Ytceljakmjddgbab

namespace Go.Proofs.Ytceljakmjddgbab
open Go.RowKit
set_option linter.unusedVariables false
set_option linter.unusedSimpArgs false

/-- The first j columns have the film put on. -/
def onK (s : List (List Flm)) (m : Int) (th : List Flm → Int) (j : Nat) : List (List Flm) := (List.range s.length).map fun q => if q < j then putF (s.getD q []) ⟨m, th (s.getD q [])⟩ else s.getD q []
theorem onK_len (s : List (List Flm)) (m : Int) (th : List Flm → Int) (j : Nat) : (onK s m th j).length = s.length := by simp [onK]
theorem onK_zero (s : List (List Flm)) (m : Int) (th : List Flm → Int) : onK s m th 0 = s := by
  apply List.ext_getElem
  · simp [onK]
  · intro i h1 h2
    simp [onK, h2]
theorem onK_all (s : List (List Flm)) (m : Int) (th : List Flm → Int) : onK s m th s.length = onS s m th := by
  apply List.ext_getElem
  · simp [onK, onS]
  · intro i h1 h2
    rw [onK_len] at h1
    simp [onK, onS, h1]
theorem onK_at (s : List (List Flm)) (m : Int) (th : List Flm → Int) {j : Nat} (h : j < s.length) : (onK s m th j).getD j [] = s.getD j [] := by simp [onK, h]
theorem onK_set (s : List (List Flm)) (m : Int) (th : List Flm → Int) {j : Nat} (h : j < s.length) : (onK s m th j).set j (putF (s.getD j []) ⟨m, th (s.getD j [])⟩) = onK s m th (j + 1) := by
  apply List.ext_getElem
  · simp [onK]
  · intro i h1 h2
    rw [List.length_set, onK_len] at h1
    rw [List.getElem_set]
    split
    · rename_i e; subst e; simp [onK]
    · rename_i e
      simp only [onK, List.getElem_map, List.getElem_range]
      by_cases h3 : i < j
      · rw [if_pos h3, if_pos (by omega)]
      · rw [if_neg h3, if_neg (by omega)]
/-- Where a step over columns of the model stands. -/
structure DP (w V : World) (K n cc gC : Nat) (ls : List (List Flm)) (wr : World) : Prop where
  ro : ∃ vs, RoF wr V.heap.size (.slice (some ⟨gC, 0, none⟩) n cc) ls vs
  kb : wr.heap[K]? = some (.cells #[.slice (some ⟨gC, 0, none⟩) n cc] 30)
  bl : Below V.heap.size V wr
theorem DP.below {w V : World} {K n cc gC : Nat} {ls : List (List Flm)} {wr w' : World} (h : DP w V K n cc gC ls wr) (hb : Below wr.heap.size wr w') : DP w V K n cc gC ls w' := by
  obtain ⟨vs, h1⟩ := h.ro
  exact ⟨⟨vs, h1.below hb⟩, (hb.block _ (ltOf h.kb)).trans h.kb, h.bl.trans (hb.mono h.bl.size)⟩
theorem DP.swap {w V : World} {K n cc gC k : Nat} {ls : List (List Flm)} {vs : List Value} {wr w' : World} {u : Value} {l : List Flm} (h : DP w V K n cc gC ls wr) (hv : RoF wr V.heap.size (.slice (some ⟨gC, 0, none⟩) n cc) ls vs) (hk : k < ls.length) (hp : PF V.heap.size wr w' (rat vs k) u l) :
    DP w V K n cc gC (ls.set k l) (w'.setCell ⟨gC, k, none⟩ u) ∧ w'.heap[gC]? = wr.heap[gC]? ∧ w'.heap[K]? = some (.cells #[.slice (some ⟨gC, 0, none⟩) n cc] 30) := by
  have hC := rowBlk hv.o (show (Value.slice (some ⟨gC, 0, none⟩) n cc).ownBlock = some gC from rfl)
  have hCk : w'.heap[gC]? = wr.heap[gC]? := hp.g.block gC hC.2.1 fun e => hv.rowNot (show (Value.slice (some ⟨gC, 0, none⟩) n cc).ownBlock = some gC from rfl) (hv.bx k hk) e.symm rfl
  have hK : w'.heap[K]? = wr.heap[K]? := hp.g.block K (ltOf h.kb) fun e => by
    obtain ⟨_, _, ds, hd⟩ := rowBlk (hv.bx k hk) e.symm
    exact kindsR h.kb hd (by decide)
  have hKC : K ≠ gC := fun e => by
    obtain ⟨_, _, ds, hd⟩ := hC
    rw [← e] at hd
    exact kindsR h.kb hd (by decide)
  refine ⟨⟨⟨_, hv.swap hk hp⟩, ?_, ?_⟩, hCk, hK.trans h.kb⟩
  · rw [heap_setCell_other _ _ _ _ (by simpa using hKC)]; exact hK.trans h.kb
  · refine Below.setCell ?_ hC.1 _
    exact h.bl.grown hp.g h.bl.size fun q hq => (rowBlk (hv.bx k hk) hq).1

end Go.Proofs.Ytceljakmjddgbab
