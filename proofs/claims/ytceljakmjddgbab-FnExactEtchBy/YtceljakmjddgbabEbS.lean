/- Proved here: Where etchedLayers stands between two rounds. No condition on the program. -/
import Derived.Test.YtceljakmjddgbabKept
import Derived.Test.YtceljakmjddgbabBwI
import Derived.Test.YtceljakmjddgbabInsC
import Derived.Test.YtceljakmjddgbabEtP
namespace Go.Proofs.Ytceljakmjddgbab
open Go.RowKit Go.Shelf
set_option linter.unusedVariables false
set_option linter.unusedSimpArgs false

theorem kn_at1e (w : World) (a b : Obj) : ((w.alloc a).alloc b).heap[w.heap.size + 1]? = some b := by have := heap_alloc_new (w.alloc a) b; simpa using this
/-- The boxes and the layers of etchedLayers. -/
structure EB (W : World) (n rg ro rc k7 : Nat) (L : List Lay) (t : Int) (wr : World) : Prop where
  k4 : wr.heap[W.heap.size]? = some (.cells #[.slice (some ⟨rg, ro, none⟩) 12 rc] 25)
  k5 : wr.heap[W.heap.size + 1]? = some (.cells #[.int .i64 t] 2)
  kl : wr.heap[k7]? = some (.cells #[.slice (some ⟨W.heap.size + 1 + 1, 0, none⟩) n n] 69)
  og : OG 88 1 layC wr (W.heap.size + 2) (.slice (some ⟨W.heap.size + 1 + 1, 0, none⟩) n n) L
  bl : Below W.heap.size W wr
  lo : W.heap.size + 2 < k7
  sz : k7 + 2 ≤ wr.heap.size
theorem EB.kept {W : World} {n rg ro rc k7 : Nat} {L : List Lay} {t : Int} {wr w' : World} (h : EB W n rg ro rc k7 L t wr) (hs : ∀ q, q ≤ k7 → w'.heap[q]? = wr.heap[q]?) (hb : Below W.heap.size W w') (hz : wr.heap.size ≤ w'.heap.size) : EB W n rg ro rc k7 L t w' :=
  ⟨(hs _ (by have := h.lo; omega)).trans h.k4, (hs _ (by have := h.lo; omega)).trans h.k5, (hs _ (Nat.le_refl _)).trans h.kl, h.og.kept fun g hg => hs g (by have e := Option.some.inj (show some (W.heap.size + 1 + 1) = some g from hg); have := h.lo; omega), hb, h.lo, Nat.le_trans h.sz hz⟩
theorem EB.below {W : World} {n rg ro rc k7 : Nat} {L : List Lay} {t : Int} {wr w' : World} (h : EB W n rg ro rc k7 L t wr) (hb : Below wr.heap.size wr w') : EB W n rg ro rc k7 L t w' :=
  h.kept (fun q hq => hb.block q (by have := ltOf h.kl; omega)) (h.bl.trans (hb.mono h.bl.size)) hb.size
theorem EB.own {W : World} {n rg ro rc k7 B : Nat} {L : List Lay} {t : Int} {wr w' : World} {row : Option Nat} (h : EB W n rg ro rc k7 L t wr) (hB : k7 < B) (hg : wr.grownBy w' row) (hr : ∀ r, row = some r → B ≤ r ∧ ∃ o : Obj, wr.heap[r]? = some o ∧ o.isCells = false) : EB W n rg ro rc k7 L t w' :=
  h.kept (fun q hq => hg.block q (by have := ltOf h.kl; omega) fun e => by have := (hr q e.symm).1; omega) (h.bl.grown hg h.bl.size fun q hq => by have := (hr q hq).1; have := h.lo; omega) hg.size
theorem EB.setL {W : World} {n rg ro rc k7 : Nat} {L : List Lay} {t : Int} {wr : World} (h : EB W n rg ro rc k7 L t wr) (k : Nat) (x : Lay) : EB W n rg ro rc k7 (L.set k x) t (wr.setCell ⟨W.heap.size + 1 + 1, k, none⟩ (layV x)) := by
  have ho : ∀ q, q ≠ W.heap.size + 1 + 1 → (wr.setCell ⟨W.heap.size + 1 + 1, k, none⟩ (layV x)).heap[q]? = wr.heap[q]? := fun q hq => heap_setCell_other _ _ _ _ (by simpa using hq)
  exact ⟨(ho _ (by omega)).trans h.k4, (ho _ (by omega)).trans h.k5, (ho _ (by have := h.lo; omega)).trans h.kl, og_layset h.og k x, h.bl.setCell (show W.heap.size ≤ W.heap.size + 1 + 1 by omega) _, h.lo, by simpa using h.sz⟩
theorem EB.setT {W : World} {n rg ro rc k7 : Nat} {L : List Lay} {t t2 : Int} {wr : World} (h : EB W n rg ro rc k7 L t wr) : EB W n rg ro rc k7 L t2 (wr.setCell ⟨W.heap.size + 1, 0, none⟩ (.int .i64 t2)) := by
  have ho : ∀ q, q ≠ W.heap.size + 1 → (wr.setCell ⟨W.heap.size + 1, 0, none⟩ (.int .i64 t2)).heap[q]? = wr.heap[q]? := fun q hq => heap_setCell_other _ _ _ _ (by simpa using hq)
  refine ⟨(ho _ (by omega)).trans h.k4, ?_, (ho _ (by have := h.lo; omega)).trans h.kl, h.og.kept fun g hg => ho g (by have e := Option.some.inj (show some (W.heap.size + 1 + 1) = some g from hg); omega), h.bl.setCell (show W.heap.size ≤ W.heap.size + 1 by omega) _, h.lo, by simpa using h.sz⟩
  have := heap_setCell_same _ _ 0 _ _ (.int .i64 t2) h.k5
  simpa using this
/-- What a part of a round does. -/
structure RS (W : World) (k7 : Nat) (A B : World) : Prop where
  kf : KeepsFrom (k7 + 2) A B
  bw : bwK W.heap.size (k7 + 1) A B
theorem RS.refl (W : World) (k7 : Nat) (A : World) : RS W k7 A A := ⟨KeepsFrom.refl _ _, Below.refl _ _, rfl⟩
theorem RS.trans {W : World} {k7 : Nat} {A B C : World} (h : RS W k7 A B) (k : RS W k7 B C) : RS W k7 A C :=
  ⟨⟨Nat.le_trans h.kf.size k.kf.size, fun q o hq ho hc => k.kf.same q o hq (h.kf.same q o hq ho hc) hc⟩, bwK_t h.bw k.bw⟩
theorem RS.below {W : World} {k7 : Nat} {A B : World} (hW : W.heap.size ≤ A.heap.size) (hk : k7 + 1 < A.heap.size) (h : Below A.heap.size A B) : RS W k7 A B :=
  ⟨⟨h.size, fun q o _ ho _ => (h.block q (Array.getElem?_eq_some_iff.1 ho).1).trans ho⟩, h.mono hW, h.block _ hk⟩
theorem RS.set {W : World} {k7 : Nat} {A : World} {g o : Nat} {v : Value} (h1 : W.heap.size ≤ g) (h2 : g ≤ k7) : RS W k7 A (A.setCell ⟨g, o, none⟩ v) :=
  ⟨(KeepsOthers.setCell _ _ _).from _, (Below.refl _ _).setCell h1 _, heap_setCell_other _ _ _ _ (by simp; omega)⟩
/-- What is true between two rounds of what has been etched. -/
def EI (c : List Flm) (ra : List Int) (t0 : Int) (pre : List (Bw c)) (L : List Lay) (t : Int) : Prop := ∀ k, k ≤ c.length → pre = bwL c k → ebL c ra t0 = ebR c ra (c.length - k) t L
theorem bw_inv {c : List Flm} {pre : List (Bw c)} {x : Bw c} {k : Nat} (hk : k ≤ c.length) (h : pre ++ [x] = bwL c k) : ∃ j, k = j + 1 ∧ pre = bwL c j ∧ x.1.1 = c.length - 1 - j := by
  cases k with
  | zero => simp [bwL] at h
  | succ j =>
    rw [bwL_succ (show c.length - 1 - j < c.length by omega)] at h
    obtain ⟨h1, h2⟩ := List.append_inj' h rfl
    exact ⟨j, rfl, h1, by injection h2 with e; rw [e]⟩
theorem EI.go {c : List Flm} {ra : List Int} {t0 t : Int} {pre : List (Bw c)} {x : Bw c} {L : List Lay} (h : EI c ra t0 pre L t) (hg : ¬ raO ra x.1.2 * t < x.1.2.t) : EI c ra t0 (pre ++ [x]) (L.set x.1.1 (lessL x.1.2 (raO ra x.1.2 * t))) (t - neO ra x.1.2) := by
  intro k hk e
  obtain ⟨j, rfl, h1, h2⟩ := bw_inv hk e
  have h3 := h j (by omega) h1
  have e2 : c.length - j = (c.length - (j + 1)) + 1 := by omega
  have e3 : x.1.1 = c.length - (j + 1) := by omega
  have e4 : x.1.2 = fat c (c.length - (j + 1)) := by rw [x.2.2, e3]
  rw [h3, e2, ebR, ← e4, if_neg hg, ← e3]
theorem EI.stop {c : List Flm} {ra : List Int} {t0 t : Int} {pre : List (Bw c)} {x : Bw c} {L : List Lay} (h : EI c ra t0 pre L t) (hg : raO ra x.1.2 * t < x.1.2.t) : ∀ k, k ≤ c.length → pre ++ [x] = bwL c k → ebL c ra t0 = L.set x.1.1 (lessL x.1.2 (raO ra x.1.2 * t)) := by
  intro k hk e
  obtain ⟨j, rfl, h1, h2⟩ := bw_inv hk e
  have h3 := h j (by omega) h1
  have e2 : c.length - j = (c.length - (j + 1)) + 1 := by omega
  have e3 : x.1.1 = c.length - (j + 1) := by omega
  have e4 : x.1.2 = fat c (c.length - (j + 1)) := by rw [x.2.2, e3]
  rw [h3, e2, ebR, ← e4, if_pos hg, ← e3]

end Go.Proofs.Ytceljakmjddgbab
