/- Proved here: TurnShape's code and list of boxes; turned boxes stay boxes. Arithmetic alone; and a box stored into a list of the call's own. -/
import Derived.Test.YtokdpgabmifdjabPutT
import Derived.Test.YtokdpgabmifdjabCmM
namespace Go.Proofs.Ytokdpgabmifdjab
open Go.RowKit
set_option linter.unusedVariables false
set_option linter.unusedSimpArgs false

def trS (s : List Bx) (m : Nat) : List Bx := s.map (turnsB m)
def trC (s : List Bx) (m : Nat) : Int := if shapeK s = 0 then toldC (opOf (takesK 1) (trS s m) []).length else shapeK s
def trL (s : List Bx) (m : Nat) : List Bx := if shapeK s = 0 then toldL (opOf (takesK 1) (trS s m) []) else []
theorem trL_length (s : List Bx) (m : Nat) : (trL s m).length ≤ 150 := by
  unfold trL toldL
  split
  · split
    · assumption
    · simp
  · simp

/-- A box as it may be. -/
def okB (b : Bx) : Prop := b.x0 < b.x1 ∧ b.y0 < b.y1 ∧ -10000 ≤ b.x0 ∧ -10000 ≤ b.y0 ∧ b.x1 ≤ 10000 ∧ b.y1 ≤ 10000
theorem turn_ok {b : Bx} (h : okB b) : okB (turnB b) := by
  obtain ⟨h1, h2, h3, h4, h5, h6⟩ := h
  have e1 : wrap64 (-b.y1) = -b.y1 := by unfold wrap64; omega
  have e2 : wrap64 (-b.y0) = -b.y0 := by unfold wrap64; omega
  unfold okB turnB
  simp only [e1, e2]
  omega
theorem turns_ok {b : Bx} (h : okB b) : ∀ m, okB (turnsB m b)
  | 0 => h
  | m + 1 => turn_ok (turns_ok h m)
theorem shape_ok {s : List Bx} (h : shapeK s = 0) : ∀ b ∈ s, okB b := by
  intro b hb
  refine (boxesK_zero ?_).2 b hb
  unfold shapeK at h
  split at h
  · assumption
  · rename_i h0; exact absurd h h0
theorem trS_x {s : List Bx} (h : shapeK s = 0) (m : Nat) : ∀ q ∈ trS s m, q.x0 < q.x1 := by
  intro q hq
  unfold trS at hq
  obtain ⟨b, hb, rfl⟩ := List.mem_map.1 hq
  exact (turns_ok (shape_ok h b hb) m).1
theorem trS_succ (s : List Bx) (m : Nat) : trS s (m + 1) = (trS s m).map turnB := by
  unfold trS; rw [List.map_map]; rfl
theorem trS_zero (s : List Bx) : trS s 0 = s := by
  unfold trS
  have : turnsB 0 = id := by funext b; rfl
  rw [this, List.map_id]

/-- A box is stored. -/
theorem BS.put {w : World} {B g n c : Nat} {s : List Bx} (h : BS w B (.slice (some ⟨g, 0, none⟩) n c) s) {j : Nat} (hj : j < s.length) (b : Bx) :
    BS ((((w.setCell ⟨g, j * 4, none⟩ (.int .i64 b.x0)).setCell ⟨g, j * 4 + 1, none⟩ (.int .i64 b.y0)).setCell ⟨g, j * 4 + 2, none⟩ (.int .i64 b.x1)).setCell ⟨g, j * 4 + 3, none⟩ (.int .i64 b.y1)) B (.slice (some ⟨g, 0, none⟩) n c) (s.set j b) := by
  have hn : s.length = n := by obtain ⟨_, _, e⟩ := h.form; injection e with _ e2 _; exact e2.symm
  subst hn
  have h4 := (World.ownsRow.stored (World.ownsRow.stored (World.ownsRow.stored (World.ownsRow.stored h (j * 4) (.int .i64 b.x0)).1 (j * 4 + 1) (.int .i64 b.y0)).1 (j * 4 + 2) (.int .i64 b.x1)).1 (j * 4 + 3) (.int .i64 b.y1)).1
  have hb0 : ∀ (t : List Bx) (q : Bx), j < t.length → bat (t.set j q) j = q := fun t q ht => by rw [bat_get (by simpa using ht)]; simp
  obtain ⟨q, hq⟩ : ∃ q, q = bat s j := ⟨_, rfl⟩
  have e1 := bflat_set s j 0 hj (by omega) ⟨b.x0, q.y0, q.x1, q.y1⟩ (.int .i64 b.x0) (by rw [← hq]; rfl)
  have e2 := bflat_set (s.set j ⟨b.x0, q.y0, q.x1, q.y1⟩) j 1 (by simpa using hj) (by omega) ⟨b.x0, b.y0, q.x1, q.y1⟩ (.int .i64 b.y0) (by rw [hb0 _ _ hj]; rfl)
  have e3 := bflat_set (s.set j ⟨b.x0, b.y0, q.x1, q.y1⟩) j 2 (by simpa using hj) (by omega) ⟨b.x0, b.y0, b.x1, q.y1⟩ (.int .i64 b.x1) (by rw [hb0 _ _ hj]; rfl)
  have e4 := bflat_set (s.set j ⟨b.x0, b.y0, b.x1, q.y1⟩) j 3 (by simpa using hj) (by omega) b (.int .i64 b.y1) (by rw [hb0 _ _ hj]; rfl)
  rw [List.set_set] at e2 e3 e4
  rw [Nat.add_zero] at e1
  unfold BS
  rw [List.length_set, ← e4, ← e3, ← e2, ← e1]
  exact h4

/-- The first i are turned once more. -/
def mixT (l : List Bx) (i : Nat) : List Bx := (l.take i).map turnB ++ l.drop i
theorem mixT_zero (l : List Bx) : mixT l 0 = l := by simp [mixT]
theorem mixT_length (l : List Bx) (i : Nat) : (mixT l i).length = l.length := by simp [mixT]; omega
theorem mixT_full (l : List Bx) (i : Nat) (h : l.length ≤ i) : mixT l i = l.map turnB := by simp [mixT, List.take_of_length_le h, List.drop_eq_nil_of_le h]
theorem mixT_at (l : List Bx) (i : Nat) (h : i < l.length) : bat (mixT l i) i = bat l i := by
  rw [bat_get (by rw [mixT_length]; exact h), bat_get h]
  unfold mixT
  rw [List.getElem_append_right (by simp; omega)]
  simp [show min i l.length = i by omega]
theorem mixT_step (l : List Bx) (i : Nat) (h : i < l.length) : (mixT l i).set i (turnB (bat l i)) = mixT l (i + 1) := by
  unfold mixT
  rw [List.set_append_right _ _ (by simp; omega)]
  have e : i - ((l.take i).map turnB).length = 0 := by simp; omega
  rw [e, drop_bat h, List.set_cons_zero, take_bat h, List.map_append]
  simp

/-- The list of the call's own, and the answer's block. -/
structure TV (w wr : World) (vo : Value) (l : List Bx) : Prop where
  o : BS wr (w.heap.size + 1) vo l
  r : wr.heap[w.heap.size]? = some (.cells #[.int .i64 0, .slice none 0 0] 26)
  bl : Below w.heap.size w wr
  sz : w.heap.size + 1 ≤ wr.heap.size
theorem TV.next {w wr w1 : World} {vo : Value} {l : List Bx} (h : TV w wr vo l) (hb : Below wr.heap.size wr w1) : TV w w1 vo l :=
  ⟨h.o.below hb, (hb.block _ (by have := h.sz; omega)).trans h.r, h.bl.trans (hb.mono h.bl.size), Nat.le_trans h.sz hb.size⟩
theorem TV.push {w wr w1 : World} {v v' : Value} {l : List Bx} {b : Bx} {ob : Obj} (h : TV w wr v l) (ho : w1.ownsRow (w.heap.size + 1) 49 4 v' (l.length + 1) (bflat l ++ bcells b)) (hg : (wr.alloc ob).grownBy w1 v.ownBlock) : TV w w1 v' (l ++ [b]) := by
  have hsz := h.sz
  have hne : some w.heap.size ≠ v.ownBlock := fun e => by have := (World.ownsRow.lt h.o _ e.symm).1; omega
  refine ⟨?_, ?_, (h.bl.alloc h.bl.size ob).grown hg (by simp; omega) (fun k hk => by have := (World.ownsRow.lt h.o k hk).1; omega), ?_⟩
  · unfold BS
    rw [bflat_append, List.length_append]
    have e : bflat [b] = bcells b := by simp [bflat]
    rw [e]; exact ho
  · rw [hg.block _ (by simp; omega) hne]
    exact (Below.heap_alloc _ _ _ (by omega)).trans h.r
  · have := hg.size
    simp at this
    omega
theorem TV.put {w wr : World} {g n c : Nat} {l : List Bx} (h : TV w wr (.slice (some ⟨g, 0, none⟩) n c) l) {j : Nat} (hj : j < l.length) (b : Bx) :
    TV w ((((wr.setCell ⟨g, j * 4, none⟩ (.int .i64 b.x0)).setCell ⟨g, j * 4 + 1, none⟩ (.int .i64 b.y0)).setCell ⟨g, j * 4 + 2, none⟩ (.int .i64 b.x1)).setCell ⟨g, j * 4 + 3, none⟩ (.int .i64 b.y1)) (.slice (some ⟨g, 0, none⟩) n c) (l.set j b) := by
  have hge := (World.ownsRow.lt h.o g rfl).1
  have hb := h.bl
  have hge2 : w.heap.size ≤ g := by omega
  refine ⟨h.o.put hj b, ?_, by (repeat' (first | (with_reducible exact Below.refl _ _) | (with_reducible assumption) | (with_reducible refine Below.setCell ?_ ?_ _) | (with_reducible refine Below.alloc ?_ ?_ _) | (with_reducible refine below_drewN ?_ _) | (with_reducible refine Below.drew ?_) | (with_reducible exact Nat.le_refl _) | omega | (simp; done) | (simp; omega))), by simpa using h.sz⟩
  rw [heap_setCell_other _ _ _ _ (by simp; omega), heap_setCell_other _ _ _ _ (by simp; omega), heap_setCell_other _ _ _ _ (by simp; omega), heap_setCell_other _ _ _ _ (by simp; omega)]
  exact h.r

end Go.Proofs.Ytokdpgabmifdjab
