/- Proved here: runs of talks: the arithmetic; where one stands in memory. -/
import Derived.Test.YtejpjbihdclngaaTkM
import Derived.Test.YtejpjbihdclngaaCpA
import Derived.Test.YtejpjbihdclngaaNlQ
import Derived.Deep.AppendLies
import Derived.Maps.AppendAt
namespace Go.Proofs.Ytejpjbihdclngaa
open Go.RowKit Go.Maps
set_option linter.unusedVariables false
set_option linter.unusedSimpArgs false

/-- The talk behind its first events; the places at which it said something. -/
def tkR (s : List Int) : Nat → Tk
  | 0 => ⟨0, 0, 0⟩
  | i + 1 => (tkN (tkR s i) (s.getD i 0)).1
def tkL (s : List Int) : Nat → List Int
  | 0 => []
  | i + 1 => if (tkN (tkR s i) (s.getD i 0)).2 = true then tkL s i ++ [(i : Int)] else tkL s i
def rnC (s : List Int) : Int := if 200 < s.length then 2 else 0
def rnK (s : List Int) : Tk := if 200 < s.length then ⟨0, 0, 0⟩ else tkR s s.length
def rnL (s : List Int) : List Int := if 200 < s.length then [] else tkL s s.length
theorem tkR_ok (s : List Int) : ∀ i, TkOk (tkR s i)
  | 0 => by unfold tkR TkOk; simp
  | i + 1 => tkN_ok (tkR_ok s i) _
theorem tkL_len (s : List Int) : ∀ i, (tkL s i).length ≤ i
  | 0 => Nat.le_refl _
  | i + 1 => by
    have h := tkL_len s i
    unfold tkL
    split
    · rw [List.length_append, List.length_singleton]; omega
    · omega
theorem rnL_len (s : List Int) : (rnL s).length ≤ 1048576 := by
  unfold rnL
  split
  · simp
  · have := tkL_len s s.length; omega
/-- Where a run of a talk stands: the answer's place, the struct with its list. -/
structure RnT (w wr : World) (v : Value) (k : Tk) (cur : List Int) : Prop where
  bl : Below w.heap.size w wr
  b0 : wr.heap[w.heap.size]? = some (.cells #[.int .i64 0, .int .i64 0, .int .i64 0, .int .i64 0, .slice none 0 0] 29)
  bk : wr.heap[w.heap.size + 1]? = some (.cells #[.int .i64 0, .int .i64 k.p, .int .i64 k.t, .int .i64 k.w, v] 29)
  li : IS wr (w.heap.size + 2) v cur
theorem RnT.next {w wr wr' : World} {v : Value} {k : Tk} {cur : List Int} (h : RnT w wr v k cur) (hb : Below wr.heap.size wr wr') : RnT w wr' v k cur :=
  ⟨h.bl.trans (hb.mono h.bl.size), (hb.block _ (ltOf h.b0)).trans h.b0, (hb.block _ (ltOf h.bk)).trans h.bk, h.li.kept fun g hg => hb.block g (World.ownsRow.lt h.li g hg).2⟩
theorem RnT.setT {w wr : World} {v : Value} {k k2 : Tk} {cur : List Int} (h : RnT w wr v k cur) : RnT w (((wr.setCell ⟨w.heap.size + 1, 1, none⟩ (.int .i64 k2.p)).setCell ⟨w.heap.size + 1, 2, none⟩ (.int .i64 k2.t)).setCell ⟨w.heap.size + 1, 3, none⟩ (.int .i64 k2.w)) v k2 cur := by
  refine ⟨((h.bl.setCell (p := ⟨w.heap.size + 1, 1, none⟩) (by simp) _).setCell (p := ⟨w.heap.size + 1, 2, none⟩) (by simp) _).setCell (p := ⟨w.heap.size + 1, 3, none⟩) (by simp) _, ?_, ?_, ?_⟩
  · rw [heap_setCell_other _ _ _ _ (by simp), heap_setCell_other _ _ _ _ (by simp), heap_setCell_other _ _ _ _ (by simp)]; exact h.b0
  · exact heap_setCell_same _ _ 3 _ _ _ (heap_setCell_same _ _ 2 _ _ _ (heap_setCell_same _ _ 1 _ _ _ h.bk))
  · exact h.li.kept fun g hg => by
      have h1 := (World.ownsRow.lt h.li g hg).1
      rw [heap_setCell_other _ _ _ _ (by simp; omega), heap_setCell_other _ _ _ _ (by simp; omega), heap_setCell_other _ _ _ _ (by simp; omega)]
theorem RnT.own {w wr : World} {va : Option Addr} {n vc : Nat} {k : Tk} {cur : List Int} (h : RnT w wr (.slice va n vc) k cur) (hn : n = cur.length) : wr.ownsRow (w.heap.size + 2) 2 1 (.slice va n vc) n (cur.map (Value.int .i64)) := by
  have h1 := h.li
  unfold IS at h1
  rw [← hn] at h1
  exact h1
theorem RnT.push {w wr w6 : World} {n : Nat} {oo : Obj} {v v6 : Value} {k : Tk} {cur : List Int} {y : Int} (h : RnT w wr v k cur) (hn : n = cur.length)
    (hown : w6.ownsRow (w.heap.size + 2) 2 1 v6 (n + 1) (cur.map (Value.int .i64) ++ [.int .i64 y])) (hg : (wr.alloc oo).grownBy w6 v.ownBlock) :
    w6.heap[w.heap.size + 1]? = some (.cells #[.int .i64 0, .int .i64 k.p, .int .i64 k.t, .int .i64 k.w, v] 29) ∧ RnT w (w6.setCell ⟨w.heap.size + 1, 4, none⟩ v6) v6 k (cur ++ [y]) := by
  have hlt : ∀ g, v.ownBlock = some g → w.heap.size + 2 ≤ g := fun g hg => (World.ownsRow.lt h.li g hg).1
  have hs := ltOf h.bk
  have hb : ∀ j, j ≤ w.heap.size + 1 → w6.heap[j]? = wr.heap[j]? := fun j hj => by
    rw [hg.block _ (by simp; omega) (fun e => by have := hlt _ e.symm; omega), Below.heap_alloc _ _ _ (by omega)]
  have g4 := (hb _ (Nat.le_refl _)).trans h.bk
  have hI : IS w6 (w.heap.size + 2) v6 (cur ++ [y]) := by
    unfold IS
    rw [List.length_append, List.map_append, ← hn]
    exact hown
  refine ⟨g4, ⟨((h.bl.alloc h.bl.size _).grown hg (by have := h.bl.size; simp; omega) (fun k hk => by have := hlt k hk; omega)).setCell (p := ⟨w.heap.size + 1, 4, none⟩) (by simp) _, ?_, heap_setCell_same _ _ 4 _ _ _ g4, hI.kept fun g hg' => heap_setCell_other _ _ _ _ (by have := (World.ownsRow.lt hI g hg').1; simp; omega)⟩⟩
  rw [heap_setCell_other _ _ _ _ (by simp), hb _ (by omega)]; exact h.b0
theorem five_R {w : World} {k : Nat} {a b c d e : Value} {T : TypeId} (h : w.heap[k]? = some (.cells #[a, b, c, d, e] T)) :
    w.cell? ⟨k, 0, none⟩ = some a ∧ w.cell? ⟨k, 1, none⟩ = some b ∧ w.cell? ⟨k, 2, none⟩ = some c ∧ w.cell? ⟨k, 3, none⟩ = some d ∧ w.cell? ⟨k, 4, none⟩ = some e ∧ w.frozen? ⟨k, 0, none⟩ = false ∧ w.frozen? ⟨k, 1, none⟩ = false ∧ w.frozen? ⟨k, 2, none⟩ = false ∧ w.frozen? ⟨k, 3, none⟩ = false ∧ w.frozen? ⟨k, 4, none⟩ = false ∧ k < w.heap.size := ⟨cellOf h 0 rfl, cellOf h 1 rfl, cellOf h 2 rfl, cellOf h 3 rfl, cellOf h 4 rfl, frozOf h 0, frozOf h 1, frozOf h 2, frozOf h 3, frozOf h 4, ltOf h⟩
theorem four_R {w : World} {k : Nat} {a b c d : Value} {T : TypeId} (h : w.heap[k]? = some (.cells #[a, b, c, d] T)) :
    w.cell? ⟨k, 0, none⟩ = some a ∧ w.cell? ⟨k, 1, none⟩ = some b ∧ w.cell? ⟨k, 2, none⟩ = some c ∧ w.cell? ⟨k, 3, none⟩ = some d ∧ w.frozen? ⟨k, 0, none⟩ = false ∧ w.frozen? ⟨k, 1, none⟩ = false ∧ w.frozen? ⟨k, 2, none⟩ = false ∧ w.frozen? ⟨k, 3, none⟩ = false ∧ k < w.heap.size := ⟨cellOf h 0 rfl, cellOf h 1 rfl, cellOf h 2 rfl, cellOf h 3 rfl, frozOf h 0, frozOf h 1, frozOf h 2, frozOf h 3, ltOf h⟩
theorem rn_nil (w : World) (B : Nat) : IS w B (.slice none 0 0) [] := ⟨rfl, Or.inl ⟨rfl, rfl⟩⟩
theorem own_formR {w : World} {B T k n : Nat} {v : Value} {xs : List Value} (h : w.ownsRow B T k v n xs) : ∃ a c, v = .slice a n c := by
  rcases h.2 with ⟨rfl, h0⟩ | ⟨g, cap, cur, rfl, _⟩
  · exact ⟨none, 0, by rw [h0]⟩
  · exact ⟨_, _, rfl⟩

end Go.Proofs.Ytejpjbihdclngaa
