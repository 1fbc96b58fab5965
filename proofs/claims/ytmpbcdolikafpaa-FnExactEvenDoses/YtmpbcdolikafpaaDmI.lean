/- Proved here: doseRows of the program: mapV. (And ahead of it: Proved here: within of the program: what two boxes have in common.) -/
import Derived.Test.YtmpbcdolikafpaaSpM
import Derived.StillTail
import Derived.BigQuiet
namespace Go.Proofs.Ytmpbcdolikafpaa
open Go.RowKit
set_option linter.unusedVariables false
set_option linter.unusedSimpArgs false

def mxD (a b : Int) : Int := if a < b then b else a
def mnD (a b : Int) : Int := if b < a then b else a
def wiB (b f : Bx) : Bx := ⟨mxD b.x0 f.x0, mxD b.y0 f.y0, mnD b.x1 f.x1, mnD b.y1 f.y1⟩
set_option maxRecDepth 10000 in
set_option maxHeartbeats 4000000 in
theorem impl_within (b f : Bx) (w : World) :
    Calls Try.prog 60 #[.agg #[.int .i64 b.x0, .int .i64 b.y0, .int .i64 b.x1, .int .i64 b.y1], .agg #[.int .i64 f.x0, .int .i64 f.y0, .int .i64 f.x1, .int .i64 f.y1]] w fun e w' => e = .returned (.agg #[.int .i64 (wiB b f).x0, .int .i64 (wiB b f).y0, .int .i64 (wiB b f).x1, .int .i64 (wiB b f).y1]) ∧ Below w.heap.size w w' := by
  unfold wiB mxD mnD
  simp only
  by_cases h1 : b.x0 < f.x0 <;> by_cases h2 : b.y0 < f.y0 <;> by_cases h3 : f.x1 < b.x1 <;> by_cases h4 : f.y1 < b.y1
  all_goals
    simp only [h1, h2, h3, h4, if_true, if_false]
    go_enter Try.func60, Try.ntmps60
    go_wp2
    go_returns
    exact ⟨rfl, by (repeat' (first | (with_reducible exact Below.refl _ _) | (with_reducible assumption) | (with_reducible refine Below.setCell ?_ ?_ _) | (with_reducible refine Below.alloc ?_ ?_ _) | (with_reducible refine below_drewN ?_ _) | (with_reducible refine Below.drew ?_) | (with_reducible exact Nat.le_refl _) | omega | (simp; done) | (simp; omega)))⟩

end Go.Proofs.Ytmpbcdolikafpaa

namespace Go.Proofs.Ytmpbcdolikafpaa
open Go.RowKit
set_option linter.unusedVariables false
set_option linter.unusedSimpArgs false

/-- The first k rows are laid. -/
def zeroK (ht wd k : Nat) : List (List Int) := (List.range ht).map fun i => if i < k then rowG (fun _ => 0) wd else []
theorem zeroK_len (ht wd k : Nat) : (zeroK ht wd k).length = ht := by simp [zeroK]
theorem zeroK_zero (ht wd : Nat) : zeroK ht wd 0 = List.replicate ht [] := by
  apply List.ext_getElem
  · simp [zeroK]
  · intro i h1 h2; simp [zeroK]
theorem zeroK_all (ht wd : Nat) : zeroK ht wd ht = gridL (fun _ _ => 0) ht wd := by
  unfold zeroK gridL
  apply List.map_congr_left
  intro i hi
  rw [if_pos (List.mem_range.1 hi)]
theorem zeroK_succ (ht wd k : Nat) (hk : k < ht) : zeroK ht wd (k + 1) = (zeroK ht wd k).set k (rowG (fun _ => 0) wd) := by
  apply List.ext_getElem?
  intro i
  by_cases hi : i < ht
  · by_cases e : i = k
    · subst e
      rw [List.getElem?_set_self (by rw [zeroK_len]; exact hi)]
      simp [zeroK, hi]
    · rw [List.getElem?_set_ne (by omega)]
      simp only [zeroK, List.getElem?_map, List.getElem?_range hi, Option.map_some]
      congr 1
      by_cases h1 : i < k
      · rw [if_pos h1, if_pos (by omega)]
      · rw [if_neg h1, if_neg (by omega)]
  · rw [List.getElem?_eq_none (by rw [zeroK_len]; omega), List.getElem?_eq_none (by rw [List.length_set, zeroK_len]; omega)]
/-- A map with one number more at one place. -/
def upG (G : Nat → Nat → Int) (i j : Nat) (z : Int) : Nat → Nat → Int := fun a b => if a = i ∧ b = j then z else G a b
theorem rowG_set (G : Nat → Int) (n j : Nat) (z : Int) : (rowG G n).set j z = rowG (fun b => if b = j then z else G b) n := by
  apply List.ext_getElem?
  intro b
  by_cases hb : b < n
  · by_cases e : b = j
    · subst e
      rw [List.getElem?_set_self (by rw [rowG_len]; exact hb)]
      simp [rowG, hb]
    · rw [List.getElem?_set_ne (by omega)]
      simp [rowG, hb, e]
  · rw [List.getElem?_eq_none (by rw [List.length_set, rowG_len]; omega), List.getElem?_eq_none (by rw [rowG_len]; omega)]
theorem gridL_set (G : Nat → Nat → Int) (h n i j : Nat) (z : Int) : (gridL G h n).set i ((rowG (G i) n).set j z) = gridL (upG G i j z) h n := by
  apply List.ext_getElem?
  intro a
  by_cases ha : a < h
  · by_cases e : a = i
    · subst e
      have e2 : upG G a j z a = fun b => if b = j then z else G a b := by funext b; simp [upG]
      rw [List.getElem?_set_self (by rw [gridL_len]; exact ha), rowG_set]
      simp [gridL, ha, e2]
    · have e2 : upG G i j z a = G a := by funext b; simp [upG, e]
      rw [List.getElem?_set_ne (by omega)]
      simp [gridL, ha, e2]
  · rw [List.getElem?_eq_none (by rw [List.length_set, gridL_len]; omega), List.getElem?_eq_none (by rw [gridL_len]; omega)]
theorem gridL_congr {G K : Nat → Nat → Int} {h n : Nat} (hh : ∀ a b, a < h → b < n → G a b = K a b) : gridL G h n = gridL K h n := by
  unfold gridL
  apply List.map_congr_left
  intro a ha
  unfold rowG
  apply List.map_congr_left
  intro b hb
  exact hh a b (List.mem_range.1 ha) (List.mem_range.1 hb)
/-- What stands while the rows are made and turned. -/
structure GV (w wr : World) (f : Bx) (ht : Nat) (ls : List (List Int)) (vs : List Value) : Prop where
  r : RI wr (w.heap.size + 1) (.slice (some ⟨w.heap.size + 1, 0, none⟩) ht ht) ls vs
  b : wr.heap[w.heap.size]? = some (.cells #[.int .i64 f.x0, .int .i64 f.y0, .int .i64 f.x1, .int .i64 f.y1] 34)
  bl : Below w.heap.size w wr
  sz : w.heap.size + 2 ≤ wr.heap.size
theorem GV.next {w wr W : World} {f : Bx} {ht : Nat} {ls : List (List Int)} {vs : List Value} (h : GV w wr f ht ls vs) (hb : Below wr.heap.size wr W) : GV w W f ht ls vs :=
  ⟨h.r.below hb, (hb.block _ (by have := h.sz; omega)).trans h.b, h.bl.trans (hb.mono h.bl.size), Nat.le_trans h.sz hb.size⟩
theorem GV.put {w wr W : World} {f : Bx} {ht k : Nat} {ls : List (List Int)} {vs : List Value} {u : Value} {l : List Int} (h : GV w wr f ht ls vs) (hb : Below wr.heap.size wr W) (hk : k < ls.length) (hu : IS W wr.heap.size u l) : GV w (W.setCell ⟨w.heap.size + 1, k, none⟩ u) f ht (ls.set k l) (vs.set k u) := by
  have hn := h.next hb
  have hz := h.sz
  refine ⟨h.r.put hb (by omega) hk hu, ?_, hn.bl.setCell (by simp) _, by simpa using hn.sz⟩
  rw [heap_setCell_other _ _ _ _ (by simp)]
  exact hn.b
theorem GV.turn {w wr : World} {f : Bx} {ht i : Nat} {ls : List (List Int)} {vs : List Value} {g c n : Nat} (h : GV w wr f ht ls vs) (hi : i < ls.length) (hv : rat vs i = .slice (some ⟨g, 0, none⟩) n c) (j : Nat) (z : Int) : GV w (wr.setCell ⟨g, j, none⟩ (.int .i64 z)) f ht (ls.set i ((ls.getD i []).set j z)) vs := by
  have hI := h.r.bx i hi
  have hg := rowBlk hI (show (rat vs i).ownBlock = some g by rw [hv]; rfl)
  have ho : ∀ k, (rat vs i).ownBlock ≠ some k → (wr.setCell ⟨g, j, none⟩ (.int .i64 z)).heap[k]? = wr.heap[k]? := fun k hk => heap_setCell_other _ _ _ _ (fun e => hk (by rw [hv]; exact congrArg some (by simpa using e.symm)))
  refine ⟨h.r.turn hi ?_ ho, ?_, h.bl.setCell (by simp; omega) _, by simpa using h.sz⟩
  · rw [hv] at hI ⊢
    exact hI.setR j z
  · rw [ho _ (fun e => by
      have := rowBlk hI e
      omega)]
    exact h.b

end Go.Proofs.Ytmpbcdolikafpaa
