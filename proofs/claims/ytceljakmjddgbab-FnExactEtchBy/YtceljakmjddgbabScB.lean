/- Proved here: books of matter: their arithmetic. No condition on the program. (And ahead of it: Proved here: what it is that a slice of the call's own holds a list of numbers, and that it stays while its block does. No condition on the program but one on its table of types.) -/
import Derived.Test.YtceljakmjddgbabUnd
import Derived.Test.YtceljakmjddgbabRows
import Derived.LoopTactic
import Derived.Test.YtceljakmjddgbabScM
namespace Go.Proofs.Ytceljakmjddgbab
open Go.RowKit
set_option linter.unusedVariables false

theorem info_i64 : (Try.prog.info? 2).map (fun i => (i.zero, i.size, i.bytes)) = some (some (.int .i64 0), 1, 8) := by kernel_rfl

/-- A list of numbers that a slice of the call's own holds. -/
def IS (w : World) (B : Nat) (v : Value) (xs : List Int) : Prop := w.ownsRow B 2 1 v xs.length (xs.map (Value.int .i64))

theorem IS.zero {w : World} {B : Nat} {v : Value} (h : IS w B v []) : ∃ a c, v = .slice a 0 c := by
  rcases h.2 with ⟨rfl, _⟩ | ⟨g, cap, cur, rfl, _⟩
  · exact ⟨_, _, rfl⟩
  · exact ⟨_, _, rfl⟩
theorem IS.form {w : World} {B : Nat} {v : Value} {xs : List Int} (h : IS w B v xs) : ∃ a c, v = .slice a xs.length c := by
  rcases h.2 with ⟨rfl, h0⟩ | ⟨g, cap, cur, rfl, _⟩
  · exact ⟨none, 0, by rw [h0]⟩
  · exact ⟨_, _, rfl⟩
theorem IS.pos {w : World} {B : Nat} {v : Value} {xs : List Int} (h : IS w B v xs) (hp : 0 < xs.length) :
    ∃ g cap, v = .slice (some ⟨g, 0, none⟩) xs.length cap ∧ B ≤ g ∧ g < w.heap.size ∧ ∀ j, j < xs.length → w.cell? ⟨g, j, none⟩ = some (.int .i64 (xs.getD j 0)) := by
  rcases h.2 with ⟨_, h0⟩ | ⟨g, cap, cur, rfl, hB, hg, hn, hm, hs, ht⟩
  · omega
  · refine ⟨g, cap, rfl, hB, ?_, fun j hj => ?_⟩
    · rcases Nat.lt_or_ge g w.heap.size with h' | h'
      · exact h'
      · rw [Array.getElem?_eq_none h'] at hg; cases hg
    · have := World.ownsRow.cellAt (w := w) (g := g) (cap := cap) h j (by omega)
      rw [this]
      simp [List.getElem?_map, List.getElem?_eq_getElem hj]

/-- Nothing has turned but the cells of block g. -/
structure Only (g : Nat) (w w' : World) : Prop where
  os : w'.os = w.os
  tape : w'.tape = w.tape
  output : w'.output = w.output
  size : w'.heap.size = w.heap.size
  block : ∀ k, k ≠ g → w'.heap[k]? = w.heap[k]?
theorem Only.refl (g : Nat) (w : World) : Only g w w := ⟨rfl, rfl, rfl, rfl, fun _ _ => rfl⟩
theorem Only.set {g : Nat} {w w' : World} (h : Only g w w') (o : Nat) (u : Value) : Only g w (w'.setCell ⟨g, o, none⟩ u) :=
  ⟨h.os, h.tape, h.output, by simpa using h.size, fun k hk => (heap_setCell_other w' ⟨g, o, none⟩ k u (fun e => hk (by simpa using e))).trans (h.block k hk)⟩
theorem Only.below {g B : Nat} {w w' : World} (h : Only g w w') (hg : B ≤ g) : Below B w w' :=
  ⟨h.os, h.tape, h.output, by rw [h.size]; exact Nat.le_refl _, fun k hk => h.block k (by omega)⟩

/-- A list stays while its block does. -/
theorem IS.kept {w w' : World} {B : Nat} {v : Value} {xs : List Int} (h : IS w B v xs) (hb : ∀ g, v.ownBlock = some g → w'.heap[g]? = w.heap[g]?) : IS w' B v xs := by
  refine ⟨h.1, ?_⟩
  rcases h.2 with h' | ⟨g, cap, cur, rfl, hB, hg, hr⟩
  · exact Or.inl h'
  · exact Or.inr ⟨g, cap, cur, rfl, hB, by rw [hb g rfl]; exact hg, hr⟩

end Go.Proofs.Ytceljakmjddgbab

namespace Go.Proofs.Ytceljakmjddgbab
open Go.RowKit
set_option linter.unusedVariables false
set_option linter.unusedSimpArgs false

/-- So much of a material more. -/
def addM (xs : List Int) (m t : Int) : List Int := xs.set (m - 1).toNat (xs.getD (m - 1).toNat 0 + t)
def mtC (xs : List Int) (c : List Flm) : Nat → List Int
  | 0 => xs
  | k + 1 => addM (mtC xs c k) (fat c k).m (fat c k).t
def mtS (s : List (List Flm)) : Nat → List Int
  | 0 => List.replicate 12 0
  | i + 1 => mtC (mtS s i) (s.getD i []) (s.getD i []).length
def mtL (s : List (List Flm)) : List Int := if secF s = 0 then mtS s s.length else []
/-- A book: twelve numbers, none below 0 or above B. -/
structure BM (B : Int) (xs : List Int) : Prop where
  len : xs.length = 12
  lo : ∀ m, 0 ≤ xs.getD m 0
  hi : ∀ m, xs.getD m 0 ≤ B
theorem getD_setI {xs : List Int} {i j : Nat} {v : Int} (hi : i < xs.length) : (xs.set i v).getD j 0 = if j = i then v else xs.getD j 0 := by
  by_cases e : j = i
  · subst e; simp [hi]
  · rw [if_neg e, List.getD_eq_getElem?_getD, List.getElem?_set_ne (by omega), ← List.getD_eq_getElem?_getD]
theorem addM_len (xs : List Int) (m t : Int) : (addM xs m t).length = xs.length := by simp [addM]
theorem addM_at {xs : List Int} {m t : Int} (hl : xs.length = 12) (h0 : 1 ≤ m) (h1 : m ≤ 12) (j : Nat) : (addM xs m t).getD j 0 = xs.getD j 0 + if (j : Int) + 1 = m then t else 0 := by
  unfold addM
  rw [getD_setI (by omega)]
  by_cases e : j = (m - 1).toNat
  · rw [if_pos e, if_pos (by omega), e]
  · rw [if_neg e, if_neg (by omega)]; omega
theorem BM.add {B : Int} {xs : List Int} (h : BM B xs) {m t : Int} (h0 : 1 ≤ m) (h1 : m ≤ 12) (ht : 0 ≤ t) : BM (B + t) (addM xs m t) := by
  refine ⟨by rw [addM_len]; exact h.len, fun j => ?_, fun j => ?_⟩
  · have := h.lo j
    rw [addM_at h.len h0 h1]; split <;> omega
  · have := h.hi j
    rw [addM_at h.len h0 h1]; split <;> omega
theorem BM.col {B : Int} {xs : List Int} (h : BM B xs) {c : List Flm} (hc : ∀ k, k < c.length → 1 ≤ (fat c k).m ∧ (fat c k).m ≤ 12 ∧ 0 ≤ (fat c k).t) {k : Nat} (hk : k ≤ c.length) : BM (B + topA c k) (mtC xs c k) := by
  induction k with
  | zero => rw [topA, mtC, Int.add_zero]; exact h
  | succ k ih =>
    obtain ⟨h0, h1, h2⟩ := hc k (by omega)
    rw [topA, mtC, ← Int.add_assoc]
    exact (ih (by omega)).add h0 h1 h2
theorem BM.up {B C : Int} {xs : List Int} (h : BM B xs) (hc : B ≤ C) : BM C xs := ⟨h.len, h.lo, fun m => Int.le_trans (h.hi m) hc⟩
theorem BM.zero : BM 0 (List.replicate 12 0) := by
  refine ⟨by simp, fun m => ?_, fun m => ?_⟩ <;>
  · rw [List.getD_eq_getElem?_getD, List.getElem?_replicate]
    split <;> simp
theorem GC.mt {c : List Flm} (h : GC c) : ∀ k, k < c.length → 1 ≤ (fat c k).m ∧ (fat c k).m ≤ 12 ∧ 0 ≤ (fat c k).t := fun k hk => by
  have := h.ok k hk; unfold okF at this; omega
/-- A column that may stand in a book. -/
structure WC (c : List Flm) : Prop where
  len : c.length ≤ 24
  mt : ∀ k, k < c.length → 1 ≤ (fat c k).m ∧ (fat c k).m ≤ 12 ∧ 0 ≤ (fat c k).t
  top : topC c ≤ 100000
structure WS (s : List (List Flm)) : Prop where
  len : s.length ≤ 16
  col : ∀ i, i < s.length → WC (s.getD i [])
theorem GC.wc {c : List Flm} (h : GC c) : WC c := ⟨h.len, h.mt, h.top⟩
theorem GS.ws {s : List (List Flm)} (h : GS s) : WS s := ⟨h.len, fun i hi => (h.col i hi).wc⟩
theorem WC.upto {c : List Flm} (h : WC c) {k : Nat} (hk : k ≤ c.length) : topA c k ≤ 100000 := Int.le_trans (topA_mono (fun j hj => (h.mt j hj).2.2) hk) h.top
theorem WC.t {c : List Flm} (h : WC c) {k : Nat} (hk : k < c.length) : 0 ≤ (fat c k).t ∧ (fat c k).t ≤ 100000 := by
  refine ⟨(h.mt k hk).2.2, ?_⟩
  have h1 := h.upto (show k + 1 ≤ c.length from hk)
  have h2 := topA_mono (c := c) (n := 0) (m := k) (fun j hj => (h.mt j (by omega)).2.2) (Nat.zero_le _)
  rw [show topA c (k + 1) = topA c k + (fat c k).t from rfl] at h1
  rw [show topA c 0 = 0 from rfl] at h2
  omega
theorem BM.sec {s : List (List Flm)} (hs : WS s) {i : Nat} (hi : i ≤ s.length) : BM (100000 * (i : Int)) (mtS s i) := by
  induction i with
  | zero => exact BM.zero
  | succ i ih =>
    have hc := hs.col i (by omega)
    have := (ih (by omega)).col hc.mt (Nat.le_refl _)
    rw [mtS]
    exact this.up (by have := hc.top; unfold topC at this; omega)
theorem mtL_len (s : List (List Flm)) : (mtL s).length ≤ 12 := by
  unfold mtL
  split
  · rename_i h; rw [(BM.sec (secF_zero.1 h).ws (Nat.le_refl _)).len]; omega
  · simp

theorem book_made {w : World} {B g : Nat} (h : w.ownsRow B 2 1 (.slice (some ⟨g, 0, none⟩) 12 12) 12 (List.replicate 12 (.int .i64 0))) : IS w B (.slice (some ⟨g, 0, none⟩) 12 12) (List.replicate 12 0) := by
  unfold IS
  simpa using h
theorem IS.bookAt {w : World} {B g : Nat} {xs : List Int} (h : IS w B (.slice (some ⟨g, 0, none⟩) 12 12) xs) (hl : xs.length = 12) {p : Nat} (hp : p < 12) :
    w.cell? ⟨g, p, none⟩ = some (.int .i64 (xs.getD p 0)) ∧ w.frozen? ⟨g, p, none⟩ = false ∧ g < w.heap.size := by
  have h' : w.ownsRow B 2 1 (.slice (some ⟨g, 0, none⟩) 12 12) 12 (xs.map (Value.int .i64)) := by unfold IS at h; rw [hl] at h; exact h
  refine ⟨?_, World.ownsRow.frozenAt h' p, (World.ownsRow.lt h' g rfl).2⟩
  rw [World.ownsRow.cellAt h' p (by omega)]
  simp [hl, hp]
theorem IS.bookSet {w : World} {B g : Nat} {xs : List Int} (h : IS w B (.slice (some ⟨g, 0, none⟩) 12 12) xs) (hl : xs.length = 12) (p : Nat) (y : Int) : IS (w.setCell ⟨g, p, none⟩ (.int .i64 y)) B (.slice (some ⟨g, 0, none⟩) 12 12) (xs.set p y) := by
  have h' : w.ownsRow B 2 1 (.slice (some ⟨g, 0, none⟩) 12 12) 12 (xs.map (Value.int .i64)) := by unfold IS at h; rw [hl] at h; exact h
  have := (World.ownsRow.stored h' p (.int .i64 y)).1
  unfold IS
  rw [List.length_set, hl, List.map_set]
  exact this

end Go.Proofs.Ytceljakmjddgbab
