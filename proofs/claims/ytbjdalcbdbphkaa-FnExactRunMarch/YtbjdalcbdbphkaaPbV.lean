/- Proved here: verdicts: counts of bins; which stands most often. Arithmetic; counts in a list, in an array. -/
import Derived.Test.YtbjdalcbdbphkaaPbM
import Derived.Test.YtbjdalcbdbphkaaVkE
namespace Go.Proofs.Ytbjdalcbdbphkaa
open Go.RowKit
set_option linter.unusedVariables false
set_option linter.unusedSimpArgs false

def vdC (s : List Int) : Int := if s.length = 0 then 4 else if 20 < s.length then 2 else if s.any (oo 1 99) = true then 3 else 0
/-- Which of 2, 3 .. k + 2 stands most often, of several the least. -/
def bsV (f : Nat → Nat) : Nat → Nat
  | 0 => 2
  | k + 1 => if f (bsV f k) < f (k + 2) then k + 2 else bsV f k
theorem bsV_le (f : Nat → Nat) : ∀ k, 2 ≤ bsV f k ∧ bsV f k ≤ k + 2
  | 0 => ⟨Nat.le_refl _, Nat.le_refl _⟩
  | k + 1 => by
    have := bsV_le f k
    unfold bsV
    by_cases h : f (bsV f k) < f (k + 2)
    · rw [if_pos h]; omega
    · rw [if_neg h]; omega
def cnV (s : List Int) (i : Nat) : Nat := s.count (i : Int)
def vdA (s : List Int) : Int := if s.length < 2 * cnV s 1 then 1 else (bsV (cnV s) 98 : Int)
def vdV (s : List Int) : Int := if vdC s = 0 then vdA s else 0
/-- All counts of the first k. -/
def cnL (s : List Int) (k : Nat) : List Int := (List.range 100).map fun i => ((cnV (s.take k) i : Nat) : Int)
theorem cnL_len (s : List Int) (k : Nat) : (cnL s k).length = 100 := by simp [cnL]
theorem cnL_at (s : List Int) (k : Nat) {i : Nat} (h : i < 100) : (cnL s k)[i]? = some ((cnV (s.take k) i : Nat) : Int) := by simp [cnL, h]
theorem cnV_step {s : List Int} {k : Nat} (h : k < s.length) (i : Nat) : cnV (s.take (k + 1)) i = cnV (s.take k) i + if s.getD k 0 = (i : Int) then 1 else 0 := by
  unfold cnV
  rw [List.take_add_one, List.getElem?_eq_getElem h, getD_at h, Option.toList_some, List.count_append, List.count_singleton]
  by_cases e : s[k] = (i : Int)
  · simp [e]
  · simp [e]
theorem cnV_le (s : List Int) (k i : Nat) : cnV (s.take k) i ≤ k := Nat.le_trans List.count_le_length (by simp; omega)
theorem cnL_step {s : List Int} {k v : Nat} (h : k < s.length) (hv : s.getD k 0 = (v : Int)) : (cnL s k).set v (((cnV (s.take k) v : Nat) : Int) + 1) = cnL s (k + 1) := by
  apply List.ext_getElem?
  intro i
  rw [List.getElem?_set, cnL_len]
  by_cases hi : i < 100
  · by_cases e : v = i
    · subst e
      rw [if_pos rfl, if_pos hi, cnL_at _ _ hi, cnV_step h, hv, if_pos rfl]
      rfl
    · rw [if_neg e, cnL_at _ _ hi, cnL_at _ _ hi, cnV_step h, hv, if_neg (by omega)]
      rfl
  · have e1 : (cnL s (k + 1))[i]? = none := List.getElem?_eq_none (by rw [cnL_len]; omega)
    rw [e1]
    by_cases e : v = i
    · subst e; rw [if_pos rfl, if_neg hi]
    · rw [if_neg e, List.getElem?_eq_none (by rw [cnL_len]; omega)]
theorem cnL_zero (s : List Int) : cnL s 0 = List.replicate 100 0 := by
  apply List.ext_getElem?
  intro i
  by_cases hi : i < 100
  · rw [cnL_at _ _ hi]; rw [List.getElem?_replicate, if_pos hi]; simp [cnV]
  · rw [List.getElem?_eq_none (by rw [cnL_len]; omega), List.getElem?_eq_none (by rw [List.length_replicate]; omega)]
theorem vdV_one {s : List Int} (h : vdC s = 0) (h1 : s.length < 2 * cnV s 1) : vdV s = 1 := by rw [vdV, if_pos h, vdA, if_pos h1]
theorem vdV_most {s : List Int} (h : vdC s = 0) (h1 : ¬ s.length < 2 * cnV s 1) : vdV s = (bsV (cnV s) 98 : Int) := by rw [vdV, if_pos h, vdA, if_neg h1]
theorem vdV_no {s : List Int} (h : vdC s ≠ 0) : vdV s = 0 := by rw [vdV, if_neg h]
theorem vdC_ok {s : List Int} (h0 : s.length ≠ 0) (h1 : ¬ 20 < s.length) (h2 : s.any (oo 1 99) = false) : vdC s = 0 := by rw [vdC, if_neg h0, if_neg h1, h2, if_neg (by decide)]
theorem vdC_out {s : List Int} (h0 : s.length ≠ 0) (h1 : ¬ 20 < s.length) (h2 : s.any (oo 1 99) = true) : vdC s = 3 := by rw [vdC, if_neg h0, if_neg h1, h2, if_pos rfl]
/-- A block that has these numbers, one a cell, from its first on; nobody holds it. -/
def CB (w : World) (g : Nat) (T : TypeId) (l : List Int) : Prop := w.heap[g]? = some (.cells (l.map (Value.int .i64)).toArray T)
theorem CB.at {w : World} {g : Nat} {T : TypeId} {l : List Int} (h : CB w g T l) {j : Nat} {y : Int} (hj : l[j]? = some y) : w.cell? ⟨g, j, none⟩ = some (.int .i64 y) ∧ w.frozen? ⟨g, j, none⟩ = false ∧ g < w.heap.size := by
  unfold CB at h
  refine ⟨by simp [World.cell?, h, hj], by simp [World.frozen?, h], ?_⟩
  rcases Nat.lt_or_ge g w.heap.size with h1 | h1
  · exact h1
  · rw [Array.getElem?_eq_none h1] at h; cases h
theorem CB.set {w : World} {g : Nat} {T : TypeId} {l : List Int} (h : CB w g T l) (j : Nat) (y : Int) : CB (w.setCell ⟨g, j, none⟩ (.int .i64 y)) g T (l.set j y) := by
  unfold CB at h ⊢
  rw [heap_setCell_same w g j _ _ _ h]
  simp
theorem CB.below {w w' : World} {g : Nat} {T : TypeId} {l : List Int} (h : CB w g T l) (hb : Below w.heap.size w w') : CB w' g T l := by
  have hl : g < w.heap.size := by
    unfold CB at h
    rcases Nat.lt_or_ge g w.heap.size with h1 | h1
    · exact h1
    · rw [Array.getElem?_eq_none h1] at h; cases h
  unfold CB at h ⊢
  rw [hb.block _ hl]; exact h

end Go.Proofs.Ytbjdalcbdbphkaa
