/- Proved here: memories with a fault; marches over them. Arithmetic; a memory in its block. -/
import Derived.Test.YtbjdalcbdbphkaaMhM
import Derived.Test.YtbjdalcbdbphkaaPbV
namespace Go.Proofs.Ytbjdalcbdbphkaa
open Go.RowKit
set_option linter.unusedVariables false
set_option linter.unusedSimpArgs false

/-- A fault of a memory. -/
structure Mf where
  k : Int
  c : Nat
  b : Int
  v : Int
def up (m : Nat → Int) (i : Nat) (x : Int) : Nat → Int := fun j => if j = i then x else m j
def brM (f : Mf) (i : Nat) (v : Int) : Bool := if i = f.c then (if f.k = 1 then true else if f.k = 2 then decide (v = 1) else if f.k = 3 then decide (v = 0) else false) else false
def tuM (f : Mf) (m : Nat → Int) (v : Int) : Nat → Int := if f.k = 4 then up m f.c f.v else if f.k = 5 then (if v = f.v then up m f.c (1 - m f.c) else m) else m
def wrM (f : Mf) (m : Nat → Int) (i : Nat) (v : Int) : Nat → Int := if m i = v then m else if brM f i v = true then m else if (i : Int) = f.b then tuM f (up m i v) v else up m i v
def okM (m : Nat → Int) (op : Int) (i : Nat) : Bool := if op = 0 then decide (m i = 0) else if op = 1 then decide (m i = 1) else true
def nxM (f : Mf) (m : Nat → Int) (op : Int) (i : Nat) : Nat → Int := if op = 2 then wrM f m i 0 else if op = 3 then wrM f m i 1 else m
def rnM (f : Mf) : (Nat → Int) → List (Int × Nat) → Int → Option (Int × Nat)
  | _, [], _ => none
  | m, (op, i) :: t, s => if okM m op i = true then rnM f (nxM f m op i) t (s + 1) else some (s, i)
def m0M (f : Mf) : Nat → Int := if f.k = 1 then up (fun _ => 0) f.c f.v else fun _ => 0
def cN (d : Bool) (n k : Nat) : Nat := if d = true then n - 1 - k else k
theorem cN_lt {d : Bool} {n k : Nat} (h : k < n) : cN d n k < n := by unfold cN; cases d <;> simp <;> omega
/-- What an element does at one place. -/
def sO (ops : List Int) (i : Nat) : List (Int × Nat) := ops.map fun op => (op, i)
/-- .. from the k-th place on. -/
def sE (e : Elm) (n k : Nat) : List (Int × Nat) := (List.range' k (n - k)).flatMap fun j => sO e.p (cN e.k n j)
def sM (n : Nat) (s : List Elm) : List (Int × Nat) := s.flatMap fun e => sE e n 0
theorem sE_step {e : Elm} {n k : Nat} (h : k < n) : sE e n k = sO e.p (cN e.k n k) ++ sE e n (k + 1) := by
  unfold sE
  rw [show n - k = (n - (k + 1)) + 1 by omega, List.range'_succ, List.flatMap_cons]
theorem sE_end (e : Elm) (n : Nat) : sE e n n = [] := by unfold sE; simp
theorem sM_step {n : Nat} {s : List Elm} {t : Nat} (h : t < s.length) : sM n (s.drop t) = sE s[t] n 0 ++ sM n (s.drop (t + 1)) := by
  unfold sM; rw [List.drop_eq_getElem_cons h, List.flatMap_cons]
theorem sO_step {ops : List Int} {o i : Nat} (h : o < ops.length) : sO (ops.drop o) i = (ops.getD o 0, i) :: sO (ops.drop (o + 1)) i := by
  unfold sO; rw [List.drop_eq_getElem_cons h, getD_at h, List.map_cons]
def Bit (m : Nat → Int) : Prop := ∀ i, m i = 0 ∨ m i = 1
theorem up_bit {m : Nat → Int} (h : Bit m) {i : Nat} {x : Int} (hx : x = 0 ∨ x = 1) : Bit (up m i x) := by
  intro j; unfold up
  by_cases e : j = i
  · rw [if_pos e]; exact hx
  · rw [if_neg e]; exact h j
theorem tu_bit {f : Mf} {m : Nat → Int} (h : Bit m) (hv : f.v = 0 ∨ f.v = 1) (v : Int) : Bit (tuM f m v) := by
  unfold tuM
  by_cases h4 : f.k = 4
  · rw [if_pos h4]; exact up_bit h hv
  · rw [if_neg h4]
    by_cases h5 : f.k = 5
    · rw [if_pos h5]
      by_cases h6 : v = f.v
      · rw [if_pos h6]; exact up_bit h (by have := h f.c; omega)
      · rw [if_neg h6]; exact h
    · rw [if_neg h5]; exact h
theorem wr_bit {f : Mf} {m : Nat → Int} (h : Bit m) (hv : f.v = 0 ∨ f.v = 1) {i : Nat} {v : Int} (hw : v = 0 ∨ v = 1) : Bit (wrM f m i v) := by
  unfold wrM
  by_cases h1 : m i = v
  · rw [if_pos h1]; exact h
  · rw [if_neg h1]
    by_cases h2 : brM f i v = true
    · rw [if_pos h2]; exact h
    · rw [if_neg h2]
      by_cases h3 : (i : Int) = f.b
      · rw [if_pos h3]; exact tu_bit (up_bit h hw) hv v
      · rw [if_neg h3]; exact up_bit h hw
theorem nx_bit {f : Mf} {m : Nat → Int} (h : Bit m) (hv : f.v = 0 ∨ f.v = 1) (op : Int) (i : Nat) : Bit (nxM f m op i) := by
  unfold nxM
  by_cases h2 : op = 2
  · rw [if_pos h2]; exact wr_bit h hv (Or.inl rfl)
  · rw [if_neg h2]
    by_cases h3 : op = 3
    · rw [if_pos h3]; exact wr_bit h hv (Or.inr rfl)
    · rw [if_neg h3]; exact h
theorem m0_bit {f : Mf} (hv : f.v = 0 ∨ f.v = 1) : Bit (m0M f) := by
  unfold m0M
  by_cases h : f.k = 1
  · rw [if_pos h]; exact up_bit (fun _ => Or.inl rfl) hv
  · rw [if_neg h]; exact fun _ => Or.inl rfl
/-- A memory's cells: its fault, its bits. -/
def mbL (f : Mf) (m : Nat → Int) : List Int := [f.k, (f.c : Int), f.b, f.v] ++ (List.range 12).map m
theorem mbL_f (f : Mf) (m : Nat → Int) : (mbL f m)[0]? = some f.k ∧ (mbL f m)[1]? = some (f.c : Int) ∧ (mbL f m)[2]? = some f.b ∧ (mbL f m)[3]? = some f.v := ⟨rfl, rfl, rfl, rfl⟩
theorem mbL_at (f : Mf) (m : Nat → Int) {i : Nat} (h : i < 12) : (mbL f m)[4 + i]? = some (m i) := by
  unfold mbL
  rw [List.getElem?_append_right (by simp)]
  simp [h]
theorem map_up (m : Nat → Int) (n i : Nat) (x : Int) : ((List.range n).map m).set i x = (List.range n).map (up m i x) := by
  apply List.ext_getElem?
  intro j
  rw [List.getElem?_set]
  by_cases e : i = j
  · subst e
    rw [if_pos rfl]
    by_cases hl : i < n
    · rw [if_pos (by simpa using hl)]; simp [hl, up]
    · rw [if_neg (by simpa using hl), List.getElem?_eq_none (by simpa using hl)]
  · rw [if_neg e]
    simp only [List.getElem?_map]
    by_cases hl : j < n
    · rw [List.getElem?_range hl]; simp [up, show ¬ j = i from fun h => e h.symm]
    · rw [List.getElem?_eq_none (by simpa using hl)]; rfl
theorem mbL_set (f : Mf) (m : Nat → Int) (i : Nat) (x : Int) : (mbL f m).set (4 + i) x = mbL f (up m i x) := by
  unfold mbL
  rw [List.set_append_right _ _ (by simp), ← map_up]
  simp
theorem Only.drew {g : Nat} {w w' : World} (h : Only g w w') : Only g w w'.drew := ⟨h.os, h.tape, h.output, h.size, h.block⟩
theorem Only.trans {g : Nat} {a b c : World} (h : Only g a b) (h' : Only g b c) : Only g a c := ⟨h'.os.trans h.os, h'.tape.trans h.tape, h'.output.trans h.output, h'.size.trans h.size, fun k hk => (h'.block k hk).trans (h.block k hk)⟩

end Go.Proofs.Ytbjdalcbdbphkaa
