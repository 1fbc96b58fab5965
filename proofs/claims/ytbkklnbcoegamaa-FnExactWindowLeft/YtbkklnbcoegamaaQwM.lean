/- Proved here: what is left in the open windows, and the least of it. -/
import Derived.Test.YtbkklnbcoegamaaQbM
import Derived.Test.YtbkklnbcoegamaaQwI
namespace Go.Proofs.Ytbkklnbcoegamaa
open Go.RowKit Go.Maps
set_option linter.unusedVariables false
set_option linter.unusedSimpArgs false

def wdD : Wdw := ⟨0, 0, 0⟩
/-- What is left in the open ones of the first j windows, n steps done. -/
def liW (ws : List Wdw) (n : Nat) (d : List Int) (now : Int) : Nat → List Int
  | 0 => []
  | j + 1 => if wdO n (ws.getD j wdD) then liW ws n d now j ++ [wdL d now (ws.getD j wdD)] else liW ws n d now j
theorem liW_len (ws : List Wdw) (n : Nat) (d : List Int) (now : Int) : ∀ j, (liW ws n d now j).length ≤ j
  | 0 => Nat.le_refl _
  | j + 1 => by
    have := liW_len ws n d now j
    unfold liW; split <;> simp <;> omega
def leK (s : List Int) : Nat → Int
  | 0 => s.getD 0 0
  | k + 1 => if s.getD (k + 1) 0 < leK s k then s.getD (k + 1) 0 else leK s k
/-- The least of a list; 0: none. -/
def leL (s : List Int) : Int := leK s (s.length - 1)
theorem leK_app (s : List Int) (x : Int) : ∀ k, k < s.length → leK (s ++ [x]) k = leK s k := by
  intro k
  induction k with
  | zero => intro h; unfold leK; rw [List.getD_eq_getElem?_getD, List.getElem?_append_left h, ← List.getD_eq_getElem?_getD]
  | succ k ih =>
    intro h
    have e : (s ++ [x]).getD (k + 1) 0 = s.getD (k + 1) 0 := by rw [List.getD_eq_getElem?_getD, List.getElem?_append_left h, ← List.getD_eq_getElem?_getD]
    rw [leK, leK, ih (by omega), e]
theorem leL_app (s : List Int) (x : Int) : leL (s ++ [x]) = if s.length = 0 ∨ x < leL s then x else leL s := by
  unfold leL
  rw [List.length_append, List.length_singleton, Nat.add_sub_cancel]
  match hs : s.length with
  | 0 => have e : s = [] := List.eq_nil_of_length_eq_zero hs; subst e; simp [leK]
  | m + 1 =>
    rw [leK, leK_app s x m (by omega), Nat.add_sub_cancel]
    have e : (s ++ [x]).getD (m + 1) 0 = x := by
      rw [List.getD_eq_getElem?_getD, List.getElem?_append_right (by omega), show m + 1 - s.length = 0 by omega]; rfl
    rw [e]
    simp
def dnA (ls : List Lo) (i : Nat) : List Int := (ls.getD i lo0).dn
theorem dnA_at {ls : List Lo} {i : Nat} (h : i < ls.length) : dnA ls i = ls[i].dn := by simp [dnA, List.getD, h]
/-- The list for a lot. -/
def wlL (b : Bk) (id now : Int) : List Int := liW b.wn (dnA b.ls (fdI (idA b.ls) id b.ls.length).toNat).length (dnA b.ls (fdI (idA b.ls) id b.ls.length).toNat) now b.wn.length
def bgC (b : Bk) (id : Int) : Int := if bkF b ≠ 0 then bkF b else if fdI (idA b.ls) id b.ls.length < 0 then 4 else 0
def bgA (b : Bk) (id : Int) : Int := if bgC b id ≠ 0 then -1 else fdI (idA b.ls) id b.ls.length
/-- The code and the value of WindowLeft. -/
def wlC (b : Bk) (id now : Int) : Int := if bgC b id ≠ 0 then bgC b id else if 0 ≤ now ∧ now ≤ 1000000000 then (if (wlL b id now).length = 0 then 6 else 0) else 3
def wlV (b : Bk) (id now : Int) : Int := if bgC b id ≠ 0 then 0 else if 0 ≤ now ∧ now ≤ 1000000000 then leL (wlL b id now) else 0
theorem bgC_cases {b : Bk} {id : Int} (h : bgC b id = 0) : GBk b ∧ ∃ i, ∃ hi : i < b.ls.length, fdI (idA b.ls) id b.ls.length = (i : Int) ∧ b.ls[i].id = id := by
  unfold bgC at h
  by_cases h0 : bkF b = 0
  · rw [if_neg (by simp [h0])] at h
    by_cases h1 : fdI (idA b.ls) id b.ls.length < 0
    · rw [if_pos h1] at h; cases h
    · obtain ⟨i, h2, h3, h4, _⟩ := fdI_pos (by omega : 0 ≤ fdI (idA b.ls) id b.ls.length)
      exact ⟨bkF_zero h0, i, h2, h3, by rw [← idA_at h2]; exact h4⟩
  · rw [if_pos h0] at h; exact absurd h h0
theorem wlL_at {b : Bk} {id now : Int} {i : Nat} (hi : i < b.ls.length) (h : fdI (idA b.ls) id b.ls.length = (i : Int)) : wlL b id now = liW b.wn b.ls[i].dn.length b.ls[i].dn now b.wn.length := by
  unfold wlL
  rw [h, Int.toNat_natCast, dnA_at hi]

end Go.Proofs.Ytbkklnbcoegamaa
