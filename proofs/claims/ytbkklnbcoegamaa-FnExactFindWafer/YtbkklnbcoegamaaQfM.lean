/- Where a wafer of a book stands. Arithmetic alone. -/
import Derived.Test.YtbkklnbcoegamaaQbK
namespace Go.Proofs.Ytbkklnbcoegamaa
open Go.RowKit Go.Maps
set_option linter.unusedVariables false
set_option linter.unusedSimpArgs false

/-- Does lot i have the wafer? -/
def owA (ls : List Lo) (x : Int) (i : Nat) : Int := if x ∈ (ls.getD i lo0).ws then 1 else 0
/-- The first lot that has it; -1: none. -/
def owI (ls : List Lo) (x : Int) (n : Nat) : Int := fdI (owA ls x) 1 n
theorem owA_at {ls : List Lo} {x : Int} {i : Nat} (h : i < ls.length) : owA ls x i = 1 ↔ x ∈ ls[i].ws := by
  unfold owA
  rw [show ls.getD i lo0 = ls[i] from by simp [List.getD, h]]
  by_cases e : x ∈ ls[i].ws <;> simp [e]
theorem mem_preL {ls : List Lo} {x : Int} : ∀ {n : Nat}, n ≤ ls.length → (x ∈ preL ls n ↔ ∃ i, ∃ (h : i < ls.length), i < n ∧ x ∈ ls[i].ws) := by
  intro n
  induction n with
  | zero => intro _; simp [preL]
  | succ n ih =>
    intro hn
    rw [preL_step (by omega), List.mem_append, ih (by omega)]
    constructor
    · rintro (⟨i, h1, h2, h3⟩ | h)
      · exact ⟨i, h1, by omega, h3⟩
      · exact ⟨n, by omega, by omega, h⟩
    · rintro ⟨i, h1, h2, h3⟩
      rcases (by omega : i < n ∨ i = n) with e | e
      · exact Or.inl ⟨i, h1, e, h3⟩
      · subst e; exact Or.inr h3
theorem whL_in {ls : List Lo} {x : Int} : ∀ {n : Nat}, n ≤ ls.length → (preL ls n).Nodup → ∀ i (h : i < ls.length), i < n → x ∈ ls[i].ws → whL ls n x = some ls[i].id := by
  intro n
  induction n with
  | zero => intro _ _ i h hi; omega
  | succ n ih =>
    intro hn hd i h hi hx
    rw [preL_step (by omega), List.nodup_append] at hd
    rw [whL, show ls.getD n lo0 = ls[n] from by simp [List.getD, show n < ls.length by omega], idA_at (by omega)]
    unfold putW
    rcases (by omega : i < n ∨ i = n) with e | e
    · have h1 : x ∈ preL ls n := (mem_preL (by omega)).2 ⟨i, h, e, hx⟩
      rw [if_neg (fun e2 => hd.2.2 x h1 x e2 rfl)]
      exact ih (by omega) hd.1 i h e hx
    · subst e
      rw [if_pos hx]
theorem whL_out {ls : List Lo} {x : Int} {n : Nat} (hn : n ≤ ls.length) (hx : x ∉ preL ls n) : whL ls n x = none := by
  have := whL_some hn x
  rw [decide_eq_false hx] at this
  exact Option.isSome_eq_false_iff.1 this |> Option.isNone_iff_eq_none.1
/-- In a book without a fault each wafer stands where it is found. -/
theorem whF_lot {b : Bk} (h : wfC [] (alL b) = 0) {x : Int} {i : Nat} (hi : i < b.ls.length) (hx : x ∈ b.ls[i].ws) : whF b x = some b.ls[i].id := by
  have hd := (wfC_zero h).2.2
  unfold alL at hd
  rw [← preL_all, List.nodup_append] at hd
  have h1 : x ∈ preL b.ls b.ls.length := (mem_preL (Nat.le_refl _)).2 ⟨i, hi, hi, hx⟩
  unfold whF putW
  rw [if_neg (fun e => hd.2.2 x h1 x e rfl)]
  exact whL_in (Nat.le_refl _) hd.1 i hi hi hx
theorem whF_no {b : Bk} {x : Int} (hx : ∀ i (hi : i < b.ls.length), x ∉ b.ls[i].ws) : whF b x = if x ∈ b.sc then some 0 else none := by
  unfold whF putW
  rw [whL_out (Nat.le_refl _) (fun e => by obtain ⟨i, h1, _, h3⟩ := (mem_preL (Nat.le_refl _)).1 e; exact hx i h1 h3)]
theorem owI_pos {ls : List Lo} {x : Int} {n : Nat} (hn : n ≤ ls.length) (h : 0 ≤ owI ls x n) : ∃ i, ∃ (hi : i < ls.length), i < n ∧ owI ls x n = (i : Int) ∧ x ∈ ls[i].ws := by
  obtain ⟨i, h1, h2, h3, _⟩ := fdI_pos h
  exact ⟨i, by omega, h1, h2, (owA_at (by omega)).1 h3⟩
theorem owI_neg {ls : List Lo} {x : Int} {n : Nat} (hn : n ≤ ls.length) (h : owI ls x n < 0) : ∀ i (hi : i < ls.length), i < n → x ∉ ls[i].ws := fun i hi h1 h2 => fdI_neg h i h1 ((owA_at hi).2 h2)
def fwC (b : Bk) (x : Int) : Int := if bkF b ≠ 0 then bkF b else if (whF b x).isSome = true then 0 else 4
def fwV (b : Bk) (x : Int) : Int := if bkF b = 0 then (whF b x).getD 0 else 0

end Go.Proofs.Ytbkklnbcoegamaa
