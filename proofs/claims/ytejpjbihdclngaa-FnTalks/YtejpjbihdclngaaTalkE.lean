/- Proved here: how a talk ends: it says a thing three times at most; behind nine ticks it is done or has failed. -/
import Derived.Test.YtejpjbihdclngaaTrunM
namespace Go.Proofs.Ytejpjbihdclngaa
open Go.RowKit
set_option linter.unusedVariables false
set_option linter.unusedSimpArgs false

theorem tkR_app (s r : List Int) : ∀ i, i ≤ s.length → tkR (s ++ r) i = tkR s i
  | 0, _ => rfl
  | i + 1, h => by
    unfold tkR
    rw [tkR_app s r i (by omega), List.getD_eq_getElem?_getD, List.getD_eq_getElem?_getD, List.getElem?_append_left (by omega)]
/-- So many ticks. -/
def tks (k : Tk) : Nat → Tk
  | 0 => k
  | j + 1 => (tkN (tks k j) 4).1
theorem tkR_ticks (s : List Int) (m : Nat) : ∀ j, j ≤ m → tkR (s ++ List.replicate m 4) (s.length + j) = tks (tkR s s.length) j
  | 0, _ => by unfold tks; exact tkR_app s _ _ (Nat.le_refl _)
  | j + 1, h => by
    show (tkN (tkR (s ++ List.replicate m 4) (s.length + j)) ((s ++ List.replicate m 4).getD (s.length + j) 0)).1 = _
    rw [tkR_ticks s m j (by omega), List.getD_eq_getElem?_getD, List.getElem?_append_right (by omega)]
    rw [show s.length + j - s.length = j by omega, List.getElem?_replicate, if_pos (by omega)]
    rfl
/-- What more is true of a talk from zero on. -/
def TkIv (k : Tk) (n : Nat) : Prop := 0 ≤ k.p ∧ k.p ≤ 3 ∧ 0 ≤ k.t ∧ k.t ≤ 3 ∧ 0 ≤ k.w ∧ k.w ≤ 2 ∧ (n : Int) = k.t ∧ (k.p = 0 → k.t = 0) ∧ (k.p = 1 → 1 ≤ k.t)
theorem tkA_iv {k : Tk} {n : Nat} (hp : k.p = 1) (h : TkIv k n) : TkIv (tkA k).1 (if (tkA k).2 = true then n + 1 else n) := by
  unfold tkA
  split
  · simp only [Bool.false_eq_true, if_false]; unfold TkIv at *; simp only []; omega
  · simp only [if_true]; unfold TkIv at *; simp only []; omega
theorem tkN_iv {k : Tk} {n : Nat} (h : TkIv k n) (e : Int) : TkIv (tkN k e).1 (if (tkN k e).2 = true then n + 1 else n) := by
  unfold tkN
  split
  · rename_i h1; simp only [if_true]; unfold TkIv at *; simp only []; omega
  split
  · simp only [Bool.false_eq_true, if_false]; exact h
  rename_i h2
  have hp : k.p = 1 := by simpa using h2
  split
  · simp only [Bool.false_eq_true, if_false]; unfold TkIv at *; simp only []; omega
  split
  · exact tkA_iv hp h
  split
  · split
    · simp only [Bool.false_eq_true, if_false]; unfold TkIv at *; simp only []; omega
    · exact tkA_iv hp h
  · simp only [Bool.false_eq_true, if_false]; exact h
theorem tk_iv (s : List Int) : ∀ i, TkIv (tkR s i) (tkL s i).length
  | 0 => by unfold tkR tkL TkIv; simp
  | i + 1 => by
    have h := tkN_iv (tk_iv s i) (s.getD i 0)
    show TkIv (tkN (tkR s i) (s.getD i 0)).1 _
    unfold tkL
    split
    · rename_i h1; rw [if_pos h1] at h; rw [List.length_append]; exact h
    · rename_i h1; rw [if_neg h1] at h; exact h
theorem tks_out {k : Tk} (h : k.p ≠ 1) : ∀ j, tks k j = k
  | 0 => rfl
  | j + 1 => by
    unfold tks; rw [tks_out h j]
    obtain ⟨p, t, w⟩ := k
    rw [tkN_1 (by simp) h]
theorem tks_nine {k : Tk} {n : Nat} (h : TkIv k n) (hp : k.p = 1) : (tks k 9).p = 3 := by
  obtain ⟨p, t, w⟩ := k
  unfold TkIv at h
  simp only [] at h hp
  subst hp
  obtain ⟨_, _, _, ht, hw0, hw1, _, _, ht1⟩ := h
  have ht1 := ht1 rfl
  rcases (by omega : t = 1 ∨ t = 2 ∨ t = 3) with rfl | rfl | rfl <;> rcases (by omega : w = 0 ∨ w = 1 ∨ w = 2) with rfl | rfl | rfl <;> decide
/-- What the law asks, in one word. -/
theorem talk_end (s : List Int) (hs : s.length ≤ 190) : (rnL s).length ≤ 3 ∧ rnC (s ++ List.replicate 9 4) = 0 ∧
    ((rnK s).p = 2 → (rnK (s ++ List.replicate 9 4)).p = 2) ∧ ((rnK s).p = 0 → (rnK (s ++ List.replicate 9 4)).p = 0 ∧ (rnL s).length = 0) ∧ ((rnK s).p ≠ 2 → (rnK s).p ≠ 0 → (rnK (s ++ List.replicate 9 4)).p = 3) := by
  have hl : (s ++ List.replicate 9 (4 : Int)).length = s.length + 9 := by simp
  have e1 : rnK s = tkR s s.length := if_neg (by omega)
  have e2 : rnL s = tkL s s.length := if_neg (by omega)
  have e3 : rnK (s ++ List.replicate 9 4) = tks (tkR s s.length) 9 := by
    unfold rnK; rw [if_neg (by omega), hl]; exact tkR_ticks s 9 9 (Nat.le_refl _)
  have h := tk_iv s s.length
  rw [e1, e2, e3]
  obtain ⟨h0, h1, h2, h3, h4, h5, h6, h7, h8⟩ := h
  refine ⟨by omega, if_neg (by omega), fun hp => ?_, fun hp => ⟨?_, by have := h7 hp; omega⟩, fun hp hq => ?_⟩
  · rw [tks_out (by omega)]; exact hp
  · rw [tks_out (by omega)]; exact hp
  · by_cases h9 : (tkR s s.length).p = 1
    · exact tks_nine (tk_iv s s.length) h9
    · rw [tks_out h9]; omega

end Go.Proofs.Ytejpjbihdclngaa
