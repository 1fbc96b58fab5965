/- Proved here: talks: what a step makes of one; the arithmetic alone. -/
import Derived.Test.YtejpjbihdclngaaUnd
import Derived.Test.YtejpjbihdclngaaLwS
namespace Go.Proofs.Ytejpjbihdclngaa
open Go.RowKit
set_option linter.unusedVariables false
set_option linter.unusedSimpArgs false

/-- A talk: phase, tries, wait. -/
structure Tk where
  p : Int
  t : Int
  w : Int
/-- It is said again, or has failed. -/
def tkA (k : Tk) : Tk × Bool := if 3 ≤ k.t then (⟨3, k.t, k.w⟩, false) else (⟨k.p, k.t + 1, 0⟩, true)
/-- A step. -/
def tkN (k : Tk) (e : Int) : Tk × Bool :=
  if k.p = 0 ∧ e = 1 then (⟨1, 1, 0⟩, true) else if k.p ≠ 1 then (k, false) else if e = 2 then (⟨2, k.t, k.w⟩, false) else if e = 3 then tkA k else if e = 4 then (if k.w < 2 then (⟨k.p, k.t, k.w + 1⟩, false) else tkA k) else (k, false)
theorem tkA_f {p t w : Int} (h : 3 ≤ t) : tkA ⟨p, t, w⟩ = (⟨3, t, w⟩, false) := if_pos h
theorem tkA_s {p t w : Int} (h : ¬ 3 ≤ t) : tkA ⟨p, t, w⟩ = (⟨p, t + 1, 0⟩, true) := if_neg h
theorem tkN_0 {p t w e : Int} (h : p = 0 ∧ e = 1) : tkN ⟨p, t, w⟩ e = (⟨1, 1, 0⟩, true) := if_pos h
theorem tkN_1 {p t w e : Int} (h : ¬ (p = 0 ∧ e = 1)) (h1 : p ≠ 1) : tkN ⟨p, t, w⟩ e = (⟨p, t, w⟩, false) := by unfold tkN; rw [if_neg h, if_pos h1]
theorem tkN_2 {t w : Int} : tkN ⟨1, t, w⟩ 2 = (⟨2, t, w⟩, false) := by unfold tkN; rw [if_neg (by simp), if_neg (by simp), if_pos rfl]
theorem tkN_3 {t w : Int} : tkN ⟨1, t, w⟩ 3 = tkA ⟨1, t, w⟩ := by unfold tkN; rw [if_neg (by simp), if_neg (by simp), if_neg (by decide), if_pos rfl]
theorem tkN_4 {t w : Int} (h : w < 2) : tkN ⟨1, t, w⟩ 4 = (⟨1, t, w + 1⟩, false) := by unfold tkN; rw [if_neg (by simp), if_neg (by simp), if_neg (by decide), if_neg (by decide), if_pos rfl, if_pos h]
theorem tkN_5 {t w : Int} (h : ¬ w < 2) : tkN ⟨1, t, w⟩ 4 = tkA ⟨1, t, w⟩ := by unfold tkN; rw [if_neg (by simp), if_neg (by simp), if_neg (by decide), if_neg (by decide), if_pos rfl, if_neg h]
theorem tkN_6 {t w e : Int} (h2 : e ≠ 2) (h3 : e ≠ 3) (h4 : e ≠ 4) : tkN ⟨1, t, w⟩ e = (⟨1, t, w⟩, false) := by unfold tkN; rw [if_neg (by simp), if_neg (by simp), if_neg h2, if_neg h3, if_neg h4]
/-- What may come about from the talk zero on. -/
def TkOk (k : Tk) : Prop := 0 ≤ k.p ∧ k.p ≤ 3 ∧ 0 ≤ k.t ∧ k.t ≤ 3 ∧ 0 ≤ k.w ∧ k.w ≤ 2
theorem tkA_ok {k : Tk} (h : TkOk k) : TkOk (tkA k).1 := by
  unfold tkA TkOk at *
  split <;> simp only [] <;> omega
theorem tkN_ok {k : Tk} (h : TkOk k) (e : Int) : TkOk (tkN k e).1 := by
  unfold tkN
  split
  · unfold TkOk; simp
  split
  · exact h
  split
  · unfold TkOk at *; simp only []; omega
  split
  · exact tkA_ok h
  split
  · split
    · unfold TkOk at *; simp only []; omega
    · exact tkA_ok h
  · exact h

end Go.Proofs.Ytejpjbihdclngaa
