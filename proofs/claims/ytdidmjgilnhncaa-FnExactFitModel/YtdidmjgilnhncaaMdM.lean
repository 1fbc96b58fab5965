/- Proved here: models: their fault, what is predicted at a place. No condition on the program. -/
import Derived.Test.YtdidmjgilnhncaaFqM
namespace Go.Proofs.Ytdidmjgilnhncaa
open Go.RowKit
set_option linter.unusedVariables false
set_option linter.unusedSimpArgs false

/-- A model. -/
structure Mdl where
  sx : Fr
  sy : Fr
  k : Fr
  r : Fr
def okM (m : Mdl) : Bool := okR m.sx && okR m.sy && okR m.k && okR m.r
def mdF (m : Mdl) : Int := if okM m then 0 else 1
theorem mdF_ok {m : Mdl} (h : mdF m = 0) : okR m.sx = true ∧ okR m.sy = true ∧ okR m.k = true ∧ okR m.r = true := by
  unfold mdF at h
  cases ho : okM m with
  | false => rw [ho] at h; exact absurd h (by decide)
  | true =>
    unfold okM at ho
    simp only [Bool.and_eq_true] at ho
    exact ⟨ho.1.1.1, ho.1.1.2, ho.1.2, ho.2⟩
/-- A code and two fractions. -/
structure PR where
  c : Int
  x : Fr
  y : Fr
theorem whole_neg (n : Int) : whole (-n) = (whole n).neg := rfl
def paL (m : Mdl) (x y : Int) : List QR := [muQ m.k (whole x), muQ m.r (whole (-y))]
def puL (m : Mdl) (x y : Int) : List QR := [muQ m.r (whole x), muQ m.k (whole y)]
def paQ (m : Mdl) (x y : Int) : QR := sumA m.sx (paL m x y)
def puQ (m : Mdl) (x y : Int) : QR := sumA m.sy (puL m x y)
theorem paQ_spec (m : Mdl) (x y : Int) : paQ m x y = adA (adA (startQ m.sx) (muQ m.k (whole x))) (muQ m.r (whole y)).neg := by
  unfold paQ paL sumA
  rw [whole_neg, muQ_neg]; rfl
theorem puQ_spec (m : Mdl) (x y : Int) : puQ m x y = adA (adA (startQ m.sy) (muQ m.r (whole x))) (muQ m.k (whole y)) := rfl
def inP (x y : Int) : Bool := decide (-1000 ≤ x ∧ x ≤ 1000) && decide (-1000 ≤ y ∧ y ≤ 1000)
def fr0 : Fr := ⟨0, 0⟩
def prV (m : Mdl) (x y : Int) : PR :=
  if mdF m ≠ 0 then ⟨mdF m, fr0, fr0⟩ else if inP x y = false then ⟨3, fr0, fr0⟩ else
  if (paQ m x y).c ≠ 0 then ⟨(paQ m x y).c, fr0, fr0⟩ else if (puQ m x y).c ≠ 0 then ⟨(puQ m x y).c, fr0, fr0⟩ else ⟨0, (paQ m x y).fr, (puQ m x y).fr⟩

end Go.Proofs.Ytdidmjgilnhncaa
