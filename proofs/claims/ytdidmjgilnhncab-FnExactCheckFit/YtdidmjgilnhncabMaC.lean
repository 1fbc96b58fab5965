/- Proved here: marks: their cells. (And ahead of it: Proved here: small rules on blocks of five and of eight cells.) (And ahead of it: Proved here: models: their fault, what is predicted at a place. No condition on the program.) -/
import Derived.Test.YtdidmjgilnhncabFqM
import Derived.Test.YtdidmjgilnhncabLwS
import Derived.Test.YtdidmjgilnhncabGen
namespace Go.Proofs.Ytdidmjgilnhncab
open Go.RowKit
set_option linter.unusedVariables false
set_option linter.unusedSimpArgs false

/-- A model. -/
structure Mdl where
  sx : Fr
  sy : Fr
  k : Fr
  r : Fr
def okM (m : Mdl) : Bool := okR m.sx && okR m.sy && okR m.k && okR m.r
def mdF (m : Mdl) : Int := if okM m then 0 else 1
theorem mdF_ok {m : Mdl} (h : mdF m = 0) : okR m.sx = true ∧ okR m.sy = true ∧ okR m.k = true ∧ okR m.r = true := by
  unfold mdF at h
  cases ho : okM m with
  | false => rw [ho] at h; exact absurd h (by decide)
  | true =>
    unfold okM at ho
    simp only [Bool.and_eq_true] at ho
    exact ⟨ho.1.1.1, ho.1.1.2, ho.1.2, ho.2⟩
/-- A code and two fractions. -/
structure PR where
  c : Int
  x : Fr
  y : Fr
theorem whole_neg (n : Int) : whole (-n) = (whole n).neg := rfl
def paL (m : Mdl) (x y : Int) : List QR := [muQ m.k (whole x), muQ m.r (whole (-y))]
def puL (m : Mdl) (x y : Int) : List QR := [muQ m.r (whole x), muQ m.k (whole y)]
def paQ (m : Mdl) (x y : Int) : QR := sumA m.sx (paL m x y)
def puQ (m : Mdl) (x y : Int) : QR := sumA m.sy (puL m x y)
theorem paQ_spec (m : Mdl) (x y : Int) : paQ m x y = adA (adA (startQ m.sx) (muQ m.k (whole x))) (muQ m.r (whole y)).neg := by
  unfold paQ paL sumA
  rw [whole_neg, muQ_neg]; rfl
theorem puQ_spec (m : Mdl) (x y : Int) : puQ m x y = adA (adA (startQ m.sy) (muQ m.r (whole x))) (muQ m.k (whole y)) := rfl
def inP (x y : Int) : Bool := decide (-1000 ≤ x ∧ x ≤ 1000) && decide (-1000 ≤ y ∧ y ≤ 1000)
def fr0 : Fr := ⟨0, 0⟩
def prV (m : Mdl) (x y : Int) : PR :=
  if mdF m ≠ 0 then ⟨mdF m, fr0, fr0⟩ else if inP x y = false then ⟨3, fr0, fr0⟩ else
  if (paQ m x y).c ≠ 0 then ⟨(paQ m x y).c, fr0, fr0⟩ else if (puQ m x y).c ≠ 0 then ⟨(puQ m x y).c, fr0, fr0⟩ else ⟨0, (paQ m x y).fr, (puQ m x y).fr⟩

end Go.Proofs.Ytdidmjgilnhncab

namespace Go.Proofs.Ytdidmjgilnhncab
open Go.RowKit
set_option linter.unusedVariables false
set_option linter.unusedSimpArgs false

theorem five_c {w : World} {k : Nat} {a b c d e : Value} {T : TypeId} (h : w.heap[k]? = some (.cells #[a, b, c, d, e] T)) :
    w.cell? ⟨k, 0, none⟩ = some a ∧ w.cell? ⟨k, 1, none⟩ = some b ∧ w.cell? ⟨k, 2, none⟩ = some c ∧ w.cell? ⟨k, 3, none⟩ = some d ∧ w.cell? ⟨k, 4, none⟩ = some e ∧ w.frozen? ⟨k, 0, none⟩ = false ∧ w.frozen? ⟨k, 1, none⟩ = false ∧ w.frozen? ⟨k, 2, none⟩ = false ∧ w.frozen? ⟨k, 3, none⟩ = false ∧ w.frozen? ⟨k, 4, none⟩ = false ∧ k < w.heap.size :=
  ⟨cellOf h 0 rfl, cellOf h 1 rfl, cellOf h 2 rfl, cellOf h 3 rfl, cellOf h 4 rfl, frozOf h 0, frozOf h 1, frozOf h 2, frozOf h 3, frozOf h 4, ltOf h⟩
theorem eight_c {w : World} {k : Nat} {a b c d e f g h : Value} {T : TypeId} (hh : w.heap[k]? = some (.cells #[a, b, c, d, e, f, g, h] T)) :
    w.cell? ⟨k, 0, none⟩ = some a ∧ w.cell? ⟨k, 1, none⟩ = some b ∧ w.cell? ⟨k, 2, none⟩ = some c ∧ w.cell? ⟨k, 3, none⟩ = some d ∧ w.cell? ⟨k, 4, none⟩ = some e ∧ w.cell? ⟨k, 5, none⟩ = some f ∧ w.cell? ⟨k, 6, none⟩ = some g ∧ w.cell? ⟨k, 7, none⟩ = some h ∧ k < w.heap.size :=
  ⟨cellOf hh 0 rfl, cellOf hh 1 rfl, cellOf hh 2 rfl, cellOf hh 3 rfl, cellOf hh 4 rfl, cellOf hh 5 rfl, cellOf hh 6 rfl, cellOf hh 7 rfl, ltOf hh⟩

theorem prV_md {m : Mdl} {x y : Int} (h : mdF m ≠ 0) : prV m x y = ⟨mdF m, fr0, fr0⟩ := by unfold prV; rw [if_pos h]
theorem prV_out {m : Mdl} {x y : Int} (h : mdF m = 0) (hi : inP x y = false) : prV m x y = ⟨3, fr0, fr0⟩ := by
  unfold prV; rw [if_neg (by simpa using h), if_pos hi]
theorem prV_a {m : Mdl} {x y : Int} (h : mdF m = 0) (hi : inP x y = true) (ha : (paQ m x y).c ≠ 0) : prV m x y = ⟨(paQ m x y).c, fr0, fr0⟩ := by
  unfold prV; rw [if_neg (by simpa using h), if_neg (by rw [hi]; decide), if_pos ha]
theorem prV_u {m : Mdl} {x y : Int} (h : mdF m = 0) (hi : inP x y = true) (ha : (paQ m x y).c = 0) (hu : (puQ m x y).c ≠ 0) : prV m x y = ⟨(puQ m x y).c, fr0, fr0⟩ := by
  unfold prV; rw [if_neg (by simpa using h), if_neg (by rw [hi]; decide), if_neg (by simpa using ha), if_pos hu]
theorem prV_ok {m : Mdl} {x y : Int} (h : mdF m = 0) (hi : inP x y = true) (ha : (paQ m x y).c = 0) (hu : (puQ m x y).c = 0) : prV m x y = ⟨0, (paQ m x y).fr, (puQ m x y).fr⟩ := by
  unfold prV; rw [if_neg (by simpa using h), if_neg (by rw [hi]; decide), if_neg (by simpa using ha), if_neg (by simpa using hu)]

end Go.Proofs.Ytdidmjgilnhncab

namespace Go.Proofs.Ytdidmjgilnhncab
open Go.RowKit
set_option linter.unusedVariables false
set_option linter.unusedSimpArgs false

/-- A mark. -/
structure Mrk where
  x : Int
  y : Int
  dx : Int
  dy : Int

def maC (x : Mrk) : List Value := [.int .i64 x.x, .int .i64 x.y, .int .i64 x.dx, .int .i64 x.dy]
theorem maC_len (x : Mrk) : (maC x).length = 4 := rfl
theorem maC_one (x : Mrk) : ∀ u ∈ maC x, u.oneCell' = true := by
  intro u hu
  simp only [maC, List.mem_cons, List.not_mem_nil, or_false] at hu
  rcases hu with rfl | rfl | rfl | rfl <;> rfl
theorem info_Mark : (Try.prog.info? 75).map (fun i => (i.zero, i.size, i.bytes)) = some (some (.agg #[.int .i64 0, .int .i64 0, .int .i64 0, .int .i64 0]), 4, 32) := by kernel_rfl
/-- The cells of an element, one by one. -/
theorem maC_at {w : World} {g o : Nat} {x : Mrk} (h : ∀ i, i < 4 → w.cell? ⟨g, o + i, none⟩ = (maC x)[i]?) : w.cell? ⟨g, o, none⟩ = some (.int .i64 x.x) ∧ w.cell? ⟨g, o + 1, none⟩ = some (.int .i64 x.y) ∧ w.cell? ⟨g, o + 2, none⟩ = some (.int .i64 x.dx) ∧ w.cell? ⟨g, o + 3, none⟩ = some (.int .i64 x.dy) :=
  ⟨h 0 (by omega), h 1 (by omega), h 2 (by omega), h 3 (by omega)⟩

end Go.Proofs.Ytdidmjgilnhncab
