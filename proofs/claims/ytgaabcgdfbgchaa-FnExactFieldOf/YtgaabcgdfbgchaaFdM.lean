/- Proved here: the field of a mask by value (fdK, fdL), and its sums under way. No program. -/
import Derived.Test.YtgaabcgdfbgchaaOrM
import Derived.Test.YtgaabcgdfbgchaaPaI
namespace Go.Proofs.Ytgaabcgdfbgchaa
set_option linter.unusedVariables false
set_option linter.unusedSimpArgs false

/-- The place of an order. -/
def fdP (n : Nat) (sh o : Int) : Nat := ((o - sh) % (n : Int)).toNat
theorem fdP_lt {n : Nat} {sh o : Int} (h : 1 ≤ n) : fdP n sh o < n := by
  unfold fdP
  have h1 := Int.emod_nonneg (o - sh) (show (n : Int) ≠ 0 by omega)
  have h2 := Int.emod_lt_of_pos (o - sh) (show (0 : Int) < (n : Int) by omega)
  omega
theorem fdP_int {n : Nat} {sh o : Int} (h : 1 ≤ n) : (o - sh) % (n : Int) = (fdP n sh o : Int) := by
  unfold fdP
  have h1 := Int.emod_nonneg (o - sh) (show (n : Int) ≠ 0 by omega)
  omega
/-- What passes at an order. -/
def fdV (os : List Zv) (n : Nat) (C F sh : Int) (s : List Int) (o : Int) : Zv := mulV (os.getD (fdP n sh o) z0V) (puV C F s o)
/-- The sum at x over the first t orders. -/
def fdK (os : List Zv) (n : Nat) (C F sh : Int) (s : List Int) (x : Nat) : Nat → Zv
  | 0 => z0V
  | t + 1 => addV (fdK os n C F sh s x t) (mulV (fdV os n C F sh s (-C + (t : Int))) (trV (prt n (fdP n sh (-C + (t : Int)) * x % n))))
/-- The field. -/
def fdL (os : List Zv) (n : Nat) (C F sh : Int) (s : List Int) : List Zv := (List.range n).map fun x => fdK os n C F sh s x (2 * C + 1).toNat
/-- The sums under way: the first x have one more. -/
def fdS (os : List Zv) (n : Nat) (C F sh : Int) (s : List Int) (t x : Nat) : List Zv := (List.range n).map fun j => if j < x then fdK os n C F sh s j (t + 1) else fdK os n C F sh s j t
theorem fdS_at {os : List Zv} {n : Nat} {C F sh : Int} {s : List Int} {t x : Nat} (h : x < n) : (fdS os n C F sh s t x)[x]? = some (fdK os n C F sh s x t) := by simp [fdS, h]
theorem fdS_set {os : List Zv} {n : Nat} {C F sh : Int} {s : List Int} {t x : Nat} (h : x < n) : (fdS os n C F sh s t x).set x (fdK os n C F sh s x (t + 1)) = fdS os n C F sh s t (x + 1) := by
  apply List.ext_getElem
  · simp [fdS]
  · intro j h1 h2
    simp only [List.getElem_set, fdS, List.getElem_map, List.getElem_range]
    by_cases hj : x = j
    · subst hj; simp
    · by_cases hj2 : j < x
      · simp [hj, hj2, show j < x + 1 by omega]
      · simp [hj, hj2, show ¬ j < x + 1 by omega]
theorem fdS_next {os : List Zv} {n : Nat} {C F sh : Int} {s : List Int} {t : Nat} : fdS os n C F sh s t n = fdS os n C F sh s (t + 1) 0 := by
  apply List.ext_getElem
  · simp [fdS]
  · intro j h1 h2
    have hj : j < n := by simpa [fdS] using h1
    simp [fdS, hj]
theorem fdS_zero {os : List Zv} {n : Nat} {C F sh : Int} {s : List Int} : fdS os n C F sh s 0 0 = List.replicate n z0V := by
  apply List.ext_getElem
  · simp [fdS]
  · intro j h1 h2
    simp [fdS, fdK]
theorem fdS_done {os : List Zv} {n : Nat} {C F sh : Int} {s : List Int} : fdS os n C F sh s (2 * C + 1).toNat 0 = fdL os n C F sh s := by
  apply List.ext_getElem
  · simp [fdS, fdL]
  · intro j h1 h2
    simp [fdS, fdL]

end Go.Proofs.Ytgaabcgdfbgchaa
