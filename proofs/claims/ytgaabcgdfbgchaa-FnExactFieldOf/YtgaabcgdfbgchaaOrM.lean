/- Proved here: the orders of a mask by value (orK, orL). No program. -/
import Derived.Test.YtgaabcgdfbgchaaTuI
namespace Go.Proofs.Ytgaabcgdfbgchaa
set_option linter.unusedVariables false
set_option linter.unusedSimpArgs false

def z0V : Zv := ⟨fv 0, fv 0⟩
/-- The sum over the first x numbers of the mask. -/
def orK (ms : List Zv) (n k : Nat) : Nat → Zv
  | 0 => z0V
  | x + 1 => addV (orK ms n k x) (mulV (ms.getD x z0V) (trV (-prt n (k * x % n))))
def orL (ms : List Zv) : List Zv := (List.range ms.length).map fun k => orK ms ms.length k ms.length
/-- The sums under way. -/
def orS (ms : List Zv) (n k x : Nat) : List Zv := (List.range n).map fun j => if j < k then orK ms n j n else if j = k then orK ms n j x else z0V
theorem orS_len (ms : List Zv) (n k x : Nat) : (orS ms n k x).length = n := by simp [orS]
theorem orS_at {ms : List Zv} {n k x : Nat} (h : k < n) : (orS ms n k x)[k]? = some (orK ms n k x) := by simp [orS, h]
theorem orS_set {ms : List Zv} {n k x : Nat} (h : k < n) : (orS ms n k x).set k (orK ms n k (x + 1)) = orS ms n k (x + 1) := by
  apply List.ext_getElem
  · simp [orS]
  · intro j h1 h2
    simp only [List.getElem_set, orS, List.getElem_map, List.getElem_range]
    by_cases hj : k = j
    · subst hj; simp
    · simp [hj, Ne.symm hj]
theorem orS_next {ms : List Zv} {n k : Nat} : orS ms n k n = orS ms n (k + 1) 0 := by
  apply List.ext_getElem
  · simp [orS]
  · intro j h1 h2
    simp only [orS, List.getElem_map, List.getElem_range]
    by_cases hj : j < k
    · simp [hj, show j < k + 1 by omega]
    · by_cases hj2 : j = k
      · subst hj2; simp
      · simp [hj, hj2, show ¬ j < k + 1 by omega]
        intro _; rfl
theorem orS_zero {ms : List Zv} {n : Nat} : orS ms n 0 0 = List.replicate n z0V := by
  apply List.ext_getElem
  · simp [orS]
  · intro j h1 h2
    simp only [orS, List.getElem_map, List.getElem_range]
    simp
    intro _; rfl
theorem orS_done {ms : List Zv} (x : Nat) : orS ms ms.length ms.length x = orL ms := by
  apply List.ext_getElem
  · simp [orS, orL]
  · intro j h1 h2
    have hj : j < ms.length := by simpa [orS] using h1
    simp [orS, orL, hj]

end Go.Proofs.Ytgaabcgdfbgchaa
