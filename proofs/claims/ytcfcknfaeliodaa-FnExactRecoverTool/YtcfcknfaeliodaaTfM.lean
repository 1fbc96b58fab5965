/- The fault of a tool, as a function of it. Arithmetic alone. -/
import Derived.Test.YtcfcknfaeliodaaAtL
import Derived.Test.YtcfcknfaeliodaaTiM
import Derived.Test.YtcfcknfaeliodaaNmFault
import Derived.Test.YtcfcknfaeliodaaNlJ
namespace Go.Proofs.Ytcfcknfaeliodaa
open Go.ChangeShapes Go.WideShapes Go.ChangeAt Go.RowKit Go.Joins
set_option linter.unusedVariables false
set_option linter.unusedSimpArgs false

def apD : Ap := ⟨⟨#[]⟩, 0⟩
/-- What is wrong with the approval k. -/
def apF (s : List Ap) (k : Nat) : Int := if nameK (s.getD k apD).nm ≠ 0 then nameK (s.getD k apD).nm else if 0 ≤ atL ((s.take k).map (·.nm)) (s.getD k apD).nm then 1 else 0
/-- What is kept behind a loss of power: its fault. -/
def kpF (U L : Int) (s : List Ap) : Int := if ¬ (1 ≤ L ∧ L ≤ 1000) ∨ ¬ (0 ≤ U ∧ U ≤ L) then 3 else if 20 < s.length then 2 else fnz (apF s) s.length
/-- Does all else fit the state? -/
def fsB (A : Int) (R : ByteArray) (S U L : Int) (Q : Bool) (s : List Ap) : Bool :=
  if A = 2 then Q && apB s R S else if A = 3 then (Q && apB s R S) && decide (U < L) else decide (R = ⟨#[]⟩) && decide (S = 0)
def tlF (A : Int) (R : ByteArray) (S U L : Int) (Q : Bool) (s : List Ap) : Int :=
  if ¬ (0 ≤ A ∧ A ≤ 6) then 1 else if kpF U L s ≠ 0 then kpF U L s else if fsB A R S U L Q s = true then 0 else 1
theorem getA {s : List Ap} {k : Nat} (h : k < s.length) : s.getD k apD = s[k] := by rw [List.getD_eq_getElem?_getD, List.getElem?_eq_getElem h]; rfl
theorem kpF_le {U L : Int} {s : List Ap} (h : kpF U L s = 0) : U ≤ L ∧ s.length ≤ 20 := by
  unfold kpF at h
  by_cases h1 : ¬ (1 ≤ L ∧ L ≤ 1000) ∨ ¬ (0 ≤ U ∧ U ≤ L)
  · rw [if_pos h1] at h; cases h
  · rw [if_neg h1] at h
    by_cases h2 : 20 < s.length
    · rw [if_pos h2] at h; cases h
    · have h3 : 0 ≤ U ∧ U ≤ L := Decidable.byContradiction fun e => h1 (Or.inr e)
      omega
theorem tf_seven {w : World} {k : Nat} {a b c d e f g : Value} {T : TypeId} (h : w.heap[k]? = some (.cells #[a, b, c, d, e, f, g] T)) :
    w.cell? ⟨k, 0, none⟩ = some a ∧ w.cell? ⟨k, 1, none⟩ = some b ∧ w.cell? ⟨k, 2, none⟩ = some c ∧ w.cell? ⟨k, 3, none⟩ = some d ∧ w.cell? ⟨k, 4, none⟩ = some e ∧ w.cell? ⟨k, 5, none⟩ = some f ∧ w.cell? ⟨k, 6, none⟩ = some g ∧ k < w.heap.size := by
  refine ⟨by simp [World.cell?, h], by simp [World.cell?, h], by simp [World.cell?, h], by simp [World.cell?, h], by simp [World.cell?, h], by simp [World.cell?, h], by simp [World.cell?, h], ?_⟩
  rcases Nat.lt_or_ge k w.heap.size with h' | h'
  · exact h'
  · rw [Array.getElem?_eq_none h'] at h; cases h

end Go.Proofs.Ytcfcknfaeliodaa
