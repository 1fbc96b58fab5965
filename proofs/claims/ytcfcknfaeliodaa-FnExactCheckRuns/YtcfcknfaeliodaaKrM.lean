/- Whether a log has approved runs alone: small facts. -/
import Derived.Test.YtcfcknfaeliodaaTfM
import Derived.Test.YtcfcknfaeliodaaS2B
namespace Go.Proofs.Ytcfcknfaeliodaa
open Go.ChangeShapes Go.WideShapes Go.ChangeAt Go.RowKit Go.Joins
set_option linter.unusedVariables false
set_option linter.unusedSimpArgs false

def crB (C A : Int) (R : ByteArray) (S U L : Int) (Q : Bool) (s rs : List Ap) : Bool := decide (C = 0) && (decide (tlF A R S U L Q s = 0) && rs.all fun x => apB s x.nm x.su)
theorem all_true {s rs : List Ap} (h : ∀ j (h : j < rs.length), apB s rs[j].nm rs[j].su = true) : (rs.all fun x => apB s x.nm x.su) = true := by
  rw [List.all_eq_true]
  intro x hx
  obtain ⟨j, hj, rfl⟩ := List.getElem_of_mem hx
  exact h j hj
theorem all_false {s rs : List Ap} {j : Nat} (hj : j < rs.length) (h : apB s rs[j].nm rs[j].su = false) : (rs.all fun x => apB s x.nm x.su) = false := by
  rw [List.all_eq_false]
  exact ⟨rs[j], List.getElem_mem hj, by rw [h]; simp⟩
theorem kr_ten {w : World} {k : Nat} {a b c d e f g h i j : Value} {T : TypeId} (H : w.heap[k]? = some (.cells #[a, b, c, d, e, f, g, h, i, j] T)) :
    w.cell? ⟨k, 0, none⟩ = some a ∧ w.cell? ⟨k, 9, none⟩ = some j ∧ k < w.heap.size := ⟨cellOf H 0 rfl, cellOf H 9 rfl, ltOf H⟩

end Go.Proofs.Ytcfcknfaeliodaa
