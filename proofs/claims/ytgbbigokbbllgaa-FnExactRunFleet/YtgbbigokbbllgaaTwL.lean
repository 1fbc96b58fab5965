/- Proved here: marking one list of numbers turns its own block alone. -/
import Derived.Test.YtgbbigokbbllgaaTwA
import Derived.Test.YtgbbigokbbllgaaMkI
namespace Go.Proofs.Ytgbbigokbbllgaa
open Go.RowKit
set_option linter.unusedVariables false
set_option linter.unusedSimpArgs false

/-- Marking a list turns nothing but its own block. -/
theorem markI_on {w : World} {B n : Nat} {v : Value} {ys : List Value} (z : Int) (hn : n ≤ 1048576) (hz0 : 0 ≤ z) (hz1 : z ≤ 1000000000000) (h : w.ownsRow B 2 1 v n ys) :
    Calls Try.prog 51 #[v, .int .i64 z] w fun e w' => e = .returned (.int .i64 (z + (n : Int))) ∧ w'.ownsRow B 2 1 v n (mkV z n) ∧ (w' = w ∨ ∃ g, v.ownBlock = some g ∧ Only g w w') := by
  rcases h.2 with ⟨rfl, rfl⟩ | ⟨g, cap, cur, rfl, hB, _⟩
  · refine (markInt64S_zero none 0 z w).mono ?_
    rintro e w' ⟨rfl, rfl⟩
    refine ⟨by simp, ?_, Or.inl rfl⟩
    have e : ys = [] := List.length_eq_zero_iff.1 (by have := h.1; omega)
    rw [e] at h
    simpa [mkV] using h
  · refine (markInt64S_pos g cap n B ys z w hn hz0 hz1 h).mono ?_
    rintro e w' ⟨rfl, h1, h2⟩
    exact ⟨rfl, h1, Or.inr ⟨g, rfl, h2⟩⟩

end Go.Proofs.Ytgbbigokbbllgaa
