/- Proved here: what may diffuse is a grid. -/
import Derived.Test.YtpbkoigdfjajkaaDfM
namespace Go.Proofs.Ytpbkoigdfjajkaa
set_option linter.unusedVariables false

theorem DO.gg {n W : Nat} {S : List (List Int)} (h : DO n W S) (hn0 : 0 < n) (hn : n ≤ 16) (hW0 : 0 < W) (hW : W ≤ 16) : GG 256000000 S := by
  have hl := h.sh.len
  have h0 := h.sh.wd 0 hn0
  refine ⟨by omega, by omega, by omega, by omega, fun r hr => ?_, fun r hr x hx => ?_⟩
  · obtain ⟨j, hj, rfl⟩ := List.getElem_of_mem hr
    rw [h0, ← getD_lt (d := []) hj]; exact h.sh.wd j (by omega)
  · obtain ⟨j, hj, rfl⟩ := List.getElem_of_mem hr
    obtain ⟨m, hm, rfl⟩ := List.getElem_of_mem hx
    have hw := h.sh.wd j (by omega)
    rw [getD_lt hj] at hw
    have e : at2 S j m = S[j][m] := by unfold at2; rw [getD_lt hj, getD_lt hm]
    have a1 := h.nn j m (by omega) (by omega)
    have a2 := h.bd (i := j) (k := m) (by omega) (by omega)
    rw [e] at a1 a2
    exact ⟨a1, a2⟩

end Go.Proofs.Ytpbkoigdfjajkaa
