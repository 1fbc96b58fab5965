/- Proved here: what UrgesOf answers. -/
import Derived.Test.YtgbbigokbbllgaaFzM
import Derived.Test.YtgbbigokbbllgaaS2B
namespace Go.Proofs.Ytgbbigokbbllgaa
open Go.RowKit
set_option linter.unusedVariables false
set_option linter.unusedSimpArgs false

def uoL (Z : Int) (s t : List Int) : List Int := if flF Z s t = 0 then urL Z s t else []
theorem uoL_len (Z : Int) (s t : List Int) : (uoL Z s t).length ≤ 30 := by
  unfold uoL
  split
  · rename_i h
    have ho := flF_ok h
    rw [urL_len]
    have := ho.m; have := ho.z; omega
  · simp
theorem is_none (w : World) (B : Nat) : IS w B (.slice none 0 0) [] := ⟨rfl, Or.inl ⟨rfl, rfl⟩⟩

end Go.Proofs.Ytgbbigokbbllgaa
