/- Proved here: what MoveFleet answers. -/
import Derived.Test.YtgbbigokbbllgaaStM
import Derived.Test.YtgbbigokbbllgaaS2B
import Derived.Test.YtgbbigokbbllgaaOwF
namespace Go.Proofs.Ytgbbigokbbllgaa
open Go.RowKit
set_option linter.unusedVariables false
set_option linter.unusedSimpArgs false

def mfZ (Z : Int) (s t : List Int) : Int := if flF Z s t = 0 then Z else 0
def mfA (Z : Int) (s t : List Int) : List Int := if flF Z s t = 0 then mvA Z s t else []
def mfT (Z : Int) (s t : List Int) : List Int := if flF Z s t = 0 then t else []
def mfM (Z : Int) (s t : List Int) : List Int := if flF Z s t = 0 then mvM Z s t s.length else []
theorem mf_len (Z : Int) (s t : List Int) : (mfA Z s t).length ≤ 1048576 ∧ (mfT Z s t).length ≤ 1048576 ∧ (mfM Z s t).length ≤ 1048576 := by
  unfold mfA mfT mfM
  by_cases h : flF Z s t = 0
  · have ho := flF_ok h
    rw [if_pos h, if_pos h, if_pos h, mvA_len, ho.l]
    have h1 := mvM_len Z s t s.length
    have h2 := ho.m
    have h3 := ho.z
    omega
  · rw [if_neg h, if_neg h, if_neg h]
    simp
theorem is_noneM (w : World) (B : Nat) : IS w B (.slice none 0 0) [] := ⟨rfl, Or.inl ⟨rfl, rfl⟩⟩
theorem owf_none (w : World) (B : Nat) : OwF w B (.slice none 0 0) (.slice none 0 0) (.slice none 0 0) [] [] [] := ⟨⟨is_noneM _ _, is_noneM _ _, fun g h => by cases h⟩, is_noneM _ _, fun g h => by cases h⟩

end Go.Proofs.Ytgbbigokbbllgaa
