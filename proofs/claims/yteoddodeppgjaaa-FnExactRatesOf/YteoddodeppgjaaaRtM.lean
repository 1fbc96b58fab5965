/- Proved here: the faults of a table (tbF), and rates out of it (rtC, rtL). -/
import Derived.Test.YteoddodeppgjaaaCgM
namespace Go.Proofs.Yteoddodeppgjaaa
open Go.RowKit
set_option linter.unusedVariables false
set_option linter.unusedSimpArgs false

def tbF (s : List Int) : Int := if s.length = 0 then 1 else if 64 < s.length then 2 else if inR 1000000 s = true then 0 else 3
theorem tbF_good {s : List Int} (h : tbF s = 0) : 0 < s.length ∧ s.length ≤ 64 := by
  unfold tbF at h
  split at h
  · cases h
  · split at h
    · cases h
    · omega
def rtT (s : List Int) (x : Int) : Int := s.getD (min x.toNat (s.length - 1)) 0
def rtC (ls : List (List Int)) (s : List Int) : Int := if gfC ls 1000000 = 0 then tbF s else gfC ls 1000000
def rtL (ls : List (List Int)) (s : List Int) : List (List Int) := if rtC ls s = 0 then tnL (rtT s) ls else []
theorem rtL_sm (ls : List (List Int)) (s : List Int) (h : SmR ls) : SmR (rtL ls s) := by
  unfold rtL; split
  · exact tnL_sm h
  · exact nil_sm
theorem rtC_good {ls : List (List Int)} {s : List Int} (h : rtC ls s = 0) : gfC ls 1000000 = 0 ∧ tbF s = 0 := by
  unfold rtC at h
  split at h
  · rename_i h1; exact ⟨h1, h⟩
  · rename_i h1; exact absurd h h1

end Go.Proofs.Yteoddodeppgjaaa
