/- Proved here: plain facts on the row of seeds and coins, over Lean's own integers. -/
namespace Go.Proofs.Ytfjfogiohijkkaa

def cstep (s : Int) : Int := s * 48271 % 2147483647
def seedK (s : Int) : Nat → Int
  | 0 => s
  | k + 1 => cstep (seedK s k)
def coin (s m : Int) : Int := s / 64 % m
def coinsK (s m : Int) (k : Nat) : List Int := (List.range k).map fun i : Nat => coin (seedK s (i + 1)) m

theorem cstep_bd (s : Int) : 0 ≤ cstep s ∧ cstep s ≤ 2147483646 := by unfold cstep; omega
theorem seedK_bd (s : Int) (h0 : 0 ≤ s) (h1 : s ≤ 2147483646) : ∀ k, 0 ≤ seedK s k ∧ seedK s k ≤ 2147483646
  | 0 => ⟨h0, h1⟩
  | _ + 1 => cstep_bd _
theorem coinsK_length (s m : Int) (k : Nat) : (coinsK s m k).length = k := by simp [coinsK]
theorem coinsK_succ (s m : Int) (k : Nat) : coinsK s m (k + 1) = coinsK s m k ++ [coin (cstep (seedK s k)) m] := by
  simp [coinsK, List.range_succ, seedK]

end Go.Proofs.Ytfjfogiohijkkaa
