/- Proved here: the fault of defects as a number. -/
import Derived.Test.YtngpjglcjbdblaaVdC
namespace Go.Proofs.Ytngpjglcjbdblaa
open Go.RowKit
set_option linter.unusedVariables false
set_option linter.unusedSimpArgs false

def vdR (a b c d : Bool) : Int := if a && b && c then (if d then 0 else 1) else 3
/-- The fault of one defect. -/
def vdO (d : Dft) : Int := vdR (decide (0 ≤ d.x ∧ d.x ≤ 10000)) (decide (0 ≤ d.y ∧ d.y ≤ 10000)) (decide (1 ≤ d.z ∧ d.z ≤ 1000)) (decide (0 ≤ d.k ∧ d.k ≤ 9))
def vdG : List Dft → Int
  | [] => 0
  | d :: t => if vdO d = 0 then vdG t else vdO d
/-- The fault of a list of defects. -/
def vdF (s : List Dft) : Int := if 60 < s.length then 2 else vdG s
theorem vdG_step {s : List Dft} {k : Nat} (h : k < s.length) : vdG (s.drop k) = if vdO s[k] = 0 then vdG (s.drop (k + 1)) else vdO s[k] := by
  rw [List.drop_eq_getElem_cons h, vdG]
/-- A defect without a fault. -/
def Vok (d : Dft) : Prop := 0 ≤ d.x ∧ d.x ≤ 10000 ∧ 0 ≤ d.y ∧ d.y ≤ 10000 ∧ 1 ≤ d.z ∧ d.z ≤ 1000 ∧ 0 ≤ d.k ∧ d.k ≤ 9
theorem vdO_ok {d : Dft} (h : vdO d = 0) : Vok d := by
  unfold vdO vdR at h
  unfold Vok
  by_cases h1 : 0 ≤ d.x ∧ d.x ≤ 10000 <;> by_cases h2 : 0 ≤ d.y ∧ d.y ≤ 10000 <;> by_cases h3 : 1 ≤ d.z ∧ d.z ≤ 1000 <;> by_cases h4 : 0 ≤ d.k ∧ d.k ≤ 9 <;> simp [h1, h2, h3, h4] at h ⊢
theorem vdG_ok : ∀ {s : List Dft}, vdG s = 0 → ∀ d ∈ s, Vok d
  | [], _, d, hd => by simp at hd
  | a :: t, h, d, hd => by
    rw [vdG] at h
    by_cases h0 : vdO a = 0
    · rw [if_pos h0] at h
      rcases List.mem_cons.1 hd with rfl | h1
      · exact vdO_ok h0
      · exact vdG_ok h d h1
    · rw [if_neg h0] at h
      exact absurd h h0
theorem vdF_ok {s : List Dft} (h : vdF s = 0) : s.length ≤ 60 ∧ ∀ d ∈ s, Vok d := by
  unfold vdF at h
  by_cases h1 : 60 < s.length
  · rw [if_pos h1] at h; omega
  · rw [if_neg h1] at h
    exact ⟨by omega, vdG_ok h⟩

end Go.Proofs.Ytngpjglcjbdblaa
