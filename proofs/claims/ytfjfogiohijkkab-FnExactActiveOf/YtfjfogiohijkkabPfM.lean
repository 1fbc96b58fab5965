/- Proved here: the arithmetic of profiles: their fault, what depths are. No condition. -/
import Derived.Test.YtfjfogiohijkkabGen
namespace Go.Proofs.Ytfjfogiohijkkab
open Go.RowKit
set_option linter.unusedVariables false

def inA (x : Int) : Bool := decide (0 ≤ x ∧ x ≤ 1000000000)
/-- A profile's fault. -/
def pfC (s : List Int) (o : Int) : Int := if s.length = 0 then 1 else if 40 < s.length then 2 else if s.all inA = true ∧ inA o = true then 0 else 3
theorem pfC_0 {s : List Int} {o : Int} (h : s.length = 0) : pfC s o = 1 := by rw [pfC, if_pos h]
theorem pfC_many {s : List Int} {o : Int} (h : 40 < s.length) : pfC s o = 2 := by rw [pfC, if_neg (by omega), if_pos h]
theorem pfC_at {s : List Int} {o : Int} (h0 : s.length ≠ 0) (h1 : ¬ 40 < s.length) {i : Nat} (hi : i < s.length) (h : inA (s.getD i 0) = false) : pfC s o = 3 := by
  rw [pfC, if_neg h0, if_neg h1, if_neg]
  rintro ⟨h2, _⟩
  have := List.all_eq_true.1 h2 _ (List.getElem_mem hi)
  rw [show s.getD i 0 = s[i] from by simp [List.getD, hi]] at h
  rw [h] at this; cases this
theorem pfC_out {s : List Int} {o : Int} (h0 : s.length ≠ 0) (h1 : ¬ 40 < s.length) (h : inA o = false) : pfC s o = 3 := by
  rw [pfC, if_neg h0, if_neg h1, if_neg]
  rintro ⟨_, h2⟩
  rw [h] at h2; cases h2
theorem pfC_good {s : List Int} {o : Int} (h0 : s.length ≠ 0) (h1 : ¬ 40 < s.length) (h : ∀ i, i < s.length → inA (s.getD i 0) = true) (h2 : inA o = true) : pfC s o = 0 := by
  rw [pfC, if_neg h0, if_neg h1, if_pos]
  refine ⟨List.all_eq_true.2 fun x hx => ?_, h2⟩
  obtain ⟨i, hi, rfl⟩ := List.getElem_of_mem hx
  have := h i hi
  rwa [show s.getD i 0 = s[i] from by simp [List.getD, hi]] at this
structure PG (s : List Int) (o : Int) : Prop where
  pos : 0 < s.length
  len : s.length ≤ 40
  c : ∀ i, 0 ≤ s.getD i 0 ∧ s.getD i 0 ≤ 1000000000
  o0 : 0 ≤ o ∧ o ≤ 1000000000
theorem pfC_ok {s : List Int} {o : Int} (h : pfC s o = 0) : PG s o := by
  unfold pfC at h
  split at h
  · omega
  split at h
  · omega
  split at h
  · rename_i h1 h2 h3
    refine ⟨by omega, by omega, fun i => ?_, by have := h3.2; unfold inA at this; simpa using this⟩
    by_cases hi : i < s.length
    · have := List.all_eq_true.1 h3.1 _ (List.getElem_mem hi)
      rw [show s.getD i 0 = s[i] from by simp [List.getD, hi]]
      unfold inA at this; simpa using this
    · rw [show s.getD i 0 = 0 from by simp [List.getD, List.getElem?_eq_none (show s.length ≤ i by omega)]]; omega
  · omega

/-- A cell of a profile with its depth. -/
def Dp (s : List Int) : Type := { p : Nat × Int // p.1 < s.length ∧ p.2 = s.getD p.1 0 }
def dpE {s : List Int} (x : Dp s) : Array Value := #[.int .i64 (x.1.1 : Int), .int .i64 x.1.2]
/-- The first k cells. -/
def dpL (s : List Int) (k : Nat) : List (Dp s) := (List.range k).filterMap fun q => if h : q < s.length then some ⟨(q, s.getD q 0), h, rfl⟩ else none
theorem dpL_zero (s : List Int) : dpL s 0 = [] := rfl
theorem dpL_succ {s : List Int} {k : Nat} (h : k < s.length) : dpL s (k + 1) = dpL s k ++ [⟨(k, s.getD k 0), h, rfl⟩] := by
  unfold dpL
  rw [List.range_succ, List.filterMap_append]
  congr 1
  simp only [List.filterMap_cons, List.filterMap_nil]
  rw [dif_pos h]
theorem dpL_len {s : List Int} {k : Nat} (h : k ≤ s.length) : (dpL s k).length = k := by
  induction k with
  | zero => rfl
  | succ k ih => rw [dpL_succ (by omega), List.length_append, ih (by omega)]; rfl
theorem dpL_mem {s : List Int} {k : Nat} (h : k < s.length) : (⟨(k, s.getD k 0), h, rfl⟩ : Dp s) ∈ dpL s s.length := by
  exact List.mem_filterMap.2 ⟨k, List.mem_range.2 h, dif_pos h⟩
/-- What is answered: nothing beside a code. -/
def tdL (C : Int) (L : List Int) : List Int := if C = 0 then L else []
def tdO (C O : Int) : Int := if C = 0 then O else 0
theorem tdL_le {C : Int} {L : List Int} {m : Nat} (h : L.length ≤ m) : (tdL C L).length ≤ m := by
  unfold tdL; split
  · exact h
  · exact Nat.zero_le _

end Go.Proofs.Ytfjfogiohijkkab
