/- Proved here: what ToolAct answers. -/
import Derived.Test.YtkacfjbhkgdpdaaTaM
namespace Go.Proofs.Ytkacfjbhkgdpdaa
open Go.RowKit
set_option linter.unusedVariables false
set_option linter.unusedSimpArgs false

def tzC (A : Int) (R : ByteArray) (S U L : Int) (Q : Bool) (s : List Ap) (k : Int) (er : ByteArray) (es : Int) : Int := if tlF A R S U L Q s ≠ 0 then tlF A R S U L Q s else taC A U L Q k (apB s er es)
theorem tl_zero {A : Int} {R : ByteArray} {S U L : Int} {Q : Bool} {s : List Ap} (h : tlF A R S U L Q s = 0) : (0 ≤ A ∧ A ≤ 6) ∧ kpF U L s = 0 ∧ (0 ≤ U ∧ U ≤ 1000) ∧ s.length ≤ 20 ∧ fsB A R S U L Q s = true := by
  unfold tlF at h
  by_cases h1 : 0 ≤ A ∧ A ≤ 6
  · rw [if_neg (fun e => e h1)] at h
    by_cases h2 : kpF U L s = 0
    · rw [if_neg (fun e => e h2)] at h
      by_cases h3 : fsB A R S U L Q s = true
      · refine ⟨h1, h2, ?_, (kpF_le h2).2, h3⟩
        unfold kpF at h2
        by_cases h4 : ¬ (1 ≤ L ∧ L ≤ 1000) ∨ ¬ (0 ≤ U ∧ U ≤ L)
        · rw [if_pos h4] at h2; cases h2
        · have h5 : 1 ≤ L ∧ L ≤ 1000 := Decidable.byContradiction fun e => h4 (Or.inl e)
          have h6 : 0 ≤ U ∧ U ≤ L := Decidable.byContradiction fun e => h4 (Or.inr e)
          omega
      · rw [if_neg h3] at h; cases h
    · rw [if_pos h2] at h; exact absurd h h2
  · rw [if_pos h1] at h; cases h
theorem tzC_no {A : Int} {R : ByteArray} {S U L : Int} {Q : Bool} {s : List Ap} {k : Int} {er : ByteArray} {es : Int} (h : tlF A R S U L Q s ≠ 0) : tzC A R S U L Q s k er es = tlF A R S U L Q s := if_pos h
theorem tzC_yes {A : Int} {R : ByteArray} {S U L : Int} {Q : Bool} {s : List Ap} {k : Int} {er : ByteArray} {es : Int} (h : tlF A R S U L Q s = 0) : tzC A R S U L Q s k er es = taC A U L Q k (apB s er es) := if_neg (fun e => e h)
theorem tzC_len {A : Int} {R : ByteArray} {S U L : Int} {Q : Bool} {s : List Ap} {k : Int} {er : ByteArray} {es : Int} (h : tzC A R S U L Q s k er es = 0) : s.length ≤ 20 := by
  by_cases e : tlF A R S U L Q s = 0
  · exact (tl_zero e).2.2.2.1
  · rw [tzC_no e] at h; exact absurd h e
theorem fs_rest {A : Int} {R : ByteArray} {S U L : Int} {Q : Bool} {s : List Ap} (h : fsB A R S U L Q s = true) (h2 : A ≠ 2) (h3 : A ≠ 3) : R = ⟨#[]⟩ ∧ S = 0 := by
  unfold fsB at h
  rw [if_neg h2, if_neg h3] at h
  simpa using h

end Go.Proofs.Ytkacfjbhkgdpdaa
