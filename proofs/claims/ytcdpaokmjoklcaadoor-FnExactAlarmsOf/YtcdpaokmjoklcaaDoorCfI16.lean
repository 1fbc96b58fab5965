/- Proved here: the fault of a list and its centre, of the program. -/
import Derived.Test.YtcdpaokmjoklcaaDoorChI
namespace Go.Proofs.YtcdpaokmjoklcaaDoor
open Go.RowKit
set_option linter.unusedVariables false
set_option linter.unusedSimpArgs false

def ceF (c : Int) (s : List Int) : Int := if chF s = 0 then (if -1000000 ≤ c ∧ c ≤ 1000000 then 0 else 3) else chF s
set_option maxHeartbeats 1600000 in
theorem impl_ce (m : Int) {w : World} {v : Value} {s : List Int} (hn : s.length ≤ 1048576) (h : RdI w v s) :
    Calls Tryd.prog 17 #[v, .int .i64 m] w fun e w' => e = .returned (.int .i64 (ceF m s)) ∧ w' = w := by
  obtain ⟨C, hC⟩ : ∃ C, C = ceF m s := ⟨_, rfl⟩
  obtain ⟨Fa, hFa⟩ : ∃ F, F = chF s := ⟨_, rfl⟩
  obtain ⟨q, hq⟩ : ∃ b, b = decide (-1000000 ≤ m ∧ m ≤ 1000000) := ⟨_, rfl⟩
  rw [← hC]
  have HC : Hid (C = if Fa = 0 then (if q then 0 else 3) else Fa) := by
    unfold Hid; rw [hC, ceF, hFa, hq]; simp only [decide_eq_true_eq]
  obtain ⟨a, c, rfl⟩ := h.form
  obtain ⟨n, hnn⟩ : ∃ n, n = s.length := ⟨_, rfl⟩
  have HL : Hid (Calls Tryd.prog 25 #[.slice a s.length c] w fun e w' => e = .returned (.int .i64 Fa) ∧ w' = w) := by rw [hFa]; exact impl_ch hn h
  have HI : Hid (∀ W, Calls Tryd.prog 18 #[.int .i64 m, .int .i64 (-1000000), .int .i64 1000000] W fun e w' => e = .returned (.bool q) ∧ w' = W) := impl_insC m (-1000000) 1000000 q hq
  rw [← hnn] at HL ⊢
  clear h hC hnn hn hFa hq
  go_enter Tryd.func17, Tryd.ntmps17
  go_wp2_with (fail)
  refine HL.out.mono ?_
  rintro e w1 ⟨rfl, hw1⟩
  subst w1
  clear HL
  by_cases hF0 : Fa = 0
  case neg =>
    have HZ : Hid (C = Fa) := by have h1 := HC.out; rw [if_neg hF0] at h1; exact h1
    have hA : (Fa != 0) = true := by simpa using hF0
    clear HC
    go_wp2
    go_returns
    exact ⟨by rw [HZ.out]; try rfl, rfl⟩
  have HZ : Hid (C = if q then 0 else 3) := by have h1 := HC.out; rw [if_pos hF0] at h1; exact h1
  have hA : (Fa != 0) = false := by rw [hF0]; rfl
  clear HC hF0
  go_wp2_with (fail)
  refine (HI.out _).mono ?_
  rintro e w1 ⟨rfl, hw1⟩
  subst w1
  cases q
  · have HE : Hid (C = 3) := by unfold Hid; rw [HZ.out]; rfl
    clear HZ
    go_wp2
    go_returns
    exact ⟨by rw [HE.out]; rfl, rfl⟩
  · have HE : Hid (C = 0) := by unfold Hid; rw [HZ.out]; rfl
    clear HZ
    go_wp2
    go_returns
    exact ⟨by rw [HE.out]; rfl, rfl⟩

end Go.Proofs.YtcdpaokmjoklcaaDoor
