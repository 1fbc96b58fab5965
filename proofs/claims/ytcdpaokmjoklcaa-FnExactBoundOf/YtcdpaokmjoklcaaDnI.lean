/- Proved here: quotients of the program, rounded down. -/
import Derived.Test.YtcdpaokmjoklcaaQuM
namespace Go.Proofs.Ytcdpaokmjoklcaa
open Go.RowKit
set_option linter.unusedVariables false
set_option linter.unusedSimpArgs false

set_option maxHeartbeats 800000 in
theorem impl_dn16 (n d : Int) (hd : 1 ≤ d) (hb : -4000000000000000000 ≤ n ∧ n ≤ 4000000000000000000) (w : World) :
    Calls Try.prog 19 #[.int .i64 n, .int .i64 d] w fun e w' => e = .returned (.int .i64 (n / d)) ∧ w' = w := by
  have h2 := down_bd hd hb
  have HE : Hid ((if n.tmod d < 0 then n.tdiv d - 1 else n.tdiv d) = n / d) := down_ed hd
  have hq : (d == 0) = false := by simp; omega
  have hw1 : IntKind.i64.wrap (n.tdiv d) = n.tdiv d := by rw [IntKind.wrap_i64]; omega
  have hw2 : IntKind.i64.wrap (n.tdiv d - 1) = n.tdiv d - 1 := by rw [IntKind.wrap_i64]; omega
  obtain ⟨R, hR⟩ : ∃ R, R = n / d := ⟨_, rfl⟩
  rw [← hR] at HE ⊢
  clear hR
  by_cases h : n.tmod d < 0
  · obtain rfl : R = n.tdiv d - 1 := by have := HE.out; rw [if_pos h] at this; exact this.symm
    clear HE
    go_enter Try.func19, Try.ntmps19
    go_wp2
    go_returns
    exact ⟨rfl, rfl⟩
  · obtain rfl : R = n.tdiv d := by have := HE.out; rw [if_neg h] at this; exact this.symm
    clear HE
    go_enter Try.func19, Try.ntmps19
    go_wp2
    go_returns
    exact ⟨rfl, rfl⟩


end Go.Proofs.Ytcdpaokmjoklcaa
