/- Proved here: the rest of a number, from 0 on, of both. -/
import Derived.Test.YtgbbigokbbllgaaMiM
import Derived.LoopTactic
namespace Go.Proofs.Ytgbbigokbbllgaa
open Go.RowKit
set_option linter.unusedVariables false
set_option linter.unusedSimpArgs false

set_option maxHeartbeats 800000 in
theorem impl_mod (a n : Int) (h : 0 < n) (h2 : n ≤ 1000000000) (w : World) : Calls Try.prog 63 #[.int .i64 a, .int .i64 n] w fun e w' => e = .returned (.int .i64 (a % n)) ∧ w' = w := by
  have hb := tm_bd (a := a) h
  have e1 : IntKind.i64.wrap (a.tmod n) = a.tmod n := by rw [IntKind.wrap_i64]; omega
  have e2 : IntKind.i64.wrap (a.tmod n + n) = a.tmod n + n := by rw [IntKind.wrap_i64]; omega
  have e3 : (a.tmod n + n) % n = a % n := by rw [← Int.tmod_eq_emod_of_nonneg (show 0 ≤ a.tmod n + n by omega)]; exact tm_two h
  have hn0 : (n == 0) = false := by simp; omega
  have hn1 : ¬ n = 0 := by omega
  rw [← e3]
  clear e3
  go_enter Try.func63, Try.ntmps63
  go_wp2
  go_returns
  exact ⟨rfl, rfl⟩

set_option maxHeartbeats 800000 in
theorem spec_mod (a n : Int) (h : 0 < n) (h2 : n ≤ 1000000000) (w : World) : Calls Try.prog 59 #[.int .i64 a, .int .i64 n] w fun e w' => e = .returned (.int .i64 (a % n)) ∧ w' = w := by
  have hb := tm_bd (a := a) h
  have e1 : IntKind.i64.wrap (a.tmod n) = a.tmod n := by rw [IntKind.wrap_i64]; omega
  have e2 : IntKind.i64.wrap (a.tmod n + n) = a.tmod n + n := by rw [IntKind.wrap_i64]; omega
  have e3 := tm_mod (a := a) h
  have hn0 : (n == 0) = false := by simp; omega
  have hn1 : ¬ n = 0 := by omega
  by_cases hneg : a.tmod n < 0
  · rw [if_pos hneg] at e3
    rw [← e3]
    clear e3
    go_enter Try.func59, Try.ntmps59
    go_wp2
    go_returns
    exact ⟨rfl, rfl⟩
  · rw [if_neg hneg] at e3
    rw [← e3]
    clear e3
    go_enter Try.func59, Try.ntmps59
    go_wp2
    go_returns
    exact ⟨rfl, rfl⟩

end Go.Proofs.Ytgbbigokbbllgaa
