/- Proved here: what the program's and the document's model's small functions on whole numbers (greatest divisor, size, bounds of a fraction) give at every argument within their bounds. -/
import Derived.Test.YtcojhkpdlmldcaaRows
import Derived.Test.YtcojhkpdlmldcaaMath
import Derived.WalkKit
import Derived.ProofKit
import Derived.OpenShut
import Derived.Handy
import Derived.WalkSpells
import Derived.WalkLawsBesides
import Derived.Deep.RegionHeld3
import Derived.LoopTactic
import Derived.RegionTactic
import Derived.BigQuiet
import Derived.BigRegion
import Derived.Deep.QuietTactic
namespace Go.Proofs.Ytcojhkpdlmldcaa
open Go.ChangeShapes Go.WideShapes Go.ChangeAt Go.RowKit
set_option linter.unusedVariables false

/-- The greatest divisor of two numbers, as a number that the walk does not look into. -/
def gz (a b : Int) : Int := (Int.gcd a b : Int)

theorem ret_int {k : IntKind} {a b : Int} (h : a = b) : Ending.returned (.int k a) = .returned (.int k b) := by rw [h]

set_option maxHeartbeats 400000 in
theorem spec_gcd (a b : Int) (w : World) (ha : 0 ≤ a) (hb : 0 ≤ b) (ha' : a ≤ 4000000000000000000) (hb' : b ≤ 4000000000000000000) :
    Calls Try.prog 22 #[.int .i64 a, .int .i64 b] w fun e w' => e = .returned (.int .i64 (gz a b)) ∧ w' = w := by
  go_enter Try.func22, Try.ntmps22
  go_wp2
  go_loop [0, 1] (fun s t => ∃ x y : Int, s = .int .i64 x ∧ t = .int .i64 y ∧ 0 ≤ x ∧ 0 ≤ y ∧ x ≤ 4000000000000000000 ∧ y ≤ 4000000000000000000 ∧ Hid (Int.gcd x y = Int.gcd a b)) (fun _ t => (intOf t).toNat)
  case atStart => exact ⟨a, b, rfl, rfl, ha, hb, ha', hb', rfl⟩
  case round =>
    obtain ⟨x, y, rfl, rfl, hx, hy, hx', hy', hg⟩ := hrel
    clear ha hb ha' hb'
    by_cases h0 : y = 0
    · subst h0
      go_wp2
      go_ret
      exact ⟨ret_int (by unfold gz; rw [← hg.out]; exact (FracMath.gcd_zero x hx).symm), rfl⟩
    · have hm := Int.emod_nonneg x h0
      have hl := Int.emod_lt_of_pos x (show 0 < y by omega)
      have hne : (y != 0) = true := by simpa using h0
      clear h0
      go_wp2
      go_round
      case rel => exact ⟨y, x % y, rfl, rfl, hy, hm, hy', by omega, by unfold Hid; rw [← hg.out]; exact FracMath.gcd_step x y hx hy⟩
      case measure => simp [intOf]; omega

set_option maxHeartbeats 400000 in
theorem impl_gcd (a b : Int) (w : World) (ha : 0 ≤ a) (hb : 0 ≤ b) (ha' : a ≤ 4000000000000000000) (hb' : b ≤ 4000000000000000000) :
    Calls Try.prog 26 #[.int .i64 a, .int .i64 b] w fun e w' => e = .returned (.int .i64 (gz a b)) ∧ ∃ n, w' = w.drewN n := by
  go_enter Try.func26, Try.ntmps26
  go_wp2
  go_loopw [0, 1] (fun s t wr => ∃ x y : Int, s = .int .i64 x ∧ t = .int .i64 y ∧ 0 ≤ x ∧ 0 ≤ y ∧ x ≤ 4000000000000000000 ∧ y ≤ 4000000000000000000 ∧ Hid (Int.gcd x y = Int.gcd a b) ∧ ∃ n, wr = w.drewN n) (fun _ t _ => (intOf t).toNat)
  case atStart => exact ⟨a, b, rfl, rfl, ha, hb, ha', hb', rfl, 0, rfl⟩
  case round =>
    obtain ⟨x, y, rfl, rfl, hx, hy, hx', hy', hg, n, rfl⟩ := hrel
    clear ha hb ha' hb'
    by_cases h0 : y = 0
    · subst h0
      go_wp2
      go_ret
      exact ⟨ret_int (by unfold gz; rw [← hg.out]; exact (FracMath.gcd_zero x hx).symm), n, rfl⟩
    · have hm := Int.emod_nonneg x h0
      have hl := Int.emod_lt_of_pos x (show 0 < y by omega)
      have hne : (y != 0) = true := by simpa using h0
      have hne2 : (y == 0) = false := by simpa using h0
      clear h0
      go_wp2
      go_region
      all_goals
        go_wp2
        go_roundw
        case rel => exact ⟨y, x % y, rfl, rfl, hy, hm, hy', by omega, by unfold Hid; rw [← hg.out]; exact FracMath.gcd_step x y hx hy, n + 1, rfl⟩
        case measure => simp [intOf]; omega

/-- The size of a number, as a function that the walk does not look into. -/
def absz (n : Int) : Int := if n < 0 then -n else n

theorem spec_abs (n : Int) (w : World) (h : -4000000000000000000 ≤ n) (h' : n ≤ 4000000000000000000) :
    Calls Try.prog 23 #[.int .i64 n] w fun e w' => e = .returned (.int .i64 (absz n)) ∧ w' = w := by
  by_cases hn : n < 0
  · go_enter Try.func23, Try.ntmps23
    go_wp2
    go_ret
    exact ⟨ret_int (by unfold absz; rw [if_pos (by omega)]), rfl⟩
  · go_enter Try.func23, Try.ntmps23
    go_wp2
    go_ret
    exact ⟨ret_int (by unfold absz; rw [if_neg (by omega)]), rfl⟩

theorem impl_abs (n : Int) (w : World) (h : -4000000000000000000 ≤ n) (h' : n ≤ 4000000000000000000) :
    Calls Try.prog 27 #[.int .i64 n] w fun e w' => e = .returned (.int .i64 (absz n)) ∧ w' = w := by
  by_cases hn : n < 0
  · go_enter Try.func27, Try.ntmps27
    go_wp2
    go_ret
    exact ⟨ret_int (by unfold absz; rw [if_pos (by omega)]), rfl⟩
  · go_enter Try.func27, Try.ntmps27
    go_wp2
    go_ret
    exact ⟨ret_int (by unfold absz; rw [if_neg (by omega)]), rfl⟩

end Go.Proofs.Ytcojhkpdlmldcaa
