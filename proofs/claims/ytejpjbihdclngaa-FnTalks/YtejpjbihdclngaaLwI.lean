/- Proved here: the laws' word on two lists of numbers: are they alike. -/
import Derived.Test.YtejpjbihdclngaaIntsBase
namespace Go.Proofs.Ytejpjbihdclngaa
open Go.RowKit
set_option linter.unusedVariables false
set_option linter.unusedSimpArgs false

set_option maxHeartbeats 400000 in
theorem numsI_zero (a1 a2 : Option Addr) (c1 c2 : Nat) (w : World) :
    Calls Try.prog 13 #[.slice a1 0 c1, .slice a2 0 c2] w fun e w' => e = .returned (.bool true) ∧ ∃ m, w' = w.drewN m := by
  go_enter Try.func13, Try.ntmps13
  go_wp2
  refine wp_loop_rounds 1 ?_
  rw [rounds_succ]
  go_wp2
  go_returns
  exact ⟨rfl, 0, rfl⟩

set_option maxHeartbeats 800000 in
theorem numsI_pos (g1 g2 c1 c2 n : Nat) (xs : List Int) (w : World) (hn : n ≤ 1099511627776)
    (h1 : ∀ j, j < n → w.cell? ⟨g1, j, none⟩ = some (.int .i64 (xs.getD j 0))) (h2 : ∀ j, j < n → w.cell? ⟨g2, j, none⟩ = some (.int .i64 (xs.getD j 0))) :
    Calls Try.prog 13 #[.slice (some ⟨g1, 0, none⟩) n c1, .slice (some ⟨g2, 0, none⟩) n c2] w fun e w' => e = .returned (.bool true) ∧ ∃ m, w' = w.drewN m := by
  have H1 : Hid _ := h1
  have H2 : Hid _ := h2
  clear h1 h2
  go_enter Try.func13, Try.ntmps13
  go_wp2
  go_loopw [5] (fun i wr => ∃ k m : Nat, k ≤ n ∧ i = .int .i64 k ∧ wr = w.drewN m) (fun i _ => n - (intOf i).toNat)
  case atStart => exact ⟨0, 0, Nat.zero_le _, rfl, rfl⟩
  case round =>
    obtain ⟨k, m, hk, rfl, rfl⟩ := hrel
    by_cases hlt : k < n
    · have c1' := H1.out k hlt
      have c2' := H2.out k hlt
      have b0 : (0 : Int) ≤ (k : Int) := by omega
      have b1 : (k : Int) < (n : Int) := by omega
      go_wp2
      go_quiet (fail)
      go_wp2
      go_roundw
      case rel => exact ⟨k + 1, m + nq, by omega, by go_num, rfl⟩
      case measure => simp [intOf]; omega
    · go_wp2
      go_returns
      exact ⟨rfl, m, rfl⟩

theorem numsI {w : World} {B1 B2 : Nat} {v1 v2 : Value} {xs : List Int} (hn : xs.length ≤ 1099511627776) (h1 : IS w B1 v1 xs) (h2 : IS w B2 v2 xs) :
    Calls Try.prog 13 #[v1, v2] w fun e w' => e = .returned (.bool true) ∧ ∃ m, w' = w.drewN m := by
  rcases Nat.eq_zero_or_pos xs.length with h0 | hp
  · obtain rfl : xs = [] := List.length_eq_zero_iff.1 h0
    obtain ⟨a1, c1, rfl⟩ := h1.zero
    obtain ⟨a2, c2, rfl⟩ := h2.zero
    exact numsI_zero a1 a2 c1 c2 w
  · obtain ⟨g1, c1, rfl, _, _, k1⟩ := h1.pos hp
    obtain ⟨g2, c2, rfl, _, _, k2⟩ := h2.pos hp
    exact numsI_pos g1 g2 c1 c2 _ xs w hn k1 k2

end Go.Proofs.Ytejpjbihdclngaa
