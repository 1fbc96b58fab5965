/- Proved here: how the laws' package finds a list of numbers marked. -/
import Derived.Test.YtkdpifplhhcpaaaIntM
namespace Go.Proofs.Ytkdpifplhhcpaaa
open Go.RowKit
set_option linter.unusedVariables false

set_option maxHeartbeats 400000 in
theorem heldI_zero (a : Option Addr) (c : Nat) (k : Int) (w : World) :
    Calls Try.prog 55 #[.slice a 0 c, .int .i64 k] w fun e w' => e = .returned (.int .i64 k) ∧ w' = w := by
  go_enter Try.func55, Try.ntmps55
  go_wp2
  refine wp_loop_rounds 1 ?_
  rw [rounds_succ]
  go_wp2
  go_returns
  exact ⟨rfl, rfl⟩

set_option maxHeartbeats 800000 in
theorem heldI_pos (g c n : Nat) (k : Int) (w : World) (hn : n ≤ 1099511627776) (hk0 : 0 ≤ k) (hk1 : k ≤ 1125899906842624) (h : ∀ j, j < n → w.cell? ⟨g, j, none⟩ = some (.int .i64 (k + (j : Int)))) :
    Calls Try.prog 55 #[.slice (some ⟨g, 0, none⟩) n c, .int .i64 k] w fun e w' => e = .returned (.int .i64 (k + n)) ∧ w' = w := by
  have H : Hid _ := h
  clear h
  go_enter Try.func55, Try.ntmps55
  go_wp2
  go_loop [1, 5] (fun q i => ∃ j : Nat, j ≤ n ∧ i = .int .i64 j ∧ q = .int .i64 (k + j)) (fun _ i => n - (intOf i).toNat)
  case atStart => exact ⟨0, Nat.zero_le _, rfl, by simp⟩
  case round =>
    obtain ⟨j, hj, rfl, rfl⟩ := hrel
    by_cases hlt : j < n
    · have hc' := H.out j hlt
      have b0 : (0 : Int) ≤ (j : Int) := by omega
      have b1 : (j : Int) < (n : Int) := by omega
      go_wp2
      go_round
      case rel => exact ⟨j + 1, by omega, by go_num, by go_num⟩
      case measure => simp [intOf]; omega
    · have e : j = n := by omega
      subst e
      go_wp2
      go_returns
      exact ⟨rfl, rfl⟩

theorem heldI {w : World} {B n : Nat} {v : Value} (k : Int) (hn : n ≤ 1099511627776) (hk0 : 0 ≤ k) (hk1 : k ≤ 1125899906842624) (h : IS w B v (marks k n)) :
    Calls Try.prog 55 #[v, .int .i64 k] w fun e w' => e = .returned (.int .i64 (k + n)) ∧ w' = w := by
  have hl := marks_length k n
  rcases Nat.eq_zero_or_pos n with h0 | hp
  · subst h0
    obtain ⟨a1, c1, rfl⟩ := IS.zero (w := w) (B := B) (v := v) h
    refine (heldI_zero a1 c1 k w).mono ?_
    rintro e w' ⟨rfl, rfl⟩
    exact ⟨by simp, rfl⟩
  · obtain ⟨g1, c1, rfl, hB, _, k1⟩ := h.pos (by omega)
    rw [hl] at k1 ⊢
    exact heldI_pos g1 c1 n k w hn hk0 hk1 (fun j hj => by rw [k1 j hj, marks_get k n j hj])

end Go.Proofs.Ytkdpifplhhcpaaa
