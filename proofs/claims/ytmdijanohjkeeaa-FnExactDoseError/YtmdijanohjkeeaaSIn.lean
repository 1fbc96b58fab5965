/- Proved here: the model's test whether a place is in a row. -/
import Derived.Test.YtmdijanohjkeeaaBxL
namespace Go.Proofs.Ytmdijanohjkeeaa
open Go.RowKit
set_option linter.unusedVariables false
set_option linter.unusedSimpArgs false

theorem in_hit {s : List Bx} {x : Int} {k : Nat} {b : Bx} (h : k < s.length) (hb : bat s k = b) (hK : inK (s.drop k) x = inK s x) (h0 : b.x0 ≤ x) (h1 : x < b.x1) : inK s x = true := by
  rw [← hK, drop_bat h, hb]; simp [inK, h0, h1]
theorem in_miss {s : List Bx} {x : Int} {k : Nat} {b : Bx} (h : k < s.length) (hb : bat s k = b) (hK : inK (s.drop k) x = inK s x) (h0 : ¬ (b.x0 ≤ x ∧ x < b.x1)) : inK (s.drop (k + 1)) x = inK s x := by
  have e : (decide (b.x0 ≤ x) && decide (x < b.x1)) = false := by
    rw [Bool.eq_false_iff]; simpa using h0
  rw [← hK, drop_bat h, hb]; simp [inK, e]

set_option maxHeartbeats 800000 in
theorem spec_in_zero (a : Option Addr) (c : Nat) (x : Int) (w : World) :
    Calls Try.prog 36 #[.slice a 0 c, .int .i64 x] w fun e w' => e = .returned (.bool false) ∧ w' = w := by
  go_enter Try.func36, Try.ntmps36
  go_wp2
  refine wp_loop_rounds 1 ?_
  rw [rounds_succ]
  go_wp2
  go_returns
  exact ⟨rfl, rfl⟩

set_option maxHeartbeats 800000 in
theorem spec_in_pos (g o c n : Nat) (s : List Bx) (x : Int) (w : World) (hl : Hid (s.length = n)) (hn : n ≤ 1099511627776) (h : ∀ j, j < n → BAt w g (o + j * 4) (bat s j)) :
    Calls Try.prog 36 #[.slice (some ⟨g, o, none⟩) n c, .int .i64 x] w fun e w' => e = .returned (.bool (inK s x)) ∧ w' = w := by
  have H : Hid _ := h
  clear h
  go_enter Try.func36, Try.ntmps36
  go_wp2
  go_loop [5] (fun i => ∃ k : Nat, k ≤ n ∧ i = .int .i64 k ∧ Hid (inK (s.drop k) x = inK s x)) (fun i => n - (intOf i).toNat)
  case atStart => exact ⟨0, Nat.zero_le _, rfl, rfl⟩
  case round =>
    obtain ⟨k, hk, rfl, hK⟩ := hrel
    by_cases hlt : k < n
    · obtain ⟨c0, c1, c2, c3⟩ := H.out k hlt
      have hk' : Hid (k < s.length) := by unfold Hid; rw [hl.out]; exact hlt
      generalize hb : bat s k = b at c0 c1 c2 c3
      have HB : Hid (bat s k = b) := hb
      clear hb
      have b0 : (0 : Int) ≤ (k : Int) := by omega
      have b1 : (k : Int) < (n : Int) := by omega
      go_wp2
      all_goals first
        | (go_returns; exact ⟨by rw [in_hit hk'.out HB.out hK.out (by assumption) (by assumption)]; rfl, rfl⟩)
        | (go_round
           case rel => exact ⟨k + 1, by omega, by go_num, in_miss hk'.out HB.out hK.out (by omega)⟩
           case measure => simp [intOf]; omega)
    · have e : Hid (inK s x = false) := by
        unfold Hid
        rw [← hK.out, List.drop_eq_nil_of_le (by rw [hl.out]; omega)]; rfl
      go_wp2
      go_returns
      exact ⟨by rw [e.out]; rfl, rfl⟩

theorem spec_in {w : World} {v : Value} {s : List Bx} (x : Int) (hn : s.length ≤ 1099511627776) (h : RB w v s) :
    Calls Try.prog 36 #[v, .int .i64 x] w fun e w' => e = .returned (.bool (inK s x)) ∧ w' = w := by
  rcases Nat.eq_zero_or_pos s.length with h0 | hp
  · obtain rfl : s = [] := List.length_eq_zero_iff.1 h0
    obtain ⟨a, c, rfl⟩ := h.form
    exact spec_in_zero a c x w
  · obtain ⟨g, o, c, rfl, _, hj⟩ := h.pos hp
    exact spec_in_pos g o c _ s x w rfl hn hj

end Go.Proofs.Ytmdijanohjkeeaa
