/- Proved here: the laws' small functions on a code of bytes: is it long; a choice below a bound; are two lists of numbers alike. -/
import Derived.Test.YtcplddblfhbejaaIntsBase
namespace Go.Proofs.Ytcplddblfhbejaa
open Go.RowKit
set_option linter.unusedVariables false
set_option linter.unusedSimpArgs false

theorem big_any (ca : Option Addr) (n cap : Nat) (w : World) (hn : n ≤ maxLen) :
    Calls Try.prog 8 #[.slice ca n cap] w fun e w' => e = .returned (.bool (decide ((1048576 : Int) < n))) ∧ w' = w := by
  unfold maxLen at hn
  go_enter Try.func8, Try.ntmps8
  go_wp2
  go_returns
  exact ⟨rfl, rfl⟩

set_option maxHeartbeats 800000 in
theorem at_zero (ca : Option Addr) (cap : Nat) (t m : Int) (w : World) (h0 : 0 ≤ t) (h1 : t ≤ 1000) (h2 : 1 ≤ m) (h3 : m ≤ 100000) :
    Calls Try.prog 13 #[.slice ca 0 cap, .int .i64 t, .int .i64 m] w fun e w' => ∃ r k, e = .returned (.int .i64 r) ∧ 0 ≤ r ∧ r < m ∧ w' = w.drewN k := by
  by_cases hm1 : m ≤ 1
  · go_enter Try.func13, Try.ntmps13
    go_wp2
    go_returns
    first | exact ⟨_, 0, rfl, by omega, by omega, rfl⟩ | exact ⟨_, rfl, by omega, by omega, 0, rfl⟩
  · have hm : (m == 0) = false := by simp; omega
    go_enter Try.func13, Try.ntmps13
    go_wp2
    go_returns
    first | exact ⟨_, 0, rfl, Int.emod_nonneg _ (by omega), Int.emod_lt_of_pos _ (by omega), rfl⟩ | exact ⟨_, rfl, Int.emod_nonneg _ (by omega), Int.emod_lt_of_pos _ (by omega), 0, rfl⟩

set_option maxHeartbeats 800000 in
theorem at_pos (cap n g off : Nat) (bs : Nat → Int) (t m : Int) (w : World) (h0 : 0 ≤ t) (h1 : t ≤ 1000) (h2 : 1 ≤ m) (h3 : m ≤ 100000) (hn : 0 < n) (hn' : n ≤ 140737488351232) (hb : ∀ j, 0 ≤ bs j ∧ bs j ≤ 255)
    (hc : ∀ j, j < n → w.cell? ⟨g, off + j, none⟩ = some (.int .u8 (bs j))) :
    Calls Try.prog 13 #[.slice (some ⟨g, off, none⟩) n cap, .int .i64 t, .int .i64 m] w fun e w' => ∃ r k, e = .returned (.int .i64 r) ∧ 0 ≤ r ∧ r < m ∧ w' = w.drewN k := by
  by_cases hm1 : m ≤ 1
  · go_enter Try.func13, Try.ntmps13
    go_wp2
    go_returns
    first | exact ⟨_, 0, rfl, by omega, by omega, rfl⟩ | exact ⟨_, rfl, by omega, by omega, 0, rfl⟩
  have hm : (m == 0) = false := by simp; omega
  have hnz : ((n : Int) == 0) = false := by simp; omega
  have i1 : 0 ≤ t % (n : Int) := Int.emod_nonneg _ (by omega)
  have i2 : t % (n : Int) < n := Int.emod_lt_of_pos _ (by omega)
  have i3 : 0 ≤ (t + 1) % (n : Int) := Int.emod_nonneg _ (by omega)
  have i4 : (t + 1) % (n : Int) < n := Int.emod_lt_of_pos _ (by omega)
  have y1 := hc (t % (n : Int)).toNat (by omega)
  have y2 := hc ((t + 1) % (n : Int)).toNat (by omega)
  have z1 := hb (t % (n : Int)).toNat
  have z2 := hb ((t + 1) % (n : Int)).toNat
  have d1 : 0 ≤ t / (n : Int) := Int.ediv_nonneg h0 (by omega)
  have d2 : t / (n : Int) ≤ 1000 := Int.le_trans (Int.ediv_le_self _ h0) h1
  generalize bs (t % (n : Int)).toNat = u1 at *
  generalize bs ((t + 1) % (n : Int)).toNat = u2 at *
  clear hc hb
  by_cases hbig : 200 < m
  all_goals
    go_enter Try.func13, Try.ntmps13
    go_wp2
    go_quiet (fail)
    go_wp2
    go_returns
    first | exact ⟨_, _, rfl, Int.emod_nonneg _ (by omega), Int.emod_lt_of_pos _ (by omega), rfl⟩ | exact ⟨_, rfl, Int.emod_nonneg _ (by omega), Int.emod_lt_of_pos _ (by omega), _, rfl⟩

/-- A code of bytes, as it lies. -/
def CodeAt (w : World) (ca : Option Addr) (n : Nat) (bs : Nat → Int) : Prop :=
  n ≤ 140737488351232 ∧ (∀ j, 0 ≤ bs j ∧ bs j ≤ 255) ∧ (0 < n → ∃ g off, ca = some ⟨g, off, none⟩ ∧ g < w.heap.size ∧ ∀ j, j < n → w.cell? ⟨g, off + j, none⟩ = some (.int .u8 (bs j)))
theorem CodeAt.next {w w' : World} {ca : Option Addr} {n : Nat} {bs : Nat → Int} (h : CodeAt w ca n bs) (hb : Below w.heap.size w w') : CodeAt w' ca n bs := by
  refine ⟨h.1, h.2.1, fun hn => ?_⟩
  obtain ⟨g, off, e, hg, hc⟩ := h.2.2 hn
  exact ⟨g, off, e, Nat.lt_of_lt_of_le hg hb.size, fun j hj => (World.cell?_of_block (hb.block g hg)).trans (hc j hj)⟩
theorem at_any {w : World} {ca : Option Addr} {n : Nat} {bs : Nat → Int} (cap : Nat) (t m : Int) (h0 : 0 ≤ t) (h1 : t ≤ 1000) (h : CodeAt w ca n bs) (h2 : 1 ≤ m) (h3 : m ≤ 100000) :
    Calls Try.prog 13 #[.slice ca n cap, .int .i64 t, .int .i64 m] w fun e w' => ∃ r k, e = .returned (.int .i64 r) ∧ 0 ≤ r ∧ r < m ∧ w' = w.drewN k := by
  rcases Nat.eq_zero_or_pos n with hn | hn
  · subst hn; exact at_zero ca cap t m w h0 h1 h2 h3
  · obtain ⟨g, off, rfl, hg, hc⟩ := h.2.2 hn
    exact at_pos cap n g off bs t m w h0 h1 h2 h3 hn h.1 h.2.1 hc

set_option maxHeartbeats 400000 in
theorem numsI_zero (a1 a2 : Option Addr) (c1 c2 : Nat) (w : World) :
    Calls Try.prog 12 #[.slice a1 0 c1, .slice a2 0 c2] w fun e w' => e = .returned (.bool true) ∧ ∃ m, w' = w.drewN m := by
  go_enter Try.func12, Try.ntmps12
  go_wp2
  refine wp_loop_rounds 1 ?_
  rw [rounds_succ]
  go_wp2
  go_returns
  exact ⟨rfl, 0, rfl⟩

set_option maxHeartbeats 800000 in
theorem numsI_pos (g1 g2 c1 c2 n : Nat) (xs : List Int) (w : World) (hn : n ≤ 1099511627776)
    (h1 : ∀ j, j < n → w.cell? ⟨g1, j, none⟩ = some (.int .i64 (xs.getD j 0))) (h2 : ∀ j, j < n → w.cell? ⟨g2, j, none⟩ = some (.int .i64 (xs.getD j 0))) :
    Calls Try.prog 12 #[.slice (some ⟨g1, 0, none⟩) n c1, .slice (some ⟨g2, 0, none⟩) n c2] w fun e w' => e = .returned (.bool true) ∧ ∃ m, w' = w.drewN m := by
  have H1 : Hid _ := h1
  have H2 : Hid _ := h2
  clear h1 h2
  go_enter Try.func12, Try.ntmps12
  go_wp2
  go_loopw [5] (fun i wr => ∃ k m : Nat, k ≤ n ∧ i = .int .i64 k ∧ wr = w.drewN m) (fun i _ => n - (intOf i).toNat)
  case atStart => exact ⟨0, 0, Nat.zero_le _, rfl, rfl⟩
  case round =>
    obtain ⟨k, m, hk, rfl, rfl⟩ := hrel
    by_cases hlt : k < n
    · have c1' := H1.out k hlt
      have c2' := H2.out k hlt
      have b0 : (0 : Int) ≤ (k : Int) := by omega
      have b1 : (k : Int) < (n : Int) := by omega
      go_wp2
      go_quiet (fail)
      go_wp2
      go_roundw
      case rel => exact ⟨k + 1, m + nq, by omega, by go_num, rfl⟩
      case measure => simp [intOf]; omega
    · go_wp2
      go_returns
      exact ⟨rfl, m, rfl⟩

theorem numsI {w : World} {B1 B2 : Nat} {v1 v2 : Value} {xs : List Int} (hn : xs.length ≤ 1099511627776) (h1 : IS w B1 v1 xs) (h2 : IS w B2 v2 xs) :
    Calls Try.prog 12 #[v1, v2] w fun e w' => e = .returned (.bool true) ∧ ∃ m, w' = w.drewN m := by
  rcases Nat.eq_zero_or_pos xs.length with h0 | hp
  · obtain rfl : xs = [] := List.length_eq_zero_iff.1 h0
    obtain ⟨a1, c1, rfl⟩ := h1.zero
    obtain ⟨a2, c2, rfl⟩ := h2.zero
    exact numsI_zero a1 a2 c1 c2 w
  · obtain ⟨g1, c1, rfl, _, _, k1⟩ := h1.pos hp
    obtain ⟨g2, c2, rfl, _, _, k2⟩ := h2.pos hp
    exact numsI_pos g1 g2 c1 c2 _ xs w hn k1 k2

end Go.Proofs.Ytcplddblfhbejaa
