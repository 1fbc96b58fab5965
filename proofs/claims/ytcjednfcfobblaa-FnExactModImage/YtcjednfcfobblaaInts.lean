/- Proved here: what the laws' package's three small functions on lists of numbers do (are two lists alike; write the numbers k, k+1, .. into one; does one hold them), for every list of less than 2 to the 40 numbers whose memory is known. -/
import Derived.Test.YtcjednfcfobblaaIntsBase
namespace Go.Proofs.Ytcjednfcfobblaa
open Go.RowKit
set_option linter.unusedVariables false

set_option maxHeartbeats 400000 in
theorem eqI_zero (a1 a2 : Option Addr) (c1 c2 : Nat) (w : World) :
    Calls Try.prog 30 #[.slice a1 0 c1, .slice a2 0 c2] w fun e w' => e = .returned (.bool true) ∧ ∃ m, w' = w.drewN m := by
  go_enter Try.func30, Try.ntmps30
  go_wp2
  refine wp_loop_rounds 1 ?_
  rw [rounds_succ]
  go_wp2
  go_returns
  exact ⟨rfl, 0, rfl⟩

set_option maxHeartbeats 800000 in
theorem eqI_pos (g1 g2 c1 c2 n : Nat) (xs : List Int) (w : World) (hn : n ≤ 1099511627776)
    (h1 : ∀ j, j < n → w.cell? ⟨g1, j, none⟩ = some (.int .i64 (xs.getD j 0))) (h2 : ∀ j, j < n → w.cell? ⟨g2, j, none⟩ = some (.int .i64 (xs.getD j 0))) :
    Calls Try.prog 30 #[.slice (some ⟨g1, 0, none⟩) n c1, .slice (some ⟨g2, 0, none⟩) n c2] w fun e w' => e = .returned (.bool true) ∧ ∃ m, w' = w.drewN m := by
  have H1 : Hid _ := h1
  have H2 : Hid _ := h2
  clear h1 h2
  go_enter Try.func30, Try.ntmps30
  go_wp2
  go_loopw [5] (fun i wr => ∃ k m : Nat, k ≤ n ∧ i = .int .i64 k ∧ wr = w.drewN m) (fun i _ => n - (intOf i).toNat)
  case atStart => exact ⟨0, 0, Nat.zero_le _, rfl, rfl⟩
  case round =>
    obtain ⟨k, m, hk, rfl, rfl⟩ := hrel
    by_cases hlt : k < n
    · have c1' := H1.out k hlt
      have c2' := H2.out k hlt
      have b0 : (0 : Int) ≤ (k : Int) := by omega
      have b1 : (k : Int) < (n : Int) := by omega
      go_wp2
      go_quiet (fail)
      go_wp2
      go_roundw
      case rel => exact ⟨k + 1, m + nq, by omega, by go_num, rfl⟩
      case measure => simp [intOf]; omega
    · go_wp2
      go_returns
      exact ⟨rfl, m, rfl⟩

theorem eqI {w : World} {B1 B2 : Nat} {v1 v2 : Value} {xs : List Int} (hn : xs.length ≤ 1099511627776) (h1 : IS w B1 v1 xs) (h2 : IS w B2 v2 xs) :
    Calls Try.prog 30 #[v1, v2] w fun e w' => e = .returned (.bool true) ∧ ∃ m, w' = w.drewN m := by
  rcases Nat.eq_zero_or_pos xs.length with h0 | hp
  · obtain rfl : xs = [] := List.length_eq_zero_iff.1 h0
    obtain ⟨a1, c1, rfl⟩ := h1.zero
    obtain ⟨a2, c2, rfl⟩ := h2.zero
    exact eqI_zero a1 a2 c1 c2 w
  · obtain ⟨g1, c1, rfl, _, _, k1⟩ := h1.pos hp
    obtain ⟨g2, c2, rfl, _, _, k2⟩ := h2.pos hp
    exact eqI_pos g1 g2 c1 c2 _ xs w hn k1 k2

/-- The numbers k, k + 1, .. -/
def marks (k : Int) (n : Nat) : List Int := (List.range n).map fun j : Nat => k + (j : Int)
theorem marks_length (k : Int) (n : Nat) : (marks k n).length = n := by simp [marks]
theorem marks_get (k : Int) (n j : Nat) (h : j < n) : (marks k n).getD j 0 = k + j := by simp [marks, h]
theorem marks_of {k : Int} {n : Nat} {ys : List Value} (hl : ys.length = n) (h : ∀ t, t < n → ys[t]? = some (.int .i64 (k + (t : Int)))) : ys = (marks k n).map (Value.int .i64) := by
  apply List.ext_getElem?
  intro j
  by_cases hj : j < n
  · rw [h j hj]; simp [marks, hj]
  · rw [List.getElem?_eq_none (by omega), List.getElem?_eq_none (by simp [marks]; omega)]

set_option maxHeartbeats 400000 in
theorem markI_zero (a : Option Addr) (c : Nat) (k : Int) (w : World) :
    Calls Try.prog 31 #[.slice a 0 c, .int .i64 k] w fun e w' => e = .returned (.int .i64 k) ∧ w' = w := by
  go_enter Try.func31, Try.ntmps31
  go_wp2
  refine wp_loop_rounds 1 ?_
  rw [rounds_succ]
  go_wp2
  go_returns
  exact ⟨rfl, rfl⟩

set_option maxHeartbeats 800000 in
theorem markI_pos (g c n B : Nat) (xs : List Value) (k : Int) (w : World) (hn : n ≤ 1099511627776) (hk0 : 0 ≤ k) (hk1 : k ≤ 1125899906842624) (h : w.ownsRow B 2 1 (.slice (some ⟨g, 0, none⟩) n c) n xs) :
    Calls Try.prog 31 #[.slice (some ⟨g, 0, none⟩) n c, .int .i64 k] w fun e w' => e = .returned (.int .i64 (k + n)) ∧ w'.ownsRow B 2 1 (.slice (some ⟨g, 0, none⟩) n c) n ((marks k n).map (Value.int .i64)) ∧ Only g w w' := by
  have H : Hid _ := h
  clear h
  go_enter Try.func31, Try.ntmps31
  go_wp2
  go_loopw [1, 5] (fun q i wr => ∃ j : Nat, j ≤ n ∧ i = .int .i64 j ∧ q = .int .i64 (k + j) ∧ Hid (∃ ys : List Value, ys.length = n ∧ (∀ t, t < j → ys[t]? = some (.int .i64 (k + (t : Int)))) ∧ wr.ownsRow B 2 1 (.slice (some ⟨g, 0, none⟩) n c) n ys ∧ Only g w wr)) (fun _ i _ => n - (intOf i).toNat)
  case atStart => exact ⟨0, Nat.zero_le _, rfl, by simp, xs, by simpa using H.out.1, fun t ht => by omega, H.out, Only.refl _ _⟩
  case round =>
    obtain ⟨j, hj, rfl, rfl, hR⟩ := hrel
    by_cases hlt : j < n
    · obtain ⟨ys, hl, hys, hown, honly⟩ := hR.out
      have hc := hown.cellAt j (by omega)
      have hc' : wr.cell? ⟨g, j, none⟩ = some ys[j] := by rw [hc, List.getElem?_eq_getElem (by omega)]
      have hf := hown.frozenAt j
      have hst := hown.stored j (.int .i64 (k + (j : Int)))
      have R : Hid (∃ ys : List Value, ys.length = n ∧ (∀ t, t < j + 1 → ys[t]? = some (.int .i64 (k + (t : Int)))) ∧ (wr.setCell ⟨g, j, none⟩ (.int .i64 (k + (j : Int)))).ownsRow B 2 1 (.slice (some ⟨g, 0, none⟩) n c) n ys ∧ Only g w (wr.setCell ⟨g, j, none⟩ (.int .i64 (k + (j : Int))))) := by
        refine ⟨ys.set j _, by simpa using hl, fun t ht => ?_, hst.1, honly.set _ _⟩
        by_cases e : t = j
        · subst e; simp [hl, hlt]
        · rw [List.getElem?_set_ne (by omega)]; exact hys t (by omega)
      clear hR hown honly hys hst hc
      have b0 : (0 : Int) ≤ (j : Int) := by omega
      have b1 : (j : Int) < (n : Int) := by omega
      go_wp2
      go_roundw
      case rel => exact ⟨j + 1, by omega, by go_num, by go_num, R.out⟩
      case measure => simp [intOf]; omega
    · have e : j = n := by omega
      subst e
      go_wp2
      go_returns
      obtain ⟨ys, hl, hys, hown, honly⟩ := hR.out
      refine ⟨rfl, ?_, honly⟩
      rw [← marks_of hl hys]; exact hown

/-- The numbers k, k + 1, .. are written; nothing else turns. -/
theorem markI {w : World} {B : Nat} {v : Value} {xs : List Int} (k : Int) (hn : xs.length ≤ 1099511627776) (hk0 : 0 ≤ k) (hk1 : k ≤ 1125899906842624) (h : IS w B v xs) :
    Calls Try.prog 31 #[v, .int .i64 k] w fun e w' => e = .returned (.int .i64 (k + xs.length)) ∧ IS w' B v (marks k xs.length) ∧ ∃ g, B ≤ g ∧ (v.ownBlock = some g ∨ w' = w) ∧ Only g w w' := by
  rcases Nat.eq_zero_or_pos xs.length with h0 | hp
  · obtain rfl : xs = [] := List.length_eq_zero_iff.1 h0
    obtain ⟨a1, c1, rfl⟩ := h.zero
    refine (markI_zero a1 c1 k w).mono ?_
    rintro e w' ⟨rfl, rfl⟩
    exact ⟨by simp, h, B, Nat.le_refl _, Or.inr rfl, Only.refl _ _⟩
  · obtain ⟨g1, c1, rfl, hB, _, k1⟩ := h.pos hp
    refine (markI_pos g1 c1 _ B _ k w hn hk0 hk1 h).mono ?_
    rintro e w' ⟨rfl, ho, hon⟩
    refine ⟨rfl, ?_, g1, hB, Or.inl rfl, hon⟩
    unfold IS
    rw [marks_length]; exact ho

set_option maxHeartbeats 400000 in
theorem heldI_zero (a : Option Addr) (c : Nat) (k : Int) (w : World) :
    Calls Try.prog 45 #[.slice a 0 c, .int .i64 k] w fun e w' => e = .returned (.int .i64 k) ∧ w' = w := by
  go_enter Try.func45, Try.ntmps45
  go_wp2
  refine wp_loop_rounds 1 ?_
  rw [rounds_succ]
  go_wp2
  go_returns
  exact ⟨rfl, rfl⟩

set_option maxHeartbeats 800000 in
theorem heldI_pos (g c n : Nat) (k : Int) (w : World) (hn : n ≤ 1099511627776) (hk0 : 0 ≤ k) (hk1 : k ≤ 1125899906842624) (h : ∀ j, j < n → w.cell? ⟨g, j, none⟩ = some (.int .i64 (k + (j : Int)))) :
    Calls Try.prog 45 #[.slice (some ⟨g, 0, none⟩) n c, .int .i64 k] w fun e w' => e = .returned (.int .i64 (k + n)) ∧ w' = w := by
  have H : Hid _ := h
  clear h
  go_enter Try.func45, Try.ntmps45
  go_wp2
  go_loop [1, 5] (fun q i => ∃ j : Nat, j ≤ n ∧ i = .int .i64 j ∧ q = .int .i64 (k + j)) (fun _ i => n - (intOf i).toNat)
  case atStart => exact ⟨0, Nat.zero_le _, rfl, by simp⟩
  case round =>
    obtain ⟨j, hj, rfl, rfl⟩ := hrel
    by_cases hlt : j < n
    · have hc' := H.out j hlt
      have b0 : (0 : Int) ≤ (j : Int) := by omega
      have b1 : (j : Int) < (n : Int) := by omega
      go_wp2
      go_round
      case rel => exact ⟨j + 1, by omega, by go_num, by go_num⟩
      case measure => simp [intOf]; omega
    · have e : j = n := by omega
      subst e
      go_wp2
      go_returns
      exact ⟨rfl, rfl⟩

theorem heldI {w : World} {B n : Nat} {v : Value} (k : Int) (hn : n ≤ 1099511627776) (hk0 : 0 ≤ k) (hk1 : k ≤ 1125899906842624) (h : IS w B v (marks k n)) :
    Calls Try.prog 45 #[v, .int .i64 k] w fun e w' => e = .returned (.int .i64 (k + n)) ∧ w' = w := by
  have hl := marks_length k n
  rcases Nat.eq_zero_or_pos n with h0 | hp
  · subst h0
    obtain ⟨a1, c1, rfl⟩ := IS.zero (w := w) (B := B) (v := v) h
    refine (heldI_zero a1 c1 k w).mono ?_
    rintro e w' ⟨rfl, rfl⟩
    exact ⟨by simp, rfl⟩
  · obtain ⟨g1, c1, rfl, hB, _, k1⟩ := h.pos (by omega)
    rw [hl] at k1 ⊢
    exact heldI_pos g1 c1 n k w hn hk0 hk1 (fun j hj => by rw [k1 j hj, marks_get k n j hj])


end Go.Proofs.Ytcjednfcfobblaa
