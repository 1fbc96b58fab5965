/- Proved here: the first fault of a list of boxes, by the model and by the program. -/
import Derived.Test.YtpfnhiohbgconaaBoxF
namespace Go.Proofs.Ytpfnhiohbgconaa
open Go.RowKit
set_option linter.unusedVariables false
set_option linter.unusedSimpArgs false

def firstK : List Bx → Int
  | [] => 0
  | b :: t => if bfK b = 0 then firstK t else bfK b
def boxesK (s : List Bx) : Int := if 150 < s.length then 2 else firstK s

theorem firstK_hit {s : List Bx} {k : Nat} {z : Int} (h : k < s.length) (hz : z = bfK (bat s k)) (hK : firstK (s.drop k) = firstK s) (h0 : ¬ z = 0) : firstK s = z := by
  rw [← hK, drop_bat h]; unfold firstK; rw [if_neg (by rw [← hz]; exact h0), hz]
theorem firstK_miss {s : List Bx} {k : Nat} {z : Int} (h : k < s.length) (hz : z = bfK (bat s k)) (hK : firstK (s.drop k) = firstK s) (h0 : z = 0) : firstK (s.drop (k + 1)) = firstK s := by
  rw [← hK, drop_bat h]
  conv => rhs; unfold firstK
  rw [if_pos (by rw [← hz]; exact h0)]
theorem firstK_end {s : List Bx} {k : Nat} (h : s.length ≤ k) (hK : firstK (s.drop k) = firstK s) : firstK s = 0 := by
  rw [← hK, List.drop_eq_nil_of_le h]; rfl

set_option maxHeartbeats 1600000 in
theorem spec_boxes_many (a : Option Addr) (n c : Nat) (w : World) (h : (150 : Int) < (n : Int)) :
    Calls Try.prog 87 #[.slice a n c] w fun e w' => e = .returned (.int .i64 2) ∧ Below w.heap.size w w' := by
  go_enter Try.func87, Try.ntmps87
  go_wp2
  go_returns
  exact ⟨rfl, Below.refl _ _⟩

set_option maxHeartbeats 1600000 in
theorem spec_boxes_zero (a : Option Addr) (c : Nat) (w : World) :
    Calls Try.prog 87 #[.slice a 0 c] w fun e w' => e = .returned (.int .i64 0) ∧ Below w.heap.size w w' := by
  go_enter Try.func87, Try.ntmps87
  go_wp2
  refine wp_loop_rounds 1 ?_
  rw [rounds_succ]
  go_wp2
  go_returns
  exact ⟨rfl, Below.refl _ _⟩

set_option maxHeartbeats 1600000 in
theorem spec_boxes_pos (g o c n : Nat) (s : List Bx) (w : World) (hl : Hid (s.length = n)) (hn : (n : Int) ≤ 150) (hg : g < w.heap.size) (h : ∀ j, j < n → BAt w g (o + j * 4) (bat s j)) :
    Calls Try.prog 87 #[.slice (some ⟨g, o, none⟩) n c] w fun e w' => e = .returned (.int .i64 (firstK s)) ∧ Below w.heap.size w w' := by
  have H : Hid _ := h
  clear h
  go_enter Try.func87, Try.ntmps87
  go_wp2
  go_loopw [3] (fun i wr => ∃ k : Nat, k ≤ n ∧ i = .int .i64 k ∧ Hid (firstK (s.drop k) = firstK s ∧ Below w.heap.size w wr)) (fun i _ => n - (intOf i).toNat)
  case atStart => exact ⟨0, Nat.zero_le _, rfl, rfl, Below.refl _ _⟩
  case round =>
    obtain ⟨k, hk, rfl, hR⟩ := hrel
    by_cases hlt : k < n
    · have hk' : Hid (k < s.length) := by unfold Hid; rw [hl.out]; exact hlt
      obtain ⟨c0, c1, c2, c3⟩ := (H.out k hlt).below hg hR.out.2
      obtain ⟨b, hb⟩ : ∃ b, b = bat s k := ⟨_, rfl⟩
      rw [← hb] at c0 c1 c2 c3
      obtain ⟨z, hz⟩ : ∃ z, z = bfK b := ⟨_, rfl⟩
      have HZ : Hid (z = bfK (bat s k)) := by unfold Hid; rw [← hb]; exact hz
      have hc : Hid (∀ W, Calls Try.prog 42 #[.agg #[.int .i64 b.x0, .int .i64 b.y0, .int .i64 b.x1, .int .i64 b.y1]] W fun e w' => e = .returned (.int .i64 z) ∧ Below W.heap.size W w') := fun W => by rw [hz]; exact spec_box b W
      clear hb hz
      have b0 : (0 : Int) ≤ (k : Int) := by omega
      have b1 : (k : Int) < (n : Int) := by omega
      go_wp2_with (fail)
      refine (hc.out _).mono ?_
      rintro e w1 ⟨rfl, hb1⟩
      have HB : Hid (Below w.heap.size w w1) := hR.out.2.trans (hb1.mono hR.out.2.size)
      clear hb1 c0 c1 c2 c3
      by_cases hz0 : z = 0
      · have HF : Hid (firstK (s.drop (k + 1)) = firstK s) := firstK_miss hk'.out HZ.out hR.out.1 hz0
        subst hz0
        go_wp2
        go_roundw
        case rel => exact ⟨k + 1, by omega, by go_num, HF.out, HB.out⟩
        case measure => simp [intOf]; omega
      · have HF : Hid (firstK s = z) := firstK_hit hk'.out HZ.out hR.out.1 hz0
        go_wp2
        go_returns
        exact ⟨by rw [HF.out]; rfl, HB.out⟩
    · have HF : Hid (firstK s = 0) := firstK_end (by rw [hl.out]; omega) hR.out.1
      go_wp2
      go_returns
      exact ⟨by rw [HF.out]; rfl, hR.out.2⟩

theorem spec_boxes {w : World} {v : Value} {s : List Bx} (h : RB w v s) :
    Calls Try.prog 87 #[v] w fun e w' => e = .returned (.int .i64 (boxesK s)) ∧ Below w.heap.size w w' := by
  unfold boxesK
  by_cases hm : 150 < s.length
  · rw [if_pos hm]
    obtain ⟨a, c, rfl⟩ := h.form
    exact spec_boxes_many a _ c w (by omega)
  · rw [if_neg hm]
    rcases Nat.eq_zero_or_pos s.length with h0 | hp
    · obtain rfl : s = [] := List.length_eq_zero_iff.1 h0
      obtain ⟨a, c, rfl⟩ := h.form
      exact spec_boxes_zero a c w
    · obtain ⟨g, o, c, rfl, hg, hj⟩ := h.pos hp
      exact spec_boxes_pos g o c _ s w rfl (by omega) hg hj

set_option maxHeartbeats 1600000 in
theorem impl_first_zero (a : Option Addr) (c : Nat) (w : World) :
    Calls Try.prog 117 #[.slice a 0 c] w fun e w' => e = .returned (.int .i64 0) ∧ Below w.heap.size w w' := by
  go_enter Try.func117, Try.ntmps117
  go_wp2
  refine wp_loop_rounds 1 ?_
  rw [rounds_succ]
  go_wp2
  go_returns
  exact ⟨rfl, Below.refl _ _⟩

set_option maxHeartbeats 1600000 in
theorem impl_first_pos (g o c n : Nat) (s : List Bx) (w : World) (hl : Hid (s.length = n)) (hn : n ≤ 1099511627776) (hg : g < w.heap.size) (h : ∀ j, j < n → BAt w g (o + j * 4) (bat s j)) :
    Calls Try.prog 117 #[.slice (some ⟨g, o, none⟩) n c] w fun e w' => e = .returned (.int .i64 (firstK s)) ∧ Below w.heap.size w w' := by
  have H : Hid _ := h
  clear h
  go_enter Try.func117, Try.ntmps117
  go_wp2
  go_loopw [8] (fun i wr => ∃ k : Nat, k ≤ n ∧ i = .int .i64 k ∧ Hid (firstK (s.drop k) = firstK s ∧ Below w.heap.size w wr)) (fun i _ => n - (intOf i).toNat)
  case atStart => exact ⟨0, Nat.zero_le _, rfl, rfl, Below.refl _ _⟩
  case round =>
    obtain ⟨k, hk, rfl, hR⟩ := hrel
    by_cases hlt : k < n
    · have hk' : Hid (k < s.length) := by unfold Hid; rw [hl.out]; exact hlt
      obtain ⟨c0, c1, c2, c3⟩ := (H.out k hlt).below hg hR.out.2
      obtain ⟨b, hb⟩ : ∃ b, b = bat s k := ⟨_, rfl⟩
      rw [← hb] at c0 c1 c2 c3
      obtain ⟨z, hz⟩ : ∃ z, z = bfK b := ⟨_, rfl⟩
      have HZ : Hid (z = bfK (bat s k)) := by unfold Hid; rw [← hb]; exact hz
      have hc : Hid (∀ W, Calls Try.prog 49 #[.agg #[.int .i64 b.x0, .int .i64 b.y0, .int .i64 b.x1, .int .i64 b.y1]] W fun e w' => e = .returned (.int .i64 z) ∧ Below W.heap.size W w') := fun W => by rw [hz]; exact impl_box b W
      clear hb hz
      have b0 : (0 : Int) ≤ (k : Int) := by omega
      have b1 : (k : Int) < (n : Int) := by omega
      go_wp2_with (fail)
      refine (hc.out _).mono ?_
      rintro e w1 ⟨rfl, hb1⟩
      have HB : Hid (Below w.heap.size w w1) := by
        have h0 := hR.out.2
        have h1 := h0.size
        exact Below.trans (by (repeat' (first | (with_reducible exact Below.refl _ _) | (with_reducible assumption) | (with_reducible refine Below.setCell ?_ ?_ _) | (with_reducible refine Below.alloc ?_ ?_ _) | (with_reducible refine below_drewN ?_ _) | (with_reducible refine Below.drew ?_) | (with_reducible exact Nat.le_refl _) | omega | (simp; done) | (simp; omega)))) (hb1.mono (by simp; omega))
      clear hb1 c0 c1 c2 c3
      by_cases hz0 : z = 0
      · have HF : Hid (firstK (s.drop (k + 1)) = firstK s) := firstK_miss hk'.out HZ.out hR.out.1 hz0
        subst hz0
        go_wp2
        go_roundw
        case rel => exact ⟨k + 1, by omega, by go_num, HF.out, HB.out⟩
        case measure => simp [intOf]; omega
      · have HF : Hid (firstK s = z) := firstK_hit hk'.out HZ.out hR.out.1 hz0
        go_wp2
        go_returns
        exact ⟨by rw [HF.out]; rfl, HB.out⟩
    · have HF : Hid (firstK s = 0) := firstK_end (by rw [hl.out]; omega) hR.out.1
      go_wp2
      go_returns
      exact ⟨by rw [HF.out]; rfl, hR.out.2⟩

theorem impl_first {w : World} {v : Value} {s : List Bx} (hn : s.length ≤ 1099511627776) (h : RB w v s) :
    Calls Try.prog 117 #[v] w fun e w' => e = .returned (.int .i64 (firstK s)) ∧ Below w.heap.size w w' := by
  rcases Nat.eq_zero_or_pos s.length with h0 | hp
  · obtain rfl : s = [] := List.length_eq_zero_iff.1 h0
    obtain ⟨a, c, rfl⟩ := h.form
    exact impl_first_zero a c w
  · obtain ⟨g, o, c, rfl, hg, hj⟩ := h.pos hp
    exact impl_first_pos g o c _ s w rfl hn hg hj

set_option maxHeartbeats 1600000 in
theorem impl_boxes {w : World} {v : Value} {s : List Bx} (hn : s.length ≤ 1099511627776) (h : RB w v s) :
    Calls Try.prog 93 #[v] w fun e w' => e = .returned (.int .i64 (boxesK s)) ∧ Below w.heap.size w w' := by
  obtain ⟨a, c, rfl⟩ := h.form
  have H : Hid (RB w (.slice a s.length c) s) := h
  clear h
  unfold boxesK
  by_cases hm : 150 < s.length
  · rw [if_pos hm]
    have hm' : (150 : Int) < (s.length : Int) := by omega
    go_enter Try.func93, Try.ntmps93
    go_wp2
    go_returns
    exact ⟨rfl, Below.refl _ _⟩
  · rw [if_neg hm]
    have hm' : (s.length : Int) ≤ 150 := by omega
    go_enter Try.func93, Try.ntmps93
    go_wp2_with (fail)
    refine (impl_first hn H.out).mono ?_
    rintro e w1 ⟨rfl, hb1⟩
    go_wp2
    go_returns
    exact ⟨rfl, hb1⟩

end Go.Proofs.Ytpfnhiohbgconaa
