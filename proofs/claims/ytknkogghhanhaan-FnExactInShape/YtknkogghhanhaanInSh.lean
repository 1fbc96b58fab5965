/- Proved here: InShape of program and model: one answer at every list of boxes and every place. -/
import Derived.Test.YtknkogghhanhaanIForm
namespace Go.Proofs.Ytknkogghhanhaan
open Go.RowKit
set_option linter.unusedVariables false
set_option linter.unusedSimpArgs false

theorem shapeK_zero {s : List Bx} (h : shapeK s = 0) : boxesK s = 0 := by
  unfold shapeK at h
  split at h
  · assumption
  · rename_i h0; exact absurd h h0

/-- A place is in one of the boxes. -/
def hasK (s : List Bx) (x y : Int) : Bool := inK (rowK s y) x
theorem hasK_hit {s : List Bx} {x y : Int} {k : Nat} {b : Bx} (h : k < s.length) (hb : bat s k = b) (hK : hasK (s.drop k) x y = hasK s x y) (h0 : b.x0 ≤ x ∧ x < b.x1 ∧ b.y0 ≤ y ∧ y < b.y1) : hasK s x y = true := by
  rw [← hK, drop_bat h, hb]
  simp [hasK, inK, rowK, h0.1, h0.2.1, h0.2.2.1, h0.2.2.2]
theorem hasK_miss {s : List Bx} {x y : Int} {k : Nat} {b : Bx} (h : k < s.length) (hb : bat s k = b) (hK : hasK (s.drop k) x y = hasK s x y) (h0 : ¬ (b.x0 ≤ x ∧ x < b.x1 ∧ b.y0 ≤ y ∧ y < b.y1)) : hasK (s.drop (k + 1)) x y = hasK s x y := by
  rw [← hK, drop_bat h, hb]
  unfold hasK inK rowK
  rw [List.filter_cons]
  split
  · rename_i h1
    simp at h1
    have e : (decide (b.x0 ≤ x) && decide (x < b.x1)) = false := by
      rw [Bool.eq_false_iff]; simp; omega
    simp [e]
  · rfl
theorem hasK_end {s : List Bx} {x y : Int} {k : Nat} (h : s.length ≤ k) (hK : hasK (s.drop k) x y = hasK s x y) : hasK s x y = false := by
  rw [← hK, List.drop_eq_nil_of_le h]; rfl

set_option maxHeartbeats 800000 in
theorem impl_has_zero (a : Option Addr) (c : Nat) (x y : Int) (w : World) :
    Calls Try.prog 46 #[.slice a 0 c, .int .i64 x, .int .i64 y] w fun e w' => e = .returned (.bool false) ∧ Below w.heap.size w w' := by
  go_enter Try.func46, Try.ntmps46
  go_wp2
  refine wp_loop_rounds 1 ?_
  rw [rounds_succ]
  go_wp2
  go_returns
  exact ⟨rfl, Below.refl _ _⟩

set_option maxHeartbeats 1600000 in
theorem impl_has_pos (g o c n : Nat) (s : List Bx) (x y : Int) (w : World) (hl : Hid (s.length = n)) (hn : n ≤ 1099511627776) (hg : g < w.heap.size) (h : ∀ j, j < n → BAt w g (o + j * 4) (bat s j)) :
    Calls Try.prog 46 #[.slice (some ⟨g, o, none⟩) n c, .int .i64 x, .int .i64 y] w fun e w' => e = .returned (.bool (hasK s x y)) ∧ Below w.heap.size w w' := by
  have H : Hid _ := h
  clear h
  go_enter Try.func46, Try.ntmps46
  go_wp2
  go_loopw [11] (fun i wr => ∃ k : Nat, k ≤ n ∧ i = .int .i64 k ∧ Hid (hasK (s.drop k) x y = hasK s x y ∧ Below w.heap.size w wr)) (fun i _ => n - (intOf i).toNat)
  case atStart => exact ⟨0, Nat.zero_le _, rfl, rfl, Below.refl _ _⟩
  case round =>
    obtain ⟨k, hk, rfl, hR⟩ := hrel
    by_cases hlt : k < n
    · have hk' : Hid (k < s.length) := by unfold Hid; rw [hl.out]; exact hlt
      obtain ⟨c0, c1, c2, c3⟩ := (H.out k hlt).below hg hR.out.2
      obtain ⟨b, hb⟩ : ∃ b, b = bat s k := ⟨_, rfl⟩
      rw [← hb] at c0 c1 c2 c3
      have HB : Hid (bat s k = b) := hb.symm
      have HBL : Hid (Below w.heap.size w wr) := hR.out.2
      have hsz := hR.out.2.size
      clear hb
      have b0 : (0 : Int) ≤ (k : Int) := by omega
      have b1 : (k : Int) < (n : Int) := by omega
      go_wp2
      all_goals first
        | (go_returns
           have hbl := HBL.out
           exact ⟨by rw [hasK_hit hk'.out HB.out hR.out.1 (by omega)]; rfl, by (repeat' (first | (with_reducible exact Below.refl _ _) | (with_reducible assumption) | (with_reducible refine Below.setCell ?_ ?_ _) | (with_reducible refine Below.alloc ?_ ?_ _) | (with_reducible refine below_drewN ?_ _) | (with_reducible refine Below.drew ?_) | (with_reducible exact Nat.le_refl _) | omega | (simp; done) | (simp; omega)))⟩)
        | (go_roundw
           case rel =>
             have hbl := HBL.out
             exact ⟨k + 1, by omega, by go_num, hasK_miss hk'.out HB.out hR.out.1 (by omega), by (repeat' (first | (with_reducible exact Below.refl _ _) | (with_reducible assumption) | (with_reducible refine Below.setCell ?_ ?_ _) | (with_reducible refine Below.alloc ?_ ?_ _) | (with_reducible refine below_drewN ?_ _) | (with_reducible refine Below.drew ?_) | (with_reducible exact Nat.le_refl _) | omega | (simp; done) | (simp; omega)))⟩
           case measure => simp [intOf]; omega)
    · have HF : Hid (hasK s x y = false) := hasK_end (by rw [hl.out]; omega) hR.out.1
      go_wp2
      go_returns
      exact ⟨by rw [HF.out]; rfl, hR.out.2⟩

theorem impl_has {w : World} {v : Value} {s : List Bx} (x y : Int) (hn : s.length ≤ 1099511627776) (h : RB w v s) :
    Calls Try.prog 46 #[v, .int .i64 x, .int .i64 y] w fun e w' => e = .returned (.bool (hasK s x y)) ∧ Below w.heap.size w w' := by
  rcases Nat.eq_zero_or_pos s.length with h0 | hp
  · obtain rfl : s = [] := List.length_eq_zero_iff.1 h0
    obtain ⟨a, c, rfl⟩ := h.form
    exact impl_has_zero a c x y w
  · obtain ⟨g, o, c, rfl, hg, hj⟩ := h.pos hp
    exact impl_has_pos g o c _ s x y w rfl hn hg hj

/-- What InShape answers. -/
def inSK (s : List Bx) (x y : Int) : Bool := (shapeK s == 0) && hasK s x y

set_option maxHeartbeats 1600000 in
theorem spec_inShape {w : World} {v : Value} {s : List Bx} (x y : Int) (h : RB w v s) :
    Calls Try.prog 28 #[v, .int .i64 x, .int .i64 y] w fun e w' => e = .returned (.bool (inSK s x y)) ∧ Below w.heap.size w w' := by
  obtain ⟨a, c, rfl⟩ := h.form
  have H : Hid (RB w (.slice a s.length c) s) := h
  clear h
  obtain ⟨z, hz⟩ : ∃ z, z = shapeK s := ⟨_, rfl⟩
  have HZ : Hid (z = shapeK s) := hz
  clear hz
  by_cases hz0 : z = 0
  · have HL : Hid (s.length ≤ 150) := (boxesK_zero (shapeK_zero (by rw [← HZ.out]; exact hz0))).1
    have HE : Hid (inSK s x y = hasK s x y) := by unfold Hid inSK; rw [← HZ.out, hz0]; rfl
    subst hz0
    go_enter Try.func28, Try.ntmps28
    go_wp2_with (fail)
    refine (spec_shape H.out).mono ?_
    rintro e w1 ⟨rfl, hb1⟩
    rw [← HZ.out]
    have HB1 : Hid (Below w.heap.size w w1) := hb1
    clear hb1
    go_wp2_with (fail)
    refine (spec_row y (by have := HL.out; omega) (H.out.below HB1.out)).mono ?_
    rintro e w2 ⟨vr, rfl, hbs, hb2⟩
    have HR : Hid (RB w2 vr (rowK s y)) := hbs.rb
    have HB2 : Hid (Below w.heap.size w w2) := HB1.out.trans (hb2.mono HB1.out.size)
    clear hbs hb2
    go_wp2_with (fail)
    refine (spec_in x (by have := HL.out; have := rowK_length s y; omega) HR.out).mono ?_
    rintro e w3 ⟨rfl, hw3⟩
    obtain rfl := hw3
    go_wp2
    go_returns
    exact ⟨by rw [HE.out]; rfl, HB2.out⟩
  · have HE : Hid (inSK s x y = false) := by unfold Hid inSK; rw [← HZ.out]; simp [hz0]
    have hz1 : (z == 0) = false := by simp [hz0]
    go_enter Try.func28, Try.ntmps28
    go_wp2_with (fail)
    refine (spec_shape H.out).mono ?_
    rintro e w1 ⟨rfl, hb1⟩
    rw [← HZ.out]
    go_wp2
    go_returns
    exact ⟨by rw [HE.out]; rfl, hb1⟩

set_option maxHeartbeats 1600000 in
theorem impl_inShape {w : World} {a : Option Addr} {n c : Nat} {s : List Bx} (x y : Int) (hn : s.length ≤ 1099511627776) (hc : n ≤ c) (h : RB w (.slice a n c) s) :
    Calls Try.prog 29 #[.slice a n c, .int .i64 x, .int .i64 y] w fun e w' => e = .returned (.bool (inSK s x y)) ∧ Below w.heap.size w w' := by
  have H : Hid (RB w (.slice a n c) s ∧ s.length ≤ 1099511627776) := ⟨h, hn⟩
  clear h hn
  obtain ⟨z, hz⟩ : ∃ z, z = shapeK s := ⟨_, rfl⟩
  have HZ : Hid (z = shapeK s) := hz
  clear hz
  by_cases hz0 : z = 0
  · have HE : Hid (inSK s x y = hasK s x y) := by unfold Hid inSK; rw [← HZ.out, hz0]; rfl
    subst hz0
    go_enter Try.func29, Try.ntmps29
    go_wp2_with (fail)
    refine (impl_shape H.out.2 hc H.out.1).mono ?_
    rintro e w1 ⟨rfl, hb1⟩
    rw [← HZ.out]
    have HB1 : Hid (Below w.heap.size w w1) := hb1
    clear hb1
    go_wp2_with (fail)
    refine (impl_has x y H.out.2 (H.out.1.below HB1.out)).mono ?_
    rintro e w2 ⟨rfl, hb2⟩
    have HB2 : Hid (Below w.heap.size w w2) := HB1.out.trans (hb2.mono HB1.out.size)
    clear hb2
    go_wp2
    go_returns
    exact ⟨by rw [HE.out]; rfl, HB2.out⟩
  · have HE : Hid (inSK s x y = false) := by unfold Hid inSK; rw [← HZ.out]; simp [hz0]
    have hz1 : (z == 0) = false := by simp [hz0]
    go_enter Try.func29, Try.ntmps29
    go_wp2_with (fail)
    refine (impl_shape H.out.2 hc H.out.1).mono ?_
    rintro e w1 ⟨rfl, hb1⟩
    rw [← HZ.out]
    go_wp2
    go_returns
    exact ⟨by rw [HE.out]; rfl, hb1⟩

end Go.Proofs.Ytknkogghhanhaan
