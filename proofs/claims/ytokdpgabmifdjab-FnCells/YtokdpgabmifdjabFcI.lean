/- Proved here: InShape of program and model: one answer at every list of boxes and every place. -/
import Derived.Test.YtokdpgabmifdjabIForm
namespace Go.Proofs.Ytokdpgabmifdjab
open Go.RowKit
set_option linter.unusedVariables false
set_option linter.unusedSimpArgs false

theorem insh_zero {s : List Bx} (h : shapeK s = 0) : boxesK s = 0 := by
  unfold shapeK at h
  split at h
  · assumption
  · rename_i h0; exact absurd h h0

/-- A place is in one of the boxes. -/
def hasK (s : List Bx) (x y : Int) : Bool := inK (rowK s y) x
theorem hasK_hit {s : List Bx} {x y : Int} {k : Nat} {b : Bx} (h : k < s.length) (hb : bat s k = b) (hK : hasK (s.drop k) x y = hasK s x y) (h0 : b.x0 ≤ x ∧ x < b.x1 ∧ b.y0 ≤ y ∧ y < b.y1) : hasK s x y = true := by
  rw [← hK, drop_bat h, hb]
  simp [hasK, inK, rowK, h0.1, h0.2.1, h0.2.2.1, h0.2.2.2]
theorem hasK_miss {s : List Bx} {x y : Int} {k : Nat} {b : Bx} (h : k < s.length) (hb : bat s k = b) (hK : hasK (s.drop k) x y = hasK s x y) (h0 : ¬ (b.x0 ≤ x ∧ x < b.x1 ∧ b.y0 ≤ y ∧ y < b.y1)) : hasK (s.drop (k + 1)) x y = hasK s x y := by
  rw [← hK, drop_bat h, hb]
  unfold hasK inK rowK
  rw [List.filter_cons]
  split
  · rename_i h1
    simp at h1
    have e : (decide (b.x0 ≤ x) && decide (x < b.x1)) = false := by
      rw [Bool.eq_false_iff]; simp; omega
    simp [e]
  · rfl
theorem hasK_end {s : List Bx} {x y : Int} {k : Nat} (h : s.length ≤ k) (hK : hasK (s.drop k) x y = hasK s x y) : hasK s x y = false := by
  rw [← hK, List.drop_eq_nil_of_le h]; rfl

/-- What InShape answers. -/
def inSK (s : List Bx) (x y : Int) : Bool := (shapeK s == 0) && hasK s x y

set_option maxHeartbeats 1600000 in
theorem spec_inShape {w : World} {v : Value} {s : List Bx} (x y : Int) (h : RB w v s) :
    Calls Try.prog 33 #[v, .int .i64 x, .int .i64 y] w fun e w' => e = .returned (.bool (inSK s x y)) ∧ Below w.heap.size w w' := by
  obtain ⟨a, c, rfl⟩ := h.form
  have H : Hid (RB w (.slice a s.length c) s) := h
  clear h
  obtain ⟨z, hz⟩ : ∃ z, z = shapeK s := ⟨_, rfl⟩
  have HZ : Hid (z = shapeK s) := hz
  clear hz
  by_cases hz0 : z = 0
  · have HL : Hid (s.length ≤ 150) := (boxesK_zero (insh_zero (by rw [← HZ.out]; exact hz0))).1
    have HE : Hid (inSK s x y = hasK s x y) := by unfold Hid inSK; rw [← HZ.out, hz0]; rfl
    subst hz0
    go_enter Try.func33, Try.ntmps33
    go_wp2_with (fail)
    refine (spec_shape H.out).mono ?_
    rintro e w1 ⟨rfl, hb1⟩
    rw [← HZ.out]
    have HB1 : Hid (Below w.heap.size w w1) := hb1
    clear hb1
    go_wp2_with (fail)
    refine (spec_row y (by have := HL.out; omega) (H.out.below HB1.out)).mono ?_
    rintro e w2 ⟨vr, rfl, hbs, hb2⟩
    have HR : Hid (RB w2 vr (rowK s y)) := hbs.rb
    have HB2 : Hid (Below w.heap.size w w2) := HB1.out.trans (hb2.mono HB1.out.size)
    clear hbs hb2
    go_wp2_with (fail)
    refine (spec_in x (by have := HL.out; have := rowK_length s y; omega) HR.out).mono ?_
    rintro e w3 ⟨rfl, hw3⟩
    obtain rfl := hw3
    go_wp2
    go_returns
    exact ⟨by rw [HE.out]; rfl, HB2.out⟩
  · have HE : Hid (inSK s x y = false) := by unfold Hid inSK; rw [← HZ.out]; simp [hz0]
    have hz1 : (z == 0) = false := by simp [hz0]
    go_enter Try.func33, Try.ntmps33
    go_wp2_with (fail)
    refine (spec_shape H.out).mono ?_
    rintro e w1 ⟨rfl, hb1⟩
    rw [← HZ.out]
    go_wp2
    go_returns
    exact ⟨by rw [HE.out]; rfl, hb1⟩

end Go.Proofs.Ytokdpgabmifdjab
