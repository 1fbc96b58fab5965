/- Proved here: GrowShape of the model: grC, grL. -/
import Derived.Test.YtokdpgabmifdjaaSGrow
namespace Go.Proofs.Ytokdpgabmifdjaa
open Go.RowKit
set_option linter.unusedVariables false
set_option linter.unusedSimpArgs false

theorem gr_empty {s : List Bx} {d : Int} (hs0 : shapeK s = 0) (h0 : s.length = 0) (h : -1000 ≤ d ∧ d ≤ 1000) : grC s d = 0 ∧ grL s d = [] := by
  obtain rfl : s = [] := List.length_eq_zero_iff.1 h0
  by_cases hd : d < 0
  · have := gr_neg hs0 ⟨h.1, hd⟩
    have e : shL [] (-d) = [] := rfl
    rw [e] at this
    exact this
  · have := gr_pos hs0 ⟨by omega, h.2⟩ (by rfl)
    have e : opOf (takesK 1) (grS [] d) [] = [] := rfl
    rw [e] at this
    exact this

set_option maxRecDepth 10000 in
set_option maxHeartbeats 8000000 in
theorem spec_grow (d : Int) (hd64 : -9223372036854775808 ≤ d ∧ d ≤ 9223372036854775807) {w : World} {v : Value} {s : List Bx} (h : RB w v s) :
    Calls Try.prog 33 #[v, .int .i64 d] w fun e w' => ∃ vs, e = .returned (.agg #[.int .i64 (grC s d), vs]) ∧ BS w' w.heap.size vs (grL s d) ∧ Below w.heap.size w w' := by
  obtain ⟨a, c, rfl⟩ := h.form
  have H : Hid (RB w (.slice a s.length c) s) := h
  clear h
  obtain ⟨z, hz⟩ : ∃ z, z = shapeK s := ⟨_, rfl⟩
  have HZ : Hid (z = shapeK s) := hz
  clear hz
  by_cases hz0 : z = 0
  · have hs0 : shapeK s = 0 := by rw [← HZ.out]; exact hz0
    have hz := boxesK_zero (shapeK_zero hs0)
    subst hz0
    rcases (by omega : d < -1000 ∨ 1000 < d ∨ ((-1000 ≤ d ∧ d ≤ 1000) ∧ s.length = 0) ∨ ((-1000 ≤ d ∧ d < 0) ∧ 0 < s.length) ∨ ((0 ≤ d ∧ d ≤ 1000) ∧ 0 < s.length)) with h1 | h1 | h1 | h1 | h1
    · have HE : Hid (grC s d = 3 ∧ grL s d = []) := gr_far hs0 (Or.inl h1)
      clear hs0 hz
      go_enter Try.func33, Try.ntmps33
      go_wp2_with (fail)
      refine (spec_shape (H.out.below ((Below.refl _ _).alloc (Nat.le_refl _) _))).mono ?_
      rintro e w1 ⟨rfl, hb1⟩
      rw [← HZ.out]
      obtain ⟨hk1, hlt1, hB1⟩ := resT hb1
      have HB1 : Hid (Below w.heap.size w w1) := hB1
      obtain ⟨r0, r1, f0, f1, hlt2⟩ := cellsT hk1
      clear hb1 hk1 hB1
      go_wp2
      refine bodyPost_ret (by simp [results, Try.results33, go_sem, r0, r1, hlt2]; rfl) rfl ⟨.slice none 0 0, ?_, ?_, ?_⟩
      · rw [HE.out.1]
      · rw [HE.out.2]; exact BS.nil _ _
      · have hb := HB1.out
        (repeat' (first | (with_reducible exact Below.refl _ _) | (with_reducible assumption) | (with_reducible refine Below.setCell ?_ ?_ _) | (with_reducible refine Below.alloc ?_ ?_ _) | (with_reducible refine below_drewN ?_ _) | (with_reducible refine Below.drew ?_) | (with_reducible exact Nat.le_refl _) | omega | (simp; done) | (simp; omega)))
    · have HE : Hid (grC s d = 3 ∧ grL s d = []) := gr_far hs0 (Or.inr h1)
      have h2 : ¬ d < -1000 := by omega
      clear hs0 hz
      go_enter Try.func33, Try.ntmps33
      go_wp2_with (fail)
      refine (spec_shape (H.out.below ((Below.refl _ _).alloc (Nat.le_refl _) _))).mono ?_
      rintro e w1 ⟨rfl, hb1⟩
      rw [← HZ.out]
      obtain ⟨hk1, hlt1, hB1⟩ := resT hb1
      have HB1 : Hid (Below w.heap.size w w1) := hB1
      obtain ⟨r0, r1, f0, f1, hlt2⟩ := cellsT hk1
      clear hb1 hk1 hB1
      go_wp2
      refine bodyPost_ret (by simp [results, Try.results33, go_sem, r0, r1, hlt2]; rfl) rfl ⟨.slice none 0 0, ?_, ?_, ?_⟩
      · rw [HE.out.1]
      · rw [HE.out.2]; exact BS.nil _ _
      · have hb := HB1.out
        (repeat' (first | (with_reducible exact Below.refl _ _) | (with_reducible assumption) | (with_reducible refine Below.setCell ?_ ?_ _) | (with_reducible refine Below.alloc ?_ ?_ _) | (with_reducible refine below_drewN ?_ _) | (with_reducible refine Below.drew ?_) | (with_reducible exact Nat.le_refl _) | omega | (simp; done) | (simp; omega)))
    · have HE : Hid (grC s d = 0 ∧ grL s d = []) := gr_empty hs0 h1.2 h1.1
      have h2 : ¬ d < -1000 := by omega
      have h3 : ¬ 1000 < d := by omega
      have h4 : (s.length : Int) = 0 := by omega
      clear hs0 hz h1
      go_enter Try.func33, Try.ntmps33
      go_wp2_with (fail)
      refine (spec_shape (H.out.below ((Below.refl _ _).alloc (Nat.le_refl _) _))).mono ?_
      rintro e w1 ⟨rfl, hb1⟩
      rw [← HZ.out]
      obtain ⟨hk1, hlt1, hB1⟩ := resT hb1
      have HB1 : Hid (Below w.heap.size w w1) := hB1
      obtain ⟨r0, r1, f0, f1, hlt2⟩ := cellsT hk1
      clear hb1 hk1 hB1
      go_wp2
      refine bodyPost_ret (by simp [results, Try.results33, go_sem, r0, r1, hlt2]; rfl) rfl ⟨.slice none 0 0, ?_, ?_, ?_⟩
      · rw [HE.out.1]
      · rw [HE.out.2]; exact BS.nil _ _
      · have hb := HB1.out
        (repeat' (first | (with_reducible exact Below.refl _ _) | (with_reducible assumption) | (with_reducible refine Below.setCell ?_ ?_ _) | (with_reducible refine Below.alloc ?_ ?_ _) | (with_reducible refine below_drewN ?_ _) | (with_reducible refine Below.drew ?_) | (with_reducible exact Nat.le_refl _) | omega | (simp; done) | (simp; omega)))
    · obtain ⟨hdr, hp⟩ := h1
      obtain ⟨L, hL⟩ : ∃ L, L = shL s (-d) := ⟨_, rfl⟩
      have HE : Hid (grC s d = toldC L.length ∧ grL s d = toldL L) := by rw [hL]; exact gr_neg hs0 hdr
      obtain ⟨M, hM⟩ : ∃ M, M = misL s := ⟨_, rfl⟩
      obtain ⟨X, hX⟩ : ∃ X, X = opOf (takesK 1) (grS M (-d)) [] := ⟨_, rfl⟩
      have hL2 : L = opOf (takesK 3) s X := by rw [hL, hX, sh_same s (-d), hM]; unfold shL; rw [if_neg (by omega)]
      obtain ⟨B, hB⟩ : ∃ B, B = bnd s s.length := ⟨_, rfl⟩
      have hnb := near_bnd hs0 hp
      rw [← hB] at hnb
      have hms := mis_small hs0 hp
      have hmn := near_mis hs0 hp
      rw [← hM] at hms hmn
      have hXl : X.length ≤ 408608 := by
        rw [hX]
        refine Nat.le_trans (or_len (takesK 1) (grS M (-d))) ?_
        have e : (grS M (-d)).length = M.length := by simp [grS]
        rw [e]
        have := hms.1
        calc 2 * M.length * M.length ≤ 2 * 452 * 452 := Nat.mul_le_mul (by omega) (by omega)
          _ = 408608 := by decide
      have HBD : Hid (∀ {W : World}, RB W (.slice a s.length c) s → Calls Try.prog 63 #[.slice a s.length c] W fun e w' => e = .returned (.agg #[.int .i64 B.x0, .int .i64 B.y0, .int .i64 B.x1, .int .i64 B.y1]) ∧ Below W.heap.size W w') := fun {W} hW => by rw [hB]; exact spec_bounds_any hz.1 hp hW
      have HS1 : Hid (∀ {W : World} {g : Nat}, RB W (.slice a s.length c) s → BS W 0 (.slice (some ⟨g, 0, none⟩) 1 1) [⟨B.x0 - 1, B.y0 - 1, B.x1 + 1, B.y1 + 1⟩] → Calls Try.prog 47 #[.int .i64 3, .slice (some ⟨g, 0, none⟩) 1 1, .slice a s.length c] W fun e w' => ∃ v', e = .returned v' ∧ BS w' W.heap.size v' M ∧ Below W.heap.size W w') := fun {W g} hW hb => by
        have e : M = opOf (takesK 3) [⟨B.x0 - 1, B.y0 - 1, B.x1 + 1, B.y1 + 1⟩] s := by rw [hM, hB]; rfl
        rw [e]
        refine (spec_op 3 (some ⟨g, 0, none⟩) a 1 c [⟨B.x0 - 1, B.y0 - 1, B.x1 + 1, B.y1 + 1⟩] s W (by simp; have := hz.1; omega) hb.rb hW).mono ?_
        rintro e w' ⟨v', rfl, ho, _, hb⟩
        exact ⟨v', rfl, ho, hb⟩
      have HWD : Hid (∀ {W : World} {v : Value}, RB W v M → Calls Try.prog 65 #[v, .int .i64 (-d)] W fun e w' => ∃ v', e = .returned v' ∧ BS w' W.heap.size v' X ∧ Below W.heap.size W w') := fun {W v} hv => by rw [hX]; exact spec_wide (-d) (by omega) (by have := hms.1; omega) hmn hv
      have HS2 : Hid (∀ {W : World} {a2 : Option Addr} {c2 : Nat}, RB W (.slice a s.length c) s → RB W (.slice a2 X.length c2) X → Calls Try.prog 47 #[.int .i64 3, .slice a s.length c, .slice a2 X.length c2] W fun e w' => ∃ v', e = .returned v' ∧ BS w' W.heap.size v' L ∧ Below W.heap.size W w') := fun {W a2 c2} hW hb => by
        rw [hL2]
        refine (spec_op 3 a a2 c c2 s X W (by have := hz.1; omega) hW hb).mono ?_
        rintro e w' ⟨v', rfl, ho, _, hb⟩
        exact ⟨v', rfl, ho, hb⟩
      obtain ⟨n1, n2⟩ := hnb
      unfold Near at n1
      have x1 : IntKind.i64.wrap (B.x0 - 1) = B.x0 - 1 := by rw [IntKind.wrap_i64]; omega
      have x2 : IntKind.i64.wrap (B.y0 - 1) = B.y0 - 1 := by rw [IntKind.wrap_i64]; omega
      have x3 : IntKind.i64.wrap (B.x1 + 1) = B.x1 + 1 := by rw [IntKind.wrap_i64]; omega
      have x4 : IntKind.i64.wrap (B.y1 + 1) = B.y1 + 1 := by rw [IntKind.wrap_i64]; omega
      have x5 : IntKind.i64.wrap (-d) = -d := by rw [IntKind.wrap_i64]; omega
      have h2 : ¬ d < -1000 := by omega
      have h3 : ¬ 1000 < d := by omega
      have h4 : ¬ (0 : Int) ≤ d := by omega
      have h5 : ¬ (s.length : Int) = 0 := by omega
      clear hs0 hz hL hM hX hL2 hB hms hmn hXl n1 n2 hdr
      go_enter Try.func33, Try.ntmps33
      go_wp2_with (fail)
      refine (spec_shape (H.out.below ((Below.refl _ _).alloc (Nat.le_refl _) _))).mono ?_
      rintro e w1 ⟨rfl, hb1⟩
      rw [← HZ.out]
      obtain ⟨hk1, hlt1, hB1⟩ := resT hb1
      have HB1 : Hid (Below w.heap.size w w1) := hB1
      have HK1 : Hid _ := hk1
      clear hb1 hk1 hB1
      go_wp2_with (fail)
      refine (HBD.out (H.out.below HB1.out)).mono ?_
      rintro e w4 ⟨rfl, hb4⟩
      have HB4 : Hid (Below w1.heap.size w1 w4) := hb4
      clear hb4
      go_wp2_with (fail)
      obtain ⟨W5, hW5⟩ : ∃ W5, W5 = (w4.alloc (.cells #[.int .i64 B.x0, .int .i64 B.y0, .int .i64 B.x1, .int .i64 B.y1] 56)).alloc (.cells #[.int .i64 (B.x0 - 1), .int .i64 (B.y0 - 1), .int .i64 (B.x1 + 1), .int .i64 (B.y1 + 1)] 56) := ⟨_, rfl⟩
      rw [← hW5]
      have HLIT : Hid (BS W5 0 (.slice (some ⟨w4.heap.size + 1, 0, none⟩) 1 1) [⟨B.x0 - 1, B.y0 - 1, B.x1 + 1, B.y1 + 1⟩]) := by
        have := lit1 ⟨B.x0 - 1, B.y0 - 1, B.x1 + 1, B.y1 + 1⟩ (w4.alloc (.cells #[.int .i64 B.x0, .int .i64 B.y0, .int .i64 B.x1, .int .i64 B.y1] 56)) 0 (Nat.zero_le _)
        rw [World.size_alloc] at this
        rw [hW5]
        exact this
      have HW5 : Hid (Below w4.heap.size w4 W5) := by
        rw [hW5]
        exact ((Below.refl _ _).alloc (Nat.le_refl _) _).alloc (by simp) _
      have HB45 : Hid (Below w1.heap.size w1 W5) := HB4.out.trans (HW5.out.mono HB4.out.size)
      clear hW5
      refine (HS1.out (H.out.below (HB1.out.trans (HB45.out.mono (Nat.le_of_lt hlt1)))) HLIT.out).mono ?_
      rintro e w5 ⟨v5, rfl, hm5, hb5⟩
      obtain ⟨a5, c5, rfl⟩ := hm5.form
      have HB5 : Hid (Below w1.heap.size w1 w5) := HB45.out.trans (hb5.mono HB45.out.size)
      have M5 : Hid (RB w5 (.slice a5 M.length c5) M) := hm5.rb
      clear hm5 hb5
      go_wp2_with (fail)
      refine (HWD.out M5.out).mono ?_
      rintro e w6 ⟨v6, rfl, hm6, hb6⟩
      obtain ⟨a6, c6, rfl⟩ := hm6.form
      have HB6 : Hid (Below w1.heap.size w1 w6) := HB5.out.trans (hb6.mono HB5.out.size)
      have M6 : Hid (RB w6 (.slice a6 X.length c6) X) := hm6.rb
      clear hm6 hb6
      go_wp2_with (fail)
      refine (HS2.out (H.out.below (HB1.out.trans (HB6.out.mono (Nat.le_of_lt hlt1)))) M6.out).mono ?_
      rintro e w2 ⟨v', rfl, ho, hb2⟩
      obtain ⟨a2, c2, rfl⟩ := ho.form
      have HO : Hid (BS w2 w1.heap.size (.slice a2 L.length c2) L) := ho.low HB6.out.size
      have HB2 : Hid (Below w1.heap.size w1 w2) := HB6.out.trans (hb2.mono HB6.out.size)
      clear ho hb2
      go_wp2_with (fail)
      refine (spec_told a2 _ c2 w2).mono ?_
      rintro e w3 ⟨rfl, hb3⟩
      have hk3 := (hb3.block _ (Nat.lt_of_lt_of_le hlt1 HB2.out.size)).trans ((HB2.out.block _ hlt1).trans HK1.out)
      obtain ⟨r0, r1, f0, f1, hlt3⟩ := cellsT hk3
      have HR : Hid (BS w3 w1.heap.size (toldV (.slice a2 L.length c2) L.length) (toldL L) ∧ Below w.heap.size w w3) := ⟨(told_bs HO.out).below hb3, HB1.out.trans ((HB2.out.mono (Nat.le_of_lt hlt1)).trans (hb3.mono (Nat.le_of_lt (Nat.lt_of_lt_of_le hlt1 HB2.out.size))))⟩
      clear hb3 hk3
      obtain ⟨a3, c3, h3⟩ := HR.out.1.form
      rw [h3] at HR ⊢
      clear h3
      go_wp2
      refine bodyPost_ret (by simp [results, Try.results33, go_sem, r0, r1, hlt3]; rfl) rfl ⟨.slice a3 (toldL L).length c3, ?_, ?_, ?_⟩
      · rw [HE.out.1]
      · rw [HE.out.2]
        refine (HR.out.1.kept fun g hg => ?_).low (Nat.le_of_lt hlt1)
        have hge := (World.ownsRow.lt HR.out.1 _ hg).1
        rw [heap_setCell_other _ _ _ _ (by simp; omega), heap_setCell_other _ _ _ _ (by simp; omega)]
      · have hb := HR.out.2
        (repeat' (first | (with_reducible exact Below.refl _ _) | (with_reducible assumption) | (with_reducible refine Below.setCell ?_ ?_ _) | (with_reducible refine Below.alloc ?_ ?_ _) | (with_reducible refine below_drewN ?_ _) | (with_reducible refine Below.drew ?_) | (with_reducible exact Nat.le_refl _) | omega | (simp; done) | (simp; omega)))
    · obtain ⟨hdr, hp⟩ := h1
      obtain ⟨B, hB⟩ : ∃ B, B = bnd s s.length := ⟨_, rfl⟩
      obtain ⟨y, hy⟩ : ∃ y, y = bfK (growB d B) := ⟨_, rfl⟩
      have hfy : firstK (grS s d) = y := by rw [hy, hB]; exact grown_fault hp (fun b hb => ⟨(hz.2 b hb).1, (hz.2 b hb).2.1⟩) hdr.1
      have hnb := near_bnd hs0 hp
      rw [← hB] at hnb
      have HBD : Hid (∀ {W : World}, RB W (.slice a s.length c) s → Calls Try.prog 63 #[.slice a s.length c] W fun e w' => e = .returned (.agg #[.int .i64 B.x0, .int .i64 B.y0, .int .i64 B.x1, .int .i64 B.y1]) ∧ Below W.heap.size W w') := fun {W} hW => by rw [hB]; exact spec_bounds_any hz.1 hp hW
      have HBF : Hid (∀ W, Calls Try.prog 64 #[.agg #[.int .i64 (B.x0 - d), .int .i64 (B.y0 - d), .int .i64 (B.x1 + d), .int .i64 (B.y1 + d)]] W fun e w' => e = .returned (.int .i64 y) ∧ Below W.heap.size W w') := fun W => by rw [hy]; exact spec_box (growB d B) W
      obtain ⟨n1, n2⟩ := hnb
      unfold Near at n1
      have x1 : IntKind.i64.wrap (B.x0 - d) = B.x0 - d := by rw [IntKind.wrap_i64]; omega
      have x2 : IntKind.i64.wrap (B.y0 - d) = B.y0 - d := by rw [IntKind.wrap_i64]; omega
      have x3 : IntKind.i64.wrap (B.x1 + d) = B.x1 + d := by rw [IntKind.wrap_i64]; omega
      have x4 : IntKind.i64.wrap (B.y1 + d) = B.y1 + d := by rw [IntKind.wrap_i64]; omega
      have h2 : ¬ d < -1000 := by omega
      have h3 : ¬ 1000 < d := by omega
      have h4 : (0 : Int) ≤ d := hdr.1
      have h5 : ¬ (s.length : Int) = 0 := by omega
      by_cases hy0 : y = 0
      · obtain ⟨L, hL⟩ : ∃ L, L = opOf (takesK 1) (grS s d) [] := ⟨_, rfl⟩
        have HE : Hid (grC s d = toldC L.length ∧ grL s d = toldL L) := by rw [hL]; exact gr_pos hs0 hdr (by rw [hfy]; exact hy0)
        have HWD : Hid (∀ {W : World}, RB W (.slice a s.length c) s → Calls Try.prog 65 #[.slice a s.length c, .int .i64 d] W fun e w' => ∃ v', e = .returned v' ∧ BS w' W.heap.size v' L ∧ Below W.heap.size W w') := fun {W} hW => by
          rw [hL]
          refine spec_wide d hdr (by have := hz.1; omega) (fun b hb => ?_) hW
          have := hz.2 b hb
          unfold Near; omega
        subst hy0
        clear hs0 hz hL hB hy hfy n1 n2 hdr
        go_enter Try.func33, Try.ntmps33
        go_wp2_with (fail)
        refine (spec_shape (H.out.below ((Below.refl _ _).alloc (Nat.le_refl _) _))).mono ?_
        rintro e w1 ⟨rfl, hb1⟩
        rw [← HZ.out]
        obtain ⟨hk1, hlt1, hB1⟩ := resT hb1
        have HB1 : Hid (Below w.heap.size w w1) := hB1
        have HK1 : Hid _ := hk1
        clear hb1 hk1 hB1
        go_wp2_with (fail)
        refine (HBD.out (H.out.below HB1.out)).mono ?_
        rintro e w4 ⟨rfl, hb4⟩
        have HB4 : Hid (Below w1.heap.size w1 w4) := hb4
        clear hb4
        go_wp2_with (fail)
        refine (HBF.out _).mono ?_
        rintro e w5 ⟨rfl, hb5⟩
        have hbA : Below w4.heap.size w4 (w4.alloc (.cells #[.int .i64 B.x0, .int .i64 B.y0, .int .i64 B.x1, .int .i64 B.y1] 56)) := (Below.refl _ _).alloc (Nat.le_refl _) _
        have HB5 : Hid (Below w1.heap.size w1 w5) := HB4.out.trans ((hbA.trans (hb5.mono (by simp))).mono HB4.out.size)
        clear hbA
        clear hb5
        go_wp2_with (fail)
        refine (HWD.out (H.out.below (HB1.out.trans (HB5.out.mono (Nat.le_of_lt hlt1))))).mono ?_
        rintro e w2 ⟨v', rfl, ho, hb2⟩
        obtain ⟨a2, c2, rfl⟩ := ho.form
        have HO : Hid (BS w2 w1.heap.size (.slice a2 L.length c2) L) := ho.low HB5.out.size
        have HB2 : Hid (Below w1.heap.size w1 w2) := HB5.out.trans (hb2.mono HB5.out.size)
        clear ho hb2
        go_wp2_with (fail)
        refine (spec_told a2 _ c2 w2).mono ?_
        rintro e w3 ⟨rfl, hb3⟩
        have hk3 := (hb3.block _ (Nat.lt_of_lt_of_le hlt1 HB2.out.size)).trans ((HB2.out.block _ hlt1).trans HK1.out)
        obtain ⟨r0, r1, f0, f1, hlt3⟩ := cellsT hk3
        have HR : Hid (BS w3 w1.heap.size (toldV (.slice a2 L.length c2) L.length) (toldL L) ∧ Below w.heap.size w w3) := ⟨(told_bs HO.out).below hb3, HB1.out.trans ((HB2.out.mono (Nat.le_of_lt hlt1)).trans (hb3.mono (Nat.le_of_lt (Nat.lt_of_lt_of_le hlt1 HB2.out.size))))⟩
        clear hb3 hk3
        obtain ⟨a3, c3, h3⟩ := HR.out.1.form
        rw [h3] at HR ⊢
        clear h3
        go_wp2
        refine bodyPost_ret (by simp [results, Try.results33, go_sem, r0, r1, hlt3]; rfl) rfl ⟨.slice a3 (toldL L).length c3, ?_, ?_, ?_⟩
        · rw [HE.out.1]
        · rw [HE.out.2]
          refine (HR.out.1.kept fun g hg => ?_).low (Nat.le_of_lt hlt1)
          have hge := (World.ownsRow.lt HR.out.1 _ hg).1
          rw [heap_setCell_other _ _ _ _ (by simp; omega), heap_setCell_other _ _ _ _ (by simp; omega)]
        · have hb := HR.out.2
          (repeat' (first | (with_reducible exact Below.refl _ _) | (with_reducible assumption) | (with_reducible refine Below.setCell ?_ ?_ _) | (with_reducible refine Below.alloc ?_ ?_ _) | (with_reducible refine below_drewN ?_ _) | (with_reducible refine Below.drew ?_) | (with_reducible exact Nat.le_refl _) | omega | (simp; done) | (simp; omega)))
      · have HE : Hid (grC s d = y ∧ grL s d = []) := by
          have := gr_out hs0 hdr (by rw [hfy]; exact hy0)
          rw [hfy] at this
          exact this
        clear hs0 hz hB hy hfy n1 n2 hdr
        go_enter Try.func33, Try.ntmps33
        go_wp2_with (fail)
        refine (spec_shape (H.out.below ((Below.refl _ _).alloc (Nat.le_refl _) _))).mono ?_
        rintro e w1 ⟨rfl, hb1⟩
        rw [← HZ.out]
        obtain ⟨hk1, hlt1, hB1⟩ := resT hb1
        have HB1 : Hid (Below w.heap.size w w1) := hB1
        have HK1 : Hid _ := hk1
        clear hb1 hk1 hB1
        go_wp2_with (fail)
        refine (HBD.out (H.out.below HB1.out)).mono ?_
        rintro e w4 ⟨rfl, hb4⟩
        have HB4 : Hid (Below w1.heap.size w1 w4) := hb4
        clear hb4
        go_wp2_with (fail)
        refine (HBF.out _).mono ?_
        rintro e w5 ⟨rfl, hb5⟩
        have hbA : Below w4.heap.size w4 (w4.alloc (.cells #[.int .i64 B.x0, .int .i64 B.y0, .int .i64 B.x1, .int .i64 B.y1] 56)) := (Below.refl _ _).alloc (Nat.le_refl _) _
        have HB5 : Hid (Below w1.heap.size w1 w5) := HB4.out.trans ((hbA.trans (hb5.mono (by simp))).mono HB4.out.size)
        clear hbA
        have hk5 := (HB5.out.block _ hlt1).trans HK1.out
        obtain ⟨r0, r1, f0, f1, hlt2⟩ := cellsT hk5
        have HB6 : Hid (Below w.heap.size w w5) := HB1.out.trans (HB5.out.mono (Nat.le_of_lt hlt1))
        clear hb5 hk5
        go_wp2
        refine bodyPost_ret (by simp [results, Try.results33, go_sem, r0, r1, hlt2]; rfl) rfl ⟨.slice none 0 0, ?_, ?_, ?_⟩
        · rw [HE.out.1]
        · rw [HE.out.2]; exact BS.nil _ _
        · have hb := HB6.out
          (repeat' (first | (with_reducible exact Below.refl _ _) | (with_reducible assumption) | (with_reducible refine Below.setCell ?_ ?_ _) | (with_reducible refine Below.alloc ?_ ?_ _) | (with_reducible refine below_drewN ?_ _) | (with_reducible refine Below.drew ?_) | (with_reducible exact Nat.le_refl _) | omega | (simp; done) | (simp; omega)))
  · have HE : Hid (grC s d = z ∧ grL s d = []) := by
      have hne : ¬ shapeK s = 0 := fun e => hz0 (HZ.out.trans e)
      unfold Hid grC grL; rw [if_neg hne, if_neg hne]; exact ⟨HZ.out.symm, rfl⟩
    go_enter Try.func33, Try.ntmps33
    go_wp2_with (fail)
    refine (spec_shape (H.out.below ((Below.refl _ _).alloc (Nat.le_refl _) _))).mono ?_
    rintro e w1 ⟨rfl, hb1⟩
    rw [← HZ.out]
    obtain ⟨hk1, hlt1, hB1⟩ := resT hb1
    have HB1 : Hid (Below w.heap.size w w1) := hB1
    obtain ⟨r0, r1, f0, f1, hlt2⟩ := cellsT hk1
    clear hb1 hk1 hB1
    go_wp2
    refine bodyPost_ret (by simp [results, Try.results33, go_sem, r0, r1, hlt2]; rfl) rfl ⟨.slice none 0 0, ?_, ?_, ?_⟩
    · rw [HE.out.1]
    · rw [HE.out.2]; exact BS.nil _ _
    · have hb := HB1.out
      (repeat' (first | (with_reducible exact Below.refl _ _) | (with_reducible assumption) | (with_reducible refine Below.setCell ?_ ?_ _) | (with_reducible refine Below.alloc ?_ ?_ _) | (with_reducible refine below_drewN ?_ _) | (with_reducible refine Below.drew ?_) | (with_reducible exact Nat.le_refl _) | omega | (simp; done) | (simp; omega)))

end Go.Proofs.Ytokdpgabmifdjaa
