/- Proved here: l4Runs, ThinOf and NearOf of the model: tnC, tnL. -/
import Derived.Test.YtokdpgabmifdjabSTn
namespace Go.Proofs.Ytokdpgabmifdjab
open Go.RowKit
set_option linter.unusedVariables false
set_option linter.unusedSimpArgs false

theorem BS.noneCap {w : World} {B n c : Nat} {ao : Option Addr} {s : List Bx} (h : BS w B (.slice ao n c) s) : ao = none → c = 0 := by
  intro e
  subst e
  rcases h.2 with ⟨h1, _⟩ | ⟨g, cap, cur, h1, _⟩
  · simp only [Value.slice.injEq] at h1; exact h1.2.2
  · simp only [Value.slice.injEq] at h1; exact absurd h1.1 (by simp)

set_option maxRecDepth 10000 in
set_option maxHeartbeats 4000000 in
theorem spec_runsL (gaps : Bool) (z : Int) {w : World} {ao : Option Addr} {c : Nat} {s : List Bx} (hao : ao = none → c = 0) (h : RB w (.slice ao s.length c) s) :
    Calls Try.prog 34 #[.slice ao s.length c, .int .i64 z, .bool gaps] w fun e w' => ∃ vs, e = .returned (.agg #[.int .i64 (tnC gaps s z), vs]) ∧ BS w' w.heap.size vs (tnL gaps s z) ∧ Below w.heap.size w w' := by
  have H : Hid (RB w (.slice ao s.length c) s ∧ (ao = none → c = 0)) := ⟨h, hao⟩
  clear h hao
  obtain ⟨y, hy⟩ : ∃ y, y = shapeK s := ⟨_, rfl⟩
  have HZ : Hid (y = shapeK s) := hy
  clear hy
  by_cases hy0 : y = 0
  rotate_left
  · have HE : Hid (tnC gaps s z = y ∧ tnL gaps s z = []) := by
      unfold Hid; rw [HZ.out]; exact tn_code (fun e => hy0 (HZ.out.trans e))
    go_enter Try.func34, Try.ntmps34
    go_wp2_with (fail)
    refine (spec_shape (H.out.1.below ((Below.refl _ _).alloc (Nat.le_refl _) _))).mono ?_
    rintro e w1 ⟨rfl, hb1⟩
    rw [← HZ.out]
    obtain ⟨hk1, hlt1, hB1⟩ := resT hb1
    have HB1 : Hid (Below w.heap.size w w1) := hB1
    obtain ⟨r0, r1, f0, f1, hltR⟩ := cellsT hk1
    clear hb1 hk1 hB1
    go_wp2
    refine bodyPost_ret (by simp [results, Try.results34, go_sem, r0, r1, hltR]; rfl) rfl ⟨.slice none 0 0, ?_, ?_, ?_⟩
    · rw [HE.out.1]
    · rw [HE.out.2]; exact BS.nil _ _
    · have hb := HB1.out
      (repeat' (first | (with_reducible exact Below.refl _ _) | (with_reducible assumption) | (with_reducible refine Below.setCell ?_ ?_ _) | (with_reducible refine Below.alloc ?_ ?_ _) | (with_reducible refine below_drewN ?_ _) | (with_reducible refine Below.drew ?_) | (with_reducible exact Nat.le_refl _) | omega | (simp; done) | (simp; omega)))
  have hs0 : shapeK s = 0 := by rw [← HZ.out]; exact hy0
  rcases (by omega : z < 1 ∨ 1000 < z ∨ (1 ≤ z ∧ z ≤ 1000)) with hq | hq | hq
  rotate_right
  · obtain ⟨U, hU⟩ : ∃ U, U = upL s := ⟨_, rfl⟩
    obtain ⟨P1, hP1⟩ : ∃ P1, P1 = pickL gaps U z := ⟨_, rfl⟩
    obtain ⟨C1, hC1⟩ : ∃ C1, C1 = opOf (takesK 1) (trS P1 3) [] := ⟨_, rfl⟩
    obtain ⟨P0, hP0⟩ : ∃ P0, P0 = pickL gaps s z := ⟨_, rfl⟩
    obtain ⟨L, hL⟩ : ∃ L, L = opOf (takesK 1) P0 C1 := ⟨_, rfl⟩
    have HLT : Hid (L = tnO gaps s z) := by
      have := tnO_form gaps s z
      unfold Hid
      rw [hL, hP0, hC1, hP1, hU, takes_or]
      exact this
    have HE : Hid (tnC gaps s z = toldC L.length ∧ tnL gaps s z = toldL L) := by
      unfold Hid; rw [HLT.out]; exact tn_told hs0 hq
    have hUl : U.length ≤ 45000 := by rw [hU]; exact upL_len hs0
    have hP1l : P1.length ≤ 45000 := by rw [hP1]; exact Nat.le_trans (pickL_len _ _ _) hUl
    have hs150 := shapeK_len hs0
    have hP0l : P0.length ≤ 150 := by rw [hP0]; exact Nat.le_trans (pickL_len _ _ _) hs150
    have HT1 : Hid (∀ {W : World}, RB W (.slice ao s.length c) s → Calls Try.prog 63 #[.slice ao s.length c, .int .i64 1] W fun e w' => ∃ v', e = .returned v' ∧ BS w' W.heap.size v' U ∧ Below W.heap.size W w') := fun {W} hW => by
      refine (spec_turnedB 1 (by omega) (by omega) H.out.2 hW).mono ?_
      rintro e w' ⟨v', rfl, h1, _, h2⟩
      exact ⟨v', rfl, by rw [hU]; unfold upL; rw [← takes_or]; exact h1, h2⟩
    have HR1 : Hid (∀ {W : World} {v : Value}, RB W v U → Calls Try.prog 64 #[v, .int .i64 z, .bool gaps] W fun e w' => ∃ v', e = .returned v' ∧ BS w' W.heap.size v' P1 ∧ Below W.heap.size W w') := fun {W v} hW => by
      rw [hP1]; exact spec_rows gaps z (by omega) (by rw [hU]; exact upL_fine hs0) hW
    have HT3 : Hid (∀ {W : World} {ao : Option Addr} {c : Nat}, (ao = none → c = 0) → RB W (.slice ao P1.length c) P1 → Calls Try.prog 63 #[.slice ao P1.length c, .int .i64 3] W fun e w' => ∃ v', e = .returned v' ∧ BS w' W.heap.size v' C1 ∧ Below W.heap.size W w') := fun {W ao c} hao hW => by
      refine (spec_turnedB 3 (by omega) (by omega) hao hW).mono ?_
      rintro e w' ⟨v', rfl, h1, _, h2⟩
      exact ⟨v', rfl, by rw [hC1]; exact h1, h2⟩
    have HR0 : Hid (∀ {W : World} {v : Value}, RB W v s → Calls Try.prog 64 #[v, .int .i64 z, .bool gaps] W fun e w' => ∃ v', e = .returned v' ∧ BS w' W.heap.size v' P0 ∧ Below W.heap.size W w') := fun {W v} hW => by
      rw [hP0]; exact spec_rows gaps z (by omega) (fine_shape hs0) hW
    have hC1l : C1.length ≤ 90000 := by rw [hC1, hP1, hU, takes_or]; exact colO_len hs0 gaps z
    have HOP : Hid (∀ {W : World} {aa ab : Option Addr} {ac bc : Nat}, RB W (.slice aa P0.length ac) P0 → RB W (.slice ab C1.length bc) C1 → Calls Try.prog 50 #[.int .i64 1, .slice aa P0.length ac, .slice ab C1.length bc] W fun e w' => ∃ v', e = .returned v' ∧ BS w' W.heap.size v' L ∧ v' ≠ .slice none 0 0 ∧ Below W.heap.size W w') := fun {W aa ab ac bc} h1 h2 => by
      rw [hL]; exact spec_op 1 aa ab ac bc P0 C1 W (by omega) h1 h2
    clear hL hC1 hP1 hP0 hU hs0 HLT
    obtain ⟨hq1, hq2⟩ := hq
    have hq3 : ¬ z < 1 := by omega
    have hq4 : ¬ 1000 < z := by omega
    subst hy0
    go_enter Try.func34, Try.ntmps34
    go_wp2_with (fail)
    refine (spec_shape (H.out.1.below ((Below.refl _ _).alloc (Nat.le_refl _) _))).mono ?_
    rintro e w1 ⟨rfl, hb1⟩
    rw [← HZ.out]
    obtain ⟨hk1, hlt1, hB1⟩ := resT hb1
    have HB1 : Hid (Below w.heap.size w w1) := hB1
    have HK1 : Hid _ := hk1
    clear hb1 hk1 hB1
    go_wp2_with (fail)
    refine (HT1.out (H.out.1.below HB1.out)).mono ?_
    rintro e w2 ⟨v2, rfl, ho2, hb2⟩
    have M2 : Hid (RB w2 v2 U ∧ Below w1.heap.size w1 w2) := ⟨ho2.rb, hb2⟩
    clear ho2 hb2
    go_wp2_with (fail)
    refine (HR1.out M2.out.1).mono ?_
    rintro e w3 ⟨v3, rfl, ho3, hb3⟩
    obtain ⟨a3, c3, rfl⟩ := ho3.form
    have M3 : Hid (RB w3 (.slice a3 P1.length c3) P1 ∧ (a3 = none → c3 = 0) ∧ Below w1.heap.size w1 w3) := ⟨ho3.rb, ho3.noneCap, M2.out.2.trans (hb3.mono M2.out.2.size)⟩
    clear ho3 hb3 M2
    go_wp2_with (fail)
    refine (HT3.out M3.out.2.1 M3.out.1).mono ?_
    rintro e w4 ⟨v4, rfl, ho4, hb4⟩
    obtain ⟨a4, c4, rfl⟩ := ho4.form
    have M4 : Hid (RB w4 (.slice a4 C1.length c4) C1 ∧ Below w1.heap.size w1 w4) := ⟨ho4.rb, M3.out.2.2.trans (hb4.mono M3.out.2.2.size)⟩
    clear ho4 hb4 M3
    go_wp2_with (fail)
    refine (HR0.out (H.out.1.below (HB1.out.trans (M4.out.2.mono (Nat.le_of_lt hlt1))))).mono ?_
    rintro e w5 ⟨v5, rfl, ho5, hb5⟩
    obtain ⟨a5, c5, rfl⟩ := ho5.form
    have M5 : Hid (RB w5 (.slice a5 P0.length c5) P0 ∧ RB w5 (.slice a4 C1.length c4) C1 ∧ Below w1.heap.size w1 w5) := ⟨ho5.rb, M4.out.1.below hb5, M4.out.2.trans (hb5.mono M4.out.2.size)⟩
    clear ho5 hb5 M4
    go_wp2_with (fail)
    refine (HOP.out M5.out.1 M5.out.2.1).mono ?_
    rintro e w6 ⟨v6, rfl, ho6, hne6, hb6⟩
    obtain ⟨a2, c2, rfl⟩ := ho6.form
    have HO : Hid (BS w6 w1.heap.size (.slice a2 L.length c2) L) := ho6.low M5.out.2.2.size
    have HB2 : Hid (Below w1.heap.size w1 w6) := M5.out.2.2.trans (hb6.mono M5.out.2.2.size)
    clear ho6 hb6 hne6 M5
    go_wp2_with (fail)
    refine (spec_told a2 _ c2 w6).mono ?_
    rintro e w7 ⟨rfl, hb7⟩
    have hk7 := (hb7.block _ (Nat.lt_of_lt_of_le hlt1 HB2.out.size)).trans ((HB2.out.block _ hlt1).trans HK1.out)
    obtain ⟨r0, r1, f0, f1, hltR⟩ := cellsT hk7
    have HR : Hid (BS w7 w1.heap.size (toldV (.slice a2 L.length c2) L.length) (toldL L) ∧ Below w.heap.size w w7) := ⟨(told_bs HO.out).below hb7, HB1.out.trans ((HB2.out.mono (Nat.le_of_lt hlt1)).trans (hb7.mono (Nat.le_of_lt (Nat.lt_of_lt_of_le hlt1 HB2.out.size))))⟩
    clear hb7 hk7
    obtain ⟨a9, c9, h9⟩ := HR.out.1.form
    rw [h9] at HR ⊢
    clear h9
    go_wp2
    refine bodyPost_ret (by simp [results, Try.results34, go_sem, r0, r1, hltR]; rfl) rfl ⟨.slice a9 (toldL L).length c9, ?_, ?_, ?_⟩
    · rw [HE.out.1]
    · rw [HE.out.2]
      refine (HR.out.1.kept fun k hk => ?_).low (Nat.le_of_lt hlt1)
      have hge := (World.ownsRow.lt HR.out.1 _ hk).1
      rw [heap_setCell_other _ _ _ _ (by simp; omega), heap_setCell_other _ _ _ _ (by simp; omega)]
    · have hb := HR.out.2
      (repeat' (first | (with_reducible exact Below.refl _ _) | (with_reducible assumption) | (with_reducible refine Below.setCell ?_ ?_ _) | (with_reducible refine Below.alloc ?_ ?_ _) | (with_reducible refine below_drewN ?_ _) | (with_reducible refine Below.drew ?_) | (with_reducible exact Nat.le_refl _) | omega | (simp; done) | (simp; omega)))
  all_goals
    have HE : Hid (tnC gaps s z = 3 ∧ tnL gaps s z = []) := tn_far hs0 (by omega)
    clear hs0
    subst hy0
    have hq2 : ¬ (1 ≤ z ∧ z ≤ 1000) := by omega
    go_enter Try.func34, Try.ntmps34
    go_wp2_with (fail)
    refine (spec_shape (H.out.1.below ((Below.refl _ _).alloc (Nat.le_refl _) _))).mono ?_
    rintro e w1 ⟨rfl, hb1⟩
    rw [← HZ.out]
    obtain ⟨hk1, hlt1, hB1⟩ := resT hb1
    have HB1 : Hid (Below w.heap.size w w1) := hB1
    obtain ⟨r0, r1, f0, f1, hltR⟩ := cellsT hk1
    clear hb1 hk1 hB1
    go_wp2
    refine bodyPost_ret (by simp [results, Try.results34, go_sem, r0, r1, hltR]; rfl) rfl ⟨.slice none 0 0, ?_, ?_, ?_⟩
    · rw [HE.out.1]
    · rw [HE.out.2]; exact BS.nil _ _
    · have hb := HB1.out
      (repeat' (first | (with_reducible exact Below.refl _ _) | (with_reducible assumption) | (with_reducible refine Below.setCell ?_ ?_ _) | (with_reducible refine Below.alloc ?_ ?_ _) | (with_reducible refine below_drewN ?_ _) | (with_reducible refine Below.drew ?_) | (with_reducible exact Nat.le_refl _) | omega | (simp; done) | (simp; omega)))

set_option maxHeartbeats 1600000 in
theorem spec_thin (z : Int) {w : World} {ao : Option Addr} {c : Nat} {s : List Bx} (hao : ao = none → c = 0) (h : RB w (.slice ao s.length c) s) :
    Calls Try.prog 9 #[.slice ao s.length c, .int .i64 z] w fun e w' => ∃ vs, e = .returned (.agg #[.int .i64 (tnC false s z), vs]) ∧ BS w' w.heap.size vs (tnL false s z) ∧ Below w.heap.size w w' := by
  obtain ⟨C, hC⟩ : ∃ C, C = tnC false s z := ⟨_, rfl⟩
  obtain ⟨L, hL⟩ : ∃ L, L = tnL false s z := ⟨_, rfl⟩
  have HH : Hid (∀ {W : World}, RB W (.slice ao s.length c) s → Calls Try.prog 34 #[.slice ao s.length c, .int .i64 z, .bool false] W fun e w' => ∃ vs, e = .returned (.agg #[.int .i64 C, vs]) ∧ BS w' W.heap.size vs L ∧ Below W.heap.size W w') := fun {W} hW => by rw [hC, hL]; exact spec_runsL false z hao hW
  have H : Hid (RB w (.slice ao s.length c) s) := h
  rw [← hC, ← hL]
  clear h hC hL hao
  go_enter Try.func9, Try.ntmps9
  go_wp2_with (fail)
  refine (HH.out (H.out.below ((Below.refl _ _).alloc (Nat.le_refl _) _))).mono ?_
  rintro e w1 ⟨vs, rfl, hv, hb1⟩
  obtain ⟨a2, c2, rfl⟩ := hv.form
  obtain ⟨hk1, hlt1, hB1⟩ := resT hb1
  have HR : Hid (BS w1 (w.heap.size + 1) (.slice a2 L.length c2) L ∧ Below w.heap.size w w1) := ⟨by have := hv; simp at this; exact this, hB1⟩
  obtain ⟨r0, r1, f0, f1, hltR⟩ := cellsT hk1
  clear hv hb1 hk1 hB1
  go_wp2
  refine bodyPost_ret (by simp [results, Try.results9, go_sem, r0, r1, hltR] <;> rfl) rfl ⟨.slice a2 L.length c2, rfl, ?_, ?_⟩
  · refine (HR.out.1.kept fun k hk => ?_).low (by omega)
    have hge := (World.ownsRow.lt HR.out.1 _ hk).1
    rw [heap_setCell_other _ _ _ _ (by simp; omega), heap_setCell_other _ _ _ _ (by simp; omega)]
  · have hb := HR.out.2
    (repeat' (first | (with_reducible exact Below.refl _ _) | (with_reducible assumption) | (with_reducible refine Below.setCell ?_ ?_ _) | (with_reducible refine Below.alloc ?_ ?_ _) | (with_reducible refine below_drewN ?_ _) | (with_reducible refine Below.drew ?_) | (with_reducible exact Nat.le_refl _) | omega | (simp; done) | (simp; omega)))

set_option maxHeartbeats 1600000 in
theorem spec_near (z : Int) {w : World} {ao : Option Addr} {c : Nat} {s : List Bx} (hao : ao = none → c = 0) (h : RB w (.slice ao s.length c) s) :
    Calls Try.prog 17 #[.slice ao s.length c, .int .i64 z] w fun e w' => ∃ vs, e = .returned (.agg #[.int .i64 (tnC true s z), vs]) ∧ BS w' w.heap.size vs (tnL true s z) ∧ Below w.heap.size w w' := by
  obtain ⟨C, hC⟩ : ∃ C, C = tnC true s z := ⟨_, rfl⟩
  obtain ⟨L, hL⟩ : ∃ L, L = tnL true s z := ⟨_, rfl⟩
  have HH : Hid (∀ {W : World}, RB W (.slice ao s.length c) s → Calls Try.prog 34 #[.slice ao s.length c, .int .i64 z, .bool true] W fun e w' => ∃ vs, e = .returned (.agg #[.int .i64 C, vs]) ∧ BS w' W.heap.size vs L ∧ Below W.heap.size W w') := fun {W} hW => by rw [hC, hL]; exact spec_runsL true z hao hW
  have H : Hid (RB w (.slice ao s.length c) s) := h
  rw [← hC, ← hL]
  clear h hC hL hao
  go_enter Try.func17, Try.ntmps17
  go_wp2_with (fail)
  refine (HH.out (H.out.below ((Below.refl _ _).alloc (Nat.le_refl _) _))).mono ?_
  rintro e w1 ⟨vs, rfl, hv, hb1⟩
  obtain ⟨a2, c2, rfl⟩ := hv.form
  obtain ⟨hk1, hlt1, hB1⟩ := resT hb1
  have HR : Hid (BS w1 (w.heap.size + 1) (.slice a2 L.length c2) L ∧ Below w.heap.size w w1) := ⟨by have := hv; simp at this; exact this, hB1⟩
  obtain ⟨r0, r1, f0, f1, hltR⟩ := cellsT hk1
  clear hv hb1 hk1 hB1
  go_wp2
  refine bodyPost_ret (by simp [results, Try.results17, go_sem, r0, r1, hltR] <;> rfl) rfl ⟨.slice a2 L.length c2, rfl, ?_, ?_⟩
  · refine (HR.out.1.kept fun k hk => ?_).low (by omega)
    have hge := (World.ownsRow.lt HR.out.1 _ hk).1
    rw [heap_setCell_other _ _ _ _ (by simp; omega), heap_setCell_other _ _ _ _ (by simp; omega)]
  · have hb := HR.out.2
    (repeat' (first | (with_reducible exact Below.refl _ _) | (with_reducible assumption) | (with_reducible refine Below.setCell ?_ ?_ _) | (with_reducible refine Below.alloc ?_ ?_ _) | (with_reducible refine below_drewN ?_ _) | (with_reducible refine Below.drew ?_) | (with_reducible exact Nat.le_refl _) | omega | (simp; done) | (simp; omega)))

end Go.Proofs.Ytokdpgabmifdjab
