/- Proved here: lookBothWays, ThinOf and NearOf of the program: tnC, tnL. -/
import Derived.Test.YtokdpgabmifdjabITn
import Derived.Test.YtokdpgabmifdjabITb
import Derived.Test.YtokdpgabmifdjabIOne
namespace Go.Proofs.Ytokdpgabmifdjab
open Go.RowKit
set_option linter.unusedVariables false
set_option linter.unusedSimpArgs false

/-- The look, as the function's number. -/
structure Looks (F : Nat) (gaps : Bool) (z : Int) : Prop where
  calls : ∀ {w : World} {v : Value} {s : List Bx}, s.length ≤ 500000 → Fine s → RB w v s → Calls Try.prog F #[v, .int .i64 z] w fun e w' => ∃ v', e = .returned v' ∧ BS w' w.heap.size v' (pickL gaps s z) ∧ Below w.heap.size w w'
  enter : ∀ (args : Array Value) (W : World), (callFunc F args).run Try.prog W = .ok (.enter F args) W
theorem looks_thin (z : Int) : Looks 37 false z :=
  ⟨fun h1 h2 h3 => impl_thinR z h1 h2 h3, enter_of (fn := Try.f37) (by kernel_rfl) (by kernel_rfl) (by kernel_rfl)⟩
theorem looks_near (z : Int) : Looks 40 true z :=
  ⟨fun h1 h2 h3 => impl_nearG z h1 h2 h3, enter_of (fn := Try.f40) (by kernel_rfl) (by kernel_rfl) (by kernel_rfl)⟩

set_option maxHeartbeats 800000 in
theorem impl_withinT (n a b : Int) (r : Bool) (hr : r = (decide (a ≤ n) && decide (n ≤ b))) (w : World) : Calls Try.prog 51 #[.int .i64 n, .int .i64 a, .int .i64 b] w fun e w' => e = .returned (.bool r) ∧ w' = w := by
  have H : Hid ((¬ a ≤ n → r = false) ∧ (a ≤ n → n ≤ b → r = true) ∧ (a ≤ n → ¬ n ≤ b → r = false)) := by
    unfold Hid; rw [hr]
    exact ⟨fun h => by simp [h], fun h1 h2 => by simp [h1, h2], fun h1 h2 => by simp [h1, h2]⟩
  clear hr
  by_cases h1 : a ≤ n
  · by_cases h2 : n ≤ b
    · obtain rfl := H.out.2.1 h1 h2
      go_enter Try.func51, Try.ntmps51
      go_wp2
      go_returns
      exact ⟨rfl, rfl⟩
    · obtain rfl := H.out.2.2 h1 h2
      go_enter Try.func51, Try.ntmps51
      go_wp2
      go_returns
      exact ⟨rfl, rfl⟩
  · obtain rfl := H.out.1 h1
    go_enter Try.func51, Try.ntmps51
    go_wp2
    go_returns
    exact ⟨rfl, rfl⟩

set_option maxRecDepth 10000 in
set_option maxHeartbeats 4000000 in
theorem impl_look (gaps : Bool) (F : Nat) (z : Int) (hF : Looks F gaps z) {w : World} {a : Option Addr} {s : List Bx} (hn : s.length ≤ 1048576) (h : RB w (.slice a s.length s.length) s) :
    Calls Try.prog 36 #[.slice a s.length s.length, .int .i64 z, .func (.func F) #[] #[]] w fun e w' => ∃ vs, e = .returned (.agg #[.int .i64 (tnC gaps s z), vs]) ∧ BC w' w.heap.size vs (tnL gaps s z) ∧ Below w.heap.size w w' := by
  have H : Hid (RB w (.slice a s.length s.length) s ∧ s.length ≤ 1048576) := ⟨h, hn⟩
  have hent := hF.enter
  have HF : Hid (Looks F gaps z) := hF
  clear h hn hF
  obtain ⟨r, hr⟩ : ∃ r, r = (decide (1 ≤ z) && decide (z ≤ 1000)) := ⟨_, rfl⟩
  have HIN : Hid (∀ w, Calls Try.prog 51 #[.int .i64 z, .int .i64 1, .int .i64 1000] w fun e w' => e = .returned (.bool r) ∧ w' = w) := impl_withinT z 1 1000 r hr
  obtain ⟨y, hy⟩ : ∃ y, y = shapeK s := ⟨_, rfl⟩
  have HZ : Hid (y = shapeK s) := hy
  clear hy
  by_cases hy0 : y = 0
  rotate_left
  · have HE : Hid (tnC gaps s z = y ∧ tnL gaps s z = []) := by
      unfold Hid; rw [HZ.out]; exact tn_code (fun e => hy0 (HZ.out.trans e))
    clear hr
    go_enter Try.func36, Try.ntmps36
    go_wp2_with (fail)
    refine (impl_shape (by have := H.out.2; omega) (Nat.le_refl _) (H.out.1.below ((Below.refl _ _).alloc (Nat.le_refl _) _))).mono ?_
    rintro e w1 ⟨rfl, hb1⟩
    rw [← HZ.out]
    obtain ⟨hk1, hlt1, hB1⟩ := resT hb1
    have HB1 : Hid (Below w.heap.size w w1) := hB1
    obtain ⟨r0, r1, f0, f1, hltR⟩ := cellsT hk1
    clear hb1 hk1 hB1
    go_wp2
    refine bodyPost_ret (by simp [results, Try.results36, go_sem, r0, r1, hltR]; rfl) rfl ⟨.slice none 0 0, ?_, ?_, ?_⟩
    · rw [HE.out.1]
    · rw [HE.out.2]; exact (BS.nil _ _).bc
    · have hb := HB1.out
      (repeat' (first | (with_reducible exact Below.refl _ _) | (with_reducible assumption) | (with_reducible refine Below.setCell ?_ ?_ _) | (with_reducible refine Below.alloc ?_ ?_ _) | (with_reducible refine below_drewN ?_ _) | (with_reducible refine Below.drew ?_) | (with_reducible exact Nat.le_refl _) | omega | (simp; done) | (simp; omega)))
  have hs0 : shapeK s = 0 := by rw [← HZ.out]; exact hy0
  cases r with
  | false =>
    have HE : Hid (tnC gaps s z = 3 ∧ tnL gaps s z = []) := by
      refine tn_far hs0 fun e => ?_
      rw [decide_eq_true e.1, decide_eq_true e.2] at hr
      cases hr
    clear hr hs0
    subst hy0
    go_enter Try.func36, Try.ntmps36
    go_wp2_with (fail)
    refine (impl_shape (by have := H.out.2; omega) (Nat.le_refl _) (H.out.1.below ((Below.refl _ _).alloc (Nat.le_refl _) _))).mono ?_
    rintro e w1 ⟨rfl, hb1⟩
    rw [← HZ.out]
    obtain ⟨hk1, hlt1, hB1⟩ := resT hb1
    have HB1 : Hid (Below w.heap.size w w1) := hB1
    obtain ⟨r0, r1, f0, f1, hltR⟩ := cellsT hk1
    clear hb1 hk1 hB1
    go_wp2_with (fail)
    refine (HIN.out w1).mono ?_
    rintro e w0 ⟨rfl, hw0⟩
    subst w0
    go_wp2
    refine bodyPost_ret (by simp [results, Try.results36, go_sem, r0, r1, hltR]; rfl) rfl ⟨.slice none 0 0, ?_, ?_, ?_⟩
    · rw [HE.out.1]
    · rw [HE.out.2]; exact (BS.nil _ _).bc
    · have hb := HB1.out
      (repeat' (first | (with_reducible exact Below.refl _ _) | (with_reducible assumption) | (with_reducible refine Below.setCell ?_ ?_ _) | (with_reducible refine Below.alloc ?_ ?_ _) | (with_reducible refine below_drewN ?_ _) | (with_reducible refine Below.drew ?_) | (with_reducible exact Nat.le_refl _) | omega | (simp; done) | (simp; omega)))
  | true =>
    have hq : 1 ≤ z ∧ z ≤ 1000 := by simpa using hr.symm
    obtain ⟨U, hU⟩ : ∃ U, U = upL s := ⟨_, rfl⟩
    obtain ⟨P1, hP1⟩ : ∃ P1, P1 = pickL gaps U z := ⟨_, rfl⟩
    obtain ⟨P0, hP0⟩ : ∃ P0, P0 = pickL gaps s z := ⟨_, rfl⟩
    obtain ⟨T1, hT1⟩ : ∃ T1, T1 = trS s 1 := ⟨_, rfl⟩
    obtain ⟨T3, hT3⟩ : ∃ T3, T3 = trS P1 3 := ⟨_, rfl⟩
    obtain ⟨L, hL⟩ : ∃ L, L = opOf (takesK 1) P0 T3 := ⟨_, rfl⟩
    have HE : Hid (tnC gaps s z = toldC L.length ∧ tnL gaps s z = toldL L) := by
      have e : L = tnO gaps s z := by rw [hL, hP0, hT3, hP1, hU, takes_or]; rfl
      unfold Hid; rw [e]; exact tn_told hs0 hq
    have hs150 := shapeK_len hs0
    have hUl : U.length ≤ 45000 := by rw [hU]; exact upL_len hs0
    have hP1l : P1.length ≤ 45000 := by rw [hP1]; exact Nat.le_trans (pickL_len _ _ _) hUl
    have hP0l : P0.length ≤ 150 := by rw [hP0]; exact Nat.le_trans (pickL_len _ _ _) hs150
    have hT3l : T3.length ≤ 45000 := by rw [hT3, trS_len]; exact hP1l
    have HL0 : Hid (∀ {W : World}, RB W (.slice a s.length s.length) s → Calls Try.prog F #[.slice a s.length s.length, .int .i64 z] W fun e w' => ∃ v', e = .returned v' ∧ BS w' W.heap.size v' P0 ∧ Below W.heap.size W w') := fun {W} hW => by
      rw [hP0]; exact HF.out.calls (by omega) (fine_shape hs0) hW
    have HT1 : Hid (∀ {W : World}, RB W (.slice a s.length s.length) s → Calls Try.prog 65 #[.slice a s.length s.length, .int .i64 1] W fun e w' => ∃ v', e = .returned v' ∧ BS w' W.heap.size v' T1 ∧ Below W.heap.size W w') := fun {W} hW => by
      rw [hT1]; exact impl_turnedB 1 (by omega) hW
    have HOF : Hid (∀ {W : World} {v : Value}, RB W v T1 → Calls Try.prog 54 #[v] W fun e w' => ∃ v', e = .returned v' ∧ BC w' W.heap.size v' U ∧ Below W.heap.size W w') := fun {W v} hW => by
      rw [hU]; unfold upL; rw [← takes_or]; rw [hT1] at hW
      exact impl_oneForm (by rw [trS_len]; omega) (trS_x hs0 1) hW
    have HL1 : Hid (∀ {W : World} {v : Value}, RB W v U → Calls Try.prog F #[v, .int .i64 z] W fun e w' => ∃ v', e = .returned v' ∧ BS w' W.heap.size v' P1 ∧ Below W.heap.size W w') := fun {W v} hW => by
      rw [hP1]; exact HF.out.calls (by omega) (by rw [hU]; exact upL_fine hs0) hW
    have HT3 : Hid (∀ {W : World} {v : Value}, RB W v P1 → Calls Try.prog 65 #[v, .int .i64 (-1)] W fun e w' => ∃ v', e = .returned v' ∧ BS w' W.heap.size v' T3 ∧ Below W.heap.size W w') := fun {W v} hW => by
      rw [hT3]; exact impl_turnedB (-1) (by omega) hW
    have HSW : Hid (∀ {W : World} {v u : Value}, RB W v P0 → RB W u T3 → Calls Try.prog 66 #[v, u, .func (.func 67) #[] #[]] W fun e w' => ∃ v', e = .returned v' ∧ BC w' W.heap.size v' L ∧ Below W.heap.size W w') := fun {W v u} h1 h2 => by
      rw [hL]
      refine impl_sweep impl_heights impl_edges word_either rfl (by omega) h1 h2 (fun q hq => ?_) (fun q hq => ?_)
      · rw [hP0] at hq; exact (pickL_ok (fine_shape hs0) gaps z q hq).1
      · rw [hT3, hP1, hU] at hq; exact (colL_ok hs0 gaps z q hq).1
    clear hL hT3 hT1 hP1 hP0 hU hs0 hr hq HF
    subst hy0
    go_enter Try.func36, Try.ntmps36
    go_wp2_with (fail)
    refine (impl_shape (by have := H.out.2; omega) (Nat.le_refl _) (H.out.1.below ((Below.refl _ _).alloc (Nat.le_refl _) _))).mono ?_
    rintro e w1 ⟨rfl, hb1⟩
    rw [← HZ.out]
    obtain ⟨hk1, hlt1, hB1⟩ := resT hb1
    have HB1 : Hid (Below w.heap.size w w1) := hB1
    have HK1 : Hid _ := hk1
    clear hb1 hk1 hB1
    go_wp2_with (fail)
    refine (HIN.out w1).mono ?_
    rintro e w0 ⟨rfl, hw0⟩
    subst w0
    go_wp2_with (fail)
    refine (HL0.out (H.out.1.below HB1.out)).mono ?_
    rintro e w2 ⟨v2, rfl, ho2, hb2⟩
    have M2 : Hid (RB w2 v2 P0 ∧ Below w1.heap.size w1 w2) := ⟨ho2.rb, hb2⟩
    clear ho2 hb2
    go_wp2_with (fail)
    refine (HT1.out (H.out.1.below (HB1.out.trans (M2.out.2.mono (Nat.le_of_lt hlt1))))).mono ?_
    rintro e w3 ⟨v3, rfl, ho3, hb3⟩
    have M3 : Hid (RB w3 v2 P0 ∧ RB w3 v3 T1 ∧ Below w1.heap.size w1 w3) := ⟨M2.out.1.below hb3, ho3.rb, M2.out.2.trans (hb3.mono M2.out.2.size)⟩
    clear ho3 hb3 M2
    go_wp2_with (fail)
    refine (HOF.out M3.out.2.1).mono ?_
    rintro e w4 ⟨v4, rfl, ho4, hb4⟩
    have M4 : Hid (RB w4 v2 P0 ∧ RB w4 v4 U ∧ Below w1.heap.size w1 w4) := ⟨M3.out.1.below hb4, ho4.rb, M3.out.2.2.trans (hb4.mono M3.out.2.2.size)⟩
    clear ho4 hb4 M3
    go_wp2_with (fail)
    refine (HL1.out M4.out.2.1).mono ?_
    rintro e w5 ⟨v5, rfl, ho5, hb5⟩
    have M5 : Hid (RB w5 v2 P0 ∧ RB w5 v5 P1 ∧ Below w1.heap.size w1 w5) := ⟨M4.out.1.below hb5, ho5.rb, M4.out.2.2.trans (hb5.mono M4.out.2.2.size)⟩
    clear ho5 hb5 M4
    go_wp2_with (fail)
    refine (HT3.out M5.out.2.1).mono ?_
    rintro e w6 ⟨v6, rfl, ho6, hb6⟩
    have M6 : Hid (RB w6 v2 P0 ∧ RB w6 v6 T3 ∧ Below w1.heap.size w1 w6) := ⟨M5.out.1.below hb6, ho6.rb, M5.out.2.2.trans (hb6.mono M5.out.2.2.size)⟩
    clear ho6 hb6 M5
    go_wp2_with (fail)
    refine (HSW.out M6.out.1 M6.out.2.1).mono ?_
    rintro e w7 ⟨v7, rfl, ho7, hb7⟩
    obtain ⟨a2, c2, rfl⟩ : ∃ a2 c2, v7 = .slice a2 L.length c2 := by obtain ⟨x, y, z, e, _⟩ := ho7; exact ⟨x, z, e⟩
    have HO : Hid (BC w7 w1.heap.size (.slice a2 L.length c2) L) := ho7.low M6.out.2.2.size
    have HB2 : Hid (Below w1.heap.size w1 w7) := M6.out.2.2.trans (hb7.mono M6.out.2.2.size)
    clear ho7 hb7 M6
    go_wp2_with (fail)
    refine (impl_answer a2 _ c2 w7).mono ?_
    rintro e w8 ⟨rfl, hb8⟩
    have hk8 := (hb8.block _ (Nat.lt_of_lt_of_le hlt1 HB2.out.size)).trans ((HB2.out.block _ hlt1).trans HK1.out)
    obtain ⟨r0, r1, f0, f1, hltR⟩ := cellsT hk8
    have HR : Hid (BC w8 w1.heap.size (toldV (.slice a2 L.length c2) L.length) (toldL L) ∧ Below w.heap.size w w8) := ⟨(told_bc HO.out).below hb8, HB1.out.trans ((HB2.out.mono (Nat.le_of_lt hlt1)).trans (hb8.mono (Nat.le_of_lt (Nat.lt_of_lt_of_le hlt1 HB2.out.size))))⟩
    clear hb8 hk8
    obtain ⟨a3, c3, h3⟩ : ∃ a3 c3, toldV (.slice a2 L.length c2) L.length = .slice a3 (toldL L).length c3 := by obtain ⟨x, y, z, e, _⟩ := HR.out.1; exact ⟨x, z, e⟩
    rw [h3] at HR ⊢
    clear h3
    go_wp2
    refine bodyPost_ret (by simp [results, Try.results36, go_sem, r0, r1, hltR]; rfl) rfl ⟨.slice a3 (toldL L).length c3, ?_, ?_, ?_⟩
    · rw [HE.out.1]
    · rw [HE.out.2]
      refine (HR.out.1.kept fun g hg => ?_).low (Nat.le_of_lt hlt1)
      have hge := HR.out.1.lt hg
      rw [heap_setCell_other _ _ _ _ (by simp; omega), heap_setCell_other _ _ _ _ (by simp; omega)]
    · have hb := HR.out.2
      (repeat' (first | (with_reducible exact Below.refl _ _) | (with_reducible assumption) | (with_reducible refine Below.setCell ?_ ?_ _) | (with_reducible refine Below.alloc ?_ ?_ _) | (with_reducible refine below_drewN ?_ _) | (with_reducible refine Below.drew ?_) | (with_reducible exact Nat.le_refl _) | omega | (simp; done) | (simp; omega)))

set_option maxHeartbeats 1600000 in
theorem impl_thin (z : Int) {w : World} {a : Option Addr} {s : List Bx} (hn : s.length ≤ 1048576) (h : RB w (.slice a s.length s.length) s) :
    Calls Try.prog 11 #[.slice a s.length s.length, .int .i64 z] w fun e w' => ∃ vs, e = .returned (.agg #[.int .i64 (tnC false s z), vs]) ∧ BC w' w.heap.size vs (tnL false s z) ∧ Below w.heap.size w w' := by
  obtain ⟨C, hC⟩ : ∃ C, C = tnC false s z := ⟨_, rfl⟩
  obtain ⟨L, hL⟩ : ∃ L, L = tnL false s z := ⟨_, rfl⟩
  have HH : Hid (∀ {W : World}, RB W (.slice a s.length s.length) s → Calls Try.prog 36 #[.slice a s.length s.length, .int .i64 z, .func (.func 37) #[] #[]] W fun e w' => ∃ vs, e = .returned (.agg #[.int .i64 C, vs]) ∧ BC w' W.heap.size vs L ∧ Below W.heap.size W w') := fun {W} hW => by rw [hC, hL]; exact impl_look false _ z (looks_thin z) hn hW
  have H : Hid (RB w (.slice a s.length s.length) s) := h
  rw [← hC, ← hL]
  clear h hC hL hn
  go_enter Try.func11, Try.ntmps11
  go_wp2_with (fail)
  refine (HH.out (H.out.below ((Below.refl _ _).alloc (Nat.le_refl _) _))).mono ?_
  rintro e w1 ⟨vs, rfl, hv, hb1⟩
  obtain ⟨a2, c2, rfl⟩ : ∃ a2 c2, vs = .slice a2 L.length c2 := by obtain ⟨x, y, z, e, _⟩ := hv; exact ⟨x, z, e⟩
  obtain ⟨hk1, hlt1, hB1⟩ := resT hb1
  have HR : Hid (BC w1 (w.heap.size + 1) (.slice a2 L.length c2) L ∧ Below w.heap.size w w1) := ⟨by simpa using hv, hB1⟩
  obtain ⟨r0, r1, f0, f1, hltR⟩ := cellsT hk1
  clear hv hb1 hk1 hB1
  go_wp2
  refine bodyPost_ret (by simp [results, Try.results11, go_sem, r0, r1, hltR] <;> rfl) rfl ⟨.slice a2 L.length c2, rfl, ?_, ?_⟩
  · refine (HR.out.1.kept fun k hk => ?_).low (by omega)
    have hge := HR.out.1.lt hk
    rw [heap_setCell_other _ _ _ _ (by simp; omega), heap_setCell_other _ _ _ _ (by simp; omega)]
  · have hb := HR.out.2
    (repeat' (first | (with_reducible exact Below.refl _ _) | (with_reducible assumption) | (with_reducible refine Below.setCell ?_ ?_ _) | (with_reducible refine Below.alloc ?_ ?_ _) | (with_reducible refine below_drewN ?_ _) | (with_reducible refine Below.drew ?_) | (with_reducible exact Nat.le_refl _) | omega | (simp; done) | (simp; omega)))

set_option maxHeartbeats 1600000 in
theorem impl_near (z : Int) {w : World} {a : Option Addr} {s : List Bx} (hn : s.length ≤ 1048576) (h : RB w (.slice a s.length s.length) s) :
    Calls Try.prog 18 #[.slice a s.length s.length, .int .i64 z] w fun e w' => ∃ vs, e = .returned (.agg #[.int .i64 (tnC true s z), vs]) ∧ BC w' w.heap.size vs (tnL true s z) ∧ Below w.heap.size w w' := by
  obtain ⟨C, hC⟩ : ∃ C, C = tnC true s z := ⟨_, rfl⟩
  obtain ⟨L, hL⟩ : ∃ L, L = tnL true s z := ⟨_, rfl⟩
  have HH : Hid (∀ {W : World}, RB W (.slice a s.length s.length) s → Calls Try.prog 36 #[.slice a s.length s.length, .int .i64 z, .func (.func 40) #[] #[]] W fun e w' => ∃ vs, e = .returned (.agg #[.int .i64 C, vs]) ∧ BC w' W.heap.size vs L ∧ Below W.heap.size W w') := fun {W} hW => by rw [hC, hL]; exact impl_look true _ z (looks_near z) hn hW
  have H : Hid (RB w (.slice a s.length s.length) s) := h
  rw [← hC, ← hL]
  clear h hC hL hn
  go_enter Try.func18, Try.ntmps18
  go_wp2_with (fail)
  refine (HH.out (H.out.below ((Below.refl _ _).alloc (Nat.le_refl _) _))).mono ?_
  rintro e w1 ⟨vs, rfl, hv, hb1⟩
  obtain ⟨a2, c2, rfl⟩ : ∃ a2 c2, vs = .slice a2 L.length c2 := by obtain ⟨x, y, z, e, _⟩ := hv; exact ⟨x, z, e⟩
  obtain ⟨hk1, hlt1, hB1⟩ := resT hb1
  have HR : Hid (BC w1 (w.heap.size + 1) (.slice a2 L.length c2) L ∧ Below w.heap.size w w1) := ⟨by simpa using hv, hB1⟩
  obtain ⟨r0, r1, f0, f1, hltR⟩ := cellsT hk1
  clear hv hb1 hk1 hB1
  go_wp2
  refine bodyPost_ret (by simp [results, Try.results18, go_sem, r0, r1, hltR] <;> rfl) rfl ⟨.slice a2 L.length c2, rfl, ?_, ?_⟩
  · refine (HR.out.1.kept fun k hk => ?_).low (by omega)
    have hge := HR.out.1.lt hk
    rw [heap_setCell_other _ _ _ _ (by simp; omega), heap_setCell_other _ _ _ _ (by simp; omega)]
  · have hb := HR.out.2
    (repeat' (first | (with_reducible exact Below.refl _ _) | (with_reducible assumption) | (with_reducible refine Below.setCell ?_ ?_ _) | (with_reducible refine Below.alloc ?_ ?_ _) | (with_reducible refine below_drewN ?_ _) | (with_reducible refine Below.drew ?_) | (with_reducible exact Nat.le_refl _) | omega | (simp; done) | (simp; omega)))

end Go.Proofs.Ytokdpgabmifdjab
