/- Proved here: grownAgainst, CoverOf and ApartOf of the program: gaC, gaL. -/
import Derived.Test.YtokdpgabmifdjaaIGrow3
import Derived.Test.YtokdpgabmifdjaaWBoth
import Derived.Test.YtokdpgabmifdjaaGaM
namespace Go.Proofs.Ytokdpgabmifdjaa
open Go.RowKit
set_option linter.unusedVariables false
set_option linter.unusedSimpArgs false

set_option maxHeartbeats 800000 in
theorem impl_within (n a b : Int) (r : Bool) (hr : r = (decide (a ≤ n) && decide (n ≤ b))) (w : World) : Calls Try.prog 81 #[.int .i64 n, .int .i64 a, .int .i64 b] w fun e w' => e = .returned (.bool r) ∧ w' = w := by
  have H : Hid ((¬ a ≤ n → r = false) ∧ (a ≤ n → n ≤ b → r = true) ∧ (a ≤ n → ¬ n ≤ b → r = false)) := by
    unfold Hid; rw [hr]
    exact ⟨fun h => by simp [h], fun h1 h2 => by simp [h1, h2], fun h1 h2 => by simp [h1, h2]⟩
  clear hr
  by_cases h1 : a ≤ n
  · by_cases h2 : n ≤ b
    · obtain rfl := H.out.2.1 h1 h2
      go_enter Try.func81, Try.ntmps81
      go_wp2
      go_returns
      exact ⟨rfl, rfl⟩
    · obtain rfl := H.out.2.2 h1 h2
      go_enter Try.func81, Try.ntmps81
      go_wp2
      go_returns
      exact ⟨rfl, rfl⟩
  · obtain rfl := H.out.1 h1
    go_enter Try.func81, Try.ntmps81
    go_wp2
    go_returns
    exact ⟨rfl, rfl⟩

set_option maxRecDepth 10000 in
set_option maxHeartbeats 4000000 in
theorem impl_ga (op : Int) (F : Nat) (hF : Word F (takesK op)) (hkf : takesK op false false = false) (x : Int) (hx : -9223372036854775808 ≤ x ∧ x ≤ 9223372036854775807) {w : World} {a b : Option Addr} {s t : List Bx} (hn : s.length ≤ 1048576) (hn' : t.length ≤ 1048576) (h : RB w (.slice a s.length s.length) s) (h' : RB w (.slice b t.length t.length) t) :
    Calls Try.prog 57 #[.slice a s.length s.length, .slice b t.length t.length, .int .i64 x, .func (.func F) #[] #[]] w fun e w' => ∃ vs, e = .returned (.agg #[.int .i64 (gaC op s t x), vs]) ∧ BC w' w.heap.size vs (gaL op s t x) ∧ Below w.heap.size w w' := by
  have H : Hid (RB w (.slice a s.length s.length) s) := h
  have H' : Hid (RB w (.slice b t.length t.length) t) := h'
  have HN : Hid (s.length ≤ 1048576 ∧ t.length ≤ 1048576) := ⟨hn, hn'⟩
  have HW : Hid (Word F (takesK op) ∧ takesK op false false = false) := ⟨hF, hkf⟩
  obtain ⟨G, hG⟩ : ∃ G, G = grL s x := ⟨_, rfl⟩
  obtain ⟨g, hg⟩ : ∃ g, g = grC s x := ⟨_, rfl⟩
  have HG : Hid (∀ {W : World}, RB W (.slice a s.length s.length) s → Calls Try.prog 34 #[.slice a s.length s.length, .int .i64 x] W fun e w' => ∃ vs, e = .returned (.agg #[.int .i64 g, vs]) ∧ BC w' W.heap.size vs G ∧ Below W.heap.size W w') := fun {W} hW => by rw [hG, hg]; exact impl_grow x hx hn hW
  clear h h' hn hn' hF hkf hx
  obtain ⟨r, hr⟩ : ∃ r, r = (decide (0 ≤ x) && decide (x ≤ 1000)) := ⟨_, rfl⟩
  have HIN : Hid (∀ w, Calls Try.prog 81 #[.int .i64 x, .int .i64 0, .int .i64 1000] w fun e w' => e = .returned (.bool r) ∧ w' = w) := impl_within x 0 1000 r hr
  obtain ⟨z, hz⟩ : ∃ z, z = shapeK s := ⟨_, rfl⟩
  have HZ : Hid (z = shapeK s) := hz
  clear hz
  obtain ⟨y, hy⟩ : ∃ y, y = shapeK t := ⟨_, rfl⟩
  have HY : Hid (y = shapeK t) := hy
  clear hy
  by_cases hz0 : z = 0
  rotate_left
  · have HE : Hid (gaC op s t x = z ∧ gaL op s t x = []) := by
      unfold Hid; rw [HZ.out]; exact ga_first (fun e => hz0 (HZ.out.trans e))
    clear hG hg hr
    go_enter Try.func57, Try.ntmps57
    go_wp2_with (fail)
    refine (impl_shape (by have := HN.out.1; omega) (Nat.le_refl _) (H.out.below ((Below.refl _ _).alloc (Nat.le_refl _) _))).mono ?_
    rintro e w1 ⟨rfl, hb1⟩
    rw [← HZ.out]
    obtain ⟨hk1, hlt1, hB1⟩ := resT hb1
    have HB1 : Hid (Below w.heap.size w w1) := hB1
    have HK1 : Hid _ := hk1
    clear hb1 hk1 hB1
    have HBB : Hid (Below w.heap.size w w1) := HB1.out
    obtain ⟨r0, r1, f0, f1, hltR⟩ := cellsT HK1.out
    go_wp2
    refine bodyPost_ret (by simp [results, Try.results57, go_sem, r0, r1, hltR]; rfl) rfl ⟨.slice none 0 0, ?_, ?_, ?_⟩
    · rw [HE.out.1]
    · rw [HE.out.2]; exact (BS.nil _ _).bc
    · have hb := HBB.out
      (repeat' (first | (with_reducible exact Below.refl _ _) | (with_reducible assumption) | (with_reducible refine Below.setCell ?_ ?_ _) | (with_reducible refine Below.alloc ?_ ?_ _) | (with_reducible refine below_drewN ?_ _) | (with_reducible refine Below.drew ?_) | (with_reducible exact Nat.le_refl _) | omega | (simp; done) | (simp; omega)))
  have hs0 : shapeK s = 0 := by rw [← HZ.out]; exact hz0
  by_cases hy0 : y = 0
  rotate_left
  · have HE : Hid (gaC op s t x = y ∧ gaL op s t x = []) := by
      unfold Hid; rw [HY.out]; exact ga_second hs0 (fun e => hy0 (HY.out.trans e))
    clear hG hg hr hs0
    subst hz0
    go_enter Try.func57, Try.ntmps57
    go_wp2_with (fail)
    refine (impl_shape (by have := HN.out.1; omega) (Nat.le_refl _) (H.out.below ((Below.refl _ _).alloc (Nat.le_refl _) _))).mono ?_
    rintro e w1 ⟨rfl, hb1⟩
    rw [← HZ.out]
    obtain ⟨hk1, hlt1, hB1⟩ := resT hb1
    have HB1 : Hid (Below w.heap.size w w1) := hB1
    have HK1 : Hid _ := hk1
    clear hb1 hk1 hB1
    go_wp2_with (fail)
    refine (impl_shape (by have := HN.out.2; omega) (Nat.le_refl _) (H'.out.below HB1.out)).mono ?_
    rintro e w2 ⟨rfl, hb2⟩
    rw [← HY.out]
    have hlt2 : w.heap.size < w2.heap.size := Nat.lt_of_lt_of_le hlt1 hb2.size
    have HK2 : Hid _ := (hb2.block _ hlt1).trans HK1.out
    have HBB : Hid (Below w.heap.size w w2) := HB1.out.trans (hb2.mono (Nat.le_of_lt hlt1))
    clear hb2
    obtain ⟨r0, r1, f0, f1, hltR⟩ := cellsT HK2.out
    go_wp2
    refine bodyPost_ret (by simp [results, Try.results57, go_sem, r0, r1, hltR]; rfl) rfl ⟨.slice none 0 0, ?_, ?_, ?_⟩
    · rw [HE.out.1]
    · rw [HE.out.2]; exact (BS.nil _ _).bc
    · have hb := HBB.out
      (repeat' (first | (with_reducible exact Below.refl _ _) | (with_reducible assumption) | (with_reducible refine Below.setCell ?_ ?_ _) | (with_reducible refine Below.alloc ?_ ?_ _) | (with_reducible refine below_drewN ?_ _) | (with_reducible refine Below.drew ?_) | (with_reducible exact Nat.le_refl _) | omega | (simp; done) | (simp; omega)))
  have ht0 : shapeK t = 0 := by rw [← HY.out]; exact hy0
  cases r with
  | false =>
    have HE : Hid (gaC op s t x = 3 ∧ gaL op s t x = []) := by
      refine ga_far hs0 ht0 fun e => ?_
      rw [decide_eq_true e.1, decide_eq_true e.2] at hr
      cases hr
    clear hG hg hr hs0 ht0
    subst hz0 hy0
    go_enter Try.func57, Try.ntmps57
    go_wp2_with (fail)
    refine (impl_shape (by have := HN.out.1; omega) (Nat.le_refl _) (H.out.below ((Below.refl _ _).alloc (Nat.le_refl _) _))).mono ?_
    rintro e w1 ⟨rfl, hb1⟩
    rw [← HZ.out]
    obtain ⟨hk1, hlt1, hB1⟩ := resT hb1
    have HB1 : Hid (Below w.heap.size w w1) := hB1
    have HK1 : Hid _ := hk1
    clear hb1 hk1 hB1
    go_wp2_with (fail)
    refine (impl_shape (by have := HN.out.2; omega) (Nat.le_refl _) (H'.out.below HB1.out)).mono ?_
    rintro e w2 ⟨rfl, hb2⟩
    rw [← HY.out]
    have hlt2 : w.heap.size < w2.heap.size := Nat.lt_of_lt_of_le hlt1 hb2.size
    have HK2 : Hid _ := (hb2.block _ hlt1).trans HK1.out
    have HBB : Hid (Below w.heap.size w w2) := HB1.out.trans (hb2.mono (Nat.le_of_lt hlt1))
    clear hb2
    go_wp2_with (fail)
    refine (HIN.out w2).mono ?_
    rintro e w0 ⟨rfl, hw0⟩
    obtain rfl := hw0
    obtain ⟨r0, r1, f0, f1, hltR⟩ := cellsT HK2.out
    go_wp2
    refine bodyPost_ret (by simp [results, Try.results57, go_sem, r0, r1, hltR]; rfl) rfl ⟨.slice none 0 0, ?_, ?_, ?_⟩
    · rw [HE.out.1]
    · rw [HE.out.2]; exact (BS.nil _ _).bc
    · have hb := HBB.out
      (repeat' (first | (with_reducible exact Below.refl _ _) | (with_reducible assumption) | (with_reducible refine Below.setCell ?_ ?_ _) | (with_reducible refine Below.alloc ?_ ?_ _) | (with_reducible refine below_drewN ?_ _) | (with_reducible refine Below.drew ?_) | (with_reducible exact Nat.le_refl _) | omega | (simp; done) | (simp; omega)))
  | true =>
    have hin : 0 ≤ x ∧ x ≤ 1000 := by simpa using hr.symm
    by_cases hg0 : g = 0
    rotate_left
    · have HE : Hid (gaC op s t x = g ∧ gaL op s t x = []) := by
        unfold Hid; rw [hg]; exact ga_code hs0 ht0 hin (by rw [← hg]; exact hg0)
      clear hG hg hr hs0 ht0
      subst hz0 hy0
      go_enter Try.func57, Try.ntmps57
      go_wp2_with (fail)
      refine (impl_shape (by have := HN.out.1; omega) (Nat.le_refl _) (H.out.below ((Below.refl _ _).alloc (Nat.le_refl _) _))).mono ?_
      rintro e w1 ⟨rfl, hb1⟩
      rw [← HZ.out]
      obtain ⟨hk1, hlt1, hB1⟩ := resT hb1
      have HB1 : Hid (Below w.heap.size w w1) := hB1
      have HK1 : Hid _ := hk1
      clear hb1 hk1 hB1
      go_wp2_with (fail)
      refine (impl_shape (by have := HN.out.2; omega) (Nat.le_refl _) (H'.out.below HB1.out)).mono ?_
      rintro e w2 ⟨rfl, hb2⟩
      rw [← HY.out]
      have hlt2 : w.heap.size < w2.heap.size := Nat.lt_of_lt_of_le hlt1 hb2.size
      have HK2 : Hid _ := (hb2.block _ hlt1).trans HK1.out
      have HBB : Hid (Below w.heap.size w w2) := HB1.out.trans (hb2.mono (Nat.le_of_lt hlt1))
      clear hb2
      go_wp2_with (fail)
      refine (HIN.out w2).mono ?_
      rintro e w0 ⟨rfl, hw0⟩
      obtain rfl := hw0
      go_wp2_with (fail)
      refine (HG.out (H.out.below HBB.out)).mono ?_
      rintro e w3 ⟨vg, rfl, hvg, hb3⟩
      obtain ⟨ga, gc, hgf⟩ : ∃ ga gc, vg = .slice ga G.length gc := by obtain ⟨x, y, z, e, _⟩ := hvg; exact ⟨x, z, e⟩
      subst hgf
      have HGB : Hid (RB w3 (.slice ga G.length gc) G) := hvg.rb
      have HK3 : Hid _ := (hb3.block _ hlt2).trans HK2.out
      have hlt3 : w.heap.size < w3.heap.size := Nat.lt_of_lt_of_le hlt2 hb3.size
      have HB3 : Hid (Below w.heap.size w w3) := HBB.out.trans (hb3.mono (Nat.le_of_lt hlt2))
      clear hvg hb3
      have HBB : Hid (Below w.heap.size w w3) := HB3.out
      obtain ⟨r0, r1, f0, f1, hltR⟩ := cellsT HK3.out
      go_wp2
      refine bodyPost_ret (by simp [results, Try.results57, go_sem, r0, r1, hltR]; rfl) rfl ⟨.slice none 0 0, ?_, ?_, ?_⟩
      · rw [HE.out.1]
      · rw [HE.out.2]; exact (BS.nil _ _).bc
      · have hb := HBB.out
        (repeat' (first | (with_reducible exact Below.refl _ _) | (with_reducible assumption) | (with_reducible refine Below.setCell ?_ ?_ _) | (with_reducible refine Below.alloc ?_ ?_ _) | (with_reducible refine below_drewN ?_ _) | (with_reducible refine Below.drew ?_) | (with_reducible exact Nat.le_refl _) | omega | (simp; done) | (simp; omega)))
    obtain ⟨L, hL⟩ : ∃ L, L = opOf (takesK op) G t := ⟨_, rfl⟩
    have HE : Hid (gaC op s t x = toldC L.length ∧ gaL op s t x = toldL L) := by
      unfold Hid; rw [hL, hG]; exact ga_told hs0 ht0 hin (by rw [← hg]; exact hg0)
    have HL : Hid (G.length ≤ 150 ∧ t.length ≤ 150 ∧ (∀ q ∈ G, q.x0 < q.x1) ∧ ∀ q ∈ t, q.x0 < q.x1) := by
      refine ⟨by rw [hG]; exact grL_length s x, shapeK_len ht0, by rw [hG]; exact grL_x hs0 hin, shapeK_x ht0⟩
    have HSW : Hid (∀ {W : World} {v u : Value}, RB W v G → RB W u t → Calls Try.prog 77 #[v, u, .func (.func F) #[] #[]] W fun e w' => ∃ v', e = .returned v' ∧ BC w' W.heap.size v' L ∧ Below W.heap.size W w') := fun {W v u} h1 h2 => by
      rw [hL]; exact impl_sweep impl_heights impl_edges HW.out.1 HW.out.2 (by have := HL.out; omega) h1 h2 HL.out.2.2.1 HL.out.2.2.2
    clear hG hg hr hs0 ht0 hin hL
    subst hz0 hy0 hg0
    go_enter Try.func57, Try.ntmps57
    go_wp2_with (fail)
    refine (impl_shape (by have := HN.out.1; omega) (Nat.le_refl _) (H.out.below ((Below.refl _ _).alloc (Nat.le_refl _) _))).mono ?_
    rintro e w1 ⟨rfl, hb1⟩
    rw [← HZ.out]
    obtain ⟨hk1, hlt1, hB1⟩ := resT hb1
    have HB1 : Hid (Below w.heap.size w w1) := hB1
    have HK1 : Hid _ := hk1
    clear hb1 hk1 hB1
    go_wp2_with (fail)
    refine (impl_shape (by have := HN.out.2; omega) (Nat.le_refl _) (H'.out.below HB1.out)).mono ?_
    rintro e w2 ⟨rfl, hb2⟩
    rw [← HY.out]
    have hlt2 : w.heap.size < w2.heap.size := Nat.lt_of_lt_of_le hlt1 hb2.size
    have HK2 : Hid _ := (hb2.block _ hlt1).trans HK1.out
    have HBB : Hid (Below w.heap.size w w2) := HB1.out.trans (hb2.mono (Nat.le_of_lt hlt1))
    clear hb2
    go_wp2_with (fail)
    refine (HIN.out w2).mono ?_
    rintro e w0 ⟨rfl, hw0⟩
    obtain rfl := hw0
    go_wp2_with (fail)
    refine (HG.out (H.out.below HBB.out)).mono ?_
    rintro e w3 ⟨vg, rfl, hvg, hb3⟩
    obtain ⟨ga, gc, hgf⟩ : ∃ ga gc, vg = .slice ga G.length gc := by obtain ⟨x, y, z, e, _⟩ := hvg; exact ⟨x, z, e⟩
    subst hgf
    have HGB : Hid (RB w3 (.slice ga G.length gc) G) := hvg.rb
    have HK3 : Hid _ := (hb3.block _ hlt2).trans HK2.out
    have hlt3 : w.heap.size < w3.heap.size := Nat.lt_of_lt_of_le hlt2 hb3.size
    have HB3 : Hid (Below w.heap.size w w3) := HBB.out.trans (hb3.mono (Nat.le_of_lt hlt2))
    clear hvg hb3
    go_wp2_with (fail)
    obtain ⟨W3, hW3⟩ : ∃ W3, W3 = w3.alloc (.cells #[.int .i64 0, .slice ga G.length gc] 33) := ⟨_, rfl⟩
    rw [← hW3]
    have hbW3 : Below w3.heap.size w3 W3 := by rw [hW3]; exact (Below.refl _ _).alloc (Nat.le_refl _) _
    have HKW : Hid _ := (hbW3.block _ hlt3).trans HK3.out
    have hltW : w.heap.size < W3.heap.size := Nat.lt_of_lt_of_le hlt3 hbW3.size
    have HBW : Hid (Below w.heap.size w W3) := HB3.out.trans (hbW3.mono (Nat.le_of_lt hlt3))
    have HGW : Hid (RB W3 (.slice ga G.length gc) G) := HGB.out.below hbW3
    clear hW3 hbW3
    refine (HSW.out HGW.out (H'.out.below HBW.out)).mono ?_
    rintro e w4 ⟨v', rfl, ho, hb4⟩
    obtain ⟨a2, c2, rfl⟩ : ∃ a2 c2, v' = .slice a2 L.length c2 := by obtain ⟨x, y, z, e, _⟩ := ho; exact ⟨x, z, e⟩
    have HO : Hid (BC w4 W3.heap.size (.slice a2 L.length c2) L) := ho
    have HB4 : Hid _ := hb4
    clear ho hb4
    go_wp2_with (fail)
    refine (impl_answer a2 _ c2 w4).mono ?_
    rintro e w5 ⟨rfl, hb5⟩
    have hk5 := (hb5.block _ (Nat.lt_of_lt_of_le hltW HB4.out.size)).trans ((HB4.out.block _ hltW).trans HKW.out)
    obtain ⟨r0, r1, f0, f1, hltR⟩ := cellsT hk5
    have HR : Hid (BC w5 W3.heap.size (toldV (.slice a2 L.length c2) L.length) (toldL L) ∧ Below w.heap.size w w5) := ⟨(told_bc HO.out).below hb5, HBW.out.trans ((HB4.out.mono (Nat.le_of_lt hltW)).trans (hb5.mono (Nat.le_of_lt (Nat.lt_of_lt_of_le hltW HB4.out.size))))⟩
    clear hb5 hk5
    obtain ⟨a3, c3, h3⟩ : ∃ a3 c3, toldV (.slice a2 L.length c2) L.length = .slice a3 (toldL L).length c3 := by obtain ⟨x, y, z, e, _⟩ := HR.out.1; exact ⟨x, z, e⟩
    rw [h3] at HR ⊢
    clear h3
    go_wp2
    refine bodyPost_ret (by simp [results, Try.results57, go_sem, r0, r1, hltR]; rfl) rfl ⟨.slice a3 (toldL L).length c3, ?_, ?_, ?_⟩
    · rw [HE.out.1]
    · rw [HE.out.2]
      refine (HR.out.1.kept fun g hg => ?_).low (Nat.le_of_lt hltW)
      have hge := HR.out.1.lt hg
      rw [heap_setCell_other _ _ _ _ (by simp; omega), heap_setCell_other _ _ _ _ (by simp; omega)]
    · have hb := HR.out.2
      (repeat' (first | (with_reducible exact Below.refl _ _) | (with_reducible assumption) | (with_reducible refine Below.setCell ?_ ?_ _) | (with_reducible refine Below.alloc ?_ ?_ _) | (with_reducible refine below_drewN ?_ _) | (with_reducible refine Below.drew ?_) | (with_reducible exact Nat.le_refl _) | omega | (simp; done) | (simp; omega)))

set_option maxHeartbeats 1600000 in
theorem impl_cover (x : Int) (hx : -9223372036854775808 ≤ x ∧ x ≤ 9223372036854775807) {w : World} {a b : Option Addr} {s t : List Bx} (hn : s.length ≤ 1048576) (hn' : t.length ≤ 1048576) (h : RB w (.slice a s.length s.length) s) (h' : RB w (.slice b t.length t.length) t) :
    Calls Try.prog 27 #[.slice a s.length s.length, .slice b t.length t.length, .int .i64 x] w fun e w' => ∃ vs, e = .returned (.agg #[.int .i64 (gaC 3 s t x), vs]) ∧ BC w' w.heap.size vs (gaL 3 s t x) ∧ Below w.heap.size w w' := by
  obtain ⟨C, hC⟩ : ∃ C, C = gaC 3 s t x := ⟨_, rfl⟩
  obtain ⟨L, hL⟩ : ∃ L, L = gaL 3 s t x := ⟨_, rfl⟩
  have HH : Hid (∀ {W : World}, RB W (.slice a s.length s.length) s → RB W (.slice b t.length t.length) t → Calls Try.prog 57 #[.slice a s.length s.length, .slice b t.length t.length, .int .i64 x, .func (.func 58) #[] #[]] W fun e w' => ∃ vs, e = .returned (.agg #[.int .i64 C, vs]) ∧ BC w' W.heap.size vs L ∧ Below W.heap.size W w') := fun {W} h1 h2 => by rw [hC, hL]; exact impl_ga 3 _ word_alone rfl x hx hn hn' h1 h2
  have H : Hid (RB w (.slice a s.length s.length) s ∧ RB w (.slice b t.length t.length) t) := ⟨h, h'⟩
  rw [← hC, ← hL]
  clear h h' hC hL hx
  go_enter Try.func27, Try.ntmps27
  go_wp2_with (fail)
  refine (HH.out (H.out.1.below ((Below.refl _ _).alloc (Nat.le_refl _) _)) (H.out.2.below ((Below.refl _ _).alloc (Nat.le_refl _) _))).mono ?_
  rintro e w1 ⟨vs, rfl, hv, hb1⟩
  obtain ⟨a2, c2, rfl⟩ : ∃ a2 c2, vs = .slice a2 L.length c2 := by obtain ⟨x, y, z, e, _⟩ := hv; exact ⟨x, z, e⟩
  obtain ⟨hk1, hlt1, hB1⟩ := resT hb1
  have HR : Hid (BC w1 (w.heap.size + 1) (.slice a2 L.length c2) L ∧ Below w.heap.size w w1) := ⟨by simpa using hv, hB1⟩
  obtain ⟨r0, r1, f0, f1, hltR⟩ := cellsT hk1
  clear hv hb1 hk1 hB1
  go_wp2
  refine bodyPost_ret (by simp [results, Try.results27, go_sem, r0, r1, hltR] <;> rfl) rfl ⟨.slice a2 L.length c2, rfl, ?_, ?_⟩
  · refine (HR.out.1.kept fun k hk => ?_).low (by omega)
    have hge := HR.out.1.lt hk
    rw [heap_setCell_other _ _ _ _ (by simp; omega), heap_setCell_other _ _ _ _ (by simp; omega)]
  · have hb := HR.out.2
    (repeat' (first | (with_reducible exact Below.refl _ _) | (with_reducible assumption) | (with_reducible refine Below.setCell ?_ ?_ _) | (with_reducible refine Below.alloc ?_ ?_ _) | (with_reducible refine below_drewN ?_ _) | (with_reducible refine Below.drew ?_) | (with_reducible exact Nat.le_refl _) | omega | (simp; done) | (simp; omega)))

set_option maxHeartbeats 1600000 in
theorem impl_apart (x : Int) (hx : -9223372036854775808 ≤ x ∧ x ≤ 9223372036854775807) {w : World} {a b : Option Addr} {s t : List Bx} (hn : s.length ≤ 1048576) (hn' : t.length ≤ 1048576) (h : RB w (.slice a s.length s.length) s) (h' : RB w (.slice b t.length t.length) t) :
    Calls Try.prog 29 #[.slice a s.length s.length, .slice b t.length t.length, .int .i64 x] w fun e w' => ∃ vs, e = .returned (.agg #[.int .i64 (gaC 2 s t x), vs]) ∧ BC w' w.heap.size vs (gaL 2 s t x) ∧ Below w.heap.size w w' := by
  obtain ⟨C, hC⟩ : ∃ C, C = gaC 2 s t x := ⟨_, rfl⟩
  obtain ⟨L, hL⟩ : ∃ L, L = gaL 2 s t x := ⟨_, rfl⟩
  have HH : Hid (∀ {W : World}, RB W (.slice a s.length s.length) s → RB W (.slice b t.length t.length) t → Calls Try.prog 57 #[.slice a s.length s.length, .slice b t.length t.length, .int .i64 x, .func (.func 59) #[] #[]] W fun e w' => ∃ vs, e = .returned (.agg #[.int .i64 C, vs]) ∧ BC w' W.heap.size vs L ∧ Below W.heap.size W w') := fun {W} h1 h2 => by rw [hC, hL]; exact impl_ga 2 _ word_both rfl x hx hn hn' h1 h2
  have H : Hid (RB w (.slice a s.length s.length) s ∧ RB w (.slice b t.length t.length) t) := ⟨h, h'⟩
  rw [← hC, ← hL]
  clear h h' hC hL hx
  go_enter Try.func29, Try.ntmps29
  go_wp2_with (fail)
  refine (HH.out (H.out.1.below ((Below.refl _ _).alloc (Nat.le_refl _) _)) (H.out.2.below ((Below.refl _ _).alloc (Nat.le_refl _) _))).mono ?_
  rintro e w1 ⟨vs, rfl, hv, hb1⟩
  obtain ⟨a2, c2, rfl⟩ : ∃ a2 c2, vs = .slice a2 L.length c2 := by obtain ⟨x, y, z, e, _⟩ := hv; exact ⟨x, z, e⟩
  obtain ⟨hk1, hlt1, hB1⟩ := resT hb1
  have HR : Hid (BC w1 (w.heap.size + 1) (.slice a2 L.length c2) L ∧ Below w.heap.size w w1) := ⟨by simpa using hv, hB1⟩
  obtain ⟨r0, r1, f0, f1, hltR⟩ := cellsT hk1
  clear hv hb1 hk1 hB1
  go_wp2
  refine bodyPost_ret (by simp [results, Try.results29, go_sem, r0, r1, hltR] <;> rfl) rfl ⟨.slice a2 L.length c2, rfl, ?_, ?_⟩
  · refine (HR.out.1.kept fun k hk => ?_).low (by omega)
    have hge := HR.out.1.lt hk
    rw [heap_setCell_other _ _ _ _ (by simp; omega), heap_setCell_other _ _ _ _ (by simp; omega)]
  · have hb := HR.out.2
    (repeat' (first | (with_reducible exact Below.refl _ _) | (with_reducible assumption) | (with_reducible refine Below.setCell ?_ ?_ _) | (with_reducible refine Below.alloc ?_ ?_ _) | (with_reducible refine below_drewN ?_ _) | (with_reducible refine Below.drew ?_) | (with_reducible exact Nat.le_refl _) | omega | (simp; done) | (simp; omega)))

end Go.Proofs.Ytokdpgabmifdjaa
