/- Proved here: l4Grown, CoverOf and ApartOf of the model: gaC, gaL. -/
import Derived.Test.YtokdpgabmifdjaaSGrow2
import Derived.Test.YtokdpgabmifdjaaGaM
namespace Go.Proofs.Ytokdpgabmifdjaa
open Go.RowKit
set_option linter.unusedVariables false
set_option linter.unusedSimpArgs false

set_option maxRecDepth 10000 in
set_option maxHeartbeats 4000000 in
theorem spec_lg (x : Int) (hx : -9223372036854775808 ≤ x ∧ x ≤ 9223372036854775807) {w : World} {v u : Value} {s t : List Bx} (h : RB w v s) (h' : RB w u t) :
    Calls Try.prog 56 #[v, u, .int .i64 x] w fun e w' => ∃ vs, e = .returned (.agg #[.int .i64 (lgC s t x), vs]) ∧ BS w' w.heap.size vs (lgL s t x) ∧ Below w.heap.size w w' := by
  obtain ⟨a, c, rfl⟩ := h.form
  obtain ⟨b, d, rfl⟩ := h'.form
  have H : Hid (RB w (.slice a s.length c) s) := h
  have H' : Hid (RB w (.slice b t.length d) t) := h'
  obtain ⟨G, hG⟩ : ∃ G, G = grL s x := ⟨_, rfl⟩
  obtain ⟨g, hg⟩ : ∃ g, g = grC s x := ⟨_, rfl⟩
  have HG : Hid (∀ {W : World}, RB W (.slice a s.length c) s → Calls Try.prog 33 #[.slice a s.length c, .int .i64 x] W fun e w' => ∃ vs, e = .returned (.agg #[.int .i64 g, vs]) ∧ BS w' W.heap.size vs G ∧ Below W.heap.size W w') := fun {W} hW => by rw [hG, hg]; exact spec_grow x hx hW
  clear h h' hx
  obtain ⟨z, hz⟩ : ∃ z, z = shapeK s := ⟨_, rfl⟩
  have HZ : Hid (z = shapeK s) := hz
  clear hz
  obtain ⟨y, hy⟩ : ∃ y, y = shapeK t := ⟨_, rfl⟩
  have HY : Hid (y = shapeK t) := hy
  clear hy
  by_cases hz0 : z = 0
  rotate_left
  · have HE : Hid (lgC s t x = z ∧ lgL s t x = []) := by
      have hne : ¬ shapeK s = 0 := fun e => hz0 (HZ.out.trans e)
      unfold Hid lgC lgL; rw [HZ.out, if_neg hne, if_neg (fun e => hne e.1)]; exact ⟨rfl, rfl⟩
    clear hG hg
    go_enter Try.func56, Try.ntmps56
    go_wp2_with (fail)
    refine (spec_shape (H.out.below ((Below.refl _ _).alloc (Nat.le_refl _) _))).mono ?_
    rintro e w1 ⟨rfl, hb1⟩
    rw [← HZ.out]
    obtain ⟨hk1, hlt1, hB1⟩ := resT hb1
    have HB1 : Hid (Below w.heap.size w w1) := hB1
    have HK1 : Hid _ := hk1
    clear hb1 hk1 hB1
    have HBB : Hid (Below w.heap.size w w1) := HB1.out
    obtain ⟨r0, r1, f0, f1, hltR⟩ := cellsT HK1.out
    go_wp2
    refine bodyPost_ret (by simp [results, Try.results56, go_sem, r0, r1, hltR]; rfl) rfl ⟨.slice none 0 0, ?_, ?_, ?_⟩
    · rw [HE.out.1]
    · rw [HE.out.2]; exact BS.nil _ _
    · have hb := HBB.out
      (repeat' (first | (with_reducible exact Below.refl _ _) | (with_reducible assumption) | (with_reducible refine Below.setCell ?_ ?_ _) | (with_reducible refine Below.alloc ?_ ?_ _) | (with_reducible refine below_drewN ?_ _) | (with_reducible refine Below.drew ?_) | (with_reducible exact Nat.le_refl _) | omega | (simp; done) | (simp; omega)))
  have hs0 : shapeK s = 0 := by rw [← HZ.out]; exact hz0
  by_cases hy0 : y = 0
  rotate_left
  · have HE : Hid (lgC s t x = y ∧ lgL s t x = []) := by
      have hne : ¬ shapeK t = 0 := fun e => hy0 (HY.out.trans e)
      unfold Hid lgC lgL; rw [HY.out, if_pos hs0, if_neg hne, if_neg (fun e => hne e.2.1)]; exact ⟨rfl, rfl⟩
    clear hG hg hs0
    subst hz0
    go_enter Try.func56, Try.ntmps56
    go_wp2_with (fail)
    refine (spec_shape (H.out.below ((Below.refl _ _).alloc (Nat.le_refl _) _))).mono ?_
    rintro e w1 ⟨rfl, hb1⟩
    rw [← HZ.out]
    obtain ⟨hk1, hlt1, hB1⟩ := resT hb1
    have HB1 : Hid (Below w.heap.size w w1) := hB1
    have HK1 : Hid _ := hk1
    clear hb1 hk1 hB1
    go_wp2_with (fail)
    refine (spec_shape (H'.out.below HB1.out)).mono ?_
    rintro e w2 ⟨rfl, hb2⟩
    rw [← HY.out]
    have hlt2 : w.heap.size < w2.heap.size := Nat.lt_of_lt_of_le hlt1 hb2.size
    have HK2 : Hid _ := (hb2.block _ hlt1).trans HK1.out
    have HBB : Hid (Below w.heap.size w w2) := HB1.out.trans (hb2.mono (Nat.le_of_lt hlt1))
    clear hb2
    obtain ⟨r0, r1, f0, f1, hltR⟩ := cellsT HK2.out
    go_wp2
    refine bodyPost_ret (by simp [results, Try.results56, go_sem, r0, r1, hltR]; rfl) rfl ⟨.slice none 0 0, ?_, ?_, ?_⟩
    · rw [HE.out.1]
    · rw [HE.out.2]; exact BS.nil _ _
    · have hb := HBB.out
      (repeat' (first | (with_reducible exact Below.refl _ _) | (with_reducible assumption) | (with_reducible refine Below.setCell ?_ ?_ _) | (with_reducible refine Below.alloc ?_ ?_ _) | (with_reducible refine below_drewN ?_ _) | (with_reducible refine Below.drew ?_) | (with_reducible exact Nat.le_refl _) | omega | (simp; done) | (simp; omega)))
  have ht0 : shapeK t = 0 := by rw [← HY.out]; exact hy0
  rcases (by omega : x < 0 ∨ 1000 < x ∨ (0 ≤ x ∧ x ≤ 1000)) with hq | hq | hq
  · have HE : Hid (lgC s t x = 3 ∧ lgL s t x = []) := by
      have hne : ¬ (0 ≤ x ∧ x ≤ 1000) := by omega
      unfold Hid lgC lgL; rw [if_pos hs0, if_pos ht0, if_neg hne, if_neg (fun e => hne e.2.2)]; exact ⟨rfl, rfl⟩
    clear hG hg hs0 ht0
    subst hz0 hy0
    go_enter Try.func56, Try.ntmps56
    go_wp2_with (fail)
    refine (spec_shape (H.out.below ((Below.refl _ _).alloc (Nat.le_refl _) _))).mono ?_
    rintro e w1 ⟨rfl, hb1⟩
    rw [← HZ.out]
    obtain ⟨hk1, hlt1, hB1⟩ := resT hb1
    have HB1 : Hid (Below w.heap.size w w1) := hB1
    have HK1 : Hid _ := hk1
    clear hb1 hk1 hB1
    go_wp2_with (fail)
    refine (spec_shape (H'.out.below HB1.out)).mono ?_
    rintro e w2 ⟨rfl, hb2⟩
    rw [← HY.out]
    have hlt2 : w.heap.size < w2.heap.size := Nat.lt_of_lt_of_le hlt1 hb2.size
    have HK2 : Hid _ := (hb2.block _ hlt1).trans HK1.out
    have HBB : Hid (Below w.heap.size w w2) := HB1.out.trans (hb2.mono (Nat.le_of_lt hlt1))
    clear hb2
    obtain ⟨r0, r1, f0, f1, hltR⟩ := cellsT HK2.out
    go_wp2
    refine bodyPost_ret (by simp [results, Try.results56, go_sem, r0, r1, hltR]; rfl) rfl ⟨.slice none 0 0, ?_, ?_, ?_⟩
    · rw [HE.out.1]
    · rw [HE.out.2]; exact BS.nil _ _
    · have hb := HBB.out
      (repeat' (first | (with_reducible exact Below.refl _ _) | (with_reducible assumption) | (with_reducible refine Below.setCell ?_ ?_ _) | (with_reducible refine Below.alloc ?_ ?_ _) | (with_reducible refine below_drewN ?_ _) | (with_reducible refine Below.drew ?_) | (with_reducible exact Nat.le_refl _) | omega | (simp; done) | (simp; omega)))
  · have HE : Hid (lgC s t x = 3 ∧ lgL s t x = []) := by
      have hne : ¬ (0 ≤ x ∧ x ≤ 1000) := by omega
      unfold Hid lgC lgL; rw [if_pos hs0, if_pos ht0, if_neg hne, if_neg (fun e => hne e.2.2)]; exact ⟨rfl, rfl⟩
    have hq2 : ¬ x < 0 := by omega
    clear hG hg hs0 ht0
    subst hz0 hy0
    go_enter Try.func56, Try.ntmps56
    go_wp2_with (fail)
    refine (spec_shape (H.out.below ((Below.refl _ _).alloc (Nat.le_refl _) _))).mono ?_
    rintro e w1 ⟨rfl, hb1⟩
    rw [← HZ.out]
    obtain ⟨hk1, hlt1, hB1⟩ := resT hb1
    have HB1 : Hid (Below w.heap.size w w1) := hB1
    have HK1 : Hid _ := hk1
    clear hb1 hk1 hB1
    go_wp2_with (fail)
    refine (spec_shape (H'.out.below HB1.out)).mono ?_
    rintro e w2 ⟨rfl, hb2⟩
    rw [← HY.out]
    have hlt2 : w.heap.size < w2.heap.size := Nat.lt_of_lt_of_le hlt1 hb2.size
    have HK2 : Hid _ := (hb2.block _ hlt1).trans HK1.out
    have HBB : Hid (Below w.heap.size w w2) := HB1.out.trans (hb2.mono (Nat.le_of_lt hlt1))
    clear hb2
    obtain ⟨r0, r1, f0, f1, hltR⟩ := cellsT HK2.out
    go_wp2
    refine bodyPost_ret (by simp [results, Try.results56, go_sem, r0, r1, hltR]; rfl) rfl ⟨.slice none 0 0, ?_, ?_, ?_⟩
    · rw [HE.out.1]
    · rw [HE.out.2]; exact BS.nil _ _
    · have hb := HBB.out
      (repeat' (first | (with_reducible exact Below.refl _ _) | (with_reducible assumption) | (with_reducible refine Below.setCell ?_ ?_ _) | (with_reducible refine Below.alloc ?_ ?_ _) | (with_reducible refine below_drewN ?_ _) | (with_reducible refine Below.drew ?_) | (with_reducible exact Nat.le_refl _) | omega | (simp; done) | (simp; omega)))
  · have HE : Hid (lgC s t x = g ∧ lgL s t x = G) := by
      unfold Hid lgC lgL; rw [if_pos hs0, if_pos ht0, if_pos hq, if_pos ⟨hs0, ht0, hq⟩]; exact ⟨hg.symm, hG.symm⟩
    have hq2 : ¬ x < 0 := by omega
    have hq3 : ¬ 1000 < x := by omega
    clear hG hg hs0 ht0 hq
    subst hz0 hy0
    go_enter Try.func56, Try.ntmps56
    go_wp2_with (fail)
    refine (spec_shape (H.out.below ((Below.refl _ _).alloc (Nat.le_refl _) _))).mono ?_
    rintro e w1 ⟨rfl, hb1⟩
    rw [← HZ.out]
    obtain ⟨hk1, hlt1, hB1⟩ := resT hb1
    have HB1 : Hid (Below w.heap.size w w1) := hB1
    have HK1 : Hid _ := hk1
    clear hb1 hk1 hB1
    go_wp2_with (fail)
    refine (spec_shape (H'.out.below HB1.out)).mono ?_
    rintro e w2 ⟨rfl, hb2⟩
    rw [← HY.out]
    have hlt2 : w.heap.size < w2.heap.size := Nat.lt_of_lt_of_le hlt1 hb2.size
    have HK2 : Hid _ := (hb2.block _ hlt1).trans HK1.out
    have HBB : Hid (Below w.heap.size w w2) := HB1.out.trans (hb2.mono (Nat.le_of_lt hlt1))
    clear hb2
    go_wp2_with (fail)
    refine (HG.out (H.out.below HBB.out)).mono ?_
    rintro e w3 ⟨vg, rfl, hvg, hb3⟩
    obtain ⟨ga, gc, hgf⟩ := hvg.form
    subst hgf
    have HR : Hid (BS w3 w2.heap.size (.slice ga G.length gc) G ∧ Below w.heap.size w w3) := ⟨hvg, HBB.out.trans (hb3.mono (Nat.le_of_lt hlt2))⟩
    obtain ⟨r0, r1, f0, f1, hltR⟩ := cellsT ((hb3.block _ hlt2).trans HK2.out)
    clear hvg hb3
    go_wp2
    refine bodyPost_ret (by simp [results, Try.results56, go_sem, r0, r1, hltR]; rfl) rfl ⟨.slice ga G.length gc, ?_, ?_, ?_⟩
    · rw [HE.out.1]
    · rw [HE.out.2]
      refine (HR.out.1.kept fun k hk => ?_).low (Nat.le_of_lt hlt2)
      have hge := (World.ownsRow.lt HR.out.1 _ hk).1
      rw [heap_setCell_other _ _ _ _ (by simp; omega), heap_setCell_other _ _ _ _ (by simp; omega)]
    · have hb := HR.out.2
      (repeat' (first | (with_reducible exact Below.refl _ _) | (with_reducible assumption) | (with_reducible refine Below.setCell ?_ ?_ _) | (with_reducible refine Below.alloc ?_ ?_ _) | (with_reducible refine below_drewN ?_ _) | (with_reducible refine Below.drew ?_) | (with_reducible exact Nat.le_refl _) | omega | (simp; done) | (simp; omega)))

set_option maxRecDepth 10000 in
set_option maxHeartbeats 4000000 in
theorem spec_cover (x : Int) (hx : -9223372036854775808 ≤ x ∧ x ≤ 9223372036854775807) {w : World} {v u : Value} {s t : List Bx} (h : RB w v s) (h' : RB w u t) :
    Calls Try.prog 26 #[v, u, .int .i64 x] w fun e w' => ∃ vs, e = .returned (.agg #[.int .i64 (gaC 3 s t x), vs]) ∧ BS w' w.heap.size vs (gaL 3 s t x) ∧ Below w.heap.size w w' := by
  obtain ⟨a, c, rfl⟩ := h.form
  obtain ⟨b, d, rfl⟩ := h'.form
  have H : Hid (RB w (.slice a s.length c) s) := h
  have H' : Hid (RB w (.slice b t.length d) t) := h'
  obtain ⟨G, hG⟩ : ∃ G, G = lgL s t x := ⟨_, rfl⟩
  obtain ⟨g, hg⟩ : ∃ g, g = lgC s t x := ⟨_, rfl⟩
  have HG : Hid (∀ {W : World}, RB W (.slice a s.length c) s → RB W (.slice b t.length d) t → Calls Try.prog 56 #[.slice a s.length c, .slice b t.length d, .int .i64 x] W fun e w' => ∃ vs, e = .returned (.agg #[.int .i64 g, vs]) ∧ BS w' W.heap.size vs G ∧ Below W.heap.size W w') := fun {W} h1 h2 => by rw [hG, hg]; exact spec_lg x hx h1 h2
  clear h h' hx
  by_cases hg0 : g = 0
  · obtain ⟨L, hL⟩ : ∃ L, L = opOf (takesK 3) G t := ⟨_, rfl⟩
    have HE : Hid (gaC 3 s t x = toldC L.length ∧ gaL 3 s t x = toldL L) := by
      unfold Hid; rw [hL, hG]; exact ga_lg (by rw [← hg]; exact hg0)
    have HL : Hid (G.length ≤ 150 ∧ t.length ≤ 150) := ⟨by rw [hG]; exact lgL_length s t x, shapeK_len (lg_ok (by rw [← hg]; exact hg0)).2.1⟩
    have H3 : Hid (∀ {W : World} {aa ab : Option Addr} {ac bc : Nat}, RB W (.slice aa G.length ac) G → RB W (.slice ab t.length bc) t → Calls Try.prog 47 #[.int .i64 3, .slice aa G.length ac, .slice ab t.length bc] W fun e w' => ∃ v', e = .returned v' ∧ BS w' W.heap.size v' L ∧ v' ≠ .slice none 0 0 ∧ Below W.heap.size W w') := fun {W aa ab ac bc} h1 h2 => by
      rw [hL]; exact spec_op 3 aa ab ac bc G t W (by have := HL.out; omega) h1 h2
    clear hG hg hL
    subst hg0
    go_enter Try.func26, Try.ntmps26
    go_wp2_with (fail)
    refine (HG.out (H.out.below ((Below.refl _ _).alloc (Nat.le_refl _) _)) (H'.out.below ((Below.refl _ _).alloc (Nat.le_refl _) _))).mono ?_
    rintro e w1 ⟨vg, rfl, hvg, hb1⟩
    obtain ⟨ga, gc, hgf⟩ := hvg.form
    subst hgf
    obtain ⟨hk1, hlt1, hB1⟩ := resT hb1
    have HGB : Hid (RB w1 (.slice ga G.length gc) G) := hvg.rb
    have HK1 : Hid _ := hk1
    have HB1 : Hid (Below w.heap.size w w1) := hB1
    clear hvg hb1 hk1 hB1
    go_wp2_with (fail)
    obtain ⟨W3, hW3⟩ : ∃ W3, W3 = w1.alloc (.cells #[.int .i64 0, .slice ga G.length gc] 33) := ⟨_, rfl⟩
    rw [← hW3]
    have hbW3 : Below w1.heap.size w1 W3 := by rw [hW3]; exact (Below.refl _ _).alloc (Nat.le_refl _) _
    have HKW : Hid _ := (hbW3.block _ hlt1).trans HK1.out
    have hltW : w.heap.size < W3.heap.size := Nat.lt_of_lt_of_le hlt1 hbW3.size
    have HBW : Hid (Below w.heap.size w W3) := HB1.out.trans (hbW3.mono (Nat.le_of_lt hlt1))
    have HGW : Hid (RB W3 (.slice ga G.length gc) G) := HGB.out.below hbW3
    clear hW3 hbW3
    refine (H3.out HGW.out (H'.out.below HBW.out)).mono ?_
    rintro e w4 ⟨v', rfl, ho, hne, hb4⟩
    obtain ⟨a2, c2, rfl⟩ := ho.form
    have HO : Hid (BS w4 W3.heap.size (.slice a2 L.length c2) L) := ho
    have HB4 : Hid _ := hb4
    clear ho hb4 hne
    go_wp2_with (fail)
    refine (spec_told a2 _ c2 w4).mono ?_
    rintro e w5 ⟨rfl, hb5⟩
    have hk5 := (hb5.block _ (Nat.lt_of_lt_of_le hltW HB4.out.size)).trans ((HB4.out.block _ hltW).trans HKW.out)
    obtain ⟨r0, r1, f0, f1, hltR⟩ := cellsT hk5
    have HR : Hid (BS w5 W3.heap.size (toldV (.slice a2 L.length c2) L.length) (toldL L) ∧ Below w.heap.size w w5) := ⟨(told_bs HO.out).below hb5, HBW.out.trans ((HB4.out.mono (Nat.le_of_lt hltW)).trans (hb5.mono (Nat.le_of_lt (Nat.lt_of_lt_of_le hltW HB4.out.size))))⟩
    clear hb5 hk5
    obtain ⟨a3, c3, h3⟩ := HR.out.1.form
    rw [h3] at HR ⊢
    clear h3
    go_wp2
    refine bodyPost_ret (by simp [results, Try.results26, go_sem, r0, r1, hltR]; rfl) rfl ⟨.slice a3 (toldL L).length c3, ?_, ?_, ?_⟩
    · rw [HE.out.1]
    · rw [HE.out.2]
      refine (HR.out.1.kept fun k hk => ?_).low (Nat.le_of_lt hltW)
      have hge := (World.ownsRow.lt HR.out.1 _ hk).1
      rw [heap_setCell_other _ _ _ _ (by simp; omega), heap_setCell_other _ _ _ _ (by simp; omega)]
    · have hb := HR.out.2
      (repeat' (first | (with_reducible exact Below.refl _ _) | (with_reducible assumption) | (with_reducible refine Below.setCell ?_ ?_ _) | (with_reducible refine Below.alloc ?_ ?_ _) | (with_reducible refine below_drewN ?_ _) | (with_reducible refine Below.drew ?_) | (with_reducible exact Nat.le_refl _) | omega | (simp; done) | (simp; omega)))
  · have HE : Hid (gaC 3 s t x = g ∧ gaL 3 s t x = G) := by
      have h3 := ga_lg_not (op := 3) (s := s) (t := t) (d := x) (by rw [← hg]; exact hg0)
      unfold Hid; rw [hG, hg]; exact ⟨h3.1, h3.2.1.trans h3.2.2.symm⟩
    clear hG hg
    go_enter Try.func26, Try.ntmps26
    go_wp2_with (fail)
    refine (HG.out (H.out.below ((Below.refl _ _).alloc (Nat.le_refl _) _)) (H'.out.below ((Below.refl _ _).alloc (Nat.le_refl _) _))).mono ?_
    rintro e w1 ⟨vg, rfl, hvg, hb1⟩
    obtain ⟨ga, gc, hgf⟩ := hvg.form
    subst hgf
    obtain ⟨hk1, hlt1, hB1⟩ := resT hb1
    have HGB : Hid (BS w1 (w.heap.size + 1) (.slice ga G.length gc) G ∧ Below w.heap.size w w1) := ⟨by simpa using hvg, hB1⟩
    obtain ⟨r0, r1, f0, f1, hltR⟩ := cellsT hk1
    clear hvg hb1 hk1 hB1
    go_wp2
    refine bodyPost_ret (by simp [results, Try.results26, go_sem, r0, r1, hltR]; rfl) rfl ⟨.slice ga G.length gc, ?_, ?_, ?_⟩
    · rw [HE.out.1]
    · rw [HE.out.2]
      refine (HGB.out.1.kept fun k hk => ?_).low (by omega)
      have hge := World.ownsRow.lt HGB.out.1 _ hk
      rw [Below.heap_alloc _ _ _ (by simpa using hge.2), heap_setCell_other _ _ _ _ (by simp; omega), heap_setCell_other _ _ _ _ (by simp; omega)]
    · have hb := HGB.out.2
      (repeat' (first | (with_reducible exact Below.refl _ _) | (with_reducible assumption) | (with_reducible refine Below.setCell ?_ ?_ _) | (with_reducible refine Below.alloc ?_ ?_ _) | (with_reducible refine below_drewN ?_ _) | (with_reducible refine Below.drew ?_) | (with_reducible exact Nat.le_refl _) | omega | (simp; done) | (simp; omega)))

set_option maxRecDepth 10000 in
set_option maxHeartbeats 4000000 in
theorem spec_apart (x : Int) (hx : -9223372036854775808 ≤ x ∧ x ≤ 9223372036854775807) {w : World} {v u : Value} {s t : List Bx} (h : RB w v s) (h' : RB w u t) :
    Calls Try.prog 28 #[v, u, .int .i64 x] w fun e w' => ∃ vs, e = .returned (.agg #[.int .i64 (gaC 2 s t x), vs]) ∧ BS w' w.heap.size vs (gaL 2 s t x) ∧ Below w.heap.size w w' := by
  obtain ⟨a, c, rfl⟩ := h.form
  obtain ⟨b, d, rfl⟩ := h'.form
  have H : Hid (RB w (.slice a s.length c) s) := h
  have H' : Hid (RB w (.slice b t.length d) t) := h'
  obtain ⟨G, hG⟩ : ∃ G, G = lgL s t x := ⟨_, rfl⟩
  obtain ⟨g, hg⟩ : ∃ g, g = lgC s t x := ⟨_, rfl⟩
  have HG : Hid (∀ {W : World}, RB W (.slice a s.length c) s → RB W (.slice b t.length d) t → Calls Try.prog 56 #[.slice a s.length c, .slice b t.length d, .int .i64 x] W fun e w' => ∃ vs, e = .returned (.agg #[.int .i64 g, vs]) ∧ BS w' W.heap.size vs G ∧ Below W.heap.size W w') := fun {W} h1 h2 => by rw [hG, hg]; exact spec_lg x hx h1 h2
  clear h h' hx
  by_cases hg0 : g = 0
  · obtain ⟨L, hL⟩ : ∃ L, L = opOf (takesK 2) G t := ⟨_, rfl⟩
    have HE : Hid (gaC 2 s t x = toldC L.length ∧ gaL 2 s t x = toldL L) := by
      unfold Hid; rw [hL, hG]; exact ga_lg (by rw [← hg]; exact hg0)
    have HL : Hid (G.length ≤ 150 ∧ t.length ≤ 150) := ⟨by rw [hG]; exact lgL_length s t x, shapeK_len (lg_ok (by rw [← hg]; exact hg0)).2.1⟩
    have H2 : Hid (∀ {W : World} {aa ab : Option Addr} {ac bc : Nat}, RB W (.slice aa G.length ac) G → RB W (.slice ab t.length bc) t → Calls Try.prog 47 #[.int .i64 2, .slice aa G.length ac, .slice ab t.length bc] W fun e w' => ∃ v', e = .returned v' ∧ BS w' W.heap.size v' L ∧ v' ≠ .slice none 0 0 ∧ Below W.heap.size W w') := fun {W aa ab ac bc} h1 h2 => by
      rw [hL]; exact spec_op 2 aa ab ac bc G t W (by have := HL.out; omega) h1 h2
    clear hG hg hL
    subst hg0
    go_enter Try.func28, Try.ntmps28
    go_wp2_with (fail)
    refine (HG.out (H.out.below ((Below.refl _ _).alloc (Nat.le_refl _) _)) (H'.out.below ((Below.refl _ _).alloc (Nat.le_refl _) _))).mono ?_
    rintro e w1 ⟨vg, rfl, hvg, hb1⟩
    obtain ⟨ga, gc, hgf⟩ := hvg.form
    subst hgf
    obtain ⟨hk1, hlt1, hB1⟩ := resT hb1
    have HGB : Hid (RB w1 (.slice ga G.length gc) G) := hvg.rb
    have HK1 : Hid _ := hk1
    have HB1 : Hid (Below w.heap.size w w1) := hB1
    clear hvg hb1 hk1 hB1
    go_wp2_with (fail)
    obtain ⟨W3, hW3⟩ : ∃ W3, W3 = w1.alloc (.cells #[.int .i64 0, .slice ga G.length gc] 33) := ⟨_, rfl⟩
    rw [← hW3]
    have hbW3 : Below w1.heap.size w1 W3 := by rw [hW3]; exact (Below.refl _ _).alloc (Nat.le_refl _) _
    have HKW : Hid _ := (hbW3.block _ hlt1).trans HK1.out
    have hltW : w.heap.size < W3.heap.size := Nat.lt_of_lt_of_le hlt1 hbW3.size
    have HBW : Hid (Below w.heap.size w W3) := HB1.out.trans (hbW3.mono (Nat.le_of_lt hlt1))
    have HGW : Hid (RB W3 (.slice ga G.length gc) G) := HGB.out.below hbW3
    clear hW3 hbW3
    refine (H2.out HGW.out (H'.out.below HBW.out)).mono ?_
    rintro e w4 ⟨v', rfl, ho, hne, hb4⟩
    obtain ⟨a2, c2, rfl⟩ := ho.form
    have HO : Hid (BS w4 W3.heap.size (.slice a2 L.length c2) L) := ho
    have HB4 : Hid _ := hb4
    clear ho hb4 hne
    go_wp2_with (fail)
    refine (spec_told a2 _ c2 w4).mono ?_
    rintro e w5 ⟨rfl, hb5⟩
    have hk5 := (hb5.block _ (Nat.lt_of_lt_of_le hltW HB4.out.size)).trans ((HB4.out.block _ hltW).trans HKW.out)
    obtain ⟨r0, r1, f0, f1, hltR⟩ := cellsT hk5
    have HR : Hid (BS w5 W3.heap.size (toldV (.slice a2 L.length c2) L.length) (toldL L) ∧ Below w.heap.size w w5) := ⟨(told_bs HO.out).below hb5, HBW.out.trans ((HB4.out.mono (Nat.le_of_lt hltW)).trans (hb5.mono (Nat.le_of_lt (Nat.lt_of_lt_of_le hltW HB4.out.size))))⟩
    clear hb5 hk5
    obtain ⟨a3, c3, h3⟩ := HR.out.1.form
    rw [h3] at HR ⊢
    clear h3
    go_wp2
    refine bodyPost_ret (by simp [results, Try.results28, go_sem, r0, r1, hltR]; rfl) rfl ⟨.slice a3 (toldL L).length c3, ?_, ?_, ?_⟩
    · rw [HE.out.1]
    · rw [HE.out.2]
      refine (HR.out.1.kept fun k hk => ?_).low (Nat.le_of_lt hltW)
      have hge := (World.ownsRow.lt HR.out.1 _ hk).1
      rw [heap_setCell_other _ _ _ _ (by simp; omega), heap_setCell_other _ _ _ _ (by simp; omega)]
    · have hb := HR.out.2
      (repeat' (first | (with_reducible exact Below.refl _ _) | (with_reducible assumption) | (with_reducible refine Below.setCell ?_ ?_ _) | (with_reducible refine Below.alloc ?_ ?_ _) | (with_reducible refine below_drewN ?_ _) | (with_reducible refine Below.drew ?_) | (with_reducible exact Nat.le_refl _) | omega | (simp; done) | (simp; omega)))
  · have HE : Hid (gaC 2 s t x = g ∧ gaL 2 s t x = G) := by
      have h3 := ga_lg_not (op := 2) (s := s) (t := t) (d := x) (by rw [← hg]; exact hg0)
      unfold Hid; rw [hG, hg]; exact ⟨h3.1, h3.2.1.trans h3.2.2.symm⟩
    clear hG hg
    go_enter Try.func28, Try.ntmps28
    go_wp2_with (fail)
    refine (HG.out (H.out.below ((Below.refl _ _).alloc (Nat.le_refl _) _)) (H'.out.below ((Below.refl _ _).alloc (Nat.le_refl _) _))).mono ?_
    rintro e w1 ⟨vg, rfl, hvg, hb1⟩
    obtain ⟨ga, gc, hgf⟩ := hvg.form
    subst hgf
    obtain ⟨hk1, hlt1, hB1⟩ := resT hb1
    have HGB : Hid (BS w1 (w.heap.size + 1) (.slice ga G.length gc) G ∧ Below w.heap.size w w1) := ⟨by simpa using hvg, hB1⟩
    obtain ⟨r0, r1, f0, f1, hltR⟩ := cellsT hk1
    clear hvg hb1 hk1 hB1
    go_wp2
    refine bodyPost_ret (by simp [results, Try.results28, go_sem, r0, r1, hltR]; rfl) rfl ⟨.slice ga G.length gc, ?_, ?_, ?_⟩
    · rw [HE.out.1]
    · rw [HE.out.2]
      refine (HGB.out.1.kept fun k hk => ?_).low (by omega)
      have hge := World.ownsRow.lt HGB.out.1 _ hk
      rw [Below.heap_alloc _ _ _ (by simpa using hge.2), heap_setCell_other _ _ _ _ (by simp; omega), heap_setCell_other _ _ _ _ (by simp; omega)]
    · have hb := HGB.out.2
      (repeat' (first | (with_reducible exact Below.refl _ _) | (with_reducible assumption) | (with_reducible refine Below.setCell ?_ ?_ _) | (with_reducible refine Below.alloc ?_ ?_ _) | (with_reducible refine below_drewN ?_ _) | (with_reducible refine Below.drew ?_) | (with_reducible exact Nat.le_refl _) | omega | (simp; done) | (simp; omega)))

end Go.Proofs.Ytokdpgabmifdjaa
