/- Proved here: GrowShape of the program: grC, grL. -/
import Derived.Test.YtokdpgabmifdjaaIGrow2
namespace Go.Proofs.Ytokdpgabmifdjaa
open Go.RowKit
set_option linter.unusedVariables false
set_option linter.unusedSimpArgs false

set_option maxRecDepth 10000 in
set_option maxHeartbeats 4000000 in
theorem impl_growC (d : Int) (hd64 : -9223372036854775808 ≤ d ∧ d ≤ 9223372036854775807) {w : World} {a : Option Addr} {cq : Nat} {s : List Bx} (hn : s.length ≤ 1048576) (hcq : s.length ≤ cq) (h : RB w (.slice a s.length cq) s) :
    Calls Try.prog 34 #[.slice a s.length cq, .int .i64 d] w fun e w' => ∃ vs, e = .returned (.agg #[.int .i64 (grC s d), vs]) ∧ BC w' w.heap.size vs (grL s d) ∧ Below w.heap.size w w' := by
  have H : Hid (RB w (.slice a s.length cq) s ∧ s.length ≤ 1048576) := ⟨h, hn⟩
  have HCQ : Hid (s.length ≤ cq) := hcq
  clear h hn hcq
  obtain ⟨z, hz⟩ : ∃ z, z = shapeK s := ⟨_, rfl⟩
  have HZ : Hid (z = shapeK s) := hz
  clear hz
  by_cases hz0 : z = 0
  · have hs0 : shapeK s = 0 := by rw [← HZ.out]; exact hz0
    have hz := boxesK_zero (shapeK_zero hs0)
    subst hz0
    rcases (by omega : d < -1000 ∨ 1000 < d ∨ (-1000 ≤ d ∧ d < 0) ∨ (0 ≤ d ∧ d ≤ 1000)) with h1 | h1 | h1 | h1
    · have HE : Hid (grC s d = 3 ∧ grL s d = []) := by
        exact gr_far hs0 (Or.inl h1)
      clear hs0 hz
      go_enter Try.func34, Try.ntmps34
      go_wp2_with (fail)
      refine (impl_shape (by have := H.out.2; omega) HCQ.out (H.out.1.below ((Below.refl _ _).alloc (Nat.le_refl _) _))).mono ?_
      rintro e w1 ⟨rfl, hb1⟩
      rw [← HZ.out]
      obtain ⟨hk1, hlt1, hB1⟩ := resT hb1
      have HB1 : Hid (Below w.heap.size w w1) := hB1
      obtain ⟨r0, r1, f0, f1, hlt2⟩ := cellsT hk1
      clear hb1 hk1 hB1
      go_wp2
      refine bodyPost_ret (by simp [results, Try.results34, go_sem, r0, r1, hlt2]; rfl) rfl ⟨.slice none 0 0, ?_, ?_, ?_⟩
      · rw [HE.out.1]
      · rw [HE.out.2]; exact (BS.nil _ _).bc
      · have hb := HB1.out
        (repeat' (first | (with_reducible exact Below.refl _ _) | (with_reducible assumption) | (with_reducible refine Below.setCell ?_ ?_ _) | (with_reducible refine Below.alloc ?_ ?_ _) | (with_reducible refine below_drewN ?_ _) | (with_reducible refine Below.drew ?_) | (with_reducible exact Nat.le_refl _) | omega | (simp; done) | (simp; omega)))
    · have HE : Hid (grC s d = 3 ∧ grL s d = []) := by
        exact gr_far hs0 (Or.inr h1)
      have h2 : ¬ d < -1000 := by omega
      clear hs0 hz
      go_enter Try.func34, Try.ntmps34
      go_wp2_with (fail)
      refine (impl_shape (by have := H.out.2; omega) HCQ.out (H.out.1.below ((Below.refl _ _).alloc (Nat.le_refl _) _))).mono ?_
      rintro e w1 ⟨rfl, hb1⟩
      rw [← HZ.out]
      obtain ⟨hk1, hlt1, hB1⟩ := resT hb1
      have HB1 : Hid (Below w.heap.size w w1) := hB1
      obtain ⟨r0, r1, f0, f1, hlt2⟩ := cellsT hk1
      clear hb1 hk1 hB1
      go_wp2
      refine bodyPost_ret (by simp [results, Try.results34, go_sem, r0, r1, hlt2]; rfl) rfl ⟨.slice none 0 0, ?_, ?_, ?_⟩
      · rw [HE.out.1]
      · rw [HE.out.2]; exact (BS.nil _ _).bc
      · have hb := HB1.out
        (repeat' (first | (with_reducible exact Below.refl _ _) | (with_reducible assumption) | (with_reducible refine Below.setCell ?_ ?_ _) | (with_reducible refine Below.alloc ?_ ?_ _) | (with_reducible refine below_drewN ?_ _) | (with_reducible refine Below.drew ?_) | (with_reducible exact Nat.le_refl _) | omega | (simp; done) | (simp; omega)))
    · obtain ⟨L, hL⟩ : ∃ L, L = shL s (-d) := ⟨_, rfl⟩
      have HE : Hid (grC s d = toldC L.length ∧ grL s d = toldL L) := by
        rw [hL]; exact gr_neg hs0 h1
      have HSH : Hid (∀ {W : World}, RB W (.slice a s.length cq) s → Calls Try.prog 66 #[.slice a s.length cq, .int .i64 (-d)] W fun e w' => ∃ v', e = .returned v' ∧ BC w' W.heap.size v' L ∧ Below W.heap.size W w') := fun {W} hW => by rw [hL]; exact impl_shrunk (-d) (by omega) hs0 hW
      have h2 : ¬ d < -1000 := by omega
      have h3 : ¬ 1000 < d := by omega
      have h4 := h1.2
      have hng : IntKind.i64.wrap (-d) = -d := by rw [IntKind.wrap_i64]; omega
      clear hs0 hz hL
      go_enter Try.func34, Try.ntmps34
      go_wp2_with (fail)
      refine (impl_shape (by have := H.out.2; omega) HCQ.out (H.out.1.below ((Below.refl _ _).alloc (Nat.le_refl _) _))).mono ?_
      rintro e w1 ⟨rfl, hb1⟩
      rw [← HZ.out]
      obtain ⟨hk1, hlt1, hB1⟩ := resT hb1
      have HB1 : Hid (Below w.heap.size w w1) := hB1
      have HK1 : Hid _ := hk1
      clear hb1 hk1 hB1
      go_wp2_with (fail)
      refine (HSH.out (H.out.1.below HB1.out)).mono ?_
      rintro e w2 ⟨v', rfl, ho, hb2⟩
      obtain ⟨a2, cr2, c2, rfl, ho⟩ := ho
      have HO : Hid (BC w2 w1.heap.size (.slice a2 L.length c2) L) := ⟨a2, cr2, c2, rfl, ho⟩
      have HB2 : Hid _ := hb2
      clear ho hb2
      go_wp2_with (fail)
      refine (impl_answer a2 _ c2 w2).mono ?_
      rintro e w3 ⟨rfl, hb3⟩
      have hk3 := (hb3.block _ (Nat.lt_of_lt_of_le hlt1 HB2.out.size)).trans ((HB2.out.block _ hlt1).trans HK1.out)
      obtain ⟨r0, r1, f0, f1, hlt3⟩ := cellsT hk3
      have HR : Hid (BC w3 w1.heap.size (toldV (.slice a2 L.length c2) L.length) (toldL L) ∧ Below w.heap.size w w3) := ⟨(told_bc HO.out).below hb3, HB1.out.trans ((HB2.out.mono (Nat.le_of_lt hlt1)).trans (hb3.mono (Nat.le_of_lt (Nat.lt_of_lt_of_le hlt1 HB2.out.size))))⟩
      clear hb3 hk3
      obtain ⟨a3, c3, h3⟩ : ∃ a3 c3, toldV (.slice a2 L.length c2) L.length = .slice a3 (toldL L).length c3 := by obtain ⟨x, y, z, e, _⟩ := HR.out.1; exact ⟨x, z, e⟩
      rw [h3] at HR ⊢
      clear h3
      go_wp2
      refine bodyPost_ret (by simp [results, Try.results34, go_sem, r0, r1, hlt3]; rfl) rfl ⟨.slice a3 (toldL L).length c3, ?_, ?_, ?_⟩
      · rw [HE.out.1]
      · rw [HE.out.2]
        refine (HR.out.1.kept fun g hg => ?_).low (Nat.le_of_lt hlt1)
        have hge := HR.out.1.lt hg
        rw [heap_setCell_other _ _ _ _ (by simp; omega), heap_setCell_other _ _ _ _ (by simp; omega)]
      · have hb := HR.out.2
        (repeat' (first | (with_reducible exact Below.refl _ _) | (with_reducible assumption) | (with_reducible refine Below.setCell ?_ ?_ _) | (with_reducible refine Below.alloc ?_ ?_ _) | (with_reducible refine below_drewN ?_ _) | (with_reducible refine Below.drew ?_) | (with_reducible exact Nat.le_refl _) | omega | (simp; done) | (simp; omega)))
    · obtain ⟨G, hG⟩ : ∃ G, G = grS s d := ⟨_, rfl⟩
      obtain ⟨y, hy⟩ : ∃ y, y = firstK G := ⟨_, rfl⟩
      have HGS : Hid (∀ {W : World}, RB W (.slice a s.length cq) s → Calls Try.prog 67 #[.slice a s.length cq, .int .i64 d] W fun e w' => ∃ v', e = .returned v' ∧ BS w' W.heap.size v' G ∧ Below W.heap.size W w') := fun {W} hW => by
        rw [hG]
        refine impl_grownS d (by omega) (by have := hz.1; omega) (fun b hb => ?_) hW
        have := hz.2 b hb
        unfold Near; omega
      have HGL : Hid (G.length ≤ 150 ∧ ∀ q ∈ G, q.x0 < q.x1) := by
        refine ⟨by rw [hG]; simp [grS]; exact hz.1, fun q hq => ?_⟩
        rw [hG] at hq
        obtain ⟨b, hb, rfl⟩ := List.mem_map.1 hq
        have := (hz.2 b hb).1
        unfold growB
        simp only
        omega
      have HY : Hid (y = firstK G) := hy
      have h2 : ¬ d < -1000 := by omega
      have h3 : ¬ 1000 < d := by omega
      have h4 : ¬ d < 0 := by omega
      by_cases hy0 : y = 0
      · obtain ⟨L, hL⟩ : ∃ L, L = opOf (takesK 1) G [] := ⟨_, rfl⟩
        have HE : Hid (grC s d = toldC L.length ∧ grL s d = toldL L) := by
          rw [hL, hG]; exact gr_pos hs0 h1 (by rw [← hG, ← hy]; exact hy0)
        have HOF : Hid (∀ {W : World} {v : Value}, RB W v G → Calls Try.prog 49 #[v] W fun e w' => ∃ v', e = .returned v' ∧ BC w' W.heap.size v' L ∧ Below W.heap.size W w') := fun {W v} hv => by rw [hL]; exact impl_oneForm (by have := HGL.out.1; omega) HGL.out.2 hv
        subst hy0
        clear hs0 hz hL hG hy
        go_enter Try.func34, Try.ntmps34
        go_wp2_with (fail)
        refine (impl_shape (by have := H.out.2; omega) HCQ.out (H.out.1.below ((Below.refl _ _).alloc (Nat.le_refl _) _))).mono ?_
        rintro e w1 ⟨rfl, hb1⟩
        rw [← HZ.out]
        obtain ⟨hk1, hlt1, hB1⟩ := resT hb1
        have HB1 : Hid (Below w.heap.size w w1) := hB1
        have HK1 : Hid _ := hk1
        clear hb1 hk1 hB1
        go_wp2_with (fail)
        refine (HGS.out (H.out.1.below HB1.out)).mono ?_
        rintro e w4 ⟨v4, rfl, hg4, hb4⟩
        obtain ⟨a4, c4, rfl⟩ := hg4.form
        have M4 : Hid (RB w4 (.slice a4 G.length c4) G) := hg4.rb
        have HB4 : Hid (Below w1.heap.size w1 w4) := hb4
        clear hg4 hb4
        go_wp2_with (fail)
        refine (impl_first (by have := HGL.out.1; omega) M4.out).mono ?_
        rintro e w5 ⟨rfl, hb5⟩
        rw [← HY.out]
        have M5 : Hid (RB w5 (.slice a4 G.length c4) G) := M4.out.below hb5
        have HB5 : Hid (Below w1.heap.size w1 w5) := HB4.out.trans (hb5.mono HB4.out.size)
        clear hb5
        go_wp2_with (fail)
        refine (HOF.out M5.out).mono ?_
        rintro e w2 ⟨v', rfl, ho, hb2⟩
        obtain ⟨a2, cr2, c2, rfl, ho⟩ := ho
        have HO : Hid (BC w2 w1.heap.size (.slice a2 L.length c2) L) := ⟨a2, cr2, c2, rfl, ho.low HB5.out.size⟩
        have HB2 : Hid (Below w1.heap.size w1 w2) := HB5.out.trans (hb2.mono HB5.out.size)
        clear ho hb2
        go_wp2_with (fail)
        refine (impl_answer a2 _ c2 w2).mono ?_
        rintro e w3 ⟨rfl, hb3⟩
        have hk3 := (hb3.block _ (Nat.lt_of_lt_of_le hlt1 HB2.out.size)).trans ((HB2.out.block _ hlt1).trans HK1.out)
        obtain ⟨r0, r1, f0, f1, hlt3⟩ := cellsT hk3
        have HR : Hid (BC w3 w1.heap.size (toldV (.slice a2 L.length c2) L.length) (toldL L) ∧ Below w.heap.size w w3) := ⟨(told_bc HO.out).below hb3, HB1.out.trans ((HB2.out.mono (Nat.le_of_lt hlt1)).trans (hb3.mono (Nat.le_of_lt (Nat.lt_of_lt_of_le hlt1 HB2.out.size))))⟩
        clear hb3 hk3
        obtain ⟨a3, c3, h3⟩ : ∃ a3 c3, toldV (.slice a2 L.length c2) L.length = .slice a3 (toldL L).length c3 := by obtain ⟨x, y, z, e, _⟩ := HR.out.1; exact ⟨x, z, e⟩
        rw [h3] at HR ⊢
        clear h3
        go_wp2
        refine bodyPost_ret (by simp [results, Try.results34, go_sem, r0, r1, hlt3]; rfl) rfl ⟨.slice a3 (toldL L).length c3, ?_, ?_, ?_⟩
        · rw [HE.out.1]
        · rw [HE.out.2]
          refine (HR.out.1.kept fun g hg => ?_).low (Nat.le_of_lt hlt1)
          have hge := HR.out.1.lt hg
          rw [heap_setCell_other _ _ _ _ (by simp; omega), heap_setCell_other _ _ _ _ (by simp; omega)]
        · have hb := HR.out.2
          (repeat' (first | (with_reducible exact Below.refl _ _) | (with_reducible assumption) | (with_reducible refine Below.setCell ?_ ?_ _) | (with_reducible refine Below.alloc ?_ ?_ _) | (with_reducible refine below_drewN ?_ _) | (with_reducible refine Below.drew ?_) | (with_reducible exact Nat.le_refl _) | omega | (simp; done) | (simp; omega)))
      · have HE : Hid (grC s d = y ∧ grL s d = []) := by
          have := gr_out hs0 h1 (by rw [← hG, ← hy]; exact hy0)
          rw [← hG, ← hy] at this
          exact this
        clear hs0 hz hG hy
        go_enter Try.func34, Try.ntmps34
        go_wp2_with (fail)
        refine (impl_shape (by have := H.out.2; omega) HCQ.out (H.out.1.below ((Below.refl _ _).alloc (Nat.le_refl _) _))).mono ?_
        rintro e w1 ⟨rfl, hb1⟩
        rw [← HZ.out]
        obtain ⟨hk1, hlt1, hB1⟩ := resT hb1
        have HB1 : Hid (Below w.heap.size w w1) := hB1
        have HK1 : Hid _ := hk1
        clear hb1 hk1 hB1
        go_wp2_with (fail)
        refine (HGS.out (H.out.1.below HB1.out)).mono ?_
        rintro e w4 ⟨v4, rfl, hg4, hb4⟩
        obtain ⟨a4, c4, rfl⟩ := hg4.form
        have M4 : Hid (RB w4 (.slice a4 G.length c4) G) := hg4.rb
        have HB4 : Hid (Below w1.heap.size w1 w4) := hb4
        clear hg4 hb4
        go_wp2_with (fail)
        refine (impl_first (by have := HGL.out.1; omega) M4.out).mono ?_
        rintro e w5 ⟨rfl, hb5⟩
        rw [← HY.out]
        have HB5 : Hid (Below w1.heap.size w1 w5) := HB4.out.trans (hb5.mono HB4.out.size)
        have hk5 := (HB5.out.block _ hlt1).trans HK1.out
        obtain ⟨r0, r1, f0, f1, hlt2⟩ := cellsT hk5
        have HB6 : Hid (Below w.heap.size w w5) := HB1.out.trans (HB5.out.mono (Nat.le_of_lt hlt1))
        clear hb5 hk5
        go_wp2
        refine bodyPost_ret (by simp [results, Try.results34, go_sem, r0, r1, hlt2]; rfl) rfl ⟨.slice none 0 0, ?_, ?_, ?_⟩
        · rw [HE.out.1]
        · rw [HE.out.2]; exact (BS.nil _ _).bc
        · have hb := HB6.out
          (repeat' (first | (with_reducible exact Below.refl _ _) | (with_reducible assumption) | (with_reducible refine Below.setCell ?_ ?_ _) | (with_reducible refine Below.alloc ?_ ?_ _) | (with_reducible refine below_drewN ?_ _) | (with_reducible refine Below.drew ?_) | (with_reducible exact Nat.le_refl _) | omega | (simp; done) | (simp; omega)))
  · have HE : Hid (grC s d = z ∧ grL s d = []) := by
      have hne : ¬ shapeK s = 0 := fun e => hz0 (HZ.out.trans e)
      unfold Hid grC grL; rw [if_neg hne, if_neg hne]; exact ⟨HZ.out.symm, rfl⟩
    go_enter Try.func34, Try.ntmps34
    go_wp2_with (fail)
    refine (impl_shape (by have := H.out.2; omega) HCQ.out (H.out.1.below ((Below.refl _ _).alloc (Nat.le_refl _) _))).mono ?_
    rintro e w1 ⟨rfl, hb1⟩
    rw [← HZ.out]
    obtain ⟨hk1, hlt1, hB1⟩ := resT hb1
    have HB1 : Hid (Below w.heap.size w w1) := hB1
    obtain ⟨r0, r1, f0, f1, hlt2⟩ := cellsT hk1
    clear hb1 hk1 hB1
    go_wp2
    refine bodyPost_ret (by simp [results, Try.results34, go_sem, r0, r1, hlt2]; rfl) rfl ⟨.slice none 0 0, ?_, ?_, ?_⟩
    · rw [HE.out.1]
    · rw [HE.out.2]; exact (BS.nil _ _).bc
    · have hb := HB1.out
      (repeat' (first | (with_reducible exact Below.refl _ _) | (with_reducible assumption) | (with_reducible refine Below.setCell ?_ ?_ _) | (with_reducible refine Below.alloc ?_ ?_ _) | (with_reducible refine below_drewN ?_ _) | (with_reducible refine Below.drew ?_) | (with_reducible exact Nat.le_refl _) | omega | (simp; done) | (simp; omega)))

theorem impl_grow (d : Int) (hd64 : -9223372036854775808 ≤ d ∧ d ≤ 9223372036854775807) {w : World} {a : Option Addr} {s : List Bx} (hn : s.length ≤ 1048576) (h : RB w (.slice a s.length s.length) s) :
    Calls Try.prog 34 #[.slice a s.length s.length, .int .i64 d] w fun e w' => ∃ vs, e = .returned (.agg #[.int .i64 (grC s d), vs]) ∧ BC w' w.heap.size vs (grL s d) ∧ Below w.heap.size w w' :=
  impl_growC d hd64 hn (Nat.le_refl _) h

end Go.Proofs.Ytokdpgabmifdjaa
