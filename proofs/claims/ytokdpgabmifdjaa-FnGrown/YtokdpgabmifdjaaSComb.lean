/- Proved here: CombineShapes of the model. -/
import Derived.Test.YtokdpgabmifdjaaTurnM
namespace Go.Proofs.Ytokdpgabmifdjaa
open Go.RowKit
set_option linter.unusedVariables false
set_option linter.unusedSimpArgs false

set_option maxRecDepth 10000 in
set_option maxHeartbeats 4000000 in
theorem spec_comb {w : World} {v u : Value} {s t : List Bx} (op : Int) (h : RB w v s) (h' : RB w u t) :
    Calls Try.prog 36 #[.int .i64 op, v, u] w fun e w' => ∃ vs, e = .returned (.agg #[.int .i64 (cmC op s t), vs]) ∧ BS w' w.heap.size vs (cmL op s t) ∧ Below w.heap.size w w' := by
  obtain ⟨a, c, rfl⟩ := h.form
  obtain ⟨b, d, rfl⟩ := h'.form
  have H : Hid (RB w (.slice a s.length c) s) := h
  have H' : Hid (RB w (.slice b t.length d) t) := h'
  clear h h'
  obtain ⟨z, hz⟩ : ∃ z, z = shapeK s := ⟨_, rfl⟩
  have HZ : Hid (z = shapeK s) := hz
  clear hz
  obtain ⟨y, hy⟩ : ∃ y, y = shapeK t := ⟨_, rfl⟩
  have HY : Hid (y = shapeK t) := hy
  clear hy
  cases hop : opOk op with
  | false =>
    have HE : Hid (cmC op s t = 1 ∧ cmL op s t = []) := by
      unfold Hid cmC cmL; rw [hop]; simp
    have hn : ¬ (1 ≤ op ∧ op ≤ 4) := by simpa [opOk] using hop
    clear hop
    by_cases h1 : op < 1
    · go_enter Try.func36, Try.ntmps36
      go_wp2
      refine bodyPost_ret (by simp [results, Try.results36, go_sem]; rfl) rfl ⟨.slice none 0 0, ?_, ?_, ?_⟩
      · rw [HE.out.1]
      · rw [HE.out.2]; exact BS.nil _ _
      · (repeat' (first | (with_reducible exact Below.refl _ _) | (with_reducible assumption) | (with_reducible refine Below.setCell ?_ ?_ _) | (with_reducible refine Below.alloc ?_ ?_ _) | (with_reducible refine below_drewN ?_ _) | (with_reducible refine Below.drew ?_) | (with_reducible exact Nat.le_refl _) | omega | (simp; done) | (simp; omega)))
    · have h2 : (4 : Int) < op := by omega
      go_enter Try.func36, Try.ntmps36
      go_wp2
      refine bodyPost_ret (by simp [results, Try.results36, go_sem]; rfl) rfl ⟨.slice none 0 0, ?_, ?_, ?_⟩
      · rw [HE.out.1]
      · rw [HE.out.2]; exact BS.nil _ _
      · (repeat' (first | (with_reducible exact Below.refl _ _) | (with_reducible assumption) | (with_reducible refine Below.setCell ?_ ?_ _) | (with_reducible refine Below.alloc ?_ ?_ _) | (with_reducible refine below_drewN ?_ _) | (with_reducible refine Below.drew ?_) | (with_reducible exact Nat.le_refl _) | omega | (simp; done) | (simp; omega)))
  | true =>
    have hn : 1 ≤ op ∧ op ≤ 4 := by simpa [opOk] using hop
    obtain ⟨o1, o2⟩ := hn
    by_cases hz0 : z = 0
    · have hs0 : shapeK s = 0 := by rw [← HZ.out]; exact hz0
      have HL : Hid (s.length ≤ 150) := shapeK_len hs0
      by_cases hy0 : y = 0
      · have ht0 : shapeK t = 0 := by rw [← HY.out]; exact hy0
        have HM : Hid (t.length ≤ 150) := shapeK_len ht0
        have HE : Hid (cmC op s t = toldC (opOf (takesK op) s t).length ∧ cmL op s t = toldL (opOf (takesK op) s t)) := by
          unfold Hid cmC cmL; rw [hop, hs0, ht0]; simp
        clear hop hs0 ht0
        subst hz0 hy0
        go_enter Try.func36, Try.ntmps36
        go_wp2_with (fail)
        refine (spec_shape (H.out.below ((Below.refl _ _).alloc (Nat.le_refl _) _))).mono ?_
        rintro e w1 ⟨rfl, hb1⟩
        rw [← HZ.out]
        obtain ⟨hk1, hlt1, hB1⟩ := resT hb1
        have HB1 : Hid (Below w.heap.size w w1) := hB1
        have HK1 : Hid _ := hk1
        clear hb1 hk1 hB1
        go_wp2_with (fail)
        refine (spec_shape (H'.out.below HB1.out)).mono ?_
        rintro e w2 ⟨rfl, hb2⟩
        rw [← HY.out]
        have HB2 : Hid _ := hb2
        have hlt2 : w.heap.size < w2.heap.size := Nat.lt_of_lt_of_le hlt1 hb2.size
        have HK2 : Hid _ := (hb2.block _ hlt1).trans HK1.out
        have HBB : Hid (Below w.heap.size w w2) := HB1.out.trans (hb2.mono (Nat.le_of_lt hlt1))
        clear hb2
        go_wp2_with (fail)
        refine (spec_op op a b c d s t w2 (by have := HL.out; have := HM.out; omega) (H.out.below HBB.out) (H'.out.below HBB.out)).mono ?_
        rintro e w3 ⟨v', rfl, ho, hne, hb3⟩
        obtain ⟨a2, c2, rfl⟩ := ho.form
        have HO : Hid _ := ho
        have HB3 : Hid _ := hb3
        clear ho hne hb3
        go_wp2_with (fail)
        refine (spec_told a2 _ c2 w3).mono ?_
        rintro e w4 ⟨rfl, hb4⟩
        have hk4 := (hb4.block _ (Nat.lt_of_lt_of_le hlt2 HB3.out.size)).trans ((HB3.out.block _ hlt2).trans HK2.out)
        obtain ⟨r0, r1, f0, f1, hlt3⟩ := cellsT hk4
        have HR : Hid (BS w4 w2.heap.size (toldV _ _) (toldL (opOf (takesK op) s t)) ∧ Below w.heap.size w w4) := ⟨(told_bs HO.out).below hb4, HBB.out.trans ((HB3.out.mono (Nat.le_of_lt hlt2)).trans (hb4.mono (Nat.le_of_lt (Nat.lt_of_lt_of_le hlt2 HB3.out.size))))⟩
        clear hb4 hk4
        obtain ⟨a3, c3, h3⟩ := HR.out.1.form
        rw [h3] at HR ⊢
        clear h3
        go_wp2
        refine bodyPost_ret (by simp [results, Try.results36, go_sem, r0, r1, hlt3]; rfl) rfl ⟨.slice a3 (toldL (opOf (takesK op) s t)).length c3, ?_, ?_, ?_⟩
        · rw [HE.out.1]
        · rw [HE.out.2]
          refine (HR.out.1.kept fun g hg => ?_).low (Nat.le_of_lt hlt2)
          have hge := (World.ownsRow.lt HR.out.1 _ hg).1
          rw [heap_setCell_other _ _ _ _ (by simp; omega), heap_setCell_other _ _ _ _ (by simp; omega)]
        · have hb := HR.out.2
          (repeat' (first | (with_reducible exact Below.refl _ _) | (with_reducible assumption) | (with_reducible refine Below.setCell ?_ ?_ _) | (with_reducible refine Below.alloc ?_ ?_ _) | (with_reducible refine below_drewN ?_ _) | (with_reducible refine Below.drew ?_) | (with_reducible exact Nat.le_refl _) | omega | (simp; done) | (simp; omega)))
      · have HE : Hid (cmC op s t = y ∧ cmL op s t = []) := by
          have hne : ¬ shapeK t = 0 := fun e => hy0 (HY.out.trans e)
          unfold Hid cmC cmL; rw [HY.out]; simp [hop, hs0, hne]
        clear hop hs0
        subst hz0
        go_enter Try.func36, Try.ntmps36
        go_wp2_with (fail)
        refine (spec_shape (H.out.below ((Below.refl _ _).alloc (Nat.le_refl _) _))).mono ?_
        rintro e w1 ⟨rfl, hb1⟩
        rw [← HZ.out]
        obtain ⟨hk1, hlt1, hB1⟩ := resT hb1
        have HB1 : Hid (Below w.heap.size w w1) := hB1
        have HK1 : Hid _ := hk1
        clear hb1 hk1 hB1
        go_wp2_with (fail)
        refine (spec_shape (H'.out.below HB1.out)).mono ?_
        rintro e w2 ⟨rfl, hb2⟩
        rw [← HY.out]
        have hk2 := (hb2.block _ hlt1).trans HK1.out
        have HBB : Hid (Below w.heap.size w w2) := HB1.out.trans (hb2.mono (Nat.le_of_lt hlt1))
        obtain ⟨r0, r1, f0, f1, hlt2⟩ := cellsT hk2
        clear hb2 hk2
        go_wp2
        refine bodyPost_ret (by simp [results, Try.results36, go_sem, r0, r1, hlt2]; rfl) rfl ⟨.slice none 0 0, ?_, ?_, ?_⟩
        · rw [HE.out.1]
        · rw [HE.out.2]; exact BS.nil _ _
        · have hb := HBB.out
          (repeat' (first | (with_reducible exact Below.refl _ _) | (with_reducible assumption) | (with_reducible refine Below.setCell ?_ ?_ _) | (with_reducible refine Below.alloc ?_ ?_ _) | (with_reducible refine below_drewN ?_ _) | (with_reducible refine Below.drew ?_) | (with_reducible exact Nat.le_refl _) | omega | (simp; done) | (simp; omega)))
    · have HE : Hid (cmC op s t = z ∧ cmL op s t = []) := by
        have hne : ¬ shapeK s = 0 := fun e => hz0 (HZ.out.trans e)
        unfold Hid cmC cmL; rw [HZ.out]; simp [hop, hne]
      clear hop
      go_enter Try.func36, Try.ntmps36
      go_wp2_with (fail)
      refine (spec_shape (H.out.below ((Below.refl _ _).alloc (Nat.le_refl _) _))).mono ?_
      rintro e w1 ⟨rfl, hb1⟩
      rw [← HZ.out]
      obtain ⟨hk1, hlt1, hB1⟩ := resT hb1
      have HB1 : Hid (Below w.heap.size w w1) := hB1
      obtain ⟨r0, r1, f0, f1, hlt2⟩ := cellsT hk1
      clear hb1 hk1 hB1
      go_wp2
      refine bodyPost_ret (by simp [results, Try.results36, go_sem, r0, r1, hlt2]; rfl) rfl ⟨.slice none 0 0, ?_, ?_, ?_⟩
      · rw [HE.out.1]
      · rw [HE.out.2]; exact BS.nil _ _
      · have hb := HB1.out
        (repeat' (first | (with_reducible exact Below.refl _ _) | (with_reducible assumption) | (with_reducible refine Below.setCell ?_ ?_ _) | (with_reducible refine Below.alloc ?_ ?_ _) | (with_reducible refine below_drewN ?_ _) | (with_reducible refine Below.drew ?_) | (with_reducible exact Nat.le_refl _) | omega | (simp; done) | (simp; omega)))

end Go.Proofs.Ytokdpgabmifdjaa
