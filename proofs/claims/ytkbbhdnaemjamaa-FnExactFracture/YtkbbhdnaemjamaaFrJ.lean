/- Proved here: Fracture of the program. -/
import Derived.Test.YtkbbhdnaemjamaaFrI
namespace Go.Proofs.Ytkbbhdnaemjamaa
open Go.RowKit
set_option linter.unusedVariables false
set_option linter.unusedSimpArgs false

theorem res_kf {w w1 : World} {o : Obj} (hb : Below (w.alloc o).heap.size (w.alloc o) w1) : w1.heap[w.heap.size]? = some o ∧ w.heap.size < w1.heap.size ∧ Below w.heap.size w w1 := by
  have h1 := hb.size
  simp at h1
  refine ⟨(hb.block _ (by simp)).trans (heap_alloc_new w o), by omega, ?_⟩
  exact ((Below.refl _ _).alloc (Nat.le_refl _) _).trans (hb.mono (by simp))
theorem two_cf {w : World} {k : Nat} {a b : Value} {t : TypeId} (h : w.heap[k]? = some (.cells #[a, b] t)) : w.cell? ⟨k, 0, none⟩ = some a ∧ w.cell? ⟨k, 1, none⟩ = some b ∧ w.frozen? ⟨k, 0, none⟩ = false ∧ w.frozen? ⟨k, 1, none⟩ = false ∧ k < w.heap.size := by
  refine ⟨by simp [World.cell?, h], by simp [World.cell?, h], by simp [World.frozen?, h], by simp [World.frozen?, h], ?_⟩
  rcases Nat.lt_or_ge k w.heap.size with h' | h'
  · exact h'
  · rw [Array.getElem?_eq_none h'] at h; cases h

/-- What stands while the boxes are cut. -/
structure FV (w wr : World) (vo : Value) (out : List Bx) : Prop where
  o : BS wr (w.heap.size + 1) vo out
  r : wr.heap[w.heap.size]? = some (.cells #[.int .i64 0, .slice none 0 0] 43)
  bl : Below w.heap.size w wr
  sz : w.heap.size + 1 ≤ wr.heap.size
theorem FV.next {w wr W : World} {vo : Value} {out : List Bx} (h : FV w wr vo out) (hb : Below wr.heap.size wr W) : FV w W vo out :=
  ⟨h.o.below hb, (hb.block _ (by have := h.sz; omega)).trans h.r, h.bl.trans (hb.mono h.bl.size), Nat.le_trans h.sz hb.size⟩
theorem FV.grow {w wr W : World} {vo v : Value} {out l : List Bx} (h : FV w wr vo out) (hb : AP (w.heap.size + 1) wr W vo v l) : FV w W v l := by
  have hz := h.sz
  have hne : ∀ k, k < w.heap.size + 1 → some k ≠ vo.ownBlock := fun k hk e => by have := (World.ownsRow.lt h.o k e.symm).1; omega
  refine ⟨hb.o, (hb.g.block _ (by omega) (hne _ (by omega))).trans h.r, h.bl.trans ⟨hb.g.os, hb.g.tape, hb.g.output, hb.g.size, fun k hk => hb.g.block k (by omega) (hne k (by omega))⟩, Nat.le_trans hz hb.g.size⟩

set_option maxRecDepth 10000 in
set_option maxHeartbeats 4000000 in
theorem impl_frac {w : World} {a : Option Addr} {n c : Nat} {s : List Bx} (m : Int) (hn : s.length ≤ 1099511627776) (hc : n ≤ c) (h : RB w (.slice a n c) s) :
    Calls Try.prog 19 #[.slice a n c, .int .i64 m] w fun e w' => ∃ vs, e = .returned (.agg #[.int .i64 (frC s m), vs]) ∧ BS w' w.heap.size vs (frL s m) ∧ Below w.heap.size w w' := by
  have hlen : s.length = n := by obtain ⟨_, _, e⟩ := h.form; injection e with _ e2 _; exact e2.symm
  have H : Hid (RB w (.slice a n c) s ∧ s.length ≤ 1099511627776 ∧ n = s.length) := ⟨h, hn, hlen.symm⟩
  clear h hn hlen
  obtain ⟨z, hz⟩ : ∃ z, z = shapeK s := ⟨_, rfl⟩
  obtain ⟨C, hC⟩ : ∃ C, C = frC s m := ⟨_, rfl⟩
  have HZ : Hid (z = shapeK s ∧ C = frC s m) := ⟨hz, hC⟩
  have HSH : Hid (∀ W : World, Below w.heap.size w W → Calls Try.prog 44 #[.slice a n c] W fun e w' => e = .returned (.int .i64 z) ∧ Below W.heap.size W w') := fun W hW => by rw [hz]; exact impl_shape H.out.2.1 hc (H.out.1.below hW)
  rw [← hC]
  clear hz hC
  go_enter Try.func19, Try.ntmps19
  go_wp2_with (fail)
  refine (HSH.out _ ((Below.refl _ _).alloc (Nat.le_refl _) _)).mono ?_
  rintro e w1 ⟨rfl, hb1⟩
  obtain ⟨hk1, hlt1, hB1⟩ := res_kf hb1
  have HK1 : Hid (w1.heap[w.heap.size]? = some (.cells #[.int .i64 0, .slice none 0 0] 43) ∧ Below w.heap.size w w1) := ⟨hk1, hB1⟩
  clear hb1 hk1 hB1 HSH
  by_cases hz0 : z = 0
  case neg =>
    have HE : Hid (C = z ∧ frL s m = []) := by
      have e : frC s m = z := by rw [frC, if_neg (by rw [← HZ.out.1]; exact hz0), HZ.out.1]
      exact ⟨HZ.out.2.trans e, by rw [frL, if_neg (by rw [e]; exact hz0)]⟩
    obtain ⟨r0, r1, f0, f1, hlt2⟩ := two_cf HK1.out.1
    go_wp2
    refine bodyPost_ret (by simp [results, Try.results19, go_sem, r0, r1, hlt2]; rfl) rfl ⟨.slice none 0 0, ?_, ?_, ?_⟩
    · rw [HE.out.1]
    · rw [HE.out.2]; exact BS.nil _ _
    · have hb := HK1.out.2
      (repeat' (first | (with_reducible exact Below.refl _ _) | (with_reducible assumption) | (with_reducible refine Below.setCell ?_ ?_ _) | (with_reducible refine Below.alloc ?_ ?_ _) | (with_reducible refine below_drewN ?_ _) | (with_reducible refine Below.drew ?_) | (with_reducible exact Nat.le_refl _) | omega | (simp; done) | (simp; omega)))
  have hsz : shapeK s = 0 := by rw [← HZ.out.1]; exact hz0
  have hbz := boxesK_zero (frK_zero hsz)
  have HL : Hid (s.length ≤ 150 ∧ ∀ b ∈ s, OkB b) := ⟨hbz.1, hbz.2⟩
  have HS0 : Hid (shapeK s = 0) := hsz
  obtain ⟨r, hr⟩ : ∃ r, r = decide (1 ≤ m ∧ m ≤ 1000) := ⟨_, rfl⟩
  have HIN : Hid (∀ W, Calls Try.prog 38 #[.int .i64 m, .int .i64 1, .int .i64 1000] W fun e w' => e = .returned (.bool r) ∧ w' = W) := impl_ins m 1 1000 r hr
  clear hsz hbz
  subst hz0
  go_wp2_with (fail)
  refine (HIN.out _).mono ?_
  rintro e w2 ⟨rfl, hw2⟩
  subst w2
  cases r with
  | false =>
    have HE : Hid (C = 3 ∧ frL s m = []) := by
      have e : frC s m = 3 := by rw [frC, if_pos HS0.out, if_neg (by simpa using hr)]
      exact ⟨HZ.out.2.trans e, by rw [frL, if_neg (by rw [e]; omega)]⟩
    obtain ⟨r0, r1, f0, f1, hlt2⟩ := two_cf HK1.out.1
    clear hr
    go_wp2
    refine bodyPost_ret (by simp [results, Try.results19, go_sem, r0, r1, hlt2]; rfl) rfl ⟨.slice none 0 0, ?_, ?_, ?_⟩
    · rw [HE.out.1]
    · rw [HE.out.2]; exact BS.nil _ _
    · have hb := HK1.out.2
      (repeat' (first | (with_reducible exact Below.refl _ _) | (with_reducible assumption) | (with_reducible refine Below.setCell ?_ ?_ _) | (with_reducible refine Below.alloc ?_ ?_ _) | (with_reducible refine below_drewN ?_ _) | (with_reducible refine Below.drew ?_) | (with_reducible exact Nat.le_refl _) | omega | (simp; done) | (simp; omega)))
  | true =>
    have hm : 1 ≤ m ∧ m ≤ 1000 := by simpa using hr
    have HC0 : Hid (frC s m = if 150 < frN s m then 2 else 0) := by unfold Hid; rw [frC, if_pos HS0.out, if_pos hm]
    obtain ⟨N, hN⟩ : ∃ N, N = frN s m := ⟨_, rfl⟩
    have HCT : Hid (∀ W : World, Below w.heap.size w W → Calls Try.prog 45 #[.slice a n c, .int .i64 m] W fun e w' => e = .returned (.int .i64 (N : Int)) ∧ Below W.heap.size W w') := fun W hW => by rw [hN]; exact impl_count m hm.1 hm.2 HL.out.1 HL.out.2 (H.out.1.below hW)
    have HN : Hid (N = frN s m ∧ 1 ≤ m ∧ m ≤ 1000) := ⟨hN, hm⟩
    clear hr hN hm
    go_wp2_with (fail)
    refine (HCT.out _ HK1.out.2).mono ?_
    rintro e w3 ⟨rfl, hb3⟩
    have HK3 : Hid (FV w w3 (.slice none 0 0) []) := ⟨BS.nil _ _, (hb3.block _ hlt1).trans HK1.out.1, HK1.out.2.trans (hb3.mono HK1.out.2.size), by have := hb3.size; omega⟩
    clear hb3 HCT HK1 hlt1
    by_cases h150 : (150 : Int) < (N : Int)
    · have HE : Hid (C = 2 ∧ frL s m = []) := by
        have e : frC s m = 2 := by rw [HC0.out, if_pos (by rw [← HN.out.1]; omega)]
        exact ⟨HZ.out.2.trans e, by rw [frL, if_neg (by rw [e]; omega)]⟩
      obtain ⟨r0, r1, f0, f1, hlt2⟩ := two_cf HK3.out.r
      go_wp2
      refine bodyPost_ret (by simp [results, Try.results19, go_sem, r0, r1, hlt2]; rfl) rfl ⟨.slice none 0 0, ?_, ?_, ?_⟩
      · rw [HE.out.1]
      · rw [HE.out.2]; exact BS.nil _ _
      · have hb := HK3.out.bl
        (repeat' (first | (with_reducible exact Below.refl _ _) | (with_reducible assumption) | (with_reducible refine Below.setCell ?_ ?_ _) | (with_reducible refine Below.alloc ?_ ?_ _) | (with_reducible refine below_drewN ?_ _) | (with_reducible refine Below.drew ?_) | (with_reducible exact Nat.le_refl _) | omega | (simp; done) | (simp; omega)))
    have HE : Hid (C = 0 ∧ frL s m = pcsL s m ∧ frN s m ≤ 150) := by
      have e : frC s m = 0 := by rw [HC0.out, if_neg (by rw [← HN.out.1]; omega)]
      exact ⟨HZ.out.2.trans e, by rw [frL, if_pos e], by rw [← HN.out.1]; omega⟩
    go_wp2
    go_loopw [6, 26] (fun vo i wr => ∃ k : Nat, k ≤ n ∧ i = .int .i64 k ∧ Hid (FV w wr vo (pcsL (s.take k) m))) (fun _ i _ => n - (intOf i).toNat)
    case atStart => exact ⟨0, Nat.zero_le _, rfl, HK3.out⟩
    case round =>
      clear HK3
      obtain ⟨k, hk, rfl, hR⟩ := hrel
      by_cases hlt : k < n
      · obtain ⟨g, o, c2, he, hg, hj⟩ := (H.out.1.below hR.out.bl).pos (by rw [← H.out.2.2]; omega)
        injection he with e1 e2 e3
        clear e2
        subst e1 e3
        have hkl : k < s.length := by rw [← H.out.2.2]; exact hlt
        obtain ⟨c0, c1, c2, c3⟩ := hj k hkl
        obtain ⟨b, hb⟩ : ∃ b, b = bat s k := ⟨_, rfl⟩
        rw [← hb] at c0 c1 c2 c3
        have hok : OkB b := by rw [hb, bat_get hkl]; exact HL.out.2 _ (List.getElem_mem hkl)
        have HST : Hid (pcsL (s.take (k + 1)) m = pcsL (s.take k) m ++ pcsP b m) := by unfold Hid; rw [pcsL_take hkl, ← hb]
        have hlen : (pcsL (s.take k) m).length + cntP b.x0 b.x1 m * cntP b.y0 b.y1 m ≤ 1000 := by
          have h1 := frN_take hkl m
          rw [← hb] at h1
          have h2 := frN_take_le s (k + 1) m
          rw [pcsL_len]
          have := HE.out.2.2
          omega
        have HCA : Hid (∀ W : World, FV w W u6 (pcsL (s.take k) m) → Calls Try.prog 46 #[u6, .agg #[.int .i64 b.x0, .int .i64 b.y0, .int .i64 b.x1, .int .i64 b.y1], .int .i64 m] W fun e w' => ∃ v', e = .returned v' ∧ AP (w.heap.size + 1) W w' u6 v' (pcsL (s.take k) m ++ pcsP b m)) := fun W hW => impl_pieces b m HN.out.2.1 HN.out.2.2 hok hlen hW.sz hW.o
        clear hb hj hok hlen
        have b0 : (0 : Int) ≤ (k : Int) := by omega
        have b1 : (k : Int) < (n : Int) := by omega
        have hsz := hR.out.bl.size
        have hn150 : n ≤ 150 := by rw [H.out.2.2]; exact HL.out.1
        go_wp2_with (fail)
        have F4 := hR.out.next (W := _) (show Below wr.heap.size wr ((wr.alloc (.cells #[.int .i64 b.x0, .int .i64 b.y0, .int .i64 b.x1, .int .i64 b.y1] 34))) from (Below.refl _ _).alloc (Nat.le_refl _) _)
        refine (HCA.out _ F4).mono ?_
        rintro e w5 ⟨v5, rfl, hA5⟩
        have R : Hid (FV w w5 v5 (pcsL (s.take (k + 1)) m)) := by unfold Hid; rw [HST.out]; exact F4.grow hA5
        clear hA5 F4 HCA HST hR c0 c1 c2 c3
        go_wp2
        go_roundw
        case rel => exact ⟨k + 1, by omega, by go_num, R.out⟩
        case measure => simp [intOf]; omega
      · have M4 : Hid (FV w wr u6 (pcsL s m)) := by
          have := hR.out
          rwa [List.take_of_length_le (by rw [← H.out.2.2]; omega)] at this
        obtain ⟨oa, oc, hof⟩ := M4.out.o.form
        subst hof
        obtain ⟨r0, r1, f0, f1, hlt2⟩ := two_cf M4.out.r
        clear hR
        go_wp2
        refine bodyPost_ret (by simp [results, Try.results19, go_sem, r0, r1, hlt2]; rfl) rfl ⟨.slice oa (pcsL s m).length oc, ?_, ?_, ?_⟩
        · rw [HE.out.1]
        · rw [HE.out.2.1]
          refine BS.kept (M4.out.o.low (by omega)) fun g hg => ?_
          have := (World.ownsRow.lt M4.out.o g hg).1
          rw [heap_setCell_other _ _ _ _ (by simp; omega), heap_setCell_other _ _ _ _ (by simp; omega)]
        · have hb := M4.out.bl
          (repeat' (first | (with_reducible exact Below.refl _ _) | (with_reducible assumption) | (with_reducible refine Below.setCell ?_ ?_ _) | (with_reducible refine Below.alloc ?_ ?_ _) | (with_reducible refine below_drewN ?_ _) | (with_reducible refine Below.drew ?_) | (with_reducible exact Nat.le_refl _) | omega | (simp; done) | (simp; omega)))

end Go.Proofs.Ytkbbhdnaemjamaa
