/- Proved here: Verdict of the model. -/
import Derived.Test.YtkdpifplhhcpaaaPbV
import Derived.Test.YtkdpifplhhcpaaaIns
import Derived.Test.YtkdpifplhhcpaaaCeQ
import Derived.BigQuiet
namespace Go.Proofs.Ytkdpifplhhcpaaa
open Go.RowKit
set_option linter.unusedVariables false
set_option linter.unusedSimpArgs false

theorem info_int23 : (Try.prog.info? 3).map (fun i => (i.zero, i.size, i.bytes)) = some (some (.int .i64 0), 1, 8) := by kernel_rfl
/-- A made list of numbers. -/
abbrev CT (w : World) (B g m : Nat) (l : List Int) : Prop := w.ownsRow B 3 1 (.slice (some ⟨g, 0, none⟩) m m) m (l.map (Value.int .i64))
theorem CT.at {w : World} {B g m : Nat} {l : List Int} (h : CT w B g m l) {j : Nat} {y : Int} (hj : l[j]? = some y) : w.cell? ⟨g, j, none⟩ = some (.int .i64 y) ∧ w.frozen? ⟨g, j, none⟩ = false ∧ g < w.heap.size := by
  have hl : m = l.length := by have := h.1; simp at this; omega
  subst hl
  have hlt : j < l.length := by
    rcases Nat.lt_or_ge j l.length with h1 | h1
    · exact h1
    · rw [List.getElem?_eq_none h1] at hj; cases hj
  refine ⟨?_, World.ownsRow.frozenAt h j, (World.ownsRow.lt h g rfl).2⟩
  rw [World.ownsRow.cellAt h j (by omega), List.getElem?_map, hj]
  rfl
theorem CT.set {w : World} {B g m : Nat} {l : List Int} (h : CT w B g m l) (j : Nat) (y : Int) : CT (w.setCell ⟨g, j, none⟩ (.int .i64 y)) B g m (l.set j y) := by
  have h9 := (World.ownsRow.stored h j (.int .i64 y)).1
  unfold CT
  rw [List.map_set]
  exact h9
theorem CT.drew {w : World} {B g m : Nat} {l : List Int} (h : CT w B g m l) : CT w.drew B g m l := h

set_option maxRecDepth 100000 in
set_option maxHeartbeats 6400000 in
theorem spec_vd {W : World} {a : Option Addr} {c : Nat} {s : List Int} (hn : s.length ≤ 1048576) (hs : RdI W (.slice a s.length c) s) :
    Calls Try.prog 17 #[.slice a s.length c] W fun e w' => e = .returned (.agg #[.int .i64 (vdC s), .int .i64 (vdV s)]) ∧ Below W.heap.size W w' := by
  obtain ⟨i0, hi, hz0, hz1, hz2⟩ := info_parts info_int23
  obtain ⟨n, hnn⟩ : ∃ n, n = s.length := ⟨_, rfl⟩
  rw [← hnn] at hs hn ⊢
  have H : Hid (RdI W (.slice a n c) s ∧ n = s.length) := ⟨hs, hnn⟩
  clear hs hnn
  by_cases h0 : n = 0
  · have HC : Hid (vdC s = 4 ∧ vdV s = 0) := by
      have : vdC s = 4 := by rw [vdC, if_pos (by rw [← H.out.2]; exact h0)]
      exact ⟨this, vdV_no (by rw [this]; decide)⟩
    subst h0
    go_enter Try.func17, Try.ntmps17
    go_wp2
    go_returns
    exact ⟨by rw [HC.out.1, HC.out.2], by (repeat' (first | (with_reducible exact Below.refl _ _) | (with_reducible assumption) | (with_reducible refine Below.setCell ?_ ?_ _) | (with_reducible refine Below.alloc ?_ ?_ _) | (with_reducible refine below_drewN ?_ _) | (with_reducible refine Below.drew ?_) | (with_reducible exact Nat.le_refl _) | omega | (simp; done) | (simp; omega)))⟩
  have h0i : ¬ (n : Int) = 0 := by omega
  have h0b : ((n : Int) == 0) = false := by simpa using h0i
  by_cases h1 : (20 : Int) < (n : Int)
  · have HC : Hid (vdC s = 2 ∧ vdV s = 0) := by
      have : vdC s = 2 := by rw [vdC, if_neg (by rw [← H.out.2]; exact h0), if_pos (by rw [← H.out.2]; omega)]
      exact ⟨this, vdV_no (by rw [this]; decide)⟩
    go_enter Try.func17, Try.ntmps17
    go_wp2
    go_returns
    exact ⟨by rw [HC.out.1, HC.out.2], by (repeat' (first | (with_reducible exact Below.refl _ _) | (with_reducible assumption) | (with_reducible refine Below.setCell ?_ ?_ _) | (with_reducible refine Below.alloc ?_ ?_ _) | (with_reducible refine below_drewN ?_ _) | (with_reducible refine Below.drew ?_) | (with_reducible exact Nat.le_refl _) | omega | (simp; done) | (simp; omega)))⟩
  obtain ⟨Z, hZ⟩ : ∃ Z, Z = W.alloc (.cells #[.int .i64 0, .int .i64 0] 26) := ⟨_, rfl⟩
  have HZ : Hid (Below W.heap.size W Z ∧ Z.heap[W.heap.size]? = some (.cells #[.int .i64 0, .int .i64 0] 26) ∧ Z.heap.size = W.heap.size + 1) := by rw [hZ]; exact ⟨by (repeat' (first | (with_reducible exact Below.refl _ _) | (with_reducible assumption) | (with_reducible refine Below.setCell ?_ ?_ _) | (with_reducible refine Below.alloc ?_ ?_ _) | (with_reducible refine below_drewN ?_ _) | (with_reducible refine Below.drew ?_) | (with_reducible exact Nat.le_refl _) | omega | (simp; done) | (simp; omega))), heap_alloc_new _ _, by simp⟩
  have hn20 : n ≤ 20 := by omega
  clear hn
  go_enter Try.func17, Try.ntmps17
  go_wp2_with (at_make; rw [← hZ]; refine wpList_make_full _ rfl _ _ 70 rfl Z.heap.size 3 i0 (.int .i64 0) 1 Try.underlying70 hi hz0 hz1 _ _ _ _ 100 rfl rfl rfl rfl (by rw [hz2]; omega) (by unfold maxLen; omega) (Nat.le_refl _) ?_; intro w2 hown2 hgrow2)
  have hb2 : Below Z.heap.size Z w2 := (Below.refl _ _).grown hgrow2 (Nat.le_refl _) (fun k h => by cases h)
  rw [made_zeros, ← cnL_zero s] at hown2
  obtain ⟨g, hg⟩ : ∃ g, g = W.heap.size + 1 := ⟨_, rfl⟩
  have HV : Hid (Below W.heap.size W w2 ∧ w2.heap[W.heap.size]? = some (.cells #[.int .i64 0, .int .i64 0] 26) ∧ CT w2 g g 100 (cnL s 0) ∧ W.heap.size < g) := by
    refine ⟨HZ.out.1.trans (hb2.mono HZ.out.1.size), by rw [hb2.block _ (ltOfQ HZ.out.2.1)]; exact HZ.out.2.1, by rw [hg, ← HZ.out.2.2]; exact hown2, by omega⟩
  rw [← hg]
  clear hown2 hgrow2 hb2 HZ hZ hg
  go_loopw [4] (fun i wr => ∃ t : Nat, t ≤ n ∧ i = .int .i64 t ∧ Hid (Below W.heap.size W wr ∧ wr.heap[W.heap.size]? = some (.cells #[.int .i64 0, .int .i64 0] 26) ∧ CT wr g g 100 (cnL s t) ∧ W.heap.size < g ∧ (s.drop t).any (oo 1 99) = s.any (oo 1 99) ∧ ∀ k, k < t → 1 ≤ s.getD k 0 ∧ s.getD k 0 ≤ 99)) (fun i _ => n - (intOf i).toNat)
  case atStart => exact ⟨0, Nat.zero_le _, rfl, HV.out.1, HV.out.2.1, HV.out.2.2.1, HV.out.2.2.2, rfl, fun k hk => by omega⟩
  case round =>
    clear HV
    obtain ⟨t, ht, rfl, hR⟩ := hrel
    by_cases hlt : t < n
    · have htl : t < s.length := by rw [← H.out.2]; exact hlt
      obtain ⟨ga, o, rfl, hga, c0⟩ := rd_at (H.out.1.below hR.out.1) hlt
      obtain ⟨x, hx⟩ : ∃ x, x = s.getD t 0 := ⟨_, rfl⟩
      rw [← hx] at c0
      obtain ⟨q, hq⟩ : ∃ q, q = decide (1 ≤ x ∧ x ≤ 99) := ⟨_, rfl⟩
      have HQ : Hid (s.any (oo 1 99) = (!q || (s.drop (t + 1)).any (oo 1 99))) := by unfold Hid; rw [← hR.out.2.2.2.2.1, any_at htl, ← getD_at htl, ← hx, oo, hq]
      have HI : Hid (∀ X, Calls Try.prog 41 #[.int .i64 x, .int .i64 1, .int .i64 99] X fun e w' => e = .returned (.bool q) ∧ w' = X) := fun X => spec_ins x 1 99 q hq X
      have b0 : (0 : Int) ≤ (t : Int) := by omega
      have b1 : (t : Int) < (n : Int) := by omega
      cases q
      case false =>
        have HE : Hid (vdC s = 3 ∧ vdV s = 0) := by
          have : vdC s = 3 := vdC_out (by rw [← H.out.2]; exact h0) (by rw [← H.out.2]; omega) HQ.out
          exact ⟨this, vdV_no (by rw [this]; decide)⟩
        have z0 := cellOfQ hR.out.2.1 0 rfl
        have z1 := cellOfQ hR.out.2.1 1 rfl
        have zl := ltOfQ hR.out.2.1
        have f0 := frozOfQ hR.out.2.1 0
        have f1 := frozOfQ hR.out.2.1 1
        have HB : Hid (Below W.heap.size W wr) := hR.out.1
        clear hR hq hx HQ
        go_wp2_with (fail)
        refine (HI.out _).mono ?_
        rintro e w3 ⟨rfl, hw3⟩
        subst w3
        go_wp2
        try simp only [Exit.inBlock, Exit.then]
        refine bodyPost_ret (by simp [results, Try.results17, go_sem, z0, z1, zl, f0, f1]; try rfl) rfl ⟨by rw [HE.out.1, HE.out.2], (HB.out.setCell (Nat.le_refl _) _).setCell (Nat.le_refl _) _⟩
      obtain ⟨hv1, hv9⟩ := of_decide_eq_true hq.symm
      obtain ⟨v, hv⟩ : ∃ v : Nat, x = (v : Int) := ⟨x.toNat, by omega⟩
      subst hv
      obtain ⟨d0, d1, dl⟩ := hR.out.2.2.1.at (cnL_at s t (show v < 100 by omega))
      have hle := cnV_le s t v
      have HP0 := hR.out.2.2.1.set v (((cnV (s.take t) v : Nat) : Int) + 1)
      rw [cnL_step htl hx.symm] at HP0
      obtain ⟨y, hy⟩ : ∃ y, y = cnV (s.take t) v := ⟨_, rfl⟩
      rw [← hy] at d0 hle HP0
      have HP : Hid (Below W.heap.size W (wr.setCell ⟨g, v, none⟩ (.int .i64 ((y : Int) + 1))).drew ∧ (wr.setCell ⟨g, v, none⟩ (.int .i64 ((y : Int) + 1))).drew.heap[W.heap.size]? = some (.cells #[.int .i64 0, .int .i64 0] 26) ∧ CT (wr.setCell ⟨g, v, none⟩ (.int .i64 ((y : Int) + 1))).drew g g 100 (cnL s (t + 1)) ∧ W.heap.size < g ∧ (s.drop (t + 1)).any (oo 1 99) = s.any (oo 1 99) ∧ ∀ k, k < t + 1 → 1 ≤ s.getD k 0 ∧ s.getD k 0 ≤ 99) := by
        refine ⟨Below.drew (hR.out.1.setCell (by have := hR.out.2.2.2.1; simp; omega) _), ?_, HP0.drew, hR.out.2.2.2.1, by rw [HQ.out]; rfl, fun k hk => ?_⟩
        · rw [show (wr.setCell ⟨g, v, none⟩ (.int .i64 ((y : Int) + 1))).drew.heap = (wr.setCell ⟨g, v, none⟩ (.int .i64 ((y : Int) + 1))).heap from rfl, heap_setCell_other _ _ _ _ (by have := hR.out.2.2.2.1; simp; omega)]; exact hR.out.2.1
        · rcases (by omega : k < t ∨ k = t) with h | h
          · exact hR.out.2.2.2.2.2 k h
          · rw [h, ← hx]; exact ⟨hv1, hv9⟩
      clear hR HP0 hy hx htl HQ hq
      have b2 : (0 : Int) ≤ (v : Int) := by omega
      have b3 : (v : Int) < 100 := by omega
      go_wp2_with (fail)
      refine (HI.out _).mono ?_
      rintro e w3 ⟨rfl, hw3⟩
      subst w3
      go_wp2
      go_region
      go_wp2
      go_roundw
      case rel => exact ⟨t + 1, by omega, by go_num, HP.out⟩
      case measure => simp [intOf]; omega
    · obtain rfl : t = n := by omega
      have HOK : Hid (vdC s = 0 ∧ True) := ⟨vdC_ok (by rw [← H.out.2]; exact h0) (by rw [← H.out.2]; omega) (by rw [← hR.out.2.2.2.2.1]; exact any_end (by rw [← H.out.2]; exact Nat.le_refl _)), trivial⟩
      have HT : Hid (cnL s t = cnL s s.length ∧ ∀ i, cnV (s.take s.length) i = cnV s i) := ⟨by rw [H.out.2], fun i => by rw [List.take_length]⟩
      have HK : Hid (∀ v, v < 100 → wr.cell? ⟨g, v, none⟩ = some (.int .i64 (cnV s v : Int))) := fun v hv => by
        have h1 := hR.out.2.2.1
        rw [HT.out.1] at h1
        rw [(h1.at (cnL_at s s.length hv)).1, HT.out.2]
      have k1 := HK.out 1 (by omega)
      have hgl : g < wr.heap.size := (hR.out.2.2.1.at (cnL_at s t (show 1 < 100 by omega))).2.2
      have hx20 : cnV s 1 ≤ 20 := by
        have h1 := cnV_le s s.length 1
        rw [HT.out.2, ← H.out.2] at h1
        omega
      have HM1 : Hid ((t < 2 * cnV s 1 → vdV s = 1) ∧ (¬ t < 2 * cnV s 1 → vdV s = (bsV (cnV s) 98 : Int))) := ⟨fun h => vdV_one HOK.out.1 (by rw [← H.out.2]; exact h), fun h => vdV_most HOK.out.1 (by rw [← H.out.2]; exact h)⟩
      obtain ⟨x, hx⟩ : ∃ x, x = cnV s 1 := ⟨_, rfl⟩
      rw [← hx] at HM1 k1 hx20
      have z0 := cellOfQ hR.out.2.1 0 rfl
      have z1 := cellOfQ hR.out.2.1 1 rfl
      have zl := ltOfQ hR.out.2.1
      have f0 := frozOfQ hR.out.2.1 0
      have f1 := frozOfQ hR.out.2.1 1
      have HB : Hid (Below W.heap.size W wr) := hR.out.1
      have H3 : Hid (Below W.heap.size W wr ∧ wr.heap[W.heap.size]? = some (.cells #[.int .i64 0, .int .i64 0] 26)) := ⟨hR.out.1, hR.out.2.1⟩
      clear HT hR hx
      by_cases hc : (t : Int) < 2 * (x : Int)
      · have HE : Hid (vdV s = 1) := HM1.out.1 (by omega)
        go_wp2
        try simp only [Exit.inBlock, Exit.then]
        refine bodyPost_ret (by simp [results, Try.results17, go_sem, z0, z1, zl, f0, f1]; try rfl) rfl ⟨by rw [HOK.out.1, HE.out], (HB.out.setCell (Nat.le_refl _) _).setCell (Nat.le_refl _) _⟩
      have HM : Hid (vdV s = (bsV (cnV s) 98 : Int)) := HM1.out.2 (by omega)
      clear HM1
      obtain ⟨V2, hV2⟩ : ∃ V2, V2 = wr := ⟨_, rfl⟩
      go_wp2
      rw [← hV2] at HK hgl H3 ⊢
      clear hV2 k1 hlt z0 z1 zl f0 f1 HB
      go_loopw [5, 6] (fun m i wr => ∃ k b : Nat, Hid (b = k + 2) ∧ b ≤ 100 ∧ m = .int .i64 (bsV (cnV s) k : Int) ∧ i = .int .i64 (b : Int) ∧ Hid (Below V2.heap.size V2 wr)) (fun _ i _ => 100 - (intOf i).toNat)
      case atStart => exact ⟨0, 2, rfl, by omega, rfl, rfl, Below.refl _ _⟩
      case round =>
        obtain ⟨k, b, hkb, hk, rfl, rfl, hV3⟩ := hrel
        have hgw : g < wr.heap.size := Nat.lt_of_lt_of_le hgl hV3.out.size
        by_cases hlt : b < 100
        · obtain ⟨hm2, hmk⟩ := bsV_le (cnV s) k
          obtain ⟨m, hm⟩ : ∃ m, m = bsV (cnV s) k := ⟨_, rfl⟩
          rw [← hm] at hm2 hmk ⊢
          have e0 := (hV3.out.cell (p := ⟨g, b, none⟩) hgl).trans (HK.out b hlt)
          have e1 := (hV3.out.cell (p := ⟨g, m, none⟩) hgl).trans (HK.out m (by have := hkb.out; omega))
          have HS : Hid (bsV (cnV s) (k + 1) = if cnV s m < cnV s b then b else m) := by unfold Hid; rw [bsV, ← hm, ← hkb.out]
          obtain ⟨x, hx⟩ : ∃ x, x = cnV s b := ⟨_, rfl⟩
          obtain ⟨y, hy⟩ : ∃ y, y = cnV s m := ⟨_, rfl⟩
          rw [← hx] at e0 HS
          rw [← hy] at e1 HS
          have hm100 : m < 100 := by have := hkb.out; omega
          clear hm hx hy hmk
          have b0 : (0 : Int) ≤ (b : Int) := by omega
          have b1 : (b : Int) < 100 := by omega
          have b2 : (0 : Int) ≤ (m : Int) := by omega
          have b3 : (m : Int) < 100 := by omega
          have b4 : (b : Int) ≤ 99 := by omega
          by_cases hc : (y : Int) < (x : Int)
          · have HN : Hid (bsV (cnV s) (k + 1) = b) := by unfold Hid; rw [HS.out, if_pos (by omega)]
            go_wp2
            go_quiet (fail)
            go_wp2
            go_roundw
            case rel => exact ⟨k + 1, b + 1, by unfold Hid; rw [hkb.out], by omega, by rw [HN.out], by go_num, below_drewN hV3.out _⟩
            case measure => simp [intOf]; omega
          · have HN : Hid (bsV (cnV s) (k + 1) = m) := by unfold Hid; rw [HS.out, if_neg (by omega)]
            go_wp2
            go_quiet (fail)
            go_wp2
            go_roundw
            case rel => exact ⟨k + 1, b + 1, by unfold Hid; rw [hkb.out], by omega, by rw [HN.out], by go_num, below_drewN hV3.out _⟩
            case measure => simp [intOf]; omega
        · obtain rfl : k = 98 := by have := hkb.out; omega
          obtain rfl : b = 100 := by omega
          have HE : Hid (vdV s = (bsV (cnV s) 98 : Int)) := HM.out
          obtain ⟨x, hx⟩ : ∃ x : Int, x = (bsV (cnV s) 98 : Int) := ⟨_, rfl⟩
          rw [← hx] at HE ⊢
          clear hx
          have HB : Hid (Below W.heap.size W wr ∧ wr.heap[W.heap.size]? = some (.cells #[.int .i64 0, .int .i64 0] 26)) := ⟨H3.out.1.trans (hV3.out.mono H3.out.1.size), by rw [hV3.out.block _ (ltOfQ H3.out.2)]; exact H3.out.2⟩
          have z0 := cellOfQ HB.out.2 0 rfl
          have z1 := cellOfQ HB.out.2 1 rfl
          have zl := ltOfQ HB.out.2
          have f0 := frozOfQ HB.out.2 0
          have f1 := frozOfQ HB.out.2 1
          have HB : Hid (Below W.heap.size W wr) := HB.out.1
          go_wp2
          try simp only [Exit.inBlock, Exit.then]
          refine bodyPost_ret (by simp [results, Try.results17, go_sem, z0, z1, zl, f0, f1]; try rfl) rfl ⟨by rw [HOK.out.1, HE.out], (HB.out.setCell (Nat.le_refl _) _).setCell (Nat.le_refl _) _⟩

end Go.Proofs.Ytkdpifplhhcpaaa
