/- Proved here: Verdict of the program. -/
import Derived.Test.YtkdpifplhhcpaaaPbV
import Derived.Test.YtkdpifplhhcpaaaPbI
import Derived.Test.YtkdpifplhhcpaaaCeQ
import Derived.BigQuiet
namespace Go.Proofs.Ytkdpifplhhcpaaa
open Go.RowKit
set_option linter.unusedVariables false
set_option linter.unusedSimpArgs false

set_option maxRecDepth 100000 in
set_option maxHeartbeats 6400000 in
theorem impl_vd {W : World} {a : Option Addr} {c : Nat} {s : List Int} (hn : s.length ≤ 1048576) (hs : RdI W (.slice a s.length c) s) :
    Calls Try.prog 18 #[.slice a s.length c] W fun e w' => e = .returned (.agg #[.int .i64 (vdC s), .int .i64 (vdV s)]) ∧ Below W.heap.size W w' := by
  obtain ⟨n, hnn⟩ : ∃ n, n = s.length := ⟨_, rfl⟩
  rw [← hnn] at hs hn ⊢
  obtain ⟨Z, hZ⟩ : ∃ Z, Z = W.alloc (.cells #[.int .i64 0, .int .i64 0] 26) := ⟨_, rfl⟩
  have HZ : Hid (Below W.heap.size W Z ∧ Z.heap[W.heap.size]? = some (.cells #[.int .i64 0, .int .i64 0] 26)) := by rw [hZ]; exact ⟨by (repeat' (first | (with_reducible exact Below.refl _ _) | (with_reducible assumption) | (with_reducible refine Below.setCell ?_ ?_ _) | (with_reducible refine Below.alloc ?_ ?_ _) | (with_reducible refine below_drewN ?_ _) | (with_reducible refine Below.drew ?_) | (with_reducible exact Nat.le_refl _) | omega | (simp; done) | (simp; omega))), heap_alloc_new _ _⟩
  have H : Hid (RdI W (.slice a n c) s ∧ n = s.length) := ⟨hs, hnn⟩
  clear hs hnn
  by_cases h0 : n = 0
  · have HC : Hid (vdC s = 4 ∧ vdV s = 0) := by
      have : vdC s = 4 := by rw [vdC, if_pos (by rw [← H.out.2]; exact h0)]
      exact ⟨this, vdV_no (by rw [this]; decide)⟩
    subst h0
    go_enter Try.func18, Try.ntmps18
    go_wp2
    go_returns
    exact ⟨by rw [HC.out.1, HC.out.2], by (repeat' (first | (with_reducible exact Below.refl _ _) | (with_reducible assumption) | (with_reducible refine Below.setCell ?_ ?_ _) | (with_reducible refine Below.alloc ?_ ?_ _) | (with_reducible refine below_drewN ?_ _) | (with_reducible refine Below.drew ?_) | (with_reducible exact Nat.le_refl _) | omega | (simp; done) | (simp; omega)))⟩
  have h0i : ¬ (n : Int) = 0 := by omega
  have h0b : ((n : Int) == 0) = false := by simpa using h0i
  by_cases h1 : (20 : Int) < (n : Int)
  · have HC : Hid (vdC s = 2 ∧ vdV s = 0) := by
      have : vdC s = 2 := by rw [vdC, if_neg (by rw [← H.out.2]; exact h0), if_pos (by rw [← H.out.2]; omega)]
      exact ⟨this, vdV_no (by rw [this]; decide)⟩
    go_enter Try.func18, Try.ntmps18
    go_wp2
    go_returns
    exact ⟨by rw [HC.out.1, HC.out.2], by (repeat' (first | (with_reducible exact Below.refl _ _) | (with_reducible assumption) | (with_reducible refine Below.setCell ?_ ?_ _) | (with_reducible refine Below.alloc ?_ ?_ _) | (with_reducible refine below_drewN ?_ _) | (with_reducible refine Below.drew ?_) | (with_reducible exact Nat.le_refl _) | omega | (simp; done) | (simp; omega)))⟩
  obtain ⟨q, hq⟩ : ∃ q, q = s.any (oo 1 99) := ⟨_, rfl⟩
  have HC : Hid (Calls Try.prog 47 #[.slice a n c, .int .i64 1, .int .i64 99] Z fun e w' => e = .returned (.bool q) ∧ Below Z.heap.size Z w') := by
    rw [hq]
    exact impl_any 1 99 (by rw [← H.out.2]; omega) (H.out.1.below HZ.out.1)
  have HQ : Hid (q = s.any (oo 1 99)) := hq
  clear hq
  have hn20 : n ≤ 20 := by omega
  clear hn
  go_enter Try.func18, Try.ntmps18
  go_wp2_with (fail)
  rw [← hZ]
  refine HC.out.mono ?_
  rintro e w1 ⟨rfl, hb1⟩
  have hzl : W.heap.size < Z.heap.size := by rw [hZ]; simp
  have HW : Hid (Below W.heap.size W w1 ∧ w1.heap[W.heap.size]? = some (.cells #[.int .i64 0, .int .i64 0] 26) ∧ W.heap.size < w1.heap.size) := ⟨HZ.out.1.trans (hb1.mono HZ.out.1.size), by rw [hb1.block _ hzl]; exact HZ.out.2, by have := hb1.size; omega⟩
  clear hzl hb1 HC HZ hZ
  cases q
  case true =>
    have HE : Hid (vdC s = 3 ∧ vdV s = 0) := by
      have : vdC s = 3 := vdC_out (by rw [← H.out.2]; exact h0) (by rw [← H.out.2]; omega) HQ.out.symm
      exact ⟨this, vdV_no (by rw [this]; decide)⟩
    have z0 := cellOfQ HW.out.2.1 0 rfl
    have z1 := cellOfQ HW.out.2.1 1 rfl
    have zl := ltOfQ HW.out.2.1
    have f0 := frozOfQ HW.out.2.1 0
    have f1 := frozOfQ HW.out.2.1 1
    have HB : Hid (Below W.heap.size W w1) := HW.out.1
    go_wp2
    try simp only [Exit.inBlock, Exit.then]
    refine bodyPost_ret (by simp [results, Try.results18, go_sem, z0, z1, zl, f0, f1]; try rfl) rfl ⟨by rw [HE.out.1, HE.out.2], (HB.out.setCell (Nat.le_refl _) _).setCell (Nat.le_refl _) _⟩
  have HOK : Hid (vdC s = 0 ∧ ∀ k, k < n → 1 ≤ s.getD k 0 ∧ s.getD k 0 ≤ 99) := ⟨vdC_ok (by rw [← H.out.2]; exact h0) (by rw [← H.out.2]; omega) HQ.out.symm, fun k hk => oo_at HQ.out.symm (by rw [← H.out.2]; exact hk)⟩
  clear HQ
  go_wp2
  obtain ⟨V, hV⟩ : ∃ V, V = w1.alloc (Obj.cells Try.zeroCells72 72) := ⟨_, rfl⟩
  rw [← hV]
  obtain ⟨g, hg⟩ : ∃ g, g = w1.heap.size := ⟨_, rfl⟩
  have HV : Hid (Below W.heap.size W V ∧ V.heap[W.heap.size]? = some (.cells #[.int .i64 0, .int .i64 0] 26) ∧ CB V g 72 (cnL s 0) ∧ W.heap.size < g) := by
    rw [hV, hg]
    refine ⟨HW.out.1.alloc HW.out.1.size _, by rw [heap_alloc_old _ _ HW.out.2.2]; exact HW.out.2.1, ?_, HW.out.2.2⟩
    unfold CB
    rw [heap_alloc_new, cnL_zero, show Try.zeroCells72 = ((List.replicate 100 (0 : Int)).map (Value.int .i64)).toArray by kernel_rfl]
  rw [← hg]
  clear HW hV hg
  go_loopw [21] (fun i wr => ∃ t : Nat, t ≤ n ∧ i = .int .i64 t ∧ Hid (Below W.heap.size W wr ∧ wr.heap[W.heap.size]? = some (.cells #[.int .i64 0, .int .i64 0] 26) ∧ CB wr g 72 (cnL s t) ∧ W.heap.size < g)) (fun i _ => n - (intOf i).toNat)
  case atStart => exact ⟨0, Nat.zero_le _, rfl, HV.out⟩
  case round =>
    clear HV
    obtain ⟨t, ht, rfl, hR⟩ := hrel
    by_cases hlt : t < n
    · have htl : t < s.length := by rw [← H.out.2]; exact hlt
      obtain ⟨ga, o, rfl, hga, c0⟩ := rd_at (H.out.1.below hR.out.1) hlt
      obtain ⟨hv1, hv9⟩ := HOK.out.2 t hlt
      obtain ⟨v, hv⟩ : ∃ v : Nat, s.getD t 0 = (v : Int) := ⟨(s.getD t 0).toNat, by omega⟩
      rw [hv] at c0 hv1 hv9
      obtain ⟨d0, d1, dl⟩ := hR.out.2.2.1.at (cnL_at s t (show v < 100 by omega))
      have hle := cnV_le s t v
      have HP0 := hR.out.2.2.1.set v (((cnV (s.take t) v : Nat) : Int) + 1)
      rw [cnL_step htl hv] at HP0
      obtain ⟨y, hy⟩ : ∃ y, y = cnV (s.take t) v := ⟨_, rfl⟩
      rw [← hy] at d0 hle HP0
      have HP : Hid (Below W.heap.size W (wr.setCell ⟨g, v, none⟩ (.int .i64 ((y : Int) + 1))) ∧ (wr.setCell ⟨g, v, none⟩ (.int .i64 ((y : Int) + 1))).heap[W.heap.size]? = some (.cells #[.int .i64 0, .int .i64 0] 26) ∧ CB (wr.setCell ⟨g, v, none⟩ (.int .i64 ((y : Int) + 1))) g 72 (cnL s (t + 1)) ∧ W.heap.size < g) := by
        refine ⟨hR.out.1.setCell (by have := hR.out.2.2.2; simp; omega) _, ?_, HP0, hR.out.2.2.2⟩
        rw [heap_setCell_other _ _ _ _ (by have := hR.out.2.2.2; simp; omega)]; exact hR.out.2.1
      clear hR HP0 hy hv htl
      have b0 : (0 : Int) ≤ (t : Int) := by omega
      have b1 : (t : Int) < (n : Int) := by omega
      have b2 : (0 : Int) ≤ (v : Int) := by omega
      have b3 : (v : Int) < 100 := by omega
      go_wp2
      go_roundw
      case rel => exact ⟨t + 1, by omega, by go_num, HP.out⟩
      case measure => simp [intOf]; omega
    · obtain rfl : t = n := by omega
      have HT : Hid (cnL s t = cnL s s.length ∧ ∀ i, cnV (s.take s.length) i = cnV s i) := ⟨by rw [H.out.2], fun i => by rw [List.take_length]⟩
      have HK : Hid (∀ v, v < 100 → wr.cell? ⟨g, v, none⟩ = some (.int .i64 (cnV s v : Int))) := fun v hv => by
        have h1 := hR.out.2.2.1
        rw [HT.out.1] at h1
        rw [(h1.at (cnL_at s s.length hv)).1, HT.out.2]
      have k1 := HK.out 1 (by omega)
      have hgl : g < wr.heap.size := (hR.out.2.2.1.at (cnL_at s t (show 1 < 100 by omega))).2.2
      have hx20 : cnV s 1 ≤ 20 := by
        have h1 := cnV_le s s.length 1
        rw [HT.out.2, ← H.out.2] at h1
        omega
      have HM1 : Hid ((t < 2 * cnV s 1 → vdV s = 1) ∧ (¬ t < 2 * cnV s 1 → vdV s = (bsV (cnV s) 98 : Int))) := ⟨fun h => vdV_one HOK.out.1 (by rw [← H.out.2]; exact h), fun h => vdV_most HOK.out.1 (by rw [← H.out.2]; exact h)⟩
      obtain ⟨x, hx⟩ : ∃ x, x = cnV s 1 := ⟨_, rfl⟩
      rw [← hx] at HM1 k1 hx20
      have z0 := cellOfQ hR.out.2.1 0 rfl
      have z1 := cellOfQ hR.out.2.1 1 rfl
      have zl := ltOfQ hR.out.2.1
      have f0 := frozOfQ hR.out.2.1 0
      have f1 := frozOfQ hR.out.2.1 1
      have HB : Hid (Below W.heap.size W wr) := hR.out.1
      have H3 : Hid (Below W.heap.size W wr ∧ wr.heap[W.heap.size]? = some (.cells #[.int .i64 0, .int .i64 0] 26)) := ⟨hR.out.1, hR.out.2.1⟩
      clear HT hR hx
      by_cases hc : (t : Int) < 2 * (x : Int)
      · have HE : Hid (vdV s = 1) := HM1.out.1 (by omega)
        go_wp2
        try simp only [Exit.inBlock, Exit.then]
        refine bodyPost_ret (by simp [results, Try.results18, go_sem, z0, z1, zl, f0, f1]; try rfl) rfl ⟨by rw [HOK.out.1, HE.out], (HB.out.setCell (Nat.le_refl _) _).setCell (Nat.le_refl _) _⟩
      have HM : Hid (vdV s = (bsV (cnV s) 98 : Int)) := HM1.out.2 (by omega)
      clear HM1
      obtain ⟨V2, hV2⟩ : ∃ V2, V2 = wr := ⟨_, rfl⟩
      go_wp2
      rw [← hV2] at HK hgl H3 ⊢
      clear hV2 k1 hlt z0 z1 zl f0 f1 HB
      go_loopw [6, 7] (fun m i wr => ∃ k b : Nat, Hid (b = k + 2) ∧ b ≤ 100 ∧ m = .int .i64 (bsV (cnV s) k : Int) ∧ i = .int .i64 (b : Int) ∧ Hid (Below V2.heap.size V2 wr)) (fun _ i _ => 100 - (intOf i).toNat)
      case atStart => exact ⟨0, 2, rfl, by omega, rfl, rfl, Below.refl _ _⟩
      case round =>
        obtain ⟨k, b, hkb, hk, rfl, rfl, hV3⟩ := hrel
        have hgw : g < wr.heap.size := Nat.lt_of_lt_of_le hgl hV3.out.size
        by_cases hlt : b < 100
        · obtain ⟨hm2, hmk⟩ := bsV_le (cnV s) k
          obtain ⟨m, hm⟩ : ∃ m, m = bsV (cnV s) k := ⟨_, rfl⟩
          rw [← hm] at hm2 hmk ⊢
          have e0 := (hV3.out.cell (p := ⟨g, b, none⟩) hgl).trans (HK.out b hlt)
          have e1 := (hV3.out.cell (p := ⟨g, m, none⟩) hgl).trans (HK.out m (by have := hkb.out; omega))
          have HS : Hid (bsV (cnV s) (k + 1) = if cnV s m < cnV s b then b else m) := by unfold Hid; rw [bsV, ← hm, ← hkb.out]
          obtain ⟨x, hx⟩ : ∃ x, x = cnV s b := ⟨_, rfl⟩
          obtain ⟨y, hy⟩ : ∃ y, y = cnV s m := ⟨_, rfl⟩
          rw [← hx] at e0 HS
          rw [← hy] at e1 HS
          have hm100 : m < 100 := by have := hkb.out; omega
          clear hm hx hy hmk
          have b0 : (0 : Int) ≤ (b : Int) := by omega
          have b1 : (b : Int) < 100 := by omega
          have b2 : (0 : Int) ≤ (m : Int) := by omega
          have b3 : (m : Int) < 100 := by omega
          have b4 : (b : Int) ≤ 99 := by omega
          by_cases hc : (y : Int) < (x : Int)
          · have HN : Hid (bsV (cnV s) (k + 1) = b) := by unfold Hid; rw [HS.out, if_pos (by omega)]
            go_wp2
            go_quiet (fail)
            go_wp2
            go_roundw
            case rel => exact ⟨k + 1, b + 1, by unfold Hid; rw [hkb.out], by omega, by rw [HN.out], by go_num, below_drewN hV3.out _⟩
            case measure => simp [intOf]; omega
          · have HN : Hid (bsV (cnV s) (k + 1) = m) := by unfold Hid; rw [HS.out, if_neg (by omega)]
            go_wp2
            go_quiet (fail)
            go_wp2
            go_roundw
            case rel => exact ⟨k + 1, b + 1, by unfold Hid; rw [hkb.out], by omega, by rw [HN.out], by go_num, below_drewN hV3.out _⟩
            case measure => simp [intOf]; omega
        · obtain rfl : k = 98 := by have := hkb.out; omega
          obtain rfl : b = 100 := by omega
          have HE : Hid (vdV s = (bsV (cnV s) 98 : Int)) := HM.out
          obtain ⟨x, hx⟩ : ∃ x : Int, x = (bsV (cnV s) 98 : Int) := ⟨_, rfl⟩
          rw [← hx] at HE ⊢
          clear hx
          have HB : Hid (Below W.heap.size W wr ∧ wr.heap[W.heap.size]? = some (.cells #[.int .i64 0, .int .i64 0] 26)) := ⟨H3.out.1.trans (hV3.out.mono H3.out.1.size), by rw [hV3.out.block _ (ltOfQ H3.out.2)]; exact H3.out.2⟩
          have z0 := cellOfQ HB.out.2 0 rfl
          have z1 := cellOfQ HB.out.2 1 rfl
          have zl := ltOfQ HB.out.2
          have f0 := frozOfQ HB.out.2 0
          have f1 := frozOfQ HB.out.2 1
          have HB : Hid (Below W.heap.size W wr) := HB.out.1
          go_wp2
          try simp only [Exit.inBlock, Exit.then]
          refine bodyPost_ret (by simp [results, Try.results18, go_sem, z0, z1, zl, f0, f1]; try rfl) rfl ⟨by rw [HOK.out.1, HE.out], (HB.out.setCell (Nat.le_refl _) _).setCell (Nat.le_refl _) _⟩

end Go.Proofs.Ytkdpifplhhcpaaa
