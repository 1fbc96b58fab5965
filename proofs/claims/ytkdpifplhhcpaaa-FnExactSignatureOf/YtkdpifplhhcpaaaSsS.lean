/- Proved here: ShiftScan of the model. -/
import Derived.Test.YtkdpifplhhcpaaaSsM
import Derived.Test.YtkdpifplhhcpaaaPbS
import Derived.Test.YtkdpifplhhcpaaaCeQ
import Derived.Test.YtkdpifplhhcpaaaUnd
import Derived.Test.YtkdpifplhhcpaaaCpA
import Derived.Test.YtkdpifplhhcpaaaOpN
import Derived.Test.YtkdpifplhhcpaaaTkR
import Derived.Deep.Cut
import Derived.BigQuiet
namespace Go.Proofs.Ytkdpifplhhcpaaa
open Go.RowKit
set_option linter.unusedVariables false
set_option linter.unusedSimpArgs false

theorem info_i64s : (Try.prog.info? 2).map (fun i => (i.zero, i.size, i.bytes)) = some (some (.int .i64 0), 1, 8) := info_i64

set_option maxRecDepth 10000 in
set_option maxHeartbeats 6400000 in
theorem spec_ss {W : World} {vs vt vi : Value} {st tp inn : List Int} (h0 : st.length ≤ 1048576) (hs : RdI W vs st) (h1 : tp.length ≤ 1048576) (ht : RdI W vt tp) (h2 : inn.length ≤ 1048576) (hi : RdI W vi inn) :
    Calls Try.prog 24 #[vs, vt, vi] W fun e w' => ∃ v, e = .returned (.agg #[.int .i64 (scC st tp inn), v]) ∧ IS w' W.heap.size v (scL st tp inn) ∧ Below W.heap.size W w' := by
  obtain ⟨a, c, rfl⟩ := hs.form
  obtain ⟨ta, tc, rfl⟩ := ht.form
  obtain ⟨ia, ic, rfl⟩ := hi.form
  obtain ⟨i0, hi0, hz0, hz1, hz2⟩ := info_parts info_i64s
  obtain ⟨n, hn⟩ : ∃ n, n = st.length := ⟨_, rfl⟩
  obtain ⟨m, hm⟩ : ∃ m, m = tp.length := ⟨_, rfl⟩
  obtain ⟨k, hk⟩ : ∃ k, k = inn.length := ⟨_, rfl⟩
  rw [← hn] at hs h0 ⊢
  rw [← hm] at ht h1 ⊢
  rw [← hk] at hi h2 ⊢
  obtain ⟨q1, hq1⟩ : ∃ q, q = st.any (oo 0 1) := ⟨_, rfl⟩
  obtain ⟨q2, hq2⟩ : ∃ q, q = inn.any (oo 0 1) := ⟨_, rfl⟩
  obtain ⟨R, hR⟩ : ∃ R, R = scC st tp inn := ⟨_, rfl⟩
  have HR : Hid (R = if n = 0 then 1 else if 32 < n ∨ 200 < k then 2 else if q1 = true then 3 else if q2 = true then 3 else if tp.any (oo 0 ((n : Int) - 1)) = true then 3 else if 32 < m then 2 else 0) := by
    unfold Hid; rw [hR, scC, ← hn, ← hm, ← hk, ← hq1, ← hq2]
  have HNL : Hid ((R ≠ 0 → scL st tp inn = []) ∧ R = scC st tp inn) := ⟨fun h => scL_no (by rw [← hR]; exact h), hR⟩
  obtain ⟨Z, hZ⟩ : ∃ Z, Z = W.alloc (.cells #[.int .i64 0, .slice none 0 0] 45) := ⟨_, rfl⟩
  have HZ : Hid (Below W.heap.size W Z ∧ Z.heap[W.heap.size]? = some (.cells #[.int .i64 0, .slice none 0 0] 45)) := by rw [hZ]; exact ⟨by (repeat' (first | (with_reducible exact Below.refl _ _) | (with_reducible assumption) | (with_reducible refine Below.setCell ?_ ?_ _) | (with_reducible refine Below.alloc ?_ ?_ _) | (with_reducible refine below_drewN ?_ _) | (with_reducible refine Below.drew ?_) | (with_reducible exact Nat.le_refl _) | omega | (simp; done) | (simp; omega))), heap_alloc_new _ _⟩
  have H : Hid (RdI W (.slice a n c) st ∧ RdI W (.slice ta m tc) tp ∧ RdI W (.slice ia k ic) inn) := ⟨hs, ht, hi⟩
  have H1 : Hid (∀ X, Below W.heap.size W X → Calls Try.prog 52 #[.slice a n c] X fun e w' => e = .returned (.bool (!q1)) ∧ Below X.heap.size X w') := fun X hb => by rw [hq1]; exact spec_bits23 (by omega) (hs.below hb)
  have H2 : Hid (∀ X, Below W.heap.size W X → Calls Try.prog 52 #[.slice ia k ic] X fun e w' => e = .returned (.bool (!q2)) ∧ Below X.heap.size X w') := fun X hb => by rw [hq2]; exact spec_bits23 (by omega) (hi.below hb)
  have HLN : Hid (m = tp.length ∧ k = inn.length ∧ n = st.length) := ⟨hm, hk, hn⟩
  rw [← hR]
  clear hR hq1 hq2 hs ht hi hn hm hk
  by_cases hn0 : n = 0
  · have HN : Hid (R = 1) := by unfold Hid; rw [HR.out, if_pos hn0]
    have HE : Hid (scL st tp inn = []) := HNL.out.1 (by rw [HN.out]; decide)
    clear HR
    subst hn0
    go_enter Try.func24, Try.ntmps24
    go_wp2
    go_returns
    exact ⟨_, by rw [HN.out], by rw [HE.out]; exact ⟨rfl, Or.inl ⟨rfl, rfl⟩⟩, by (repeat' (first | (with_reducible exact Below.refl _ _) | (with_reducible assumption) | (with_reducible refine Below.setCell ?_ ?_ _) | (with_reducible refine Below.alloc ?_ ?_ _) | (with_reducible refine below_drewN ?_ _) | (with_reducible refine Below.drew ?_) | (with_reducible exact Nat.le_refl _) | omega | (simp; done) | (simp; omega)))⟩
  have h0i : ¬ (n : Int) = 0 := by omega
  have h0b : ((n : Int) == 0) = false := by simpa using h0i
  by_cases h32 : (32 : Int) < (n : Int)
  · have HN : Hid (R = 2) := by unfold Hid; rw [HR.out, if_neg hn0, if_pos (Or.inl (by omega))]
    have HE : Hid (scL st tp inn = []) := HNL.out.1 (by rw [HN.out]; decide)
    clear HR
    go_enter Try.func24, Try.ntmps24
    go_wp2
    go_returns
    exact ⟨_, by rw [HN.out], by rw [HE.out]; exact ⟨rfl, Or.inl ⟨rfl, rfl⟩⟩, by (repeat' (first | (with_reducible exact Below.refl _ _) | (with_reducible assumption) | (with_reducible refine Below.setCell ?_ ?_ _) | (with_reducible refine Below.alloc ?_ ?_ _) | (with_reducible refine below_drewN ?_ _) | (with_reducible refine Below.drew ?_) | (with_reducible exact Nat.le_refl _) | omega | (simp; done) | (simp; omega)))⟩
  by_cases h200 : (200 : Int) < (k : Int)
  · have HN : Hid (R = 2) := by unfold Hid; rw [HR.out, if_neg hn0, if_pos (Or.inr (by omega))]
    have HE : Hid (scL st tp inn = []) := HNL.out.1 (by rw [HN.out]; decide)
    clear HR
    go_enter Try.func24, Try.ntmps24
    go_wp2
    go_returns
    exact ⟨_, by rw [HN.out], by rw [HE.out]; exact ⟨rfl, Or.inl ⟨rfl, rfl⟩⟩, by (repeat' (first | (with_reducible exact Below.refl _ _) | (with_reducible assumption) | (with_reducible refine Below.setCell ?_ ?_ _) | (with_reducible refine Below.alloc ?_ ?_ _) | (with_reducible refine below_drewN ?_ _) | (with_reducible refine Below.drew ?_) | (with_reducible exact Nat.le_refl _) | omega | (simp; done) | (simp; omega)))⟩
  have HR1 : Hid (R = if q1 = true then 3 else if q2 = true then 3 else if tp.any (oo 0 ((n : Int) - 1)) = true then 3 else if 32 < m then 2 else 0) := by unfold Hid; rw [HR.out, if_neg hn0, if_neg (by omega)]
  clear HR
  have hn32 : n ≤ 32 := by omega
  have hk200 : k ≤ 200 := by omega
  clear h0 h2
  go_enter Try.func24, Try.ntmps24
  go_wp2_with (fail)
  rw [← hZ]
  refine (H1.out _ HZ.out.1).mono ?_
  rintro e w1 ⟨rfl, hb1⟩
  have HW1 : Hid (Below W.heap.size W w1 ∧ w1.heap[W.heap.size]? = some (.cells #[.int .i64 0, .slice none 0 0] 45)) := ⟨HZ.out.1.trans (hb1.mono HZ.out.1.size), by rw [hb1.block _ (ltOfQ HZ.out.2)]; exact HZ.out.2⟩
  clear hb1 H1 HZ hZ
  cases q1
  case true =>
    have HN : Hid (R = 3) := by unfold Hid; rw [HR1.out, if_pos rfl]
    have HE : Hid (scL st tp inn = []) := HNL.out.1 (by rw [HN.out]; decide)
    have z0 := cellOfQ HW1.out.2 0 rfl
    have z1 := cellOfQ HW1.out.2 1 rfl
    have zl := ltOfQ HW1.out.2
    have f0 := frozOfQ HW1.out.2 0
    have f1 := frozOfQ HW1.out.2 1
    have HB : Hid (Below W.heap.size W w1) := HW1.out.1
    clear HR1
    go_wp2
    try simp only [Exit.inBlock, Exit.then]
    refine bodyPost_ret (by simp [results, Try.results24, go_sem, z0, z1, zl, f0, f1]; try rfl) rfl ⟨_, by rw [HN.out], by rw [HE.out]; exact ⟨rfl, Or.inl ⟨rfl, rfl⟩⟩, (HB.out.setCell (Nat.le_refl _) _).setCell (Nat.le_refl _) _⟩
  have HR2 : Hid (R = if q2 = true then 3 else if tp.any (oo 0 ((n : Int) - 1)) = true then 3 else if 32 < m then 2 else 0) := by unfold Hid; rw [HR1.out, if_neg (by decide)]
  clear HR1
  go_wp2_with (fail)
  refine (H2.out _ HW1.out.1).mono ?_
  rintro e w2 ⟨rfl, hb2⟩
  have HW2 : Hid (Below W.heap.size W w2 ∧ w2.heap[W.heap.size]? = some (.cells #[.int .i64 0, .slice none 0 0] 45)) := ⟨HW1.out.1.trans (hb2.mono HW1.out.1.size), by rw [hb2.block _ (ltOfQ HW1.out.2)]; exact HW1.out.2⟩
  clear hb2 H2 HW1
  cases q2
  case true =>
    have HN : Hid (R = 3) := by unfold Hid; rw [HR2.out, if_pos rfl]
    have HE : Hid (scL st tp inn = []) := HNL.out.1 (by rw [HN.out]; decide)
    have z0 := cellOfQ HW2.out.2 0 rfl
    have z1 := cellOfQ HW2.out.2 1 rfl
    have zl := ltOfQ HW2.out.2
    have f0 := frozOfQ HW2.out.2 0
    have f1 := frozOfQ HW2.out.2 1
    have HB : Hid (Below W.heap.size W w2) := HW2.out.1
    clear HR2
    go_wp2
    try simp only [Exit.inBlock, Exit.then]
    refine bodyPost_ret (by simp [results, Try.results24, go_sem, z0, z1, zl, f0, f1]; try rfl) rfl ⟨_, by rw [HN.out], by rw [HE.out]; exact ⟨rfl, Or.inl ⟨rfl, rfl⟩⟩, (HB.out.setCell (Nat.le_refl _) _).setCell (Nat.le_refl _) _⟩
  have HR3 : Hid (R = if tp.any (oo 0 ((n : Int) - 1)) = true then 3 else if 32 < m then 2 else 0) := by unfold Hid; rw [HR2.out, if_neg (by decide)]
  clear HR2
  go_wp2
  go_loopw [8] (fun i wr => ∃ t : Nat, t ≤ m ∧ i = .int .i64 t ∧ Hid (Below W.heap.size W wr ∧ wr.heap[W.heap.size]? = some (.cells #[.int .i64 0, .slice none 0 0] 45) ∧ (tp.drop t).any (oo 0 ((n : Int) - 1)) = tp.any (oo 0 ((n : Int) - 1)))) (fun i _ => m - (intOf i).toNat)
  case atStart => exact ⟨0, Nat.zero_le _, rfl, HW2.out.1, HW2.out.2, rfl⟩
  case round =>
    clear HW2
    obtain ⟨t, ht, rfl, hR⟩ := hrel
    by_cases hlt : t < m
    · have htl : t < tp.length := by rw [← HLN.out.1]; exact hlt
      obtain ⟨gt, ot, rfl, hgt, t0⟩ := rd_at (H.out.2.1.below hR.out.1) hlt
      obtain ⟨x, hx⟩ : ∃ x, x = tp.getD t 0 := ⟨_, rfl⟩
      rw [← hx] at t0
      obtain ⟨q, hq⟩ : ∃ q, q = decide (0 ≤ x ∧ x ≤ (n : Int) - 1) := ⟨_, rfl⟩
      have HI : Hid (∀ X, Calls Try.prog 41 #[.int .i64 x, .int .i64 0, .int .i64 ((n : Int) - 1)] X fun e w' => e = .returned (.bool q) ∧ w' = X) := fun X => spec_ins x 0 ((n : Int) - 1) q hq X
      have HQ : Hid (tp.any (oo 0 ((n : Int) - 1)) = (!q || (tp.drop (t + 1)).any (oo 0 ((n : Int) - 1)))) := by unfold Hid; rw [← hR.out.2.2, any_at htl, ← getD_at htl, ← hx, oo, hq]
      have HW : Hid (Below W.heap.size W wr ∧ wr.heap[W.heap.size]? = some (.cells #[.int .i64 0, .slice none 0 0] 45)) := ⟨hR.out.1, hR.out.2.1⟩
      clear hR hx hq htl
      have b0 : (0 : Int) ≤ (t : Int) := by omega
      have b1 : (t : Int) < (m : Int) := by omega
      go_wp2_with (fail)
      refine (HI.out _).mono ?_
      rintro e w3 ⟨rfl, hw3⟩
      subst w3
      cases q
      case false =>
        have HN : Hid (R = 3) := by unfold Hid; rw [HR3.out, if_pos (by rw [HQ.out]; rfl)]
        have HE : Hid (scL st tp inn = []) := HNL.out.1 (by rw [HN.out]; decide)
        have z0 := cellOfQ HW.out.2 0 rfl
        have z1 := cellOfQ HW.out.2 1 rfl
        have zl := ltOfQ HW.out.2
        have f0 := frozOfQ HW.out.2 0
        have f1 := frozOfQ HW.out.2 1
        have HB : Hid (Below W.heap.size W wr) := HW.out.1
        clear HR3 HQ
        go_wp2
        try simp only [Exit.inBlock, Exit.then]
        refine bodyPost_ret (by simp [results, Try.results24, go_sem, z0, z1, zl, f0, f1]; try rfl) rfl ⟨_, by rw [HN.out], by rw [HE.out]; exact ⟨rfl, Or.inl ⟨rfl, rfl⟩⟩, (HB.out.setCell (Nat.le_refl _) _).setCell (Nat.le_refl _) _⟩
      case true =>
        have HN : Hid ((tp.drop (t + 1)).any (oo 0 ((n : Int) - 1)) = tp.any (oo 0 ((n : Int) - 1))) := by unfold Hid; rw [HQ.out]; rfl
        clear HQ
        go_wp2
        go_roundw
        case rel => exact ⟨t + 1, by omega, by go_num, HW.out.1, HW.out.2, HN.out⟩
        case measure => simp [intOf]; omega
    have HR4 : Hid (R = if 32 < m then 2 else 0) := by
      unfold Hid; rw [HR3.out, ← hR.out.2.2, any_end (by rw [← HLN.out.1]; omega), if_neg (by decide)]
    have HW : Hid (Below W.heap.size W wr ∧ wr.heap[W.heap.size]? = some (.cells #[.int .i64 0, .slice none 0 0] 45)) := ⟨hR.out.1, hR.out.2.1⟩
    clear hR HR3
    by_cases h3 : (32 : Int) < (m : Int)
    · have HN : Hid (R = 2) := by unfold Hid; rw [HR4.out, if_pos (by omega)]
      have HE : Hid (scL st tp inn = []) := HNL.out.1 (by rw [HN.out]; decide)
      have z0 := cellOfQ HW.out.2 0 rfl
      have z1 := cellOfQ HW.out.2 1 rfl
      have zl := ltOfQ HW.out.2
      have f0 := frozOfQ HW.out.2 0
      have f1 := frozOfQ HW.out.2 1
      have HB : Hid (Below W.heap.size W wr) := HW.out.1
      clear HR4
      go_wp2
      try simp only [Exit.inBlock, Exit.then]
      refine bodyPost_ret (by simp [results, Try.results24, go_sem, z0, z1, zl, f0, f1]; try rfl) rfl ⟨_, by rw [HN.out], by rw [HE.out]; exact ⟨rfl, Or.inl ⟨rfl, rfl⟩⟩, (HB.out.setCell (Nat.le_refl _) _).setCell (Nat.le_refl _) _⟩
    have HN : Hid (R = 0) := by unfold Hid; rw [HR4.out, if_neg (by omega)]
    have hm32 : m ≤ 32 := by omega
    clear HR4 h3
    have HOK : Hid _ := scC_ok (HNL.out.2.symm.trans HN.out)
    have HL : Hid (scL st tp inn = ssL st tp inn) := by unfold Hid; rw [scL, if_pos (HNL.out.2.symm.trans HN.out)]
    obtain ⟨ga, oa, rfl, hga, s0⟩ := rd_at H.out.1 (show 0 < n by omega)
    have HS0 : Hid (RdI (wr.alloc (.cells #[] 2)) (.slice (some ⟨ga, oa, none⟩) n c) st ∧ st.length = n) := ⟨H.out.1.below (HW.out.1.alloc HW.out.1.size _), HLN.out.2.2.symm⟩
    clear s0 hga
    go_wp2_with (at_builtin; refine appAny rfl _ _ 22 rfl wr.heap.size 2 i0 (.int .i64 0) 1 8 Try.underlying22 hi0 hz0 hz1 hz2 rfl (by decide) (.slice (some ⟨wr.heap.size, 0, none⟩) 0 0) 0 [] rfl (World.ownsRow_lit wr #[] 0 (Nat.le_refl _) (by decide) (by simp)) (some ⟨ga, oa, none⟩) n c (st.map (Value.int .i64)) rfl (by simp [HS0.out.2]) (fun e => by cases e) (fun ad e => by cases e; exact row_news HS0.out.1) (ones_int _) (by unfold maxLen; omega) (by omega) (by simp) ?_; intro v5 w5 hown5 hgrow5 _)
    have hap := apN HS0.out.2.symm hown5 hgrow5
    obtain ⟨g5, c5, rfl, hg5, hl5, _⟩ := hap.1.pos HOK.out.1
    rw [← HLN.out.2.2] at hap ⊢
    have HV : Hid (Below W.heap.size W w5 ∧ w5.heap[W.heap.size]? = some (.cells #[.int .i64 0, .slice none 0 0] 45) ∧ IS w5 (W.heap.size + 1) (.slice (some ⟨g5, 0, none⟩) n c5) (ssL st tp (inn.take 0))) := ⟨HW.out.1.trans (hap.2.mono HW.out.1.size), by rw [hap.2.block _ (ltOfQ HW.out.2)]; exact HW.out.2, hap.1.low (by have := ltOfQ HW.out.2; omega)⟩
    clear hap hown5 hgrow5 hg5 hl5 HS0 HW
    go_loopw [9, 10] (fun q i wr => ∃ t g2 c2 : Nat, t ≤ k ∧ q = .slice (some ⟨g2, 0, none⟩) n c2 ∧ i = .int .i64 t ∧ Hid (Below W.heap.size W wr ∧ wr.heap[W.heap.size]? = some (.cells #[.int .i64 0, .slice none 0 0] 45) ∧ IS wr (W.heap.size + 1) (.slice (some ⟨g2, 0, none⟩) n c2) (ssL st tp (inn.take t)))) (fun _ i _ => k - (intOf i).toNat)
    case atStart => exact ⟨0, g5, c5, Nat.zero_le _, rfl, rfl, HV.out⟩
    case round =>
      clear HV
      obtain ⟨t, g2, c2, ht, rfl, rfl, hR⟩ := hrel
      obtain ⟨l, hl⟩ : ∃ l, l = ssL st tp (inn.take t) := ⟨_, rfl⟩
      have HB : Hid (Below W.heap.size W wr ∧ wr.heap[W.heap.size]? = some (.cells #[.int .i64 0, .slice none 0 0] 45)) := ⟨hR.out.1, hR.out.2.1⟩
      have HIS : Hid (IS wr (W.heap.size + 1) (.slice (some ⟨g2, 0, none⟩) n c2) l ∧ l.length = n) := ⟨by rw [hl]; exact hR.out.2.2, by rw [hl, ssL_len HOK.out.1, ← HLN.out.2.2]⟩
      have hg2 : g2 < wr.heap.size := (IS.lt HIS.out.1 g2 rfl).2
      by_cases hlt : t < k
      · have hti : t < inn.length := by rw [← HLN.out.2.1]; exact hlt
        obtain ⟨gi, oi, rfl, hgi, i0'⟩ := rd_at (H.out.2.2.below HB.out.1) hlt
        have hxb := oo_at HOK.out.2.2.2.2.1 hti
        have HST : Hid (ssL st tp (inn.take (t + 1)) = stN tp l (inn.getD t 0)) := by unfold Hid; rw [ssL_step hti, hl]
        obtain ⟨x, hx⟩ : ∃ x, x = inn.getD t 0 := ⟨_, rfl⟩
        rw [← hx] at i0' hxb HST
        have HBI : Hid (Bits l) := by unfold Hid; rw [hl]; exact ssL_bits (bits_of HOK.out.2.2.2.1) _
        obtain ⟨V2, hV2⟩ : ∃ V2, V2 = wr := ⟨_, rfl⟩
        clear hl hx hti hR
        have b0 : (0 : Int) ≤ (t : Int) := by omega
        have b1 : (t : Int) < (k : Int) := by omega
        go_wp2
        rw [← hV2] at HB HIS hgi i0' hg2 ⊢
        clear hV2 i0'
        go_loopw [11, 12] (fun f i wr => ∃ (j : Nat) (y : Int), j ≤ m ∧ f = .int .i64 y ∧ i = .int .i64 j ∧ wr = V2 ∧ (0 ≤ y ∧ y ≤ (j : Int) + 1) ∧ Hid (y = x + smT l (tp.take j))) (fun _ i _ => m - (intOf i).toNat)
        case atStart => exact ⟨0, x, Nat.zero_le _, rfl, rfl, rfl, by omega, by unfold Hid; simp [smT]⟩
        case round =>
          obtain ⟨j, y, hj, rfl, rfl, rfl, hy, hY⟩ := hrel
          by_cases hjm : j < m
          · have hjt : j < tp.length := by rw [← HLN.out.1]; exact hjm
            obtain ⟨gt, ot, rfl, hgt, t0⟩ := rd_at (H.out.2.1.below HB.out.1) hjm
            have htb := oo_at HOK.out.2.2.2.2.2.1 hjt
            obtain ⟨v, hv⟩ : ∃ v : Nat, tp.getD j 0 = (v : Int) := ⟨(tp.getD j 0).toNat, by omega⟩
            have HSM : Hid (smT l (tp.take (j + 1)) = smT l (tp.take j) + l.getD v 0) := by unfold Hid; rw [smT_step hjt, hv]; rfl
            rw [hv] at t0 htb
            have hvd : v < n := by have := HLN.out.2.2; omega
            obtain ⟨_, _, he, hgg, v0⟩ := rd_at HIS.out.1.rg hvd
            simp only [Option.some.injEq, Addr.mk.injEq, and_true] at he
            obtain ⟨rfl, rfl⟩ := he
            rw [Nat.zero_add] at v0
            have hbb := HBI.out v
            obtain ⟨b, hb⟩ : ∃ b, b = l.getD v 0 := ⟨_, rfl⟩
            rw [← hb] at v0 hbb HSM
            clear hb hv hjt htb hgg
            have b2 : (0 : Int) ≤ (j : Int) := by omega
            have b3 : (j : Int) < (m : Int) := by omega
            have b4 : (0 : Int) ≤ (v : Int) := by omega
            have b5 : (v : Int) < (n : Int) := by omega
            have HY : Hid (y + b = x + smT l (tp.take (j + 1))) := by unfold Hid; rw [HSM.out, hY.out]; omega
            clear hY HSM
            go_wp2
            go_roundw
            case rel => exact ⟨j + 1, y + b, by omega, by go_num, by go_num, by first | rfl | trivial, by omega, HY.out⟩
            case measure => simp [intOf]; omega
          · obtain rfl : j = m := by omega
            have HST2 : Hid (ssL st tp (inn.take (t + 1)) = (y % 2) :: l.take (n - 1)) := by
              have h9 := hY.out
              rw [List.take_of_length_le (by rw [← HLN.out.1]; exact Nat.le_refl _)] at h9
              unfold Hid; rw [HST.out, stN, ← h9, HIS.out.2]
            have e2 : Int.tmod y 2 = y % 2 := Int.tmod_eq_emod_of_nonneg hy.1
            obtain ⟨r, hr⟩ : ∃ r, r = y % 2 := ⟨_, rfl⟩
            rw [← hr] at e2 HST2
            have hr2 : 0 ≤ r ∧ r ≤ 1 := by omega
            have hnc : n ≤ c2 := HIS.out.1.capN
            have hnci : (n : Int) ≤ (c2 : Int) := by omega
            have hb9 : Below wr.heap.size wr (wr.alloc (.cells #[.int .i64 r] 2)) := by (repeat' (first | (with_reducible exact Below.refl _ _) | (with_reducible assumption) | (with_reducible refine Below.setCell ?_ ?_ _) | (with_reducible refine Below.alloc ?_ ?_ _) | (with_reducible refine below_drewN ?_ _) | (with_reducible refine Below.drew ?_) | (with_reducible exact Nat.le_refl _) | omega | (simp; done) | (simp; omega)))
            have HIT : Hid (RdI (wr.alloc (.cells #[.int .i64 r] 2)) (.slice (some ⟨g2, 0, none⟩) (n - 1) c2) (l.take (n - 1)) ∧ n - 1 = (l.take (n - 1)).length) := ⟨rg_take (HIS.out.1.rg.below hb9) (by omega), by rw [List.length_take, HIS.out.2]; omega⟩
            clear hY HST hr hb9
            go_upto_region 18 with (at_builtin; refine appAny rfl _ _ 22 rfl wr.heap.size 2 i0 (.int .i64 0) 1 8 Try.underlying22 hi0 hz0 hz1 hz2 rfl (by decide) (.slice (some ⟨wr.heap.size, 0, none⟩) 1 1) 1 [.int .i64 r] rfl (World.ownsRow_lit wr #[.int .i64 r] 1 (Nat.le_refl _) (by decide) (by simp)) (some ⟨g2, 0, none⟩) (n - 1) c2 ((l.take (n - 1)).map (Value.int .i64)) rfl (by rw [List.length_map, ← HIT.out.2, Nat.mul_one]) (fun e => by cases e) (fun ad e => by cases e; exact row_news HIT.out.1) (ones_int _) (by unfold maxLen; omega) (by omega) (by simp) ?_; intro v5 w5 hown5 hgrow5 _)
            have hap := apO HIT.out.2 hown5 hgrow5
            rw [← HST2.out] at hap
            have hl5 : (ssL st tp (inn.take (t + 1))).length = n := by rw [ssL_len HOK.out.1, ← HLN.out.2.2]
            obtain ⟨g5, c5, hv5, hg5, hl5', _⟩ := hap.1.pos (by omega)
            rw [hl5] at hv5
            subst hv5
            have HV : Hid (Below W.heap.size W w5 ∧ w5.heap[W.heap.size]? = some (.cells #[.int .i64 0, .slice none 0 0] 45) ∧ IS w5 (W.heap.size + 1) (.slice (some ⟨g5, 0, none⟩) n c5) (ssL st tp (inn.take (t + 1)))) := ⟨HB.out.1.trans (hap.2.mono HB.out.1.size), by rw [hap.2.block _ (ltOfQ HB.out.2)]; exact HB.out.2, hap.1.low (by have := ltOfQ HB.out.2; omega)⟩
            clear hap hown5 hgrow5 hg5 hl5 hl5' HB HIS HIT HST2
            go_wp2
            go_roundw
            case rel => exact ⟨t + 1, g5, c5, by omega, rfl, by go_num, HV.out⟩
            case measure => simp [intOf]; omega
      · obtain rfl : t = k := by omega
        have HE : Hid (IS wr (W.heap.size + 1) (.slice (some ⟨g2, 0, none⟩) n c2) (scL st tp inn)) := by
          have h9 := HIS.out.1
          rw [hl, List.take_of_length_le (by rw [← HLN.out.2.1]; exact Nat.le_refl _), ← HL.out] at h9
          exact h9
        have z0 := cellOfQ HB.out.2 0 rfl
        have z1 := cellOfQ HB.out.2 1 rfl
        have zl := ltOfQ HB.out.2
        have f0 := frozOfQ HB.out.2 0
        have f1 := frozOfQ HB.out.2 1
        have HB1 : Hid (Below W.heap.size W wr) := HB.out.1
        have HK : Hid (∀ u0 u1, IS ((wr.setCell ⟨W.heap.size, 0, none⟩ u0).setCell ⟨W.heap.size, 1, none⟩ u1) W.heap.size (.slice (some ⟨g2, 0, none⟩) n c2) (scL st tp inn)) := fun u0 u1 => (HE.out.kept fun q hq => by
          have h9 := (IS.lt HE.out q hq).1
          rw [heap_setCell_other _ _ _ _ (by simp; omega), heap_setCell_other _ _ _ _ (by simp; omega)]).low (by omega)
        clear hR HIS hl HB
        go_wp2
        try simp only [Exit.inBlock, Exit.then]
        refine bodyPost_ret (by simp [results, Try.results24, go_sem, z0, z1, zl, f0, f1]; try rfl) rfl ⟨_, by rw [HN.out], HK.out _ _, (HB1.out.setCell (Nat.le_refl _) _).setCell (Nat.le_refl _) _⟩

end Go.Proofs.Ytkdpifplhhcpaaa
