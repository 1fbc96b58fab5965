/- Proved here: CheckShots of the model: csC. -/
import Derived.Test.YtkbbhdnaemjamaaCsM
import Derived.Test.YtkbbhdnaemjamaaSOp
namespace Go.Proofs.Ytkbbhdnaemjamaa
open Go.RowKit
set_option linter.unusedVariables false
set_option linter.unusedSimpArgs false

set_option maxRecDepth 10000 in
set_option maxHeartbeats 8000000 in
theorem spec_check {w : World} {v u : Value} {l : List Sh} {s : List Bx} (hn : l.length ≤ 1048576) (h : RG 5 shC w v l) (hs : RB w u s) :
    Calls Try.prog 25 #[v, u] w fun e w' => e = .returned (.int .i64 (csC l s)) ∧ Below w.heap.size w w' := by
  obtain ⟨a, c, rfl⟩ := h.form
  obtain ⟨a2, c2, rfl⟩ := hs.form
  obtain ⟨n, hnn⟩ : ∃ n, n = l.length := ⟨_, rfl⟩
  obtain ⟨m, hmm⟩ : ∃ m, m = s.length := ⟨_, rfl⟩
  obtain ⟨z, hz⟩ : ∃ z, z = shF l := ⟨_, rfl⟩
  obtain ⟨y, hy⟩ : ∃ y, y = shapeK s := ⟨_, rfl⟩
  obtain ⟨C, hC⟩ : ∃ C, C = csC l s := ⟨_, rfl⟩
  rw [← hnn] at h hn ⊢
  rw [← hmm] at hs ⊢
  rw [← hC]
  have H : Hid (RG 5 shC w (.slice a n c) l ∧ RB w (.slice a2 m c2) s ∧ n = l.length ∧ m = s.length) := ⟨h, hs, hnn, hmm⟩
  have HZ : Hid (z = shF l ∧ y = shapeK s ∧ C = csC l s) := ⟨hz, hy, hC⟩
  have HSF : Hid (Calls Try.prog 9 #[.slice a n c] w fun e w' => e = .returned (.int .i64 z) ∧ Below w.heap.size w w') := by unfold Hid; rw [hz]; exact spec_shots (by rw [← hnn]; exact hn) h
  have HSH : Hid (∀ W : World, Below w.heap.size w W → Calls Try.prog 42 #[.slice a2 m c2] W fun e w' => e = .returned (.int .i64 y) ∧ Below W.heap.size W w') := fun W hW => by rw [hy]; exact spec_shape (hs.below hW)
  clear h hs hnn hmm hz hy hC
  obtain ⟨i0, hi0, hz0', hz1, hz2⟩ := info_parts info_box
  go_enter Try.func25, Try.ntmps25
  go_wp2_with (fail)
  refine HSF.out.mono ?_
  rintro e w1 ⟨rfl, hb1⟩
  have HB1 : Hid (Below w.heap.size w w1) := hb1
  clear hb1 HSF
  by_cases hz0 : z = 0
  case neg =>
    have HE : Hid (C = z) := by unfold Hid; rw [HZ.out.2.2, csC, if_neg (by rw [← HZ.out.1]; exact hz0), HZ.out.1]
    go_wp2
    go_returns
    exact ⟨by rw [HE.out]; rfl, HB1.out⟩
  have HG : Hid (l.length ≤ 40 ∧ ∀ x ∈ l, bfK x.b = 0 ∧ 0 ≤ x.d ∧ x.d ≤ 1000) := shF_good (by rw [← HZ.out.1]; exact hz0)
  have HZ0 : Hid (shF l = 0) := by unfold Hid; rw [← HZ.out.1]; exact hz0
  subst hz0
  go_wp2_with (fail)
  refine (HSH.out _ HB1.out).mono ?_
  rintro e w2 ⟨rfl, hb2⟩
  have HB2 : Hid (Below w.heap.size w w2) := HB1.out.trans (hb2.mono HB1.out.size)
  clear hb2 HSH HB1
  by_cases hy0 : y = 0
  case neg =>
    have HE : Hid (C = y) := by unfold Hid; rw [HZ.out.2.2, csC, if_pos HZ0.out, if_neg (by rw [← HZ.out.2.1]; exact hy0), HZ.out.2.1]
    go_wp2
    go_returns
    exact ⟨by rw [HE.out]; rfl, HB2.out⟩
  have HY0 : Hid (shapeK s = 0) := by unfold Hid; rw [← HZ.out.2.1]; exact hy0
  have hn40 : n ≤ 40 := by rw [H.out.2.2.1]; exact HG.out.1
  have hm150 : m ≤ 150 := by rw [H.out.2.2.2]; exact (boxesK_zero (csK_zero HY0.out)).1
  subst hy0
  have HC : Hid (C = if tkB (boxesH l) l.length then 7 else if 0 < (opOf (takesK 3) (boxesH l) s).length then 3 else if 0 < (opOf (takesK 3) s (boxesH l)).length then 4 else 0) := by
    unfold Hid; rw [HZ.out.2.2, csC, if_pos HZ0.out, if_pos HY0.out]
  have HOK : Hid (∀ k, k < n → OkM (bat (boxesH l) k)) := fun k hk => by
    have hkl : k < l.length := by rw [← H.out.2.2.1]; exact hk
    rw [boxesH_at hkl]; exact bfK_ok (HG.out.2 _ (List.getElem_mem hkl)).1
  have hsz2 := HB2.out.size
  have HS0 : Hid (BS (w2.alloc (.cells #[] 34)) w.heap.size (.slice (some ⟨w2.heap.size, 0, none⟩) 0 0) [] ∧ Below w.heap.size w (w2.alloc (.cells #[] 34))) := ⟨BS.lit0 _ _ hsz2, HB2.out.alloc hsz2 _⟩
  clear HB2
  go_wp2
  go_loopw [7, 8] (fun vo i wr => ∃ k : Nat, k ≤ n ∧ i = .int .i64 k ∧ Hid (BS wr w.heap.size vo ((boxesH l).take k) ∧ Below w.heap.size w wr ∧ ¬ tkB (boxesH l) k)) (fun _ i _ => n - (intOf i).toNat)
  case atStart => exact ⟨0, Nat.zero_le _, rfl, HS0.out.1, HS0.out.2, fun ⟨i, hi, _⟩ => by omega⟩
  case round =>
    clear HS0 hsz2
    obtain ⟨k, hk, rfl, hR⟩ := hrel
    by_cases hlt : k < n
    · have hkl : k < l.length := by rw [← H.out.2.2.1]; exact hlt
      obtain ⟨g, o, c2', he, hg0, hj⟩ := (H.out.1.below hR.out.2.1).pos (by rw [← H.out.2.2.1]; omega)
      simp only [Value.slice.injEq] at he
      obtain ⟨rfl, hx1, hx2⟩ := he
      clear hx1 hx2
      obtain ⟨c0, c1, c2, c3, c4⟩ := shC_at (hj k hkl)
      obtain ⟨x, hx⟩ : ∃ x, x = l[k].b := ⟨_, rfl⟩
      rw [← hx] at c0 c1 c2 c3
      have hxb : x = bat (boxesH l) k := by rw [hx, boxesH_at hkl]
      obtain ⟨t, ht⟩ : ∃ t, t = meetL x ((boxesH l).take k) := ⟨_, rfl⟩
      have HX : Hid (x = bat (boxesH l) k ∧ t = meetL x ((boxesH l).take k)) := ⟨hxb, ht⟩
      have hlen : ((boxesH l).take k).length = k := by rw [List.length_take, boxesH_len]; omega
      obtain ⟨oa, oc, hof⟩ := hR.out.1.form
      rw [hlen] at hof
      subst hof
      have HT : Hid (Calls Try.prog 49 #[.slice oa k oc, .agg #[.int .i64 x.x0, .int .i64 x.y0, .int .i64 x.x1, .int .i64 x.y1]] wr fun e w' => e = .returned (.bool t) ∧ Below wr.heap.size wr w') := by
        unfold Hid
        rw [ht]
        refine spec_touches x (by rw [hxb]; exact HOK.out k hlt) (by rw [hlen]; omega) (fun c hc => ?_) hR.out.1.rb
        obtain ⟨j, hj1, rfl⟩ := List.getElem_of_mem hc
        rw [hlen] at hj1
        have := HOK.out j (by omega)
        rw [bat_get (by rw [boxesH_len]; omega)] at this
        rw [List.getElem_take]; exact this
      have HST : Hid ((boxesH l).take (k + 1) = (boxesH l).take k ++ [x]) := by unfold Hid; rw [take_bat (by rw [boxesH_len]; exact hkl), ← hxb]
      have HM : Hid (BS wr w.heap.size (.slice oa k oc) ((boxesH l).take k) ∧ Below w.heap.size w wr ∧ ¬ tkB (boxesH l) k) := hR.out
      clear hx hxb ht hj hR
      have b0 : (0 : Int) ≤ (k : Int) := by omega
      have b1 : (k : Int) < (n : Int) := by omega
      go_wp2_with (fail)
      refine HT.out.mono ?_
      rintro e w5 ⟨rfl, hb5⟩
      have hb5' := HM.out.2.1.trans (hb5.mono HM.out.2.1.size)
      have HM5 : Hid (BS w5 w.heap.size (.slice oa k oc) ((boxesH l).take k) ∧ Below w.heap.size w w5) := ⟨HM.out.1.below hb5, hb5'⟩
      have c0' := (hb5.cell (p := ⟨g, o + k * 5, none⟩) hg0).trans c0
      have c1' := (hb5.cell (p := ⟨g, o + k * 5 + 1, none⟩) hg0).trans c1
      have c2' := (hb5.cell (p := ⟨g, o + k * 5 + 2, none⟩) hg0).trans c2
      have c3' := (hb5.cell (p := ⟨g, o + k * 5 + 3, none⟩) hg0).trans c3
      have hg5 : g < w5.heap.size := Nat.lt_of_lt_of_le hg0 hb5.size
      clear hb5 hb5' c0 c1 c2 c3 c4 HT
      cases t with
      | true =>
        have htk : tkB (boxesH l) l.length := ⟨k, hkl, by rw [← HX.out.1]; exact HX.out.2.symm⟩
        have HE : Hid (C = 7) := by unfold Hid; rw [HC.out, if_pos htk]
        clear htk HX HM
        go_wp2
        go_returns
        exact ⟨by rw [HE.out]; rfl, HM5.out.2⟩
      | false =>
        have HNT : Hid (¬ tkB (boxesH l) (k + 1)) := tkB_succ HM.out.2.2 (by rw [← HX.out.1]; exact HX.out.2.symm)
        have hsz5 := HM5.out.2.size
        clear HX HM
        generalize (boxesH l).take k = out at HM5 HST hlen ⊢
        go_wp2_with (at_builtin; refine wpList_append_own _ rfl _ _ 41 rfl w.heap.size 34 i0 (.agg #[.int .i64 0, .int .i64 0, .int .i64 0, .int .i64 0]) 4 32 Try.underlying41 hi0 hz0' hz1 hz2 rfl (by decide) _ _ _ rfl (World.ownsRow.alloc HM5.out.1 _) ⟨w5.heap.size, 0, none⟩ 1 1 (bcells x) rfl rfl (World.news_of_block (cs := #[.int .i64 x.x0, .int .i64 x.y0, .int .i64 x.x1, .int .i64 x.y1]) (t := 34) (fr := (0, 0)) (heap_alloc_new w5 _)) (by simp [bcells, Value.oneCell']) (by unfold maxLen; omega) (by omega) (by simp; omega) ?_; intro v6 w6 hown6 hgrow6 _)
        have R : Hid (BS w6 w.heap.size v6 ((boxesH l).take (k + 1)) ∧ Below w.heap.size w w6 ∧ ¬ tkB (boxesH l) (k + 1)) := by
          unfold Hid
          rw [HST.out]
          refine ⟨?_, (HM5.out.2.alloc hsz5 _).grown hgrow6 (by simp; omega) (fun k hk => (World.ownsRow.lt HM5.out.1 k hk).1), HNT.out⟩
          unfold BS
          rw [bflat_append, List.length_append]
          have e : bflat [x] = bcells x := by simp [bflat]
          rw [e]; exact hown6
        clear hown6 hgrow6 HM5 HST c0' c1' c2' c3' HNT
        go_wp2
        go_roundw
        case rel => exact ⟨k + 1, by omega, by go_num, R.out⟩
        case measure => simp [intOf]; omega
    · obtain rfl : k = n := by omega
      have hnl : (boxesH l).take k = boxesH l := List.take_of_length_le (by rw [boxesH_len, ← H.out.2.2.1]; exact Nat.le_refl _)
      have HM : Hid (BS wr w.heap.size u7 (boxesH l) ∧ Below w.heap.size w wr) := by
        have := hR.out
        rw [hnl] at this
        exact ⟨this.1, this.2.1⟩
      have HC2 : Hid (C = if 0 < (opOf (takesK 3) (boxesH l) s).length then 3 else if 0 < (opOf (takesK 3) s (boxesH l)).length then 4 else 0) := by
        unfold Hid; rw [HC.out, if_neg (by rw [← H.out.2.2.1]; exact hR.out.2.2)]
      obtain ⟨oa, oc, hof⟩ := HM.out.1.form
      subst hof
      obtain ⟨L1, hL1⟩ : ∃ L1, L1 = opOf (takesK 3) (boxesH l) s := ⟨_, rfl⟩
      obtain ⟨L2, hL2⟩ : ∃ L2, L2 = opOf (takesK 3) s (boxesH l) := ⟨_, rfl⟩
      have hsum : (boxesH l).length + s.length ≤ 500000 := by rw [boxesH_len, ← H.out.2.2.1, ← H.out.2.2.2]; omega
      have hms : m = s.length := H.out.2.2.2
      have HO1 : Hid (Calls Try.prog 50 #[.int .i64 3, .slice oa (boxesH l).length oc, .slice a2 m c2] wr fun e w' => ∃ v', e = .returned v' ∧ BS w' wr.heap.size v' L1 ∧ Below wr.heap.size wr w') := by
        have hrb := H.out.2.1.below HM.out.2
        rw [hms] at hrb
        have h2 := spec_op 3 oa a2 oc c2 (boxesH l) s wr hsum HM.out.1.rb hrb
        rw [← hL1, ← hms] at h2
        refine h2.mono ?_
        rintro e w' ⟨v', rfl, ho, _, hb⟩
        exact ⟨v', rfl, ho, hb⟩
      have HO2 : Hid (∀ W, Below wr.heap.size wr W → Calls Try.prog 50 #[.int .i64 3, .slice a2 m c2, .slice oa (boxesH l).length oc] W fun e w' => ∃ v', e = .returned v' ∧ BS w' W.heap.size v' L2 ∧ Below W.heap.size W w') := fun W hW => by
        have hrb := (H.out.2.1.below HM.out.2).below hW
        rw [hms] at hrb
        have h2 := spec_op 3 a2 oa c2 oc s (boxesH l) W (by omega) hrb (HM.out.1.rb.below hW)
        rw [← hL2, ← hms] at h2
        refine h2.mono ?_
        rintro e w' ⟨v', rfl, ho, _, hb⟩
        exact ⟨v', rfl, ho, hb⟩
      rw [← hL1, ← hL2] at HC2
      clear hR hL1 hL2 hms hnl hsum
      go_wp2_with (fail)
      refine HO1.out.mono ?_
      rintro e w5 ⟨v5, rfl, ho5, hb5⟩
      obtain ⟨a5, c5, hf5⟩ := ho5.form
      subst hf5
      have HB5 : Hid (Below wr.heap.size wr w5) := hb5
      clear ho5 hb5 HO1
      by_cases h1 : (0 : Int) < (L1.length : Int)
      · have HE : Hid (C = 3) := by unfold Hid; rw [HC2.out, if_pos (by omega)]
        go_wp2
        go_returns
        exact ⟨by rw [HE.out]; rfl, HM.out.2.trans (HB5.out.mono HM.out.2.size)⟩
      have HC3 : Hid (C = if 0 < L2.length then 4 else 0) := by unfold Hid; rw [HC2.out, if_neg (by omega)]
      go_wp2_with (fail)
      refine (HO2.out _ HB5.out).mono ?_
      rintro e w6 ⟨v6, rfl, ho6, hb6⟩
      obtain ⟨a6, c6, hf6⟩ := ho6.form
      subst hf6
      have HB6 : Hid (Below w.heap.size w w6) := (HM.out.2.trans (HB5.out.mono HM.out.2.size)).trans (hb6.mono (HM.out.2.trans (HB5.out.mono HM.out.2.size)).size)
      clear ho6 hb6 HO2
      by_cases h2 : (0 : Int) < (L2.length : Int)
      · have HE : Hid (C = 4) := by unfold Hid; rw [HC3.out, if_pos (by omega)]
        go_wp2
        go_returns
        exact ⟨by rw [HE.out]; rfl, HB6.out⟩
      have HE : Hid (C = 0) := by unfold Hid; rw [HC3.out, if_neg (by omega)]
      go_wp2
      go_returns
      exact ⟨by rw [HE.out]; rfl, HB6.out⟩

end Go.Proofs.Ytkbbhdnaemjamaa
