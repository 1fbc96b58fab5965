/- Proved here: CheckShots of the program: csC. -/
import Derived.Test.YtkbbhdnaemjamaaCsM
import Derived.Test.YtkbbhdnaemjamaaWAlone
import Derived.Test.YtkbbhdnaemjamaaIHeights
import Derived.Test.YtkbbhdnaemjamaaIEdges
import Derived.Test.YtkbbhdnaemjamaaISweep
namespace Go.Proofs.Ytkbbhdnaemjamaa
open Go.RowKit
set_option linter.unusedVariables false
set_option linter.unusedSimpArgs false

set_option maxRecDepth 10000 in
set_option maxHeartbeats 8000000 in
theorem impl_check {w : World} {v : Value} {a2 : Option Addr} {m c2 : Nat} {l : List Sh} {s : List Bx} (hn : l.length ≤ 1048576) (h : RG 5 shC w v l) (hsn : s.length ≤ 1048576) (hc : m ≤ c2) (hs : RB w (.slice a2 m c2) s) :
    Calls Try.prog 26 #[v, .slice a2 m c2] w fun e w' => e = .returned (.int .i64 (csC l s)) ∧ Below w.heap.size w w' := by
  obtain ⟨a, c, rfl⟩ := h.form
  have hmm : m = s.length := by obtain ⟨_, _, e⟩ := hs.form; injection e
  obtain ⟨n, hnn⟩ : ∃ n, n = l.length := ⟨_, rfl⟩
  obtain ⟨z, hz⟩ : ∃ z, z = shF l := ⟨_, rfl⟩
  obtain ⟨y, hy⟩ : ∃ y, y = shapeK s := ⟨_, rfl⟩
  obtain ⟨C, hC⟩ : ∃ C, C = csC l s := ⟨_, rfl⟩
  rw [← hnn] at h hn ⊢
  rw [← hC]
  have H : Hid (RG 5 shC w (.slice a n c) l ∧ RB w (.slice a2 m c2) s ∧ n = l.length ∧ m = s.length) := ⟨h, hs, hnn, hmm⟩
  have HZ : Hid (z = shF l ∧ y = shapeK s ∧ C = csC l s) := ⟨hz, hy, hC⟩
  have HSF : Hid (Calls Try.prog 11 #[.slice a n c] w fun e w' => e = .returned (.int .i64 z) ∧ Below w.heap.size w w') := by unfold Hid; rw [hz]; exact impl_shots (by rw [← hnn]; exact hn) h
  have HSH : Hid (∀ W : World, Below w.heap.size w W → Calls Try.prog 44 #[.slice a2 m c2] W fun e w' => e = .returned (.int .i64 y) ∧ Below W.heap.size W w') := fun W hW => by rw [hy]; exact impl_shape (by omega) hc (hs.below hW)
  clear h hs hnn hmm hz hy hC hsn
  go_enter Try.func26, Try.ntmps26
  go_wp2_with (fail)
  refine HSF.out.mono ?_
  rintro e w1 ⟨rfl, hb1⟩
  have HB1 : Hid (Below w.heap.size w w1) := hb1
  clear hb1 HSF
  by_cases hz0 : z = 0
  case neg =>
    have HE : Hid (C = z) := by unfold Hid; rw [HZ.out.2.2, csC, if_neg (by rw [← HZ.out.1]; exact hz0), HZ.out.1]
    go_wp2
    go_returns
    exact ⟨by rw [HE.out]; rfl, HB1.out⟩
  have HG : Hid (l.length ≤ 40 ∧ ∀ x ∈ l, bfK x.b = 0 ∧ 0 ≤ x.d ∧ x.d ≤ 1000) := shF_good (by rw [← HZ.out.1]; exact hz0)
  have HZ0 : Hid (shF l = 0) := by unfold Hid; rw [← HZ.out.1]; exact hz0
  subst hz0
  go_wp2_with (fail)
  refine (HSH.out _ HB1.out).mono ?_
  rintro e w2 ⟨rfl, hb2⟩
  have HB2 : Hid (Below w.heap.size w w2) := HB1.out.trans (hb2.mono HB1.out.size)
  clear hb2 HSH HB1
  by_cases hy0 : y = 0
  case neg =>
    have HE : Hid (C = y) := by unfold Hid; rw [HZ.out.2.2, csC, if_pos HZ0.out, if_neg (by rw [← HZ.out.2.1]; exact hy0), HZ.out.2.1]
    go_wp2
    go_returns
    exact ⟨by rw [HE.out]; rfl, HB2.out⟩
  have HY0 : Hid (shapeK s = 0) := by unfold Hid; rw [← HZ.out.2.1]; exact hy0
  have hn40 : n ≤ 40 := by rw [H.out.2.2.1]; exact HG.out.1
  have hm150 : m ≤ 150 := by rw [H.out.2.2.2]; exact (boxesK_zero (csK_zero HY0.out)).1
  subst hy0
  have HC : Hid (C = if tkB (boxesH l) l.length then 7 else if 0 < (opOf (takesK 3) (boxesH l) s).length then 3 else if 0 < (opOf (takesK 3) s (boxesH l)).length then 4 else 0) := by
    unfold Hid; rw [HZ.out.2.2, csC, if_pos HZ0.out, if_pos HY0.out]
  have HX0 : Hid ((∀ q ∈ boxesH l, q.x0 < q.x1) ∧ ∀ q ∈ s, q.x0 < q.x1) := by
    refine ⟨fun q hq => ?_, fun q hq => ((boxesK_zero (csK_zero HY0.out)).2 q hq).1⟩
    obtain ⟨x, hx, rfl⟩ := List.mem_map.1 hq
    exact (bfK_ok (HG.out.2 x hx).1).1
  go_wp2_with (fail)
  refine (impl_shotB (by rw [← H.out.2.2.1]; exact hn40) (H.out.1.below HB2.out)).mono ?_
  rintro e w3 ⟨v3, rfl, hs3, hb3⟩
  have hB : (boxesH l).length = n := by rw [boxesH_len, ← H.out.2.2.1]
  obtain ⟨oa, oc, hof⟩ := hs3.form
  rw [hB] at hof
  subst hof
  have HS3 : Hid (BS w3 w.heap.size (.slice oa n oc) (boxesH l) ∧ Below w.heap.size w w3) := ⟨hs3.low HB2.out.size, HB2.out.trans (hb3.mono HB2.out.size)⟩
  clear hs3 hb3 HB2 hB
  go_wp2
  go_loopw [24] (fun i wr => ∃ k : Nat, k ≤ n ∧ i = .int .i64 k ∧ Hid (BS wr w.heap.size (.slice oa n oc) (boxesH l) ∧ Below w.heap.size w wr ∧ ¬ tkB (boxesH l) k)) (fun i _ => n - (intOf i).toNat)
  case atStart => exact ⟨0, Nat.zero_le _, rfl, HS3.out.1, HS3.out.2, fun ⟨i, hi, _⟩ => by omega⟩
  case round =>
    clear HS3
    obtain ⟨k, hk, rfl, hR⟩ := hrel
    by_cases hlt : k < n
    · have hkl : k < l.length := by rw [← H.out.2.2.1]; exact hlt
      obtain ⟨g, cap, he, hB0, hg0, hj⟩ := hR.out.1.pos (by rw [boxesH_len, ← H.out.2.2.1]; omega)
      simp only [Value.slice.injEq] at he
      obtain ⟨rfl, hx1, rfl⟩ := he
      clear hx1
      obtain ⟨c0, c1, c2', c3⟩ := hj k (by rw [boxesH_len]; exact hkl)
      simp only [Nat.zero_add] at c0 c1 c2' c3
      obtain ⟨x, hx⟩ : ∃ x, x = bat (boxesH l) k := ⟨_, rfl⟩
      rw [← hx] at c0 c1 c2' c3
      obtain ⟨t, ht⟩ : ∃ t, t = meetL x ((boxesH l).take k) := ⟨_, rfl⟩
      have HX : Hid (x = bat (boxesH l) k ∧ t = meetL x ((boxesH l).take k)) := ⟨hx, ht⟩
      have hcap := hR.out.1.capS
      rw [boxesH_len, ← H.out.2.2.1] at hcap
      have hlen : ((boxesH l).take k).length = k := by rw [List.length_take, boxesH_len]; omega
      have HFR : Hid (∀ W, Below wr.heap.size wr W → RB W (.slice (some ⟨g, 0, none⟩) k oc) ((boxesH l).take k)) := fun W hW => by
        have e : boxesH l = (boxesH l).take k ++ (boxesH l).drop k := (List.take_append_drop k _).symm
        have h1 := hR.out.1.below hW
        rw [e] at h1
        have h2 := h1.front
        rw [hlen] at h2
        exact h2.rb
      obtain ⟨BX, hBX⟩ : ∃ BX, BX = Obj.cells #[.int .i64 x.x0, .int .i64 x.y0, .int .i64 x.x1, .int .i64 x.y1] 34 := ⟨_, rfl⟩
      have HCL : Hid (∀ X : Und (wr.alloc (.cells #[.int .i64 x.x0, .int .i64 x.y0, .int .i64 x.x1, .int .i64 x.y1] 34)).heap.size (wr.alloc (.cells #[.int .i64 x.x0, .int .i64 x.y0, .int .i64 x.x1, .int .i64 x.y1] 34)), Calls Try.prog 52 #[.agg #[.int .i64 x.x0, .int .i64 x.y0, .int .i64 x.x1, .int .i64 x.y1], .slice (some ⟨g, 0, none⟩) k oc] X.W fun e w' => e = .returned (.bool t) ∧ Below X.W.heap.size X.W w') := fun X => by
        rw [ht]
        exact impl_meets x (by rw [hlen]; omega) (HFR.out _ (((Below.refl _ _).alloc (Nat.le_refl _) _).trans (X.below.mono (by simp))))
      have HM : Hid (BS wr w.heap.size (.slice (some ⟨g, 0, none⟩) n oc) (boxesH l) ∧ Below w.heap.size w wr ∧ ¬ tkB (boxesH l) k) := hR.out
      have hsz := hR.out.2.1.size
      clear hx ht hj hR HFR hBX BX
      have b0 : (0 : Int) ≤ (k : Int) := by omega
      have b1 : (k : Int) < (n : Int) := by omega
      have b2 : (k : Int) ≤ (oc : Int) := by omega
      go_wp2_with (fail)
      (refine wp_region_und (by kernel_rfl) (by kernel_rfl) (fun hund => ?_); (repeat (go_big_quiet_step (first | (go_at_call 52; with_reducible refine und_call ?_ (HCL.out _); exact Nat.le_refl _)))); with_reducible refine wpQuiet_nil ?_; clear hund; intro W1 hb1; obtain ⟨hc1, hf1⟩ := bcell hb1)
      have hbw : Below wr.heap.size wr W1 := ((Below.refl _ _).alloc (Nat.le_refl _) _).trans (hb1.mono (by simp))
      have HM5 : Hid (BS W1 w.heap.size (.slice (some ⟨g, 0, none⟩) n oc) (boxesH l) ∧ Below w.heap.size w W1) := ⟨HM.out.1.below hbw, HM.out.2.1.trans (hbw.mono hsz)⟩
      clear hb1 hc1 hf1 c0 c1 c2' c3 hbw HCL
      cases t with
      | true =>
        have htk : tkB (boxesH l) l.length := ⟨k, hkl, by rw [← HX.out.1]; exact HX.out.2.symm⟩
        have HE : Hid (C = 7) := by unfold Hid; rw [HC.out, if_pos htk]
        clear htk HX HM
        go_wp2
        go_returns
        exact ⟨by rw [HE.out]; rfl, HM5.out.2⟩
      | false =>
        have HNT : Hid (¬ tkB (boxesH l) (k + 1)) := tkB_succ HM.out.2.2 (by rw [← HX.out.1]; exact HX.out.2.symm)
        clear HX HM
        go_wp2
        go_roundw
        case rel => exact ⟨k + 1, by omega, by go_num, HM5.out.1, HM5.out.2, HNT.out⟩
        case measure => simp [intOf]; omega
    · obtain rfl : k = n := by omega
      have HM : Hid (BS wr w.heap.size (.slice oa k oc) (boxesH l) ∧ Below w.heap.size w wr) := ⟨hR.out.1, hR.out.2.1⟩
      have HC2 : Hid (C = if 0 < (opOf (takesK 3) (boxesH l) s).length then 3 else if 0 < (opOf (takesK 3) s (boxesH l)).length then 4 else 0) := by
        unfold Hid; rw [HC.out, if_neg (by rw [← H.out.2.2.1]; exact hR.out.2.2)]
      obtain ⟨L1, hL1⟩ : ∃ L1, L1 = opOf (takesK 3) (boxesH l) s := ⟨_, rfl⟩
      obtain ⟨L2, hL2⟩ : ∃ L2, L2 = opOf (takesK 3) s (boxesH l) := ⟨_, rfl⟩
      have hsum : (boxesH l).length + s.length ≤ 100000 := by rw [boxesH_len, ← H.out.2.2.1, ← H.out.2.2.2]; omega
      have HO1 : Hid (Calls Try.prog 53 #[.slice oa k oc, .slice a2 m c2, .func (.func 54) #[] #[]] wr fun e w' => ∃ v', e = .returned v' ∧ BC w' wr.heap.size v' L1 ∧ Below wr.heap.size wr w') := by
        unfold Hid
        rw [hL1]
        exact impl_sweep impl_heights impl_edges word_alone rfl hsum HM.out.1.rb (H.out.2.1.below HM.out.2) HX0.out.1 HX0.out.2
      have HO2 : Hid (∀ W, Below wr.heap.size wr W → Calls Try.prog 53 #[.slice a2 m c2, .slice oa k oc, .func (.func 54) #[] #[]] W fun e w' => ∃ v', e = .returned v' ∧ BC w' W.heap.size v' L2 ∧ Below W.heap.size W w') := fun W hW => by
        rw [hL2]
        exact impl_sweep impl_heights impl_edges word_alone rfl (by omega) ((H.out.2.1.below HM.out.2).below hW) (HM.out.1.rb.below hW) HX0.out.2 HX0.out.1
      rw [← hL1, ← hL2] at HC2
      clear hR hL1 hL2 hsum HX0
      go_wp2_with (fail)
      refine HO1.out.mono ?_
      rintro e w5 ⟨v5, rfl, ho5, hb5⟩
      obtain ⟨a5, c5, hf5⟩ := ho5.rb.form
      subst hf5
      have HB5 : Hid (Below wr.heap.size wr w5) := hb5
      clear ho5 hb5 HO1
      by_cases h1 : (0 : Int) < (L1.length : Int)
      · have HE : Hid (C = 3) := by unfold Hid; rw [HC2.out, if_pos (by omega)]
        go_wp2
        go_returns
        exact ⟨by rw [HE.out]; rfl, HM.out.2.trans (HB5.out.mono HM.out.2.size)⟩
      have HC3 : Hid (C = if 0 < L2.length then 4 else 0) := by unfold Hid; rw [HC2.out, if_neg (by omega)]
      go_wp2_with (fail)
      refine (HO2.out _ HB5.out).mono ?_
      rintro e w6 ⟨v6, rfl, ho6, hb6⟩
      obtain ⟨a6, c6, hf6⟩ := ho6.rb.form
      subst hf6
      have HB6 : Hid (Below w.heap.size w w6) := (HM.out.2.trans (HB5.out.mono HM.out.2.size)).trans (hb6.mono (HM.out.2.trans (HB5.out.mono HM.out.2.size)).size)
      clear ho6 hb6 HO2
      by_cases h2 : (0 : Int) < (L2.length : Int)
      · have HE : Hid (C = 4) := by unfold Hid; rw [HC3.out, if_pos (by omega)]
        go_wp2
        go_returns
        exact ⟨by rw [HE.out]; rfl, HB6.out⟩
      have HE : Hid (C = 0) := by unfold Hid; rw [HC3.out, if_neg (by omega)]
      go_wp2
      go_returns
      exact ⟨by rw [HE.out]; rfl, HB6.out⟩

end Go.Proofs.Ytkbbhdnaemjamaa
