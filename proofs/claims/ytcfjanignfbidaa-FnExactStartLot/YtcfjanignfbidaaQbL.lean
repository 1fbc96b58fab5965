/- Proved here: BookFault of the program: bkF. -/
import Derived.Test.YtcfjanignfbidaaQbK
namespace Go.Proofs.Ytcfjanignfbidaa
open Go.RowKit Go.Maps
set_option linter.unusedVariables false
set_option linter.unusedSimpArgs false

theorem lp_make (w : World) : (Instr.makeMap 68 none).run Try.prog w = .ok (.map (some w.heap.size)) (w.alloc (.map #[] 0)) := by
  have h := run_underlying Try.underlying68 w
  simp [Instr.makeMap, h]
theorem loA_ok {b : Bk} {j : Nat} (hj : j < b.ls.length) (h : loA b j = 0) : (1 ≤ b.ls[j].id ∧ b.ls[j].id ≤ 1000000) ∧ b.ls[j].ws.length ≤ 25 := by
  unfold loA at h
  rw [show b.ls.getD j lo0 = b.ls[j] from by simp [List.getD, hj]] at h
  unfold loC at h
  split at h
  · rename_i g1
    split at h
    · cases h
    · split at h
      · cases h
      · rename_i g3
        exact ⟨g1.1, by omega⟩
  · cases h
theorem wbk_of {b : Bk} (h1 : b.ls.length ≤ 30) (h2 : frm (loA b) 0 (b.ls.length - 0) = 0) (h3 : b.sc.length ≤ 200) : WBk b :=
  ⟨h1, fun j hj => wf64 (by have := (loA_ok hj (frm_zero h2 j hj)).1; omega), fun j hj => (loA_ok hj (frm_zero h2 j hj)).2, h3⟩
theorem loA_is (b : Bk) {j : Nat} (hj : j < b.ls.length) : loC b.st (fun x => (plF b.ls j x).isSome) b.ls[j] = loA b j := by
  unfold loA
  rw [show b.ls.getD j lo0 = b.ls[j] from by simp [List.getD, hj]]
  congr 1
  funext x
  exact plF_some b.ls j x
structure KBk (b : Bk) (K : Int) (wn ln xn : Nat) (K1 K2 : Int) : Prop where
  a1 : ¬ (1 ≤ b.st ∧ b.st ≤ 40) → K = 3
  a2 : (1 ≤ b.st ∧ b.st ≤ 40) → (10 < wn ∨ 30 < ln) → K = 2
  a3 : (1 ≤ b.st ∧ b.st ≤ 40) → ¬ (10 < wn ∨ 30 < ln) → K1 ≠ 0 → K = K1
  a4 : (1 ≤ b.st ∧ b.st ≤ 40) → ¬ (10 < wn ∨ 30 < ln) → K1 = 0 → K2 ≠ 0 → K = K2
  a5 : (1 ≤ b.st ∧ b.st ≤ 40) → ¬ (10 < wn ∨ 30 < ln) → K1 = 0 → K2 = 0 → 200 < xn → K = 2
  a6 : (1 ≤ b.st ∧ b.st ≤ 40) → ¬ (10 < wn ∨ 30 < ln) → K1 = 0 → K2 = 0 → ¬ 200 < xn → K = wfC [] (alL b)
theorem kbk (b : Bk) : KBk b (bkF b) b.wn.length b.ls.length b.sc.length (frm (wdA b) 0 (b.wn.length - 0)) (frm (loA b) 0 (b.ls.length - 0)) := by
  unfold bkF
  exact ⟨fun h => by rw [if_neg h], fun h h2 => by rw [if_pos h, if_pos h2], fun h h2 h3 => by rw [if_pos h, if_neg h2, if_pos h3], fun h h2 h3 h4 => by rw [if_pos h, if_neg h2, if_neg (fun e => e h3), if_pos h4],
    fun h h2 h3 h4 h5 => by rw [if_pos h, if_neg h2, if_neg (fun e => e h3), if_neg (fun e => e h4), if_pos h5], fun h h2 h3 h4 h5 => by rw [if_pos h, if_neg h2, if_neg (fun e => e h3), if_neg (fun e => e h4), if_neg h5]⟩

set_option maxRecDepth 10000 in
set_option maxHeartbeats 6400000 in
theorem impl_bf {st : Int} {w : World} {vw vl vs : Value} {b : Bk} (hst : b.st = st) (hs : smBk 1048576 b) (h : RdBk w vw vl vs b) :
    Calls Try.prog 70 #[.agg #[.int .i64 st, vw, vl, vs]] w fun e w' => e = .returned (.int .i64 (bkF b)) ∧ Below w.heap.size w w' := by
  obtain ⟨wa, wc, e1⟩ := h.wn.form
  obtain ⟨la, lc, e2⟩ := h.ls.form
  obtain ⟨xa, xc, e3⟩ := h.sc.form
  subst e1 e2 e3
  have HK0 := kbk b
  obtain ⟨wn, hwn⟩ : ∃ n, n = b.wn.length := ⟨_, rfl⟩
  obtain ⟨ln, hln⟩ : ∃ n, n = b.ls.length := ⟨_, rfl⟩
  obtain ⟨xn, hxn⟩ : ∃ n, n = b.sc.length := ⟨_, rfl⟩
  obtain ⟨K, hK⟩ : ∃ K, K = bkF b := ⟨_, rfl⟩
  obtain ⟨K1, hK1⟩ : ∃ K, K = frm (wdA b) 0 (wn - 0) := ⟨_, rfl⟩
  obtain ⟨K2, hK2⟩ : ∃ K, K = frm (loA b) 0 (ln - 0) := ⟨_, rfl⟩
  rw [← hwn, ← hln, ← hxn] at h HK0 ⊢
  rw [← hK, ← hK1, ← hK2] at HK0
  rw [← hK]
  have H : Hid (RdBk w (.slice wa wn wc) (.slice la ln lc) (.slice xa xn xc) b ∧ smBk 1048576 b ∧ wn = b.wn.length ∧ ln = b.ls.length ∧ xn = b.sc.length ∧ b.st = st ∧ K2 = frm (loA b) 0 (ln - 0)) := ⟨h, hs, hwn, hln, hxn, hst, hK2⟩
  have HK : Hid (KBk b K wn ln xn K1 K2) := HK0
  have hsz : wn ≤ 1048576 ∧ ln ≤ 1048576 ∧ xn ≤ 1048576 := by have := hs.wn; have := hs.ls; have := hs.sc; omega
  have HF1 : Hid (frm (wdA b) 0 (wn - 0) = K1) := hK1.symm
  have HI : Hid (∀ W q, q = decide (1 ≤ st ∧ st ≤ 40) → Calls Try.prog 62 #[.int .i64 st, .int .i64 1, .int .i64 40] W fun e w' => e = .returned (.bool q) ∧ w' = W) := fun W q hq => impl_insC st 1 40 q hq W
  clear h hs hwn hln hxn hK hK1 hK2 HK0
  by_cases h1 : 1 ≤ st ∧ st ≤ 40
  case neg =>
    have HR : Hid (K = 3) := HK.out.a1 (by rw [hst]; exact h1)
    have HD : Hid (false = decide (1 ≤ st ∧ st ≤ 40)) := by unfold Hid; rw [decide_eq_false h1]
    clear HK h1 hst
    go_enter Try.func70, Try.ntmps70
    go_wp2_with (fail)
    refine (HI.out _ false HD.out).mono ?_
    rintro e w2 ⟨rfl, hw2⟩
    subst w2
    go_wp2
    go_returns
    exact ⟨by rw [HR.out]; rfl, by (repeat' (first | (with_reducible exact Below.refl _ _) | (with_reducible assumption) | (with_reducible refine Below.setCell ?_ ?_ _) | (with_reducible refine Below.alloc ?_ ?_ _) | (with_reducible refine below_drewN ?_ _) | (with_reducible refine Below.drew ?_) | (with_reducible exact Nat.le_refl _) | omega | (simp; done) | (simp; omega)))⟩
  have HD : Hid (true = decide (1 ≤ st ∧ st ≤ 40)) := by unfold Hid; rw [decide_eq_true h1]
  have HA : Hid (1 ≤ b.st ∧ b.st ≤ 40) := by unfold Hid; rw [hst]; exact h1
  clear h1 hst
  by_cases h2 : (10 : Int) < (wn : Int)
  · have HR : Hid (K = 2) := HK.out.a2 HA.out (by omega)
    clear HK
    go_enter Try.func70, Try.ntmps70
    go_wp2_with (fail)
    refine (HI.out _ true HD.out).mono ?_
    rintro e w2 ⟨rfl, hw2⟩
    subst w2
    go_wp2
    go_returns
    exact ⟨by rw [HR.out]; rfl, by (repeat' (first | (with_reducible exact Below.refl _ _) | (with_reducible assumption) | (with_reducible refine Below.setCell ?_ ?_ _) | (with_reducible refine Below.alloc ?_ ?_ _) | (with_reducible refine below_drewN ?_ _) | (with_reducible refine Below.drew ?_) | (with_reducible exact Nat.le_refl _) | omega | (simp; done) | (simp; omega)))⟩
  by_cases h3 : (30 : Int) < (ln : Int)
  · have HR : Hid (K = 2) := HK.out.a2 HA.out (by omega)
    clear HK
    go_enter Try.func70, Try.ntmps70
    go_wp2_with (fail)
    refine (HI.out _ true HD.out).mono ?_
    rintro e w2 ⟨rfl, hw2⟩
    subst w2
    go_wp2
    go_returns
    exact ⟨by rw [HR.out]; rfl, by (repeat' (first | (with_reducible exact Below.refl _ _) | (with_reducible assumption) | (with_reducible refine Below.setCell ?_ ?_ _) | (with_reducible refine Below.alloc ?_ ?_ _) | (with_reducible refine below_drewN ?_ _) | (with_reducible refine Below.drew ?_) | (with_reducible exact Nat.le_refl _) | omega | (simp; done) | (simp; omega)))⟩
  have HB : Hid (¬ (10 < wn ∨ 30 < ln)) := by unfold Hid; omega
  obtain ⟨W, hW⟩ : ∃ W, W = w.alloc (.cells #[.int .i64 st, .slice wa wn wc, .slice la ln lc, .slice xa xn xc] 31) := ⟨_, rfl⟩
  have HW : Hid (Below w.heap.size w W ∧ W.heap[w.heap.size]? = some (.cells #[.int .i64 st, .slice wa wn wc, .slice la ln lc, .slice xa xn xc] 31)) := by rw [hW]; exact ⟨by (repeat' (first | (with_reducible exact Below.refl _ _) | (with_reducible assumption) | (with_reducible refine Below.setCell ?_ ?_ _) | (with_reducible refine Below.alloc ?_ ?_ _) | (with_reducible refine below_drewN ?_ _) | (with_reducible refine Below.drew ?_) | (with_reducible exact Nat.le_refl _) | omega | (simp; done) | (simp; omega))), heap_alloc_new _ _⟩
  go_enter Try.func70, Try.ntmps70
  go_wp2_with (fail)
  refine (HI.out _ true HD.out).mono ?_
  rintro e w2 ⟨rfl, hw2⟩
  subst w2
  clear HI HD
  go_wp2
  rw [← hW]
  clear hW
  go_loopw [29] (fun i wr => ∃ j : Nat, j ≤ wn ∧ i = .int .i64 j ∧ Hid (frm (wdA b) j (wn - j) = K1 ∧ wr.heap[w.heap.size]? = some (.cells #[.int .i64 st, .slice wa wn wc, .slice la ln lc, .slice xa xn xc] 31) ∧ Below w.heap.size w wr)) (fun i _ => wn - (intOf i).toNat)
  case atStart => exact ⟨0, Nat.zero_le _, rfl, HF1.out, HW.out.2, HW.out.1⟩
  case round =>
    clear HW HF1
    obtain ⟨j, hjn, rfl, hR⟩ := hrel
    by_cases hlt : j < wn
    · have hjl : j < b.wn.length := by rw [← H.out.2.2.1]; exact hlt
      obtain ⟨g, o, c2, he, hg, hj⟩ := (H.out.1.wn.below hR.out.2.2).pos (by omega)
      simp only [Value.slice.injEq] at he
      obtain ⟨rfl, hx1, hx2⟩ := he
      clear hx1 hx2
      obtain ⟨c0, c1, c2'⟩ := wdC_at (hj j hjl)
      obtain ⟨x, hx⟩ : ∃ x, x = b.wn[j] := ⟨_, rfl⟩
      rw [← hx] at c0 c1 c2'
      obtain ⟨t, ht⟩ : ∃ t, t = wdK st x := ⟨_, rfl⟩
      have hta : wdA b j = t := by rw [ht, hx]; unfold wdA; rw [H.out.2.2.2.2.2.1, show b.wn.getD j ⟨0, 0, 0⟩ = b.wn[j] from by simp [List.getD, hjl]]
      have HC : Hid (∀ V, Calls Try.prog 82 #[.agg #[.int .i64 x.f, .int .i64 x.t, .int .i64 x.m], .int .i64 st] V fun e w' => e = .returned (.int .i64 t) ∧ Below V.heap.size V w') := fun V => by rw [ht]; exact impl_wdf x st V
      have HS : Hid ((t ≠ 0 → K1 = t) ∧ (t = 0 → frm (wdA b) (j + 1) (wn - (j + 1)) = K1)) := ⟨fun h => by rw [← hR.out.1]; exact frm_hit hlt hta h, fun h => by rw [← hR.out.1]; exact (frm_miss hlt (hta.trans h)).symm⟩
      have p0 := cellOfQ hR.out.2.1 0 rfl
      have pl := ltOfQ hR.out.2.1
      clear hj ht hta hx hjl
      have b0 : (0 : Int) ≤ (j : Int) := by omega
      have b1 : (j : Int) < (wn : Int) := by omega
      go_wp2_with (fail)
      obtain ⟨V, hV⟩ : ∃ V, V = wr.alloc (.cells #[.int .i64 x.f, .int .i64 x.t, .int .i64 x.m] 99) := ⟨_, rfl⟩
      have HV : Hid (Below wr.heap.size wr V) := by unfold Hid; rw [hV]; (repeat' (first | (with_reducible exact Below.refl _ _) | (with_reducible assumption) | (with_reducible refine Below.setCell ?_ ?_ _) | (with_reducible refine Below.alloc ?_ ?_ _) | (with_reducible refine below_drewN ?_ _) | (with_reducible refine Below.drew ?_) | (with_reducible exact Nat.le_refl _) | omega | (simp; done) | (simp; omega)))
      rw [← hV]
      clear hV
      refine (HC.out V).mono ?_
      rintro e w3 ⟨rfl, hb3⟩
      have HN : Hid (w3.heap[w.heap.size]? = some (.cells #[.int .i64 st, .slice (some ⟨g, o, none⟩) wn wc, .slice la ln lc, .slice xa xn xc] 31) ∧ Below w.heap.size w w3) := by
        have hbb : Below wr.heap.size wr w3 := HV.out.trans (hb3.mono HV.out.size)
        exact ⟨(hbb.block _ (ltOfQ hR.out.2.1)).trans hR.out.2.1, hR.out.2.2.trans (hbb.mono hR.out.2.2.size)⟩
      clear hb3 HV HC hR c0 c1 c2' p0 pl
      by_cases ht0 : t = 0
      · have HQ : Hid (frm (wdA b) (j + 1) (wn - (j + 1)) = K1) := HS.out.2 ht0
        subst ht0
        clear HS hg
        go_wp2
        go_roundw
        case rel => exact ⟨j + 1, by omega, by go_num, HQ.out, HN.out⟩
        case measure => simp [intOf]; omega
      · have HR : Hid (K = t) := by
          have h9 := HS.out.1 ht0
          exact (HK.out.a3 HA.out HB.out (by rw [h9]; exact ht0)).trans h9
        have ht1 : (t == 0) = false := beq_eq_false_iff_ne.2 ht0
        clear HS hg HK
        go_wp2
        go_returns
        exact ⟨by rw [HR.out]; rfl, HN.out.2⟩
    · obtain rfl : j = wn := by omega
      have HK1 : Hid (K1 = 0) := by have e := hR.out.1; rw [frm_end] at e; exact e.symm
      have hmk := lp_make
      have hsz9 := hR.out.2.2.size
      obtain ⟨M, hM⟩ : ∃ M, M = wr.heap.size := ⟨_, rfl⟩
      obtain ⟨V, hV⟩ : ∃ V, V = wr.alloc (.map #[] 0) := ⟨_, rfl⟩
      have HV : Hid (Below w.heap.size w V ∧ V.heap[w.heap.size]? = some (.cells #[.int .i64 st, .slice wa j wc, .slice la ln lc, .slice xa xn xc] 31) ∧ IM 3 V M 0 (plF b.ls 0) ∧ w.heap.size < M) := by
        rw [hV, hM]
        refine ⟨hR.out.2.2.trans (by (repeat' (first | (with_reducible exact Below.refl _ _) | (with_reducible assumption) | (with_reducible refine Below.setCell ?_ ?_ _) | (with_reducible refine Below.alloc ?_ ?_ _) | (with_reducible refine below_drewN ?_ _) | (with_reducible refine Below.drew ?_) | (with_reducible exact Nat.le_refl _) | omega | (simp; done) | (simp; omega)))), (Below.heap_alloc _ _ _ (ltOfQ hR.out.2.1)).trans hR.out.2.1, IM.made 3 wr, ltOfQ hR.out.2.1⟩
      have p2 := cellOfQ hR.out.2.1 2 rfl
      have pl := ltOfQ hR.out.2.1
      have HF2 : Hid (frm (loA b) 0 (ln - 0) = K2) := H.out.2.2.2.2.2.2.symm
      clear hR
      go_wp2
      rw [← hV, ← hM]
      clear hV hM hmk p2 pl hsz9
      go_loopw [45] (fun i wq => ∃ k : Nat, k ≤ ln ∧ i = .int .i64 k ∧ Hid (frm (loA b) k (ln - k) = K2 ∧ wq.heap[w.heap.size]? = some (.cells #[.int .i64 st, .slice wa j wc, .slice la ln lc, .slice xa xn xc] 31) ∧ IM 3 wq M k (plF b.ls k) ∧ Below w.heap.size w wq)) (fun i _ => ln - (intOf i).toNat)
      case atStart => exact ⟨0, Nat.zero_le _, rfl, HF2.out, HV.out.2.1, HV.out.2.2.1, HV.out.1⟩
      case round =>
        have HM : Hid (w.heap.size < M) := HV.out.2.2.2
        clear HV HF2
        rename_i wr0 _
        obtain ⟨k, hkn, rfl, hR⟩ := hrel
        by_cases hlt2 : k < ln
        · have hkl : k < b.ls.length := by rw [← H.out.2.2.2.1]; exact hlt2
          obtain ⟨g, o, c2, he, hg, x, hx, c0, c1, c2', c3, c4⟩ := (H.out.1.ls.below hR.out.2.2.2).at hkl
          simp only [Value.slice.injEq] at he
          obtain ⟨rfl, hx1, hx2⟩ := he
          clear hx1 hx2
          obtain ⟨t, ht⟩ : ∃ t, t = loA b k := ⟨_, rfl⟩
          have HC : Hid (∀ V, Below (wr.heap.size) wr V → Calls Try.prog 83 #[.agg #[.int .i64 x.id, .int .i64 x.pa, .slice x.wa x.wn x.wc, .bool x.hd, .slice x.da x.dn x.dc], .int .i64 st, .map (some M)] V fun e w' => e = .returned (.int .i64 t) ∧ Below V.heap.size V w') := fun V hV => by
            rw [ht, ← loA_is b hkl, H.out.2.2.2.2.2.1]
            exact impl_lof x b.ls[k] st (H.out.2.1.at_ k hkl) (hx.below hV) (hR.out.2.2.1.below hV)
          have HS : Hid ((t ≠ 0 → K2 = t) ∧ (t = 0 → frm (loA b) (k + 1) (ln - (k + 1)) = K2)) := ⟨fun h => by rw [← hR.out.1]; exact frm_hit hlt2 ht.symm h, fun h => by rw [← hR.out.1]; exact (frm_miss hlt2 (ht.symm.trans h)).symm⟩
          have HX : Hid (x.id = b.ls[k].id ∧ t = loA b k) := ⟨hx.id, ht⟩
          have p0 := cellOfQ hR.out.2.1 0 rfl
          have pl := ltOfQ hR.out.2.1
          clear ht hx
          have b0 : (0 : Int) ≤ (k : Int) := by omega
          have b1 : (k : Int) < (ln : Int) := by omega
          go_wp2_with (fail)
          obtain ⟨L, hL⟩ : ∃ L, L = wr.heap.size := ⟨_, rfl⟩
          obtain ⟨V, hV⟩ : ∃ V, V = wr.alloc (.cells #[.int .i64 x.id, .int .i64 x.pa, .slice x.wa x.wn x.wc, .bool x.hd, .slice x.da x.dn x.dc] 61) := ⟨_, rfl⟩
          have HV : Hid (Below wr.heap.size wr V ∧ V.heap[L]? = some (.cells #[.int .i64 x.id, .int .i64 x.pa, .slice x.wa x.wn x.wc, .bool x.hd, .slice x.da x.dn x.dc] 61)) := by rw [hV, hL]; exact ⟨by (repeat' (first | (with_reducible exact Below.refl _ _) | (with_reducible assumption) | (with_reducible refine Below.setCell ?_ ?_ _) | (with_reducible refine Below.alloc ?_ ?_ _) | (with_reducible refine below_drewN ?_ _) | (with_reducible refine Below.drew ?_) | (with_reducible exact Nat.le_refl _) | omega | (simp; done) | (simp; omega))), heap_alloc_new _ _⟩
          rw [← hV, ← hL]
          refine (HC.out V HV.out.1).mono ?_
          rintro e w3 ⟨rfl, hb3⟩
          have hbb : Below wr.heap.size wr w3 := HV.out.1.trans (hb3.mono HV.out.1.size)
          have HN : Hid (w3.heap[w.heap.size]? = some (.cells #[.int .i64 st, .slice wa j wc, .slice (some ⟨g, o, none⟩) ln lc, .slice xa xn xc] 31) ∧ Below w.heap.size w w3 ∧ IM 3 w3 M k (plF b.ls k)) :=
            ⟨(hbb.block _ (ltOfQ hR.out.2.1)).trans hR.out.2.1, hR.out.2.2.2.trans (hbb.mono hR.out.2.2.2.size), hR.out.2.2.1.below hbb⟩
          have kL := (hb3.block _ (ltOfQ HV.out.2)).trans HV.out.2
          have q0 := cellOfQ kL 0 rfl
          have ql := ltOfQ kL
          clear hb3 hbb HV HC hV hL kL hR c0 c1 c2' c3 c4 p0 pl hg
          by_cases ht0 : t = 0
          · have HQ : Hid (frm (loA b) (k + 1) (ln - (k + 1)) = K2) := HS.out.2 ht0
            have hok := loA_ok hkl (HX.out.2.symm.trans ht0)
            have hxw : (Lit.int .i64 x.id).wf = true := wf64 (by rw [HX.out.1]; have := hok.1; omega)
            have hkw : (Lit.int .i64 (k : Int)).wf = true := wf64 (by have := HB.out; omega)
            obtain ⟨w4, hu, hI4, hg4⟩ := HN.out.2.2.put lp_ty in_ty (by have := HB.out; omega) hxw hkw
            have HP : Hid (w4.heap[w.heap.size]? = some (.cells #[.int .i64 st, .slice wa j wc, .slice (some ⟨g, o, none⟩) ln lc, .slice xa xn xc] 31) ∧ IM 3 w4 M (k + 1) (plF b.ls (k + 1)) ∧ Below w.heap.size w w4) := by
              refine ⟨(hg4.block _ (ltOfQ HN.out.1) (fun e => by injection e with e; have := HM.out; omega)).trans HN.out.1, hI4.conv fun q => ?_, HN.out.2.1.grown hg4 HN.out.2.1.size (fun q hq => by injection hq with hq; have := HM.out; omega)⟩
              show _ = (if idA b.ls k = q then some (k : Int) else plF b.ls k q)
              rw [idA_at hkl, HX.out.1]
            subst ht0
            clear HS hok hI4 hg4 HN hxw hkw HX hkl
            go_wp2
            go_roundw
            case rel => exact ⟨k + 1, by omega, by go_num, HQ.out, HP.out⟩
            case measure => simp [intOf]; omega
          · have HR : Hid (K = t) := by
              have h9 := HS.out.1 ht0
              exact (HK.out.a4 HA.out HB.out HK1.out (by rw [h9]; exact ht0)).trans h9
            have ht1 : (t == 0) = false := beq_eq_false_iff_ne.2 ht0
            clear HS HK HX hkl q0 ql
            go_wp2
            go_returns
            exact ⟨by rw [HR.out]; rfl, HN.out.2.1⟩
        · obtain rfl : k = ln := by omega
          have HK2 : Hid (K2 = 0) := by have e := hR.out.1; rw [frm_end] at e; exact e.symm
          obtain ⟨p0, p1, p2, p3, pl⟩ : wr.cell? ⟨w.heap.size, 0, none⟩ = some (.int .i64 st) ∧ wr.cell? ⟨w.heap.size, 1, none⟩ = some (.slice wa j wc) ∧ wr.cell? ⟨w.heap.size, 2, none⟩ = some (.slice la k lc) ∧ wr.cell? ⟨w.heap.size, 3, none⟩ = some (.slice xa xn xc) ∧ w.heap.size < wr.heap.size := ⟨cellOfQ hR.out.2.1 0 rfl, cellOfQ hR.out.2.1 1 rfl, cellOfQ hR.out.2.1 2 rfl, cellOfQ hR.out.2.1 3 rfl, ltOfQ hR.out.2.1⟩
          by_cases h4 : (200 : Int) < (xn : Int)
          · have HR : Hid (K = 2) := HK.out.a5 HA.out HB.out HK1.out HK2.out (by omega)
            clear HK
            go_wp2
            go_returns
            exact ⟨by rw [HR.out]; rfl, hR.out.2.2.2⟩
          · have HR : Hid (K = wfC [] (alL b)) := HK.out.a6 HA.out HB.out HK1.out HK2.out (by omega)
            have hwb : WBk b := wbk_of (by rw [← H.out.2.2.2.1]; have := HB.out; omega) (by rw [← H.out.2.2.2.1]; exact H.out.2.2.2.2.2.2.symm.trans HK2.out) (by rw [← H.out.2.2.2.2.1]; omega)
            have HC : Hid (Calls Try.prog 44 #[.agg #[.int .i64 st, .slice wa j wc, .slice la k lc, .slice xa xn xc]] wr fun e w' => ∃ bm : Nat, e = .returned (.tuple #[.map (some bm), .int .i64 K]) ∧ Below wr.heap.size wr w') := by
              rw [HR.out]
              exact (impl_wlo st hwb (H.out.1.below hR.out.2.2.2)).mono fun e w' ⟨bm, h1, _, _, h4⟩ => ⟨bm, h1, h4⟩
            have HB9 : Hid (Below w.heap.size w wr) := hR.out.2.2.2
            clear HK HR hR hwb
            go_wp2_with (fail)
            refine HC.out.mono ?_
            rintro e w3 ⟨bm, rfl, hb3⟩
            have HN : Hid (Below w.heap.size w w3) := HB9.out.trans (hb3.mono HB9.out.size)
            clear hb3 HC p0 p1 p2 p3 pl
            go_wp2
            go_returns
            exact ⟨rfl, HN.out⟩

end Go.Proofs.Ytcfjanignfbidaa
