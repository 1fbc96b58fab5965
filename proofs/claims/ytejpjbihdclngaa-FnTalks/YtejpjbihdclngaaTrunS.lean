/- Proved here: RunTalk of the model: rnC, rnK, rnL. -/
import Derived.Test.YtejpjbihdclngaaTrunM
import Derived.Test.YtejpjbihdclngaaTkS
import Derived.Deep.DeepCutAuto
import Derived.Deep.Cut
namespace Go.Proofs.Ytejpjbihdclngaa
open Go.RowKit Go.Maps
set_option linter.unusedVariables false
set_option linter.unusedSimpArgs false

set_option maxRecDepth 10000 in
set_option maxHeartbeats 3200000 in
theorem spec_rn {w : World} {v : Value} {s : List Int} (hn : s.length ≤ 1048576) (h : RdI w v s) :
    Calls Try.prog 12 #[v] w fun e w' => ∃ (v : Value) (_ : Unit), e = .returned (.agg #[.int .i64 (rnC s), .int .i64 (rnK s).p, .int .i64 (rnK s).t, .int .i64 (rnK s).w, v]) ∧ IS w' w.heap.size v (rnL s) ∧ Below w.heap.size w w' := by
  obtain ⟨i0, hi, hz0, hz1, hz2⟩ := info_parts info_i64
  obtain ⟨a, c, rfl⟩ := h.form
  obtain ⟨n, hnn⟩ : ∃ n, n = s.length := ⟨_, rfl⟩
  rw [← hnn] at hn h ⊢
  by_cases h8 : (200 : Int) < (n : Int)
  · have h9 : 200 < s.length := by omega
    rw [rnC, rnK, rnL, if_pos h9, if_pos h9, if_pos h9]
    go_enter Try.func12, Try.ntmps12
    go_wp2
    go_returns
    exact ⟨_, (), rfl, rn_nil _ _, by (repeat' (first | (with_reducible exact Below.refl _ _) | (with_reducible assumption) | (with_reducible refine Below.setCell ?_ ?_ _) | (with_reducible refine Below.alloc ?_ ?_ _) | (with_reducible refine below_drewN ?_ _) | (with_reducible refine Below.drew ?_) | (with_reducible exact Nat.le_refl _) | omega | (simp; done) | (simp; omega)))⟩
  have h9 : ¬ 200 < s.length := by omega
  have hn2 : n ≤ 200 := by omega
  rw [rnC, rnK, rnL, if_neg h9, if_neg h9, if_neg h9]
  obtain ⟨KE, hKE⟩ : ∃ K, K = tkR s s.length := ⟨_, rfl⟩
  obtain ⟨LL, hLL⟩ : ∃ L, L = tkL s s.length := ⟨_, rfl⟩
  rw [← hKE, ← hLL]
  have H : Hid (RdI w (.slice a n c) s ∧ n = s.length ∧ KE = tkR s s.length ∧ LL = tkL s s.length) := ⟨h, hnn, hKE, hLL⟩
  clear h hnn hKE hLL h9 hn
  obtain ⟨W0, hW0⟩ : ∃ W, W = (w.alloc (.cells #[.int .i64 0, .int .i64 0, .int .i64 0, .int .i64 0, .slice none 0 0] 29)).alloc (.cells #[.int .i64 0, .int .i64 0, .int .i64 0, .int .i64 0, .slice none 0 0] 29) := ⟨_, rfl⟩
  have HS : Hid (RnT w W0 (.slice none 0 0) ⟨0, 0, 0⟩ []) := by
    rw [hW0]
    refine ⟨by (repeat' (first | (with_reducible exact Below.refl _ _) | (with_reducible assumption) | (with_reducible refine Below.setCell ?_ ?_ _) | (with_reducible refine Below.alloc ?_ ?_ _) | (with_reducible refine below_drewN ?_ _) | (with_reducible refine Below.drew ?_) | (with_reducible exact Nat.le_refl _) | omega | (simp; done) | (simp; omega))), (Below.heap_alloc _ _ _ (by simp)).trans (heap_alloc_new w _), ?_, rn_nil _ _⟩
    have := heap_alloc_new (w.alloc (.cells #[.int .i64 0, .int .i64 0, .int .i64 0, .int .i64 0, .slice none 0 0] 29)) (.cells #[.int .i64 0, .int .i64 0, .int .i64 0, .int .i64 0, .slice none 0 0] 29)
    simpa using this
  go_enter Try.func12, Try.ntmps12
  go_upto_region 4 with fail
  rw [← hW0]
  clear hW0
  go_wp2
  go_loopw [4] (fun i wr => ∃ (k : Nat) (v : Value), k ≤ n ∧ i = .int .i64 k ∧ Hid (RnT w wr v (tkR s k) (tkL s k))) (fun i _ => n - (intOf i).toNat)
  case atStart => exact ⟨0, _, Nat.zero_le _, rfl, HS.out⟩
  case round =>
    clear HS
    obtain ⟨k, v, hk, rfl, hQ⟩ := hrel
    obtain ⟨cur, hcur⟩ : ∃ c, c = tkL s k := ⟨_, rfl⟩
    obtain ⟨⟨p, t, q⟩, hpt⟩ : ∃ c, c = tkR s k := ⟨_, rfl⟩
    obtain ⟨m, hm⟩ : ∃ m, m = cur.length := ⟨_, rfl⟩
    rw [← hcur, ← hpt] at hQ
    obtain ⟨va, vc, hvf⟩ := hQ.out.li.form
    rw [← hm] at hvf
    subst hvf
    have hmb : m ≤ 200 := by rw [hm, hcur]; have := tkL_len s k; omega
    have hok : TkOk ⟨p, t, q⟩ := by rw [hpt]; exact tkR_ok s k
    have HC2 : Hid (m = cur.length ∧ cur = tkL s k ∧ ⟨p, t, q⟩ = tkR s k) := ⟨hm, hcur, hpt⟩
    have HQ : Hid (RnT w wr (.slice va m vc) ⟨p, t, q⟩ cur) := hQ.out
    clear hm hcur hpt hQ
    by_cases hlt : k < n
    · have hkl : k < s.length := by rw [← H.out.2.1]; exact hlt
      obtain ⟨g, o, c2, he, hg, hj⟩ := (H.out.1.below HQ.out.bl).ri (by omega)
      simp only [Value.slice.injEq] at he
      obtain ⟨rfl, hx1, hx2⟩ := he
      clear hx1 hx2
      have c0 := hj k hkl
      obtain ⟨x, hx⟩ : ∃ x, x = s.getD k 0 := ⟨_, rfl⟩
      rw [← hx] at c0
      obtain ⟨⟨⟨p2, t2, q2⟩, B2⟩, hN⟩ : ∃ K, K = tkN ⟨p, t, q⟩ x := ⟨_, rfl⟩
      have HTS : Hid (∀ W, Calls Try.prog 33 #[.agg #[.int .i64 p, .int .i64 t, .int .i64 q], .int .i64 x] W fun r w' => r = .returned (.agg #[.int .i64 p2, .int .i64 t2, .int .i64 q2, .bool B2]) ∧ Below W.heap.size W w') := fun W => by
        have h1 := spec_tk p t q x (by have := hok; unfold TkOk at this; simp only [] at this; omega) (by have := hok; unfold TkOk at this; simp only [] at this; omega) W
        rw [← hN] at h1; exact h1
      have HST : Hid (⟨p2, t2, q2⟩ = tkR s (k + 1) ∧ tkL s (k + 1) = if B2 = true then cur ++ [(k : Int)] else cur) := by
        have h1 : tkR s (k + 1) = (tkN (tkR s k) (s.getD k 0)).1 := rfl
        have h2 : tkL s (k + 1) = if (tkN (tkR s k) (s.getD k 0)).2 = true then tkL s k ++ [(k : Int)] else tkL s k := rfl
        rw [← HC2.out.2.2, ← hx, ← hN] at h1 h2
        rw [← HC2.out.2.1] at h2
        exact ⟨h1.symm, h2⟩
      clear hx hj hN hok
      have b0 : (0 : Int) ≤ (k : Int) := by omega
      have b1 : (k : Int) < (n : Int) := by omega
      obtain ⟨r0, r1, r2, r3, r4, rf0, rf1, rf2, rf3, rf4, rl⟩ := five_R (HQ.out.bk)
      go_wp2_with (fail)
      refine wp_region_float (by kernel_rfl) (fun hS => ?_)
      refine fl_take (i := 0) (d := 17) (v := .pointer (some ⟨w.heap.size + 1, 1, none⟩)) rfl rfl rfl (by kernel_rfl) (by kernel_rfl) (by kernel_rfl) hS ?_ ?_
      · intro w' hk; go_simp
      simp only [Act.put, List.setIfInBounds_toArray, List.set_cons_zero, List.set_cons_succ]
      refine fl_take (i := 1) (d := 18) (v := .agg #[.int .i64 p, .int .i64 t, .int .i64 q]) rfl rfl rfl (by kernel_rfl) (by kernel_rfl) (by kernel_rfl) hS ?_ ?_
      · intro w' hk; go_simp
      simp only [Act.put, List.setIfInBounds_toArray, List.set_cons_zero, List.set_cons_succ]
      refine fl_take (i := 2) (d := 19) (v := .slice (some ⟨g, o, none⟩) n c) rfl rfl rfl (by kernel_rfl) (by kernel_rfl) (by kernel_rfl) hS ?_ ?_
      · intro w' hk; go_simp
      simp only [Act.put, List.setIfInBounds_toArray, List.set_cons_zero, List.set_cons_succ]
      refine fl_take (i := 3) (d := 20) (v := .int .i64 k) rfl rfl rfl (by kernel_rfl) (by kernel_rfl) (by kernel_rfl) hS ?_ ?_
      · intro w' hk; go_simp
      simp only [Act.put, List.setIfInBounds_toArray, List.set_cons_zero, List.set_cons_succ]
      refine fl_take (i := 4) (d := 21) (v := .pointer (some ⟨g, o + k, none⟩)) rfl rfl rfl (by kernel_rfl) (by kernel_rfl) (by kernel_rfl) hS ?_ ?_
      · intro w' hk; go_simp
      simp only [Act.put, List.setIfInBounds_toArray, List.set_cons_zero, List.set_cons_succ]
      refine fl_take (i := 5) (d := 22) (v := .int .i64 x) rfl rfl rfl (by kernel_rfl) (by kernel_rfl) (by kernel_rfl) hS ?_ ?_
      · intro w' hk; go_simp
      simp only [Act.put, List.setIfInBounds_toArray, List.set_cons_zero, List.set_cons_succ]
      refine float_pend (z := #[.int .i64 0, .int .i64 0, .int .i64 0, .bool false]) (T := 59) (ja := 7) (js := 8) rfl rfl rfl rfl rfl (fun a w => by go_simp) [6] _ _ _ (fun _ => False) (by kernel_rfl) (by kernel_rfl) ?_ (Nat.le_refl _) (fun _ h => h.elim) hS
      intro y0 hW0
      have hB0 : Below wr.heap.size wr y0 := hS.2.trans (hW0.mono hS.2.size)
      refine ⟨_, 23, _, _, rfl, rfl, by go_simp, (HTS.out _).mono ?_⟩
      rintro e ye ⟨rfl, hbq⟩
      refine ⟨_, rfl, hbq, ?_⟩
      simp only [Act.put, List.setIfInBounds_toArray, List.set_cons_zero, List.set_cons_succ]
      unfold Fl
      refine after_store ?_ _ _ _ #[.int .i64 p2, .int .i64 t2, .int .i64 q2, .bool B2] (by rfl) (by rfl) (fun _ => by rfl) (fun _ => by rfl) (by simp) (by kernel_rfl) (by simp [Value.oneCell']) ?_
      · exact Nat.le_refl _
      intro KB w2 hK hk1 hk2 hF hoth hsz hcell
      simp only [Act.put, List.setIfInBounds_toArray, List.set_cons_zero, List.set_cons_succ]
      refine NoPanic.normal ?_
      have HQ1 : Hid (RnT w w2 (.slice va m vc) ⟨p, t, q⟩ cur) := HQ.out.next hK.2
      have hKB1 : w.heap.size + 1 < KB := by have := ltOf HQ.out.bk; omega
      have s0 := hcell 0 _ rfl
      have s1 := hcell 1 _ rfl
      have s2 := hcell 2 _ rfl
      have s3 := hcell 3 _ rfl
      have sl := hk2
      clear r0 r1 r2 r3 r4 rf0 rf1 rf2 rf3 rf4 rl c0 hg hS hW0 hB0 hbq hK hk1 hk2 hF hoth hsz hcell
      obtain ⟨r0, r1, r2, r3, r4, rf0, rf1, rf2, rf3, rf4, rl⟩ := five_R (HQ1.out.bk)
      obtain ⟨w3, hw3⟩ : ∃ W, W = ((w2.setCell ⟨w.heap.size + 1, 1, none⟩ (.int .i64 p2)).setCell ⟨w.heap.size + 1, 2, none⟩ (.int .i64 t2)).setCell ⟨w.heap.size + 1, 3, none⟩ (.int .i64 q2) := ⟨_, rfl⟩
      have HQ3 : Hid (RnT w w3 (.slice va m vc) ⟨p2, t2, q2⟩ cur ∧ w3.cell? ⟨KB, 3, none⟩ = some (.bool B2) ∧ KB < w3.heap.size) := by
        rw [hw3]
        refine ⟨HQ1.out.setT (k2 := ⟨p2, t2, q2⟩), ?_, by simp; exact sl⟩
        rw [World.cell?_setCell_other _ _ _ _ (by simp only [ne_eq, Addr.mk.injEq]; omega), World.cell?_setCell_other _ _ _ _ (by simp only [ne_eq, Addr.mk.injEq]; omega), World.cell?_setCell_other _ _ _ _ (by simp only [ne_eq, Addr.mk.injEq]; omega)]
        exact s3
      go_upto_region 9 with fail
      rw [← hw3]
      clear hw3 r0 r1 r2 r3 r4 rf0 rf1 rf2 rf3 rf4 rl s0 s1 s2 s3 sl HQ1 HTS HQ
      have s3 := HQ3.out.2.1
      have sl := HQ3.out.2.2
      cases B2 with
      | false =>
        have HM : Hid (RnT w w3 (.slice va m vc) (tkR s (k + 1)) (tkL s (k + 1))) := by
          unfold Hid; rw [HST.out.2, ← HST.out.1]; exact HQ3.out.1
        clear HST HQ3 HC2
        go_wp2
        go_roundw
        case rel => exact ⟨k + 1, _, by omega, by go_num, HM.out⟩
        case measure => simp [intOf]; omega
      | true =>
        obtain ⟨r0, r1, r2, r3, r4, rf0, rf1, rf2, rf3, rf4, rl⟩ := five_R (HQ3.out.1.bk)
        have HOW : Hid (w3.ownsRow (w.heap.size + 2) 2 1 (.slice va m vc) m (cur.map (Value.int .i64))) := HQ3.out.1.own HC2.out.1
        go_wp2_with (at_builtin; go_loud (refine wpList_append_own _ rfl _ _ 24 rfl (w.heap.size + 2) 2 i0 (.int .i64 0) 1 8 Try.underlying24 hi hz0 hz1 hz2 rfl (by decide) (.slice va m vc) m (cur.map (Value.int .i64)) rfl (World.ownsRow.alloc HOW.out _) ⟨w3.heap.size, 0, none⟩ 1 1 [.int .i64 (k : Int)] rfl rfl (World.news_of_block (cs := #[.int .i64 (k : Int)]) (t := 2) (fr := (0, 0)) (heap_alloc_new w3 _)) (by simp [Value.oneCell']) (by unfold maxLen; omega) (by omega) (by simp; omega) ?_); intro v6 w6 hown6 hgrow6 _; go_loud (obtain ⟨va6, vc6, rfl⟩ := own_formR hown6; have HR6 : Hid (w6.heap[w.heap.size + 1]? = some (.cells #[.int .i64 0, .int .i64 p2, .int .i64 t2, .int .i64 q2, .slice va m vc] 29) ∧ RnT w (w6.setCell ⟨w.heap.size + 1, 4, none⟩ (.slice va6 (m + 1) vc6)) (.slice va6 (m + 1) vc6) ⟨p2, t2, q2⟩ (cur ++ [(k : Int)])) := HQ3.out.1.push HC2.out.1 hown6 hgrow6; clear hown6 hgrow6 r0 r1 r2 r3 r4 rf0 rf1 rf2 rf3 rf4 rl; obtain ⟨r0, r1, r2, r3, r4, rf0, rf1, rf2, rf3, rf4, rl⟩ := five_R (HR6.out.1)))
        have HM : Hid (RnT w (w6.setCell ⟨w.heap.size + 1, 4, none⟩ (.slice va6 (m + 1) vc6)) (.slice va6 (m + 1) vc6) (tkR s (k + 1)) (tkL s (k + 1))) := by
          unfold Hid; rw [HST.out.2, ← HST.out.1]; exact HR6.out.2
        clear HST HQ3 HC2 HR6
        go_roundw
        case rel => exact ⟨k + 1, _, by omega, by go_num, HM.out⟩
        case measure => simp [intOf]; omega
    · have HE : Hid (KE = ⟨p, t, q⟩ ∧ LL = cur) := by
        have hkn : k = s.length := by rw [← H.out.2.1]; omega
        exact ⟨by rw [H.out.2.2.1, HC2.out.2.2, hkn], by rw [H.out.2.2.2, HC2.out.2.1, hkn]⟩
      obtain ⟨r0, r1, r2, r3, r4, rf0, rf1, rf2, rf3, rf4, rl⟩ := five_R (HQ.out.bk)
      obtain ⟨q0, q1, q2, q3, q4, qf0, qf1, qf2, qf3, qf4, ql⟩ := five_R (HQ.out.b0)
      clear HC2 H
      go_wp2
      try simp only [Exit.inBlock, Exit.then]
      refine bodyPost_ret (by simp [results, Try.results12, go_sem, q0, q1, q2, q3, q4, ql]; try rfl) rfl ⟨.slice va m vc, by rw [HE.out.1], ?_, ?_⟩
      · rw [HE.out.2]
        refine IS.low (B := w.heap.size + 2) (HQ.out.li.kept fun q hq => ?_) (by omega)
        have h9 := (World.ownsRow.lt HQ.out.li q hq).1
        rw [heap_setCell_other _ _ _ _ (by simp; omega), heap_setCell_other _ _ _ _ (by simp; omega), heap_setCell_other _ _ _ _ (by simp; omega), heap_setCell_other _ _ _ _ (by simp; omega), heap_setCell_other _ _ _ _ (by simp; omega)]
      · have hb := HQ.out.bl
        (repeat' (first | (with_reducible exact Below.refl _ _) | (with_reducible assumption) | (with_reducible refine Below.setCell ?_ ?_ _) | (with_reducible refine Below.alloc ?_ ?_ _) | (with_reducible refine below_drewN ?_ _) | (with_reducible refine Below.drew ?_) | (with_reducible exact Nat.le_refl _) | omega | (simp; done) | (simp; omega)))

end Go.Proofs.Ytejpjbihdclngaa
