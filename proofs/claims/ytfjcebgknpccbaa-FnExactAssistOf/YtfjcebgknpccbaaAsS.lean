/- Proved here: AssistOf of the model. -/
import Derived.Test.YtfjcebgknpccbaaAsK
namespace Go.Proofs.Ytfjcebgknpccbaa
open Go.RowKit
set_option linter.unusedVariables false
set_option linter.unusedSimpArgs false

/-- Where the model stands. -/
structure ArS (w : World) (RX : Obj) (lB : Nat) (v : Value) (cur : List Ln) (wr : World) : Prop where
  bl : Below w.heap.size w wr
  rx : wr.heap[w.heap.size]? = some RX
  lo : w.heap.size < lB ∧ lB ≤ wr.heap.size
  su : OG 60 2 lnC wr lB v cur
theorem ArS.turn {w : World} {RX : Obj} {lB : Nat} {v v' : Value} {cur cur' : List Ln} {wr wv : World} (h : ArS w RX lB v cur wr) (hb : Below lB wr wv) (hs : OG 60 2 lnC wv lB v' cur') : ArS w RX lB v' cur' wv :=
  ⟨h.bl.trans (hb.mono (by have := h.lo; omega)), (hb.block _ h.lo.1).trans h.rx, ⟨h.lo.1, Nat.le_trans h.lo.2 hb.size⟩, hs⟩

set_option maxRecDepth 10000 in
set_option maxHeartbeats 25600000 in
theorem spec_ao (len gap width : Int) {w : World} {v : Value} {ls : List Ln} (hn : ls.length ≤ 1048576) (h : RG 2 lnC w v ls) :
    Calls Try.prog 34 #[v, .int .i64 len, .int .i64 gap, .int .i64 width] w fun e w' => ∃ r, e = .returned (.agg #[.int .i64 (aoF ls len gap width), r]) ∧ OG 60 2 lnC w' w.heap.size r (aoL ls len gap width) ∧ Below w.heap.size w w' := by
  obtain ⟨a, c, rfl⟩ := h.form
  obtain ⟨n, hnn⟩ : ∃ n, n = ls.length := ⟨_, rfl⟩
  rw [← hnn] at h ⊢
  obtain ⟨C, hC⟩ : ∃ C, C = lnF ls len := ⟨_, rfl⟩
  obtain ⟨CC, hCC⟩ : ∃ C, C = aoF ls len gap width := ⟨_, rfl⟩
  obtain ⟨LL, hLL⟩ : ∃ C, C = aoL ls len gap width := ⟨_, rfl⟩
  obtain ⟨p, hp⟩ : ∃ r, r = decide (1 ≤ gap ∧ gap ≤ 60) := ⟨_, rfl⟩
  obtain ⟨q, hq⟩ : ∃ r, r = decide (1 ≤ width ∧ width ≤ 60) := ⟨_, rfl⟩
  rw [← hCC, ← hLL]
  have H : Hid (RG 2 lnC w (.slice a n c) ls ∧ n = ls.length ∧ C = lnF ls len ∧ CC = aoF ls len gap width ∧ LL = aoL ls len gap width ∧ p = decide (1 ≤ gap ∧ gap ≤ 60) ∧ q = decide (1 ≤ width ∧ width ≤ 60)) := ⟨h, hnn, hC, hCC, hLL, hp, hq⟩
  have HL : Hid (∀ W, Below w.heap.size w W → Calls Try.prog 10 #[.slice a n c, .int .i64 len] W fun e w' => e = .returned (.int .i64 C) ∧ Below W.heap.size W w') := fun W hW => by rw [hC]; exact spec_lf len hn (h.below hW)
  have HP : Hid (∀ W, Calls Try.prog 36 #[.int .i64 gap, .int .i64 1, .int .i64 60] W fun e w' => e = .returned (.bool p) ∧ w' = W) := spec_ins gap 1 60 p hp
  have HQ : Hid (∀ W, Calls Try.prog 36 #[.int .i64 width, .int .i64 1, .int .i64 60] W fun e w' => e = .returned (.bool q) ∧ w' = W) := spec_ins width 1 60 q hq
  clear h hn hC hCC hLL hp hq hnn
  go_enter Try.func34, Try.ntmps34
  go_wp2_with (fail)
  refine (HL.out _ (by (repeat' (first | (with_reducible exact Below.refl _ _) | (with_reducible assumption) | (with_reducible refine Below.setCell ?_ ?_ _) | (with_reducible refine Below.alloc ?_ ?_ _) | (with_reducible refine below_drewN ?_ _) | (with_reducible refine Below.drew ?_) | (with_reducible exact Nat.le_refl _) | omega | (simp; done) | (simp; omega))))).mono ?_
  rintro e w1 ⟨rfl, hb1⟩
  have k1 := (hb1.block w.heap.size (by simp)).trans (heap_alloc_new w _)
  have HB : Hid (Below w.heap.size w w1 ∧ w1.heap[w.heap.size]? = some (.cells #[.int .i64 0, .slice none 0 0] 47)) := ⟨(show Below w.heap.size w _ from by (repeat' (first | (with_reducible exact Below.refl _ _) | (with_reducible assumption) | (with_reducible refine Below.setCell ?_ ?_ _) | (with_reducible refine Below.alloc ?_ ?_ _) | (with_reducible refine below_drewN ?_ _) | (with_reducible refine Below.drew ?_) | (with_reducible exact Nat.le_refl _) | omega | (simp; done) | (simp; omega)))).trans (hb1.mono (by simp)), k1⟩
  obtain ⟨q0, q1, qf, ql⟩ := kn_two k1
  have qf0 := qf 0
  have qf1 := qf 1
  clear hb1 k1 qf
  by_cases hC0 : C = 0
  case neg =>
    have hC1 : (C != 0) = true := by simpa using hC0
    have HN : Hid (CC = C ∧ LL = []) := by
      refine ⟨?_, ?_⟩
      · rw [H.out.2.2.2.1, aoF, ← H.out.2.2.1, if_neg hC0]
      · rw [H.out.2.2.2.2.1, aoL, ← H.out.2.2.1, if_neg (fun h => hC0 h.1)]
    go_wp2
    try simp only [Exit.inBlock, Exit.then]
    refine bodyPost_ret (by simp [results, Try.results34, go_sem, q0, q1]; try rfl) rfl ⟨_, by rw [HN.out.1], ?_, ?_⟩
    · rw [HN.out.2]; exact World.ownsRow_nil _ _ _ _
    · have hB := HB.out.1
      (repeat' (first | (with_reducible exact Below.refl _ _) | (with_reducible assumption) | (with_reducible refine Below.setCell ?_ ?_ _) | (with_reducible refine Below.alloc ?_ ?_ _) | (with_reducible refine below_drewN ?_ _) | (with_reducible refine Below.drew ?_) | (with_reducible exact Nat.le_refl _) | omega | (simp; done) | (simp; omega)))
  have HC0 : Hid (lnF ls len = 0) := H.out.2.2.1.symm.trans hC0
  subst hC0
  go_wp2_with (fail)
  refine (HP.out _).mono ?_
  rintro e w2 ⟨rfl, hw2⟩
  subst w2
  cases p with
  | false =>
    have HN : Hid (CC = 3 ∧ LL = []) := by
      have hno : ¬ ((1 ≤ gap ∧ gap ≤ 60) ∧ 1 ≤ width ∧ width ≤ 60) := fun hh => (of_decide_eq_false H.out.2.2.2.2.2.1.symm) hh.1
      refine ⟨?_, ?_⟩
      · rw [H.out.2.2.2.1, aoF, if_pos HC0.out, if_neg hno]
      · rw [H.out.2.2.2.2.1, aoL, if_neg (fun h => hno h.2)]
    go_wp2
    try simp only [Exit.inBlock, Exit.then]
    refine bodyPost_ret (by simp [results, Try.results34, go_sem, q0, q1]; try rfl) rfl ⟨_, by rw [HN.out.1], ?_, ?_⟩
    · rw [HN.out.2]; exact World.ownsRow_nil _ _ _ _
    · have hB := HB.out.1
      (repeat' (first | (with_reducible exact Below.refl _ _) | (with_reducible assumption) | (with_reducible refine Below.setCell ?_ ?_ _) | (with_reducible refine Below.alloc ?_ ?_ _) | (with_reducible refine below_drewN ?_ _) | (with_reducible refine Below.drew ?_) | (with_reducible exact Nat.le_refl _) | omega | (simp; done) | (simp; omega)))
  | true =>
  go_wp2_with (fail)
  refine (HQ.out _).mono ?_
  rintro e w2 ⟨rfl, hw2⟩
  subst w2
  cases q with
  | false =>
    have HN : Hid (CC = 3 ∧ LL = []) := by
      have hno : ¬ ((1 ≤ gap ∧ gap ≤ 60) ∧ 1 ≤ width ∧ width ≤ 60) := fun hh => (of_decide_eq_false H.out.2.2.2.2.2.2.symm) hh.2
      refine ⟨?_, ?_⟩
      · rw [H.out.2.2.2.1, aoF, if_pos HC0.out, if_neg hno]
      · rw [H.out.2.2.2.2.1, aoL, if_neg (fun h => hno h.2)]
    go_wp2
    try simp only [Exit.inBlock, Exit.then]
    refine bodyPost_ret (by simp [results, Try.results34, go_sem, q0, q1]; try rfl) rfl ⟨_, by rw [HN.out.1], ?_, ?_⟩
    · rw [HN.out.2]; exact World.ownsRow_nil _ _ _ _
    · have hB := HB.out.1
      (repeat' (first | (with_reducible exact Below.refl _ _) | (with_reducible assumption) | (with_reducible refine Below.setCell ?_ ?_ _) | (with_reducible refine Below.alloc ?_ ?_ _) | (with_reducible refine below_drewN ?_ _) | (with_reducible refine Below.drew ?_) | (with_reducible exact Nat.le_refl _) | omega | (simp; done) | (simp; omega)))
  | true =>
  have hgw : (1 ≤ gap ∧ gap ≤ 60) ∧ 1 ≤ width ∧ width ≤ 60 := ⟨of_decide_eq_true H.out.2.2.2.2.2.1.symm, of_decide_eq_true H.out.2.2.2.2.2.2.symm⟩
  have hgood := lnF_good HC0.out
  obtain ⟨M, hM⟩ : ∃ M, M = mgK gap width ls ls.length := ⟨_, rfl⟩
  obtain ⟨A, hA⟩ : ∃ A, A = asK gap width ls ls.length := ⟨_, rfl⟩
  have HV : Hid (CC = laC M ∧ LL = laL M ∧ (flL ls ++ flL A).mergeSort (fun x y => decide (x ≤ y)) = flL M ∧ ls.length ≤ 12 ∧ A.length ≤ 12 ∧ M.length ≤ 24) := by
    refine ⟨?_, ?_, ?_, hgood.2.2.1, ?_, ?_⟩
    · rw [H.out.2.2.2.1, aoF, if_pos HC0.out, if_pos hgw, hM]
    · rw [H.out.2.2.2.2.1, aoL, if_pos ⟨HC0.out, hgw⟩, hM]
    · rw [hA, hM]; exact mg_sort hgw.2.1 hgood.2.2.2
    · rw [hA]; have := asK_len gap width ls ls.length; omega
    · rw [hM]; have := mgK_len gap width ls ls.length; omega
  have HBN : Hid (∀ l ∈ ls, 0 ≤ l.f ∧ l.f < l.t ∧ l.t ≤ 60) := fun l hl => by have := rise_in ls (-1) (by omega) hgood.2.2.2 l hl; omega
  have hn12 : n ≤ 12 := by have := H.out.2.1; omega
  have HMM : Hid (M = mgK gap width ls n) := by unfold Hid; rw [hM, ← H.out.2.1]
  have hg1 := hgw.1
  have hw1 := hgw.2
  clear hgw hgood hM hA
  obtain ⟨i0, hi, hz0, hz1, hz2⟩ := info_parts info_Line
  obtain ⟨RX, hRX⟩ : ∃ RX, RX = Obj.cells #[.int .i64 0, .slice none 0 0] 47 := ⟨_, rfl⟩
  have HRX : Hid (RX = Obj.cells #[.int .i64 0, .slice none 0 0] 47) := hRX
  have HS0 : Hid (ArS w RX w1.heap.size (.slice (some ⟨w1.heap.size, 0, none⟩) 0 0) (mgK gap width ls 0) (w1.alloc (.cells #[] 60))) := by
    refine ⟨by have hB := HB.out.1; have := hB.size; (repeat' (first | (with_reducible exact Below.refl _ _) | (with_reducible assumption) | (with_reducible refine Below.setCell ?_ ?_ _) | (with_reducible refine Below.alloc ?_ ?_ _) | (with_reducible refine below_drewN ?_ _) | (with_reducible refine Below.drew ?_) | (with_reducible exact Nat.le_refl _) | omega | (simp; done) | (simp; omega))), by rw [hRX]; exact (Below.heap_alloc _ _ _ ql).trans HB.out.2, ⟨ql, by simp⟩, ?_⟩
    have := World.ownsRow_lit (e := 60) (size := 2) (base := w1.heap.size) w1 #[] 0 (by simp) (by decide) (by simp)
    simpa [OG, mgK] using this
  go_wp2
  clear q0 q1 qf0 qf1 hRX
  go_loopw [10, 11] (fun o i wr => ∃ (k : Nat) (v : Value), k ≤ n ∧ v = o ∧ i = .int .i64 k ∧ Hid (ArS w RX w1.heap.size v (mgK gap width ls k) wr)) (fun _ i _ => n - (intOf i).toNat)
  case atStart => exact ⟨0, _, Nat.zero_le _, rfl, rfl, HS0.out⟩
  case round =>
    clear HS0
    obtain ⟨k, v, hk, rfl, rfl, hR⟩ := hrel
    by_cases hlt : k < n
    · have b0 : (0 : Int) ≤ (k : Int) := by omega
      have b1 : (k : Int) < (n : Int) := by omega
      have hkl : k < ls.length := by rw [← H.out.2.1]; exact hlt
      obtain ⟨gl, o, c2, he, hgl, hj⟩ := (H.out.1.below hR.out.bl).pos (by omega)
      simp only [Value.slice.injEq] at he
      obtain ⟨rfl, hx1, hx2⟩ := he
      clear hx1 hx2
      obtain ⟨c0, c1⟩ := lnC_at (hj k hkl)
      obtain ⟨x, hx⟩ : ∃ x, x = ls[k] := ⟨_, rfl⟩
      rw [← hx] at c0 c1
      have hxb := HBN.out x (by rw [hx]; exact List.getElem_mem _)
      obtain ⟨va, vc, hvf⟩ := (OG.rg lnC_len hR.out.su).form
      subst hvf
      have hlen : (mgK gap width ls k).length ≤ 100 := by have := mgK_len gap width ls k; omega
      have HX : Hid (x = ls[k]) := hx
      rcases Nat.eq_zero_or_pos k with hk0 | hk0
      · have HST : Hid (mgK gap width ls (k + 1) = mgK gap width ls k ++ [x]) := by unfold Hid; rw [mgK, if_pos hk0, List.append_nil, lnAt_get hkl, hx]
        generalize mgK gap width ls k = cur at hR HST hlen ⊢
        obtain ⟨q, hq⟩ : ∃ q, q = cur.length := ⟨_, rfl⟩
        have HQ2 : Hid (q = cur.length ∧ k = 0) := ⟨hq, hk0⟩
        have HO : Hid (∀ W : World, Below wr.heap.size wr W → W.ownsRow w1.heap.size 60 2 (.slice va q vc) q (cur.flatMap lnC)) := fun W hW => by
          have h := OG.below hR.out.su hW
          unfold OG at h
          rw [← hq] at h
          exact h
        have HR' : Hid (ArS w RX w1.heap.size (.slice va q vc) cur wr) := by unfold Hid; rw [hq]; exact hR.out
        have hq100 : q ≤ 100 := by omega
        have hszo := hR.out.lo
        have d0 : decide (0 < k) = false := by simp; omega
        have d1 : ¬ 0 < k := by omega
        rw [← hq]
        clear hx hj hR hq hlen hk0
        go_wp2_with (at_builtin; refine wpList_append_own _ rfl (.tmp 79) (.tmp 84) 25 rfl w1.heap.size 60 i0 (.agg #[.int .i64 0, .int .i64 0]) 2 16 Try.underlying25 hi hz0 hz1 hz2 rfl (by decide) (.slice va q vc) (q) (cur.flatMap lnC) rfl (HO.out _ (by (repeat' (first | (with_reducible exact Below.refl _ _) | (with_reducible assumption) | (with_reducible refine Below.setCell ?_ ?_ _) | (with_reducible refine Below.alloc ?_ ?_ _) | (with_reducible refine below_drewN ?_ _) | (with_reducible refine Below.drew ?_) | (with_reducible exact Nat.le_refl _) | omega | (simp; done) | (simp; omega))))) ⟨wr.heap.size, 0, none⟩ 1 1 (lnC ⟨x.f, x.t⟩) rfl rfl (World.news_of_block (cs := #[.int .i64 (x.f), .int .i64 (x.t)]) (t := 60) (fr := (0, 0)) (heap_alloc_new _ _)) (by simp [lnC, Value.oneCell']) (by unfold maxLen; omega) (by omega) (by simp; omega) ?_; intro v6 w6 hown6 hgrow6 _)
        have R6 : Hid (ArS w RX w1.heap.size v6 (mgK gap width ls (k + 1)) w6) := by
          unfold Hid
          rw [HST.out]
          refine HR'.out.turn ?_ (OG.snocN (by rw [← HQ2.out.1]; exact hown6))
          refine (show Below w1.heap.size wr _ from by (repeat' (first | (with_reducible exact Below.refl _ _) | (with_reducible assumption) | (with_reducible refine Below.setCell ?_ ?_ _) | (with_reducible refine Below.alloc ?_ ?_ _) | (with_reducible refine below_drewN ?_ _) | (with_reducible refine Below.drew ?_) | (with_reducible exact Nat.le_refl _) | omega | (simp; done) | (simp; omega)))).grown hgrow6 (by simp; omega) (fun k hk => ?_)
          exact (World.ownsRow.lt (HO.out wr (Below.refl _ _)) k hk).1
        clear hown6 hgrow6 HO HR' HST
        go_wp2
        go_roundw
        case rel => exact ⟨k + 1, v6, by omega, rfl, by go_num, R6.out⟩
        case measure => simp [intOf]; omega
      · obtain ⟨kk, rfl⟩ : ∃ kk, k = kk + 1 := ⟨k - 1, by omega⟩
        have hkl0 : kk < ls.length := by omega
        obtain ⟨e0, e1⟩ := lnC_at (hj kk hkl0)
        obtain ⟨p, hp⟩ : ∃ x, x = ls[kk] := ⟨_, rfl⟩
        rw [← hp] at e0 e1
        have hpb := HBN.out p (by rw [hp]; exact List.getElem_mem _)
        have HST : Hid (mgK gap width ls (kk + 1 + 1) = mgK gap width ls (kk + 1) ++ asOne gap width p x ++ [x]) := by
          unfold Hid
          rw [mgK, if_neg (by omega), show kk + 1 - 1 = kk by omega, lnAt_get hkl0, lnAt_get hkl, hx, hp]
        have hd0 : (0 : Int) < ((kk + 1 : Nat) : Int) := by omega
        have e9 : (((kk + 1 : Nat) : Int) - 1) = (kk : Int) := by omega
        have hw9 : IntKind.i64.wrap (kk : Int) = (kk : Int) := by rw [IntKind.wrap_i64]; omega
        have bk0 : (0 : Int) ≤ (kk : Int) := by omega
        have bk1 : (kk : Int) < (n : Int) := by omega
        obtain ⟨Rm, hRm⟩ : ∃ R, R = x.f - p.t := ⟨_, rfl⟩
        have f1 : IntKind.i64.wrap (x.f - p.t) = Rm := by rw [IntKind.wrap_i64]; omega
        have f2 : IntKind.i64.wrap (width + 2) = width + 2 := by rw [IntKind.wrap_i64]; omega
        have hRb : -60 ≤ Rm ∧ Rm ≤ 60 := by omega
        generalize mgK gap width ls (kk + 1) = cur at hR HST hlen ⊢
        obtain ⟨q, hq⟩ : ∃ q, q = cur.length := ⟨_, rfl⟩
        have HQ2 : Hid (q = cur.length) := hq
        have HO : Hid (∀ W : World, Below wr.heap.size wr W → W.ownsRow w1.heap.size 60 2 (.slice va q vc) q (cur.flatMap lnC)) := fun W hW => by
          have h := OG.below hR.out.su hW
          unfold OG at h
          rw [← hq] at h
          exact h
        have HR' : Hid (ArS w RX w1.heap.size (.slice va q vc) cur wr) := by unfold Hid; rw [hq]; exact hR.out
        have hq100 : q ≤ 100 := by omega
        have hszo := hR.out.lo
        rw [← hq]
        have HXX : Hid (Rm = x.f - p.t ∧ x = ls[kk + 1] ∧ p = ls[kk]) := ⟨hRm, hx, hp⟩
        clear hx hp hj hR hq hlen hRm
        by_cases hcc : gap ≤ Rm ∧ width + 2 ≤ Rm
        · obtain ⟨hc1, hc2⟩ := hcc
          obtain ⟨A', hA'⟩ : ∃ A, A = p.t + (Rm - width) / 2 := ⟨_, rfl⟩
          have hAb : 0 ≤ A' ∧ A' ≤ 200 := by omega
          have HSN : Hid (mgK gap width ls (kk + 1 + 1) = cur ++ [⟨A', A' + width⟩] ++ [x]) := by
            unfold Hid
            rw [HST.out, asOne, if_pos ⟨by rw [← HXX.out.1]; exact hc1, by rw [← HXX.out.1]; exact hc2⟩, ← HXX.out.1, ← hA']
          have f3 : IntKind.i64.wrap (Rm - width) = Rm - width := by rw [IntKind.wrap_i64]; omega
          have f4 : (Rm - width).tdiv 2 = (Rm - width) / 2 := Int.tdiv_eq_ediv_of_nonneg (by omega)
          have f5 : IntKind.i64.wrap ((Rm - width) / 2) = (Rm - width) / 2 := by rw [IntKind.wrap_i64]; omega
          have f6 : IntKind.i64.wrap (p.t + (Rm - width) / 2) = A' := by rw [IntKind.wrap_i64]; omega
          have f7 : IntKind.i64.wrap (A' + width) = A' + width := by rw [IntKind.wrap_i64]; omega
          have HA' : Hid (A' = p.t + (Rm - width) / 2) := hA'
          have hbgl : Hid (∀ W : World, Below w.heap.size w W → W.cell? ⟨gl, o + (kk + 1) * 2, none⟩ = some (.int .i64 x.f) ∧ W.cell? ⟨gl, o + (kk + 1) * 2 + 1, none⟩ = some (.int .i64 x.t)) := fun W hW => by
            obtain ⟨gl', o', c2', he', hgl', hj'⟩ := (H.out.1.below hW).pos (by omega)
            simp only [Value.slice.injEq] at he'
            obtain ⟨he1, _, _⟩ := he'
            injection he1 with he1
            injection he1 with he1 he2
            subst he1 he2
            have := lnC_at (hj' (kk + 1) hkl)
            rw [← HXX.out.2.1] at this
            exact this
          clear hA' HST
          go_wp2
          go_quiet (fail)
          go_wp2_with (first | (at_builtin; refine wpList_append_own _ rfl (.tmp 71) (.tmp 77) 25 rfl w1.heap.size 60 i0 (.agg #[.int .i64 0, .int .i64 0]) 2 16 Try.underlying25 hi hz0 hz1 hz2 rfl (by decide) (.slice va q vc) (q) (cur.flatMap lnC) rfl (World.ownsRow.alloc (HO.out _ (below_drewN (Below.refl _ _) _)) _) ⟨wr.heap.size, 0, none⟩ 1 1 (lnC ⟨A', A' + width⟩) rfl rfl (World.news_of_block (cs := #[.int .i64 (A'), .int .i64 (A' + width)]) (t := 60) (fr := (0, 0)) (heap_alloc_new _ _)) (by simp [lnC, Value.oneCell']) (by unfold maxLen; omega) (by omega) (by simp; omega) ?_; intro v5 w5 hown5 hgrow5 _; have HO5 : Hid (ArS w RX w1.heap.size v5 (cur ++ [⟨A', A' + width⟩]) w5) := HR'.out.turn ((show Below w1.heap.size wr _ from by (repeat' (first | (with_reducible exact Below.refl _ _) | (with_reducible assumption) | (with_reducible refine Below.setCell ?_ ?_ _) | (with_reducible refine Below.alloc ?_ ?_ _) | (with_reducible refine below_drewN ?_ _) | (with_reducible refine Below.drew ?_) | (with_reducible exact Nat.le_refl _) | omega | (simp; done) | (simp; omega)))).grown hgrow5 (by simp; omega) (fun k hk => (World.ownsRow.lt (HO.out wr (Below.refl _ _)) k hk).1)) (OG.snocN (by rw [← HQ2.out]; exact hown5)); obtain ⟨c5, d5⟩ := hbgl.out w5 HO5.out.bl; obtain ⟨va5, vc5, hv5⟩ : ∃ a c, v5 = .slice a (q + 1) c := (by rcases hown5.2 with ⟨_, h0⟩ | ⟨g, cap, cur, h1, _⟩; omega; exact ⟨_, _, h1⟩); subst hv5; have HP5 : Hid (∀ W : World, Below w5.heap.size w5 W → W.ownsRow w1.heap.size 60 2 (.slice va5 (q + 1) vc5) (q + 1) ((cur ++ [(⟨A', A' + width⟩ : Ln)]).flatMap lnC)) := (fun W hW => by have h := OG.below HO5.out.su hW; unfold OG at h; rw [List.length_append, ← HQ2.out] at h; exact h); have hsz5 := HO5.out.lo; clear hown5 hgrow5 c0 c1 e0 e1) | (at_builtin; refine wpList_append_own _ rfl (.tmp 79) (.tmp 84) 25 rfl w1.heap.size 60 i0 (.agg #[.int .i64 0, .int .i64 0]) 2 16 Try.underlying25 hi hz0 hz1 hz2 rfl (by decide) (.slice va5 (q + 1) vc5) (q + 1) ((cur ++ [(⟨A', A' + width⟩ : Ln)]).flatMap lnC) rfl (HP5.out _ (by (repeat' (first | (with_reducible exact Below.refl _ _) | (with_reducible assumption) | (with_reducible refine Below.setCell ?_ ?_ _) | (with_reducible refine Below.alloc ?_ ?_ _) | (with_reducible refine below_drewN ?_ _) | (with_reducible refine Below.drew ?_) | (with_reducible exact Nat.le_refl _) | omega | (simp; done) | (simp; omega))))) ⟨w5.heap.size, 0, none⟩ 1 1 (lnC ⟨x.f, x.t⟩) rfl rfl (World.news_of_block (cs := #[.int .i64 (x.f), .int .i64 (x.t)]) (t := 60) (fr := (0, 0)) (heap_alloc_new _ _)) (by simp [lnC, Value.oneCell']) (by unfold maxLen; omega) (by omega) (by simp; omega) ?_; intro v6 w6 hown6 hgrow6 _))
          have R6 : Hid (ArS w RX w1.heap.size v6 (mgK gap width ls (kk + 1 + 1)) w6) := by
            unfold Hid
            rw [HSN.out]
            refine HO5.out.turn ?_ (OG.snocN (by rw [List.length_append, ← HQ2.out]; exact hown6))
            refine (show Below w1.heap.size w5 _ from by (repeat' (first | (with_reducible exact Below.refl _ _) | (with_reducible assumption) | (with_reducible refine Below.setCell ?_ ?_ _) | (with_reducible refine Below.alloc ?_ ?_ _) | (with_reducible refine below_drewN ?_ _) | (with_reducible refine Below.drew ?_) | (with_reducible exact Nat.le_refl _) | omega | (simp; done) | (simp; omega)))).grown hgrow6 (by simp; omega) (fun k hk => ?_)
            exact (World.ownsRow.lt (HP5.out w5 (Below.refl _ _)) k hk).1
          clear hown6 hgrow6
          go_wp2
          go_roundw
          case rel => exact ⟨kk + 1 + 1, v6, by omega, rfl, by go_num, R6.out⟩
          case measure => simp [intOf]; omega
        · have HSN : Hid (mgK gap width ls (kk + 1 + 1) = cur ++ [x]) := by
            unfold Hid
            rw [HST.out, asOne, if_neg (by rw [← HXX.out.1]; exact hcc), List.append_nil]
          by_cases hc1 : gap ≤ Rm
          · have hc2 : ¬ width + 2 ≤ Rm := fun h => hcc ⟨hc1, h⟩
            go_wp2
            go_quiet (fail)
            go_wp2_with (at_builtin; refine wpList_append_own _ rfl (.tmp 79) (.tmp 84) 25 rfl w1.heap.size 60 i0 (.agg #[.int .i64 0, .int .i64 0]) 2 16 Try.underlying25 hi hz0 hz1 hz2 rfl (by decide) (.slice va q vc) (q) (cur.flatMap lnC) rfl (World.ownsRow.alloc (HO.out _ (below_drewN (Below.refl _ _) _)) _) ⟨wr.heap.size, 0, none⟩ 1 1 (lnC ⟨x.f, x.t⟩) rfl rfl (World.news_of_block (cs := #[.int .i64 (x.f), .int .i64 (x.t)]) (t := 60) (fr := (0, 0)) (heap_alloc_new _ _)) (by simp [lnC, Value.oneCell']) (by unfold maxLen; omega) (by omega) (by simp; omega) ?_; intro v6 w6 hown6 hgrow6 _)
            have R6 : Hid (ArS w RX w1.heap.size v6 (mgK gap width ls (kk + 1 + 1)) w6) := by
              unfold Hid
              rw [HSN.out]
              refine HR'.out.turn ?_ (OG.snocN (by rw [← HQ2.out]; exact hown6))
              refine (show Below w1.heap.size wr _ from by (repeat' (first | (with_reducible exact Below.refl _ _) | (with_reducible assumption) | (with_reducible refine Below.setCell ?_ ?_ _) | (with_reducible refine Below.alloc ?_ ?_ _) | (with_reducible refine below_drewN ?_ _) | (with_reducible refine Below.drew ?_) | (with_reducible exact Nat.le_refl _) | omega | (simp; done) | (simp; omega)))).grown hgrow6 (by simp; omega) (fun k hk => ?_)
              exact (World.ownsRow.lt (HO.out wr (Below.refl _ _)) k hk).1
            clear hown6 hgrow6
            go_wp2
            go_roundw
            case rel => exact ⟨kk + 1 + 1, v6, by omega, rfl, by go_num, R6.out⟩
            case measure => simp [intOf]; omega
          · go_wp2
            go_quiet (fail)
            go_wp2_with (at_builtin; refine wpList_append_own _ rfl (.tmp 79) (.tmp 84) 25 rfl w1.heap.size 60 i0 (.agg #[.int .i64 0, .int .i64 0]) 2 16 Try.underlying25 hi hz0 hz1 hz2 rfl (by decide) (.slice va q vc) (q) (cur.flatMap lnC) rfl (World.ownsRow.alloc (HO.out _ (below_drewN (Below.refl _ _) _)) _) ⟨wr.heap.size, 0, none⟩ 1 1 (lnC ⟨x.f, x.t⟩) rfl rfl (World.news_of_block (cs := #[.int .i64 (x.f), .int .i64 (x.t)]) (t := 60) (fr := (0, 0)) (heap_alloc_new _ _)) (by simp [lnC, Value.oneCell']) (by unfold maxLen; omega) (by omega) (by simp; omega) ?_; intro v6 w6 hown6 hgrow6 _)
            have R6 : Hid (ArS w RX w1.heap.size v6 (mgK gap width ls (kk + 1 + 1)) w6) := by
              unfold Hid
              rw [HSN.out]
              refine HR'.out.turn ?_ (OG.snocN (by rw [← HQ2.out]; exact hown6))
              refine (show Below w1.heap.size wr _ from by (repeat' (first | (with_reducible exact Below.refl _ _) | (with_reducible assumption) | (with_reducible refine Below.setCell ?_ ?_ _) | (with_reducible refine Below.alloc ?_ ?_ _) | (with_reducible refine below_drewN ?_ _) | (with_reducible refine Below.drew ?_) | (with_reducible exact Nat.le_refl _) | omega | (simp; done) | (simp; omega)))).grown hgrow6 (by simp; omega) (fun k hk => ?_)
              exact (World.ownsRow.lt (HO.out wr (Below.refl _ _)) k hk).1
            clear hown6 hgrow6
            go_wp2
            go_roundw
            case rel => exact ⟨kk + 1 + 1, v6, by omega, rfl, by go_num, R6.out⟩
            case measure => simp [intOf]; omega
    · have b1 : ¬ (k : Int) < (n : Int) := by omega
      obtain rfl : k = n := by omega
      obtain ⟨va, vc, hvf⟩ := (OG.rg lnC_len hR.out.su).form
      subst hvf
      obtain ⟨q, hq⟩ : ∃ q, q = (mgK gap width ls k).length := ⟨_, rfl⟩
      have hq100 : q ≤ 100 := by have := mgK_len gap width ls k; omega
      rw [← hq]
      have kb := hR.out.rx
      rw [HRX.out] at kb
      obtain ⟨q0, q1, qf, ql2⟩ := kn_two kb
      have qf0 := qf 0
      have qf1 := qf 1
      clear kb qf
      by_cases h12 : 12 < q
      · have h12' : (12 : Int) < (q : Int) := by omega
        have HC : Hid (CC = 2 ∧ LL = []) := ⟨by rw [HV.out.1, HMM.out, laC, if_pos (by omega)], by rw [HV.out.2.1, HMM.out, laL, if_pos (by omega)]⟩
        have HBL : Hid (Below w.heap.size w wr) := hR.out.bl
        clear hR hq
        go_wp2
        try simp only [Exit.inBlock, Exit.then]
        refine bodyPost_ret (by simp [results, Try.results34, go_sem, q0, q1]; try rfl) rfl ⟨_, by rw [HC.out.1], ?_, ?_⟩
        · rw [HC.out.2]; exact World.ownsRow_nil _ _ _ _
        · have hB := HBL.out
          (repeat' (first | (with_reducible exact Below.refl _ _) | (with_reducible assumption) | (with_reducible refine Below.setCell ?_ ?_ _) | (with_reducible refine Below.alloc ?_ ?_ _) | (with_reducible refine below_drewN ?_ _) | (with_reducible refine Below.drew ?_) | (with_reducible exact Nat.le_refl _) | omega | (simp; done) | (simp; omega)))
      · have h12' : ¬ (12 : Int) < (q : Int) := by omega
        have HC : Hid (CC = 0 ∧ LL = mgK gap width ls k) := ⟨by rw [HV.out.1, HMM.out, laC, if_neg (by omega)], by rw [HV.out.2.1, HMM.out, laL, if_neg (by omega)]⟩
        have HR : Hid (ArS w RX w1.heap.size (.slice va q vc) (mgK gap width ls k) wr) := by unfold Hid; rw [hq]; exact hR.out
        clear hR hq
        go_wp2
        try simp only [Exit.inBlock, Exit.then]
        refine bodyPost_ret (by simp [results, Try.results34, go_sem, q0, q1]; try rfl) rfl ⟨_, by rw [HC.out.1], ?_, ?_⟩
        · rw [HC.out.2]
          have hlo := HR.out.lo
          refine World.ownsRow.kept (row := some w.heap.size) (OG.low HR.out.su (by omega)) ⟨rfl, rfl, rfl, by simp, fun k hk hne => ?_⟩ (Or.inr fun e => ?_)
          · rw [heap_setCell_other _ _ _ _ (fun e => hne (by rw [e])), heap_setCell_other _ _ _ _ (fun e => hne (by rw [e]))]
          · have := (OG.lt HR.out.su _ e).1; omega
        · have hB := HR.out.bl
          (repeat' (first | (with_reducible exact Below.refl _ _) | (with_reducible assumption) | (with_reducible refine Below.setCell ?_ ?_ _) | (with_reducible refine Below.alloc ?_ ?_ _) | (with_reducible refine below_drewN ?_ _) | (with_reducible refine Below.drew ?_) | (with_reducible exact Nat.le_refl _) | omega | (simp; done) | (simp; omega)))

end Go.Proofs.Ytfjcebgknpccbaa
