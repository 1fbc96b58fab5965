/- Proved here: StartLot of the program. -/
import Derived.Test.YtcfjanignfbidaaSlM
import Derived.Test.YtcfjanignfbidaaQbI
namespace Go.Proofs.Ytcfjanignfbidaa
open Go.RowKit Go.Maps
set_option linter.unusedVariables false
set_option linter.unusedSimpArgs false

theorem ofC_nil (b : Bk) : ofC b [] = bkF b := by
  unfold ofC
  by_cases h : bkF b ≠ 0
  · rw [if_pos h]
  · rw [if_neg h, if_pos (by simp)]
    have : bkF b = 0 := by simpa using h
    exact this.symm
theorem whF_is (b : Bk) (x : Int) : (whF b x).isSome = decide (x ∈ alL b) := by
  unfold whF putW alL
  by_cases h : x ∈ b.sc
  · simp [h]
  · rw [if_neg h, whL_some (Nat.le_refl _), preL_all]
    simp [h]
theorem nwI_eq (b : Bk) (id : Int) : nwI b id = (decide (1 ≤ id ∧ id ≤ 1000000) && !(plF b.ls b.ls.length id).isSome) := by
  rw [nwI, plF_some]
  congr 1
  by_cases h : 0 ≤ fdI (idA b.ls) id b.ls.length
  · rw [decide_eq_true h, decide_eq_false (by omega)]; rfl
  · rw [decide_eq_false h, decide_eq_true (by omega)]; rfl
set_option maxRecDepth 10000 in
set_option maxHeartbeats 12800000 in
theorem impl_sl {st : Int} {w : World} {vw vl vs : Value} {b : Bk} {sa : Option Addr} {sn sc : Nat} {ws : List Int} (id : Int) (hst : b.st = st) (hidw : (Lit.int .i64 id).wf = true) (hs : smBk 1048576 b) (h : RdX w vw vl vs b) (hnw : NC (.slice sa sn sc)) (hws : RdI w (.slice sa sn sc) ws) (hwl : ws.length ≤ 1048576) :
    Calls Try.prog 13 #[.agg #[.int .i64 st, vw, vl, vs], .int .i64 id, .slice sa sn sc] w fun e w' => ∃ (vq : Value × Value × Value) (rs : List Lr), e = .returned (.agg #[.int .i64 (stC b id ws), .int .i64 0, .int .i64 (stB b id ws).st, vq.1, vq.2.1, vq.2.2]) ∧ PB w' w.heap.size vq.1 vq.2.1 vq.2.2 (wvO rs) (stB b id ws) rs ∧ Below w.heap.size w w' := by
  obtain ⟨wa, wk, e1⟩ := h.wn.form
  obtain ⟨la, lc, e2⟩ := h.ls.rlo.form
  obtain ⟨xa, xc, e3⟩ := h.sc.form
  subst e1 e2 e3
  obtain ⟨wn, hwn⟩ : ∃ n, n = b.wn.length := ⟨_, rfl⟩
  obtain ⟨ln, hln⟩ : ∃ n, n = b.ls.length := ⟨_, rfl⟩
  obtain ⟨xn, hxn⟩ : ∃ n, n = b.sc.length := ⟨_, rfl⟩
  have hs2 := hs.ls
  rw [← hln] at hs2
  have hsn : sn = ws.length := hws.len
  rw [← hwn, ← hln, ← hxn] at h ⊢
  obtain ⟨K0, hK⟩ : ∃ K, K = bkF b := ⟨_, rfl⟩
  obtain ⟨C, hC⟩ : ∃ K, K = stC b id ws := ⟨_, rfl⟩
  obtain ⟨RB, hRB⟩ : ∃ K, K = stB b id ws := ⟨_, rfl⟩
  obtain ⟨NW, hNW⟩ : ∃ K, K = nwI b id := ⟨_, rfl⟩
  obtain ⟨KW, hKW⟩ : ∃ K, K = wfC (alL b) ws := ⟨_, rfl⟩
  rw [← hC, ← hRB]
  have HC : Hid (C = if K0 ≠ 0 then K0 else if ln = 30 then 2 else if 25 < sn then 2 else if NW = false then 1 else if sn = 0 then 4 else KW) := by unfold Hid; rw [hC, stC, ← hK, ← hNW, ← hKW, ← hln, ← hsn]
  obtain ⟨W, hW⟩ : ∃ W, W = (w.alloc (.cells #[.int .i64 st, .slice wa wn wk, .slice la ln lc, .slice xa xn xc] 31)).alloc (.cells #[.int .i64 0, .int .i64 0, .int .i64 0, .slice none 0 0, .slice none 0 0, .slice none 0 0] 33) := ⟨_, rfl⟩
  have HW : Hid (Below w.heap.size w W ∧ W.heap[w.heap.size]? = some (.cells #[.int .i64 st, .slice wa wn wk, .slice la ln lc, .slice xa xn xc] 31) ∧ W.heap[w.heap.size + 1]? = some (.cells #[.int .i64 0, .int .i64 0, .int .i64 0, .slice none 0 0, .slice none 0 0, .slice none 0 0] 33) ∧ w.heap.size + 1 < W.heap.size) := by
    rw [hW]
    refine ⟨by (repeat' (first | (with_reducible exact Below.refl _ _) | (with_reducible assumption) | (with_reducible refine Below.setCell ?_ ?_ _) | (with_reducible refine Below.alloc ?_ ?_ _) | (with_reducible refine below_drewN ?_ _) | (with_reducible refine Below.drew ?_) | (with_reducible exact Nat.le_refl _) | omega | (simp; done) | (simp; omega))), (Below.heap_alloc _ _ _ (by simp)).trans (heap_alloc_new w _), ?_, by simp⟩
    have := heap_alloc_new (w.alloc (.cells #[.int .i64 st, .slice wa wn wk, .slice la ln lc, .slice xa xn xc] 31)) (.cells #[.int .i64 0, .int .i64 0, .int .i64 0, .slice none 0 0, .slice none 0 0, .slice none 0 0] 33); simpa using this
  have HB : Hid (Calls Try.prog 42 #[.agg #[.int .i64 st, .slice wa wn wk, .slice la ln lc, .slice xa xn xc], .slice none 0 0] W fun e w' => ∃ p, e = .returned (.tuple #[.pointer p, .int .i64 K0]) ∧ (K0 ≠ 0 → p = none) ∧ (K0 = 0 → ∃ K, p = some ⟨K, 0, none⟩ ∧ OBx w' W.heap.size K b) ∧ Below W.heap.size W w') := by
    rw [hK, ← ofC_nil]
    exact impl_opf hst hs (h.below HW.out.1) (show RdI W (.slice none 0 0) [] from IS.rg (B := 0) ⟨rfl, Or.inl ⟨rfl, rfl⟩⟩) (by simp) (fun x hx => by cases hx)
  have HLO : Hid (GBk b → ∀ w', Below w.heap.size w w' → Calls Try.prog 44 #[.agg #[.int .i64 st, .slice wa wn wk, .slice la ln lc, .slice xa xn xc]] w' fun e w2 => ∃ bm : Nat, e = .returned (.tuple #[.map (some bm), .int .i64 (wfC [] (alL b))]) ∧ (wfC [] (alL b) = 0 → IM 2 w2 bm 1000 (whF b)) ∧ w'.heap.size ≤ bm ∧ Below w'.heap.size w' w2) := fun hg w' hb => impl_wlo st hg.wbk (h.rd.below hb)
  have HR0 : Hid (C = stC b id ws ∧ RB = stB b id ws ∧ b.st = st ∧ ln = b.ls.length ∧ K0 = bkF b ∧ NW = nwI b id ∧ KW = wfC (alL b) ws ∧ (Lit.int .i64 id).wf = true) := ⟨hC, hRB, hst, hln, hK, hNW, hKW, hidw⟩
  have HWS : Hid (sn = ws.length ∧ NC (.slice sa sn sc) ∧ RdI w (.slice sa sn sc) ws) := ⟨hsn, hnw, hws⟩
  have hsn6 : sn ≤ 1048576 := by rw [hsn]; exact hwl
  clear h hs hst hwn hln hxn hC hRB hK hNW hKW hsn hnw hws hwl hidw
  go_enter Try.func13, Try.ntmps13
  go_wp2_with (fail)
  rw [← hW]
  clear hW
  refine HB.out.mono ?_
  rintro e w1 ⟨p, rfl, hpn, hps, hb1⟩
  have HK : Hid (w1.heap[w.heap.size]? = some (.cells #[.int .i64 st, .slice wa wn wk, .slice la ln lc, .slice xa xn xc] 31)) := (hb1.block _ (ltOfQ HW.out.2.1)).trans HW.out.2.1
  have HM : Hid (w1.heap[w.heap.size + 1]? = some (.cells #[.int .i64 0, .int .i64 0, .int .i64 0, .slice none 0 0, .slice none 0 0, .slice none 0 0] 33)) := (hb1.block _ (ltOfQ HW.out.2.2.1)).trans HW.out.2.2.1
  have HE : Hid (Below w.heap.size w w1) := HW.out.1.trans (hb1.mono HW.out.1.size)
  obtain ⟨B0, hB0⟩ : ∃ x, x = W.heap.size := ⟨_, rfl⟩
  have HB0 : Hid (w.heap.size + 1 < B0 ∧ B0 ≤ w1.heap.size) := ⟨by rw [hB0]; exact HW.out.2.2.2, by rw [hB0]; exact hb1.size⟩
  rw [← hB0] at hps
  obtain ⟨p0, p1, p2, p3, pl⟩ : w1.cell? ⟨w.heap.size, 0, none⟩ = some (.int .i64 st) ∧ w1.cell? ⟨w.heap.size, 1, none⟩ = some (.slice wa wn wk) ∧ w1.cell? ⟨w.heap.size, 2, none⟩ = some (.slice la ln lc) ∧ w1.cell? ⟨w.heap.size, 3, none⟩ = some (.slice xa xn xc) ∧ w.heap.size < w1.heap.size := ⟨cellOfQ HK.out 0 rfl, cellOfQ HK.out 1 rfl, cellOfQ HK.out 2 rfl, cellOfQ HK.out 3 rfl, ltOfQ HK.out⟩
  clear hb1 HB HW hB0
  by_cases hK0 : K0 = 0
  case neg =>
    obtain rfl : C = K0 := by rw [HC.out, if_pos hK0]
    obtain rfl := hpn hK0
    have hCb : (C == 0) = false := beq_eq_false_iff_ne.2 hK0
    clear HLO p0 p1 p2 p3 pl hps hpn
    have HR : Hid (RB = bkZ) := by unfold Hid; rw [HR0.out.2.1, stB, if_pos (by rw [← HR0.out.1]; exact hK0)]
    have m9 := HM.out
    have HE9 : Hid (Below w.heap.size w w1) := HE.out
    obtain ⟨r0, r1, r2, r3, r4, r5, rl⟩ := six_of m9
    have qf0 := frozOf m9 0
    have qf1 := frozOf m9 1
    have qf2 := frozOf m9 2
    have qf3 := frozOf m9 3
    have qf4 := frozOf m9 4
    have qf5 := frozOf m9 5
    clear m9
    go_wp2
    try simp only [Exit.inBlock, Exit.then]
    refine bodyPost_ret (by simp [results, Try.results13, go_sem, r0, r1, r2, r3, r4, r5, rl, qf0, qf1, qf2, qf3, qf4, qf5]; try rfl) rfl ⟨(nilV, nilV, nilV), [], by rw [HR.out]; rfl, by rw [HR.out]; exact PB.nil _ _, ?_⟩
    have hb := HE9.out
    (repeat' (first | (with_reducible exact Below.refl _ _) | (with_reducible assumption) | (with_reducible refine Below.setCell ?_ ?_ _) | (with_reducible refine Below.alloc ?_ ?_ _) | (with_reducible refine below_drewN ?_ _) | (with_reducible refine Below.drew ?_) | (with_reducible exact Nat.le_refl _) | omega | (simp; done) | (simp; omega)))
  obtain ⟨K, rfl, bp, bm, vw', vl', vs', f0, rs, m, hob, hm9, htm⟩ := hps hK0
  clear hpn hps
  subst hK0
  have HG : Hid (GBk b) := bkF_zero HR0.out.2.2.2.2.1.symm
  have HOB : Hid (OB w1 B0 K bp bm vw' vl' vs' f0 b rs ∧ m ≤ b.ls.length ∧ TM w1 2 bm m f0) := ⟨hob, hm9, htm⟩
  clear hob hm9 htm
  by_cases h30 : ln = 30
  · obtain rfl : C = 2 := by rw [HC.out, if_neg (by decide), if_pos h30]
    have e30 : ((ln : Int) == 30) = true := by rw [h30]; rfl
    clear HLO
    have HR : Hid (RB = bkZ) := by unfold Hid; rw [HR0.out.2.1, stB, if_pos (by rw [← HR0.out.1]; decide)]
    have m9 := HM.out
    have HE9 : Hid (Below w.heap.size w w1) := HE.out
    obtain ⟨r0, r1, r2, r3, r4, r5, rl⟩ := six_of m9
    have qf0 := frozOf m9 0
    have qf1 := frozOf m9 1
    have qf2 := frozOf m9 2
    have qf3 := frozOf m9 3
    have qf4 := frozOf m9 4
    have qf5 := frozOf m9 5
    clear m9
    go_wp2
    try simp only [Exit.inBlock, Exit.then]
    refine bodyPost_ret (by simp [results, Try.results13, go_sem, r0, r1, r2, r3, r4, r5, rl, qf0, qf1, qf2, qf3, qf4, qf5]; try rfl) rfl ⟨(nilV, nilV, nilV), [], by rw [HR.out]; rfl, by rw [HR.out]; exact PB.nil _ _, ?_⟩
    have hb := HE9.out
    (repeat' (first | (with_reducible exact Below.refl _ _) | (with_reducible assumption) | (with_reducible refine Below.setCell ?_ ?_ _) | (with_reducible refine Below.alloc ?_ ?_ _) | (with_reducible refine below_drewN ?_ _) | (with_reducible refine Below.drew ?_) | (with_reducible exact Nat.le_refl _) | omega | (simp; done) | (simp; omega)))
  have e30 : ((ln : Int) == 30) = false := beq_eq_false_iff_ne.2 (by omega)
  by_cases h25 : 25 < sn
  · obtain rfl : C = 2 := by rw [HC.out, if_neg (by decide), if_neg h30, if_pos h25]
    have e25 : (25 : Int) < (sn : Int) := by omega
    clear HLO
    have HR : Hid (RB = bkZ) := by unfold Hid; rw [HR0.out.2.1, stB, if_pos (by rw [← HR0.out.1]; decide)]
    have m9 := HM.out
    have HE9 : Hid (Below w.heap.size w w1) := HE.out
    obtain ⟨r0, r1, r2, r3, r4, r5, rl⟩ := six_of m9
    have qf0 := frozOf m9 0
    have qf1 := frozOf m9 1
    have qf2 := frozOf m9 2
    have qf3 := frozOf m9 3
    have qf4 := frozOf m9 4
    have qf5 := frozOf m9 5
    clear m9
    go_wp2
    try simp only [Exit.inBlock, Exit.then]
    refine bodyPost_ret (by simp [results, Try.results13, go_sem, r0, r1, r2, r3, r4, r5, rl, qf0, qf1, qf2, qf3, qf4, qf5]; try rfl) rfl ⟨(nilV, nilV, nilV), [], by rw [HR.out]; rfl, by rw [HR.out]; exact PB.nil _ _, ?_⟩
    have hb := HE9.out
    (repeat' (first | (with_reducible exact Below.refl _ _) | (with_reducible assumption) | (with_reducible refine Below.setCell ?_ ?_ _) | (with_reducible refine Below.alloc ?_ ?_ _) | (with_reducible refine below_drewN ?_ _) | (with_reducible refine Below.drew ?_) | (with_reducible exact Nat.le_refl _) | omega | (simp; done) | (simp; omega)))
  have e25 : ¬ (25 : Int) < (sn : Int) := by omega
  have e25' : (sn : Int) ≤ 25 := by omega
  have HMB : Hid (Calls Try.prog 43 #[.map (some bp), .int .i64 id] w1 fun e w' => e = .returned (.bool NW) ∧ w' = w1) := impl_mbn HOB.out.1.ip NW (by rw [HR0.out.2.2.2.2.2.1]; exact nwI_eq b id)
  have z4 : w1.cell? ⟨K, 4, none⟩ = some (.map (some bp)) := cellOfQ HOB.out.1.bx 4 rfl
  have zl := ltOfQ HOB.out.1.bx
  go_wp2_with (fail)
  refine HMB.out.mono ?_
  rintro e w2 ⟨rfl, hw2⟩
  subst w2
  clear HMB z4 zl
  cases NW
  case false =>
    obtain rfl : C = 1 := by rw [HC.out, if_neg (by decide), if_neg h30, if_neg h25, if_pos rfl]
    clear HLO
    have HR : Hid (RB = bkZ) := by unfold Hid; rw [HR0.out.2.1, stB, if_pos (by rw [← HR0.out.1]; decide)]
    have m9 := HM.out
    have HE9 : Hid (Below w.heap.size w w1) := HE.out
    obtain ⟨r0, r1, r2, r3, r4, r5, rl⟩ := six_of m9
    have qf0 := frozOf m9 0
    have qf1 := frozOf m9 1
    have qf2 := frozOf m9 2
    have qf3 := frozOf m9 3
    have qf4 := frozOf m9 4
    have qf5 := frozOf m9 5
    clear m9
    go_wp2
    try simp only [Exit.inBlock, Exit.then]
    refine bodyPost_ret (by simp [results, Try.results13, go_sem, r0, r1, r2, r3, r4, r5, rl, qf0, qf1, qf2, qf3, qf4, qf5]; try rfl) rfl ⟨(nilV, nilV, nilV), [], by rw [HR.out]; rfl, by rw [HR.out]; exact PB.nil _ _, ?_⟩
    have hb := HE9.out
    (repeat' (first | (with_reducible exact Below.refl _ _) | (with_reducible assumption) | (with_reducible refine Below.setCell ?_ ?_ _) | (with_reducible refine Below.alloc ?_ ?_ _) | (with_reducible refine below_drewN ?_ _) | (with_reducible refine Below.drew ?_) | (with_reducible exact Nat.le_refl _) | omega | (simp; done) | (simp; omega)))
  by_cases hn0 : sn = 0
  · obtain rfl : C = 4 := by rw [HC.out, if_neg (by decide), if_neg h30, if_neg h25, if_neg (by decide), if_pos hn0]
    have e0 : ((sn : Int) == 0) = true := by rw [hn0]; rfl
    clear HLO
    have HR : Hid (RB = bkZ) := by unfold Hid; rw [HR0.out.2.1, stB, if_pos (by rw [← HR0.out.1]; decide)]
    have m9 := HM.out
    have HE9 : Hid (Below w.heap.size w w1) := HE.out
    obtain ⟨r0, r1, r2, r3, r4, r5, rl⟩ := six_of m9
    have qf0 := frozOf m9 0
    have qf1 := frozOf m9 1
    have qf2 := frozOf m9 2
    have qf3 := frozOf m9 3
    have qf4 := frozOf m9 4
    have qf5 := frozOf m9 5
    clear m9
    go_wp2
    try simp only [Exit.inBlock, Exit.then]
    refine bodyPost_ret (by simp [results, Try.results13, go_sem, r0, r1, r2, r3, r4, r5, rl, qf0, qf1, qf2, qf3, qf4, qf5]; try rfl) rfl ⟨(nilV, nilV, nilV), [], by rw [HR.out]; rfl, by rw [HR.out]; exact PB.nil _ _, ?_⟩
    have hb := HE9.out
    (repeat' (first | (with_reducible exact Below.refl _ _) | (with_reducible assumption) | (with_reducible refine Below.setCell ?_ ?_ _) | (with_reducible refine Below.alloc ?_ ?_ _) | (with_reducible refine below_drewN ?_ _) | (with_reducible refine Below.drew ?_) | (with_reducible exact Nat.le_refl _) | omega | (simp; done) | (simp; omega)))
  have e0 : ((sn : Int) == 0) = false := beq_eq_false_iff_ne.2 (by omega)
  obtain rfl : C = KW := by rw [HC.out, if_neg (by decide), if_neg h30, if_neg h25, if_neg (by decide), if_neg hn0]
  have hgl : ∀ g o, sa = some ⟨g, o, none⟩ → g < w.heap.size := by
    intro g o e
    obtain ⟨g', o', c', e', hg', _⟩ := RG.pos HWS.out.2.2 (by have := HWS.out.1; omega)
    injection e' with e1 _ _
    rw [e] at e1
    injection e1 with e1
    injection e1 with e1 _ _
    omega
  go_wp2_with (fail)
  refine (HLO.out HG.out _ HE.out).mono ?_
  rintro e w2 ⟨bq, rfl, hbq, hge, hb2⟩
  have hbq2 := hbq HG.out.wf
  have HPT : Hid (Calls Try.prog 45 #[.map (some bq), .slice sa sn sc, .int .i64 id] w2 fun e w' => e = .returned (.int .i64 C) ∧ Below w1.heap.size w1 w') := by
    rw [HR0.out.2.2.2.2.2.2.1]
    have hx := HWS.out.1
    have hsz := HE.out.size
    refine (impl_put HR0.out.2.2.2.2.2.2.2 (by omega) (by omega) (fun x => whF_is b x) (HWS.out.2.2.below (HE.out.trans (hb2.mono HE.out.size))) hbq2 (fun g o e _ => by have := hgl g o e; omega)).mono ?_
    rintro e w9 ⟨rfl, _, hg⟩
    exact ⟨rfl, hb2.grown hg hb2.size (fun k hk => by injection hk with hk; omega)⟩
  clear hbq hbq2 hge hb2 HLO
  go_wp2_with (fail)
  refine HPT.out.mono ?_
  rintro e w3 ⟨rfl, hb3⟩
  clear HPT hgl
  have HMw3 : Hid (w3.heap[w.heap.size + 1]? = some (.cells #[.int .i64 0, .int .i64 0, .int .i64 0, .slice none 0 0, .slice none 0 0, .slice none 0 0] 33)) := (hb3.block _ (ltOfQ HM.out)).trans HM.out
  have HEw3 : Hid (Below w.heap.size w w3) := HE.out.trans (hb3.mono HE.out.size)
  have HKw3 : Hid (w3.heap[w.heap.size]? = some (.cells #[.int .i64 st, .slice wa wn wk, .slice la ln lc, .slice xa xn xc] 31)) := (hb3.block _ (ltOfQ HK.out)).trans HK.out
  clear HM HE HK p0 p1 p2 p3 pl
  have HM := HMw3
  have HE := HEw3
  have HK := HKw3
  clear HMw3 HEw3 HKw3
  obtain ⟨p0, p1, p2, p3, pl⟩ : w3.cell? ⟨w.heap.size, 0, none⟩ = some (.int .i64 st) ∧ w3.cell? ⟨w.heap.size, 1, none⟩ = some (.slice wa wn wk) ∧ w3.cell? ⟨w.heap.size, 2, none⟩ = some (.slice la ln lc) ∧ w3.cell? ⟨w.heap.size, 3, none⟩ = some (.slice xa xn xc) ∧ w.heap.size < w3.heap.size := ⟨cellOfQ HK.out 0 rfl, cellOfQ HK.out 1 rfl, cellOfQ HK.out 2 rfl, cellOfQ HK.out 3 rfl, ltOfQ HK.out⟩
  have HO3 : Hid (OB w3 B0 K bp bm vw' vl' vs' f0 b rs ∧ m ≤ b.ls.length ∧ TM w3 2 bm m f0) := ⟨HOB.out.1.below hb3, HOB.out.2.1, HOB.out.2.2.below hb3⟩
  have HB3 : Hid (w.heap.size + 1 < B0 ∧ B0 ≤ w3.heap.size) := ⟨HB0.out.1, Nat.le_trans HB0.out.2 hb3.size⟩
  clear hb3 HOB HB0
  by_cases hC0 : C = 0
  case neg =>
    have hCb : (C == 0) = false := beq_eq_false_iff_ne.2 hC0
    clear p0 p1 p2 p3 pl
    have HR : Hid (RB = bkZ) := by unfold Hid; rw [HR0.out.2.1, stB, if_pos (by rw [← HR0.out.1]; exact hC0)]
    have m9 := HM.out
    have HE9 : Hid (Below w.heap.size w w3) := HE.out
    obtain ⟨r0, r1, r2, r3, r4, r5, rl⟩ := six_of m9
    have qf0 := frozOf m9 0
    have qf1 := frozOf m9 1
    have qf2 := frozOf m9 2
    have qf3 := frozOf m9 3
    have qf4 := frozOf m9 4
    have qf5 := frozOf m9 5
    clear m9
    go_wp2
    try simp only [Exit.inBlock, Exit.then]
    refine bodyPost_ret (by simp [results, Try.results13, go_sem, r0, r1, r2, r3, r4, r5, rl, qf0, qf1, qf2, qf3, qf4, qf5]; try rfl) rfl ⟨(nilV, nilV, nilV), [], by rw [HR.out]; rfl, by rw [HR.out]; exact PB.nil _ _, ?_⟩
    have hb := HE9.out
    (repeat' (first | (with_reducible exact Below.refl _ _) | (with_reducible assumption) | (with_reducible refine Below.setCell ?_ ?_ _) | (with_reducible refine Below.alloc ?_ ?_ _) | (with_reducible refine below_drewN ?_ _) | (with_reducible refine Below.drew ?_) | (with_reducible exact Nat.le_refl _) | omega | (simp; done) | (simp; omega)))
  subst hC0
  have HOK : Hid (OkS b id ws) := stC_ok HR0.out.1.symm
  have HR : Hid (RB = ⟨b.st, b.wn, b.ls ++ [newL id ws], b.sc⟩) := by unfold Hid; rw [HR0.out.2.1, stB, if_neg (fun e => e HR0.out.1.symm)]
  have HAD : Hid (Calls Try.prog 46 #[.pointer (some ⟨K, 0, none⟩), .agg #[.int .i64 id, .int .i64 0, .slice sa sn sc, .bool false, .slice none 0 0]] w3 fun e w' => (∃ v, e = .returned v) ∧ ∃ vl5 f' rs', OB w' B0 K bp bm vw' vl5 vs' f' ⟨b.st, b.wn, b.ls ++ [newL id ws], b.sc⟩ rs' ∧ Below B0 w3 w') := by
    have hl := HWS.out.1
    have hln := HOK.out.ln
    refine (impl_add (x := ⟨id, 0, sa, sn, sc, false, none, 0, 0⟩) (l := newL id ws) HO3.out.1 ⟨rfl, rfl, rfl, HWS.out.2.2.below HE.out, IS.rg (B := 0) ⟨rfl, Or.inl ⟨rfl, rfl⟩⟩⟩ ⟨HWS.out.2.1, fun n c e => by injection e with _ e1 e2; exact ⟨e1.symm, e2.symm⟩⟩ ⟨by show ws.length ≤ _; omega, by show (0 : Nat) ≤ _; omega⟩ HOK.out.idr HOK.out.ne (by omega) m (by have := HO3.out.2.1; omega) HO3.out.2.2).mono ?_
    rintro e w9 ⟨hv, vl5, f', rs', h1, _, h3⟩
    exact ⟨hv, vl5, f', rs', h1, h3⟩
  go_wp2_with (fail)
  refine HAD.out.mono ?_
  rintro e w4 ⟨⟨v9, rfl⟩, vl5, f', rs', hob4, hb4⟩
  obtain ⟨G, cG, hvl, hG1, hG2, _⟩ := hob4.row (by show 0 < (b.ls ++ [newL id ws]).length; simp)
  obtain ⟨n, hn⟩ : ∃ n, n = (b.ls ++ [newL id ws]).length := ⟨_, rfl⟩
  have hvl2 : vl5 = .slice (some ⟨G, 0, none⟩) n cG := by rw [hvl, hn]
  subst hvl2
  have HM4 : Hid (w4.heap[w.heap.size + 1]? = some (.cells #[.int .i64 0, .int .i64 0, .int .i64 0, .slice none 0 0, .slice none 0 0, .slice none 0 0] 33) ∧ Below w.heap.size w w4) := ⟨(hb4.block _ HB3.out.1).trans HM.out, HE.out.trans (hb4.mono (by have := HB3.out.1; omega))⟩
  obtain ⟨na, nc, ew⟩ := OG.fm hob4.pb.wn
  obtain ⟨ya, yc, ex⟩ := hob4.pb.sc.form
  obtain ⟨wn', hwn'⟩ : ∃ n, n = b.wn.length := ⟨_, rfl⟩
  obtain ⟨xn', hxn'⟩ : ∃ n, n = b.sc.length := ⟨_, rfl⟩
  simp only at ew ex
  rw [← hwn'] at ew
  rw [← hxn'] at ex
  subst ew ex
  have hnp : 0 < n := by rw [hn]; simp
  have HAN : Hid (Calls Try.prog 47 #[.pointer (some ⟨K, 0, none⟩)] w4 fun e w' => e = .returned (.agg #[.int .i64 0, .int .i64 0, .int .i64 st, .slice na wn' nc, .slice (some ⟨G, 0, none⟩) n cG, .slice ya xn' yc]) ∧ ∃ rs9, PB w' B0 (.slice na wn' nc) (.slice (some ⟨G, 0, none⟩) n cG) (.slice ya xn' yc) (wvO rs9) RB rs9 ∧ Below B0 w4 w') := by
    rw [HR.out]
    refine (impl_ans (b := ⟨b.st, b.wn, b.ls ++ [newL id ws], b.sc⟩) st HR0.out.2.2.1 hn hnp hob4).mono ?_
    rintro e w9 ⟨rfl, h1, h2⟩
    exact ⟨rfl, _, h1, h2⟩
  clear hvl hG1 hG2 hn hob4 hb4 hwn' hxn' HAD HO3 p0 p1 p2 p3 pl HK
  go_wp2_with (fail)
  refine HAN.out.mono ?_
  rintro e w5 ⟨rfl, rs9, hpb, hb5⟩
  have m5 := (hb5.block _ HB3.out.1).trans HM4.out.1
  have HF : Hid (Below w.heap.size w w5 ∧ RB.st = st ∧ PB w5 B0 (.slice na wn' nc) (.slice (some ⟨G, 0, none⟩) n cG) (.slice ya xn' yc) (wvO rs9) RB rs9 ∧ w.heap.size + 1 < B0) := ⟨HM4.out.2.trans (hb5.mono (by have := HB3.out.1; omega)), by rw [HR.out]; exact HR0.out.2.2.1, hpb, HB3.out.1⟩
  obtain ⟨r0, r1, r2, r3, r4, r5, rl⟩ := six_of m5
  have qf0 := frozOf m5 0
  have qf1 := frozOf m5 1
  have qf2 := frozOf m5 2
  have qf3 := frozOf m5 3
  have qf4 := frozOf m5 4
  have qf5 := frozOf m5 5
  clear m5 hpb hb5 HAN
  go_wp2
  try simp only [Exit.inBlock, Exit.then]
  refine bodyPost_ret (by simp [results, Try.results13, go_sem, r0, r1, r2, r3, r4, r5, rl, qf0, qf1, qf2, qf3, qf4, qf5]; try rfl) rfl ⟨(.slice na wn' nc, .slice (some ⟨G, 0, none⟩) n cG, .slice ya xn' yc), rs9, by rw [HF.out.2.1], ?_, ?_⟩
  · refine PB.low (PB.keep HF.out.2.2.1 fun k hk => ?_) (by have := HF.out.2.2.2; omega)
    have h1 := (HF.out.2.2.1.blk hk).1
    have h2 := HF.out.2.2.2
    have hoff : ∀ (u : World) o v, (u.setCell ⟨w.heap.size + 1, o, none⟩ v).heap[k]? = u.heap[k]? := fun u o v => heap_setCell_other _ _ _ _ (by simp; omega)
    rw [hoff, hoff, hoff, hoff, hoff, hoff]
  · have hb := HF.out.1
    (repeat' (first | (with_reducible exact Below.refl _ _) | (with_reducible assumption) | (with_reducible refine Below.setCell ?_ ?_ _) | (with_reducible refine Below.alloc ?_ ?_ _) | (with_reducible refine below_drewN ?_ _) | (with_reducible refine Below.drew ?_) | (with_reducible exact Nat.le_refl _) | omega | (simp; done) | (simp; omega)))

end Go.Proofs.Ytcfjanignfbidaa
