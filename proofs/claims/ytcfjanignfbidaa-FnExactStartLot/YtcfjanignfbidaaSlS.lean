/- Proved here: StartLot of the model. -/
import Derived.Test.YtcfjanignfbidaaSlN
import Derived.Test.YtcfjanignfbidaaQcS
import Derived.Test.YtcfjanignfbidaaQbV
import Derived.Deep.Cut
import Derived.BigQuiet
namespace Go.Proofs.Ytcfjanignfbidaa
open Go.RowKit Go.Maps
set_option linter.unusedVariables false
set_option linter.unusedSimpArgs false

set_option maxHeartbeats 1600000 in
theorem spec_new {w : World} {st : Int} {wa la xa : Option Addr} {wn wk ln lc xn xc : Nat} {b : Bk} (id : Int) (hln : ln = b.ls.length) (hl : b.ls.length ≤ 1048576) (h : RLo w (.slice la ln lc) b.ls) :
    Calls Try.prog 36 #[.agg #[.int .i64 st, .slice wa wn wk, .slice la ln lc, .slice xa xn xc], .int .i64 id] w fun e w' => e = .returned (.bool (nwI b id)) ∧ Below w.heap.size w w' := by
  obtain ⟨I, hI⟩ : ∃ K, K = fdI (idA b.ls) id b.ls.length := ⟨_, rfl⟩
  obtain ⟨q, hq⟩ : ∃ K, K = decide (1 ≤ id ∧ id ≤ 1000000) := ⟨_, rfl⟩
  obtain ⟨R, hR⟩ : ∃ K, K = nwI b id := ⟨_, rfl⟩
  rw [← hR]
  obtain ⟨W, hW⟩ : ∃ W, W = w.alloc (.cells #[.int .i64 st, .slice wa wn wk, .slice la ln lc, .slice xa xn xc] 31) := ⟨_, rfl⟩
  have HW : Hid (Below w.heap.size w W ∧ W.heap[w.heap.size]? = some (.cells #[.int .i64 st, .slice wa wn wk, .slice la ln lc, .slice xa xn xc] 31)) := by rw [hW]; exact ⟨by (repeat' (first | (with_reducible exact Below.refl _ _) | (with_reducible assumption) | (with_reducible refine Below.setCell ?_ ?_ _) | (with_reducible refine Below.alloc ?_ ?_ _) | (with_reducible refine below_drewN ?_ _) | (with_reducible refine Below.drew ?_) | (with_reducible exact Nat.le_refl _) | omega | (simp; done) | (simp; omega))), heap_alloc_new _ _⟩
  have HI : Hid (Calls Try.prog 66 #[.int .i64 id] W fun e w' => e = .returned (.bool q) ∧ w' = W) := spec_id id q hq W
  have HF : Hid (Calls Try.prog 67 #[.slice la ln lc, .int .i64 ln, .int .i64 id] W fun e w' => e = .returned (.int .i64 I) ∧ w' = W) := by
    have := spec_fd b.ls.length id (Nat.le_refl _) hl (h.below HW.out.1)
    rw [← hI] at this
    rw [hln] at this ⊢; exact this
  have HR : Hid (R = (q && decide (I < 0))) := by unfold Hid; rw [hR, nwI, ← hI, ← hq]
  clear h hl hln hI hq hR
  obtain ⟨p2, pl⟩ : W.cell? ⟨w.heap.size, 2, none⟩ = some (.slice la ln lc) ∧ w.heap.size < W.heap.size := ⟨cellOfQ HW.out.2 2 rfl, ltOfQ HW.out.2⟩
  go_enter Try.func36, Try.ntmps36
  go_wp2_with (fail)
  rw [← hW]
  clear hW
  refine HI.out.mono ?_
  rintro e w1 ⟨rfl, hw1⟩
  subst w1
  cases q
  case false =>
    obtain rfl : R = false := by rw [HR.out]; rfl
    have HE := HW.out.1
    clear HF
    go_wp2
    go_returns
    exact ⟨rfl, HE⟩
  case true =>
    clear HI
    have HRR : Hid (R = decide (I < 0)) := by unfold Hid; rw [HR.out]; rfl
    clear HR
    go_wp2_with (fail)
    refine HF.out.mono ?_
    rintro e w1 ⟨rfl, hw1⟩
    subst w1
    have HE := HW.out.1
    by_cases h0 : I < 0
    · obtain rfl : R = true := by rw [HRR.out, decide_eq_true h0]
      clear HRR
      go_wp2
      go_returns
      exact ⟨by first | rfl | simp [h0], HE⟩
    · obtain rfl : R = false := by rw [HRR.out, decide_eq_false h0]
      clear HRR
      go_wp2
      go_returns
      exact ⟨by first | rfl | simp [h0], HE⟩
theorem rowI {w : World} {B n m : Nat} {v : Value} {xs ys : List Int} (hn : n = xs.length) (hm : m = ys.length) (h : w.ownsRow B 2 1 v (n + m) (xs.map (Value.int .i64) ++ ys.map (Value.int .i64))) : ∃ a c, v = .slice a (n + m) c ∧ IS w B (.slice a (n + m) c) (xs ++ ys) := by
  have ho := is_joined hn hm h
  obtain ⟨a, c, e⟩ := ho.form
  rw [List.length_append, ← hn, ← hm] at e
  exact ⟨a, c, e, by rw [← e]; exact ho⟩
set_option maxRecDepth 10000 in
set_option maxHeartbeats 12800000 in
theorem spec_sl {st : Int} {w : World} {vw vl vs : Value} {b : Bk} {sa : Option Addr} {sn sc : Nat} {ws : List Int} (id : Int) (hst : b.st = st) (hs : smBk 1048576 b) (h : RdX w vw vl vs b) (hnw : NC (.slice sa sn sc)) (hws : RdI w (.slice sa sn sc) ws) (hwl : ws.length ≤ 1048576) :
    Calls Try.prog 10 #[.agg #[.int .i64 st, vw, vl, vs], .int .i64 id, .slice sa sn sc] w fun e w' => ∃ (vq : Value × Value × Value) (rs : List Lr), e = .returned (.agg #[.int .i64 (stC b id ws), .int .i64 0, .int .i64 (stB b id ws).st, vq.1, vq.2.1, vq.2.2]) ∧ PB w' w.heap.size vq.1 vq.2.1 vq.2.2 (wvO rs) (stB b id ws) rs ∧ Below w.heap.size w w' := by
  obtain ⟨i0, hi0, hz0, hz1, hz2⟩ := info_parts info_i64
  obtain ⟨il, hil, hl0, hl1, hl2⟩ := info_parts info_Lot
  obtain ⟨wa, wk, e1⟩ := h.wn.form
  obtain ⟨la, lc, e2⟩ := h.ls.rlo.form
  obtain ⟨xa, xc, e3⟩ := h.sc.form
  subst e1 e2 e3
  obtain ⟨wn, hwn⟩ : ∃ n, n = b.wn.length := ⟨_, rfl⟩
  obtain ⟨ln, hln⟩ : ∃ n, n = b.ls.length := ⟨_, rfl⟩
  obtain ⟨xn, hxn⟩ : ∃ n, n = b.sc.length := ⟨_, rfl⟩
  have hs2 := hs.ls
  rw [← hln] at hs2
  have hsn : sn = ws.length := hws.len
  rw [← hwn, ← hln, ← hxn] at h ⊢
  obtain ⟨K0, hK⟩ : ∃ K, K = bkF b := ⟨_, rfl⟩
  obtain ⟨C, hC⟩ : ∃ K, K = stC b id ws := ⟨_, rfl⟩
  obtain ⟨RB, hRB⟩ : ∃ K, K = stB b id ws := ⟨_, rfl⟩
  obtain ⟨NW, hNW⟩ : ∃ K, K = nwI b id := ⟨_, rfl⟩
  obtain ⟨KW, hKW⟩ : ∃ K, K = wfC (alL b) ws := ⟨_, rfl⟩
  rw [← hC, ← hRB]
  have HC : Hid (C = if K0 ≠ 0 then K0 else if ln = 30 then 2 else if 25 < sn then 2 else if NW = false then 1 else if sn = 0 then 4 else KW) := by unfold Hid; rw [hC, stC, ← hK, ← hNW, ← hKW, ← hln, ← hsn]
  obtain ⟨W, hW⟩ : ∃ W, W = (w.alloc (.cells #[.int .i64 st, .slice wa wn wk, .slice la ln lc, .slice xa xn xc] 31)).alloc (.cells #[.int .i64 0, .int .i64 0, .int .i64 0, .slice none 0 0, .slice none 0 0, .slice none 0 0] 33) := ⟨_, rfl⟩
  have HW : Hid (Below w.heap.size w W ∧ W.heap[w.heap.size]? = some (.cells #[.int .i64 st, .slice wa wn wk, .slice la ln lc, .slice xa xn xc] 31) ∧ W.heap[w.heap.size + 1]? = some (.cells #[.int .i64 0, .int .i64 0, .int .i64 0, .slice none 0 0, .slice none 0 0, .slice none 0 0] 33)) := by
    rw [hW]
    refine ⟨by (repeat' (first | (with_reducible exact Below.refl _ _) | (with_reducible assumption) | (with_reducible refine Below.setCell ?_ ?_ _) | (with_reducible refine Below.alloc ?_ ?_ _) | (with_reducible refine below_drewN ?_ _) | (with_reducible refine Below.drew ?_) | (with_reducible exact Nat.le_refl _) | omega | (simp; done) | (simp; omega))), (Below.heap_alloc _ _ _ (by simp)).trans (heap_alloc_new w _), ?_⟩
    have := heap_alloc_new (w.alloc (.cells #[.int .i64 st, .slice wa wn wk, .slice la ln lc, .slice xa xn xc] 31)) (.cells #[.int .i64 0, .int .i64 0, .int .i64 0, .slice none 0 0, .slice none 0 0, .slice none 0 0] 33); simpa using this
  have HB : Hid (Calls Try.prog 34 #[.agg #[.int .i64 st, .slice wa wn wk, .slice la ln lc, .slice xa xn xc]] W fun e w' => e = .returned (.int .i64 K0) ∧ Below W.heap.size W w') := by rw [hK]; exact spec_bf hst hs (h.below HW.out.1)
  have HNW : Hid (∀ w', Below w.heap.size w w' → Calls Try.prog 36 #[.agg #[.int .i64 st, .slice wa wn wk, .slice la ln lc, .slice xa xn xc], .int .i64 id] w' fun e w2 => e = .returned (.bool NW) ∧ Below w'.heap.size w' w2) := fun w' hb => by rw [hNW]; exact spec_new id hln (by have := hs.ls; omega) (h.ls.rlo.below hb)
  have HCP : Hid (∀ w', Below w.heap.size w w' → Calls Try.prog 39 #[.agg #[.int .i64 st, .slice wa wn wk, .slice la ln lc, .slice xa xn xc]] w' fun e w2 => ∃ (vq : Value × Value × Value) (rs : List Lr), e = .returned (.agg #[.int .i64 st, vq.1, vq.2.1, vq.2.2]) ∧ PB w2 w'.heap.size vq.1 vq.2.1 vq.2.2 (wvO rs) b rs ∧ Below w'.heap.size w' w2) := fun w' hb => cpB st w' _ _ _ b hst hs (h.below hb)
  have HAL : Hid (GBk b → ∀ w', Below w.heap.size w w' → Calls Try.prog 37 #[.agg #[.int .i64 st, .slice wa wn wk, .slice la ln lc, .slice xa xn xc]] w' fun e w2 => ∃ v, e = .returned v ∧ IS w2 w'.heap.size v (alL b) ∧ Below w'.heap.size w' w2) := fun hg w' hb => spec_all st hg.ls hg.ws hg.sc (h.below hb)
  have HR0 : Hid (C = stC b id ws ∧ RB = stB b id ws ∧ b.st = st ∧ ln = b.ls.length ∧ K0 = bkF b ∧ wn = b.wn.length ∧ xn = b.sc.length ∧ NW = nwI b id ∧ KW = wfC (alL b) ws) := ⟨hC, hRB, hst, hln, hK, hwn, hxn, hNW, hKW⟩
  have HWS : Hid (sn = ws.length ∧ NC (.slice sa sn sc) ∧ RdI w (.slice sa sn sc) ws) := ⟨hsn, hnw, hws⟩
  have hsn6 : sn ≤ 1048576 := by rw [hsn]; exact hwl
  clear h hs hst hwn hln hxn hC hRB hK hNW hKW hsn hnw hws hwl
  go_enter Try.func10, Try.ntmps10
  go_wp2_with (fail)
  rw [← hW]
  clear hW
  refine HB.out.mono ?_
  rintro e w1 ⟨rfl, hb1⟩
  have HK : Hid (w1.heap[w.heap.size]? = some (.cells #[.int .i64 st, .slice wa wn wk, .slice la ln lc, .slice xa xn xc] 31)) := (hb1.block _ (ltOfQ HW.out.2.1)).trans HW.out.2.1
  have HM : Hid (w1.heap[w.heap.size + 1]? = some (.cells #[.int .i64 0, .int .i64 0, .int .i64 0, .slice none 0 0, .slice none 0 0, .slice none 0 0] 33)) := (hb1.block _ (ltOfQ HW.out.2.2)).trans HW.out.2.2
  have HE : Hid (Below w.heap.size w w1) := HW.out.1.trans (hb1.mono HW.out.1.size)
  obtain ⟨p0, p1, p2, p3, pl⟩ : w1.cell? ⟨w.heap.size, 0, none⟩ = some (.int .i64 st) ∧ w1.cell? ⟨w.heap.size, 1, none⟩ = some (.slice wa wn wk) ∧ w1.cell? ⟨w.heap.size, 2, none⟩ = some (.slice la ln lc) ∧ w1.cell? ⟨w.heap.size, 3, none⟩ = some (.slice xa xn xc) ∧ w.heap.size < w1.heap.size := ⟨cellOfQ HK.out 0 rfl, cellOfQ HK.out 1 rfl, cellOfQ HK.out 2 rfl, cellOfQ HK.out 3 rfl, ltOfQ HK.out⟩
  clear hb1 HB HW
  by_cases hK0 : K0 = 0
  case neg =>
    obtain rfl : C = K0 := by rw [HC.out, if_pos hK0]
    have hCb : (C == 0) = false := beq_eq_false_iff_ne.2 hK0
    clear HCP HAL HNW p0 p1 p2 p3 pl
    have HR : Hid (RB = bkZ) := by unfold Hid; rw [HR0.out.2.1, stB, if_pos (by rw [← HR0.out.1]; exact hK0)]
    have HCD : Hid (∀ W, Calls Try.prog 35 #[.int .i64 C] W fun e w' => e = .returned (.agg #[.int .i64 C, .int .i64 0, .int .i64 0, .slice none 0 0, .slice none 0 0, .slice none 0 0]) ∧ Below W.heap.size W w') := fun W => spec_cd C W
    go_wp2_with (fail)
    refine (HCD.out _).mono ?_
    rintro e w9 ⟨rfl, hb9⟩
    have m9 := (hb9.block _ (ltOfQ HM.out)).trans HM.out
    have HE9 : Hid (Below w.heap.size w w9) := HE.out.trans (hb9.mono HE.out.size)
    clear hb9
    obtain ⟨r0, r1, r2, r3, r4, r5, rl⟩ := six_of m9
    have qf0 := frozOf m9 0
    have qf1 := frozOf m9 1
    have qf2 := frozOf m9 2
    have qf3 := frozOf m9 3
    have qf4 := frozOf m9 4
    have qf5 := frozOf m9 5
    clear m9
    go_wp2
    try simp only [Exit.inBlock, Exit.then]
    refine bodyPost_ret (by simp [results, Try.results10, go_sem, r0, r1, r2, r3, r4, r5, rl, qf0, qf1, qf2, qf3, qf4, qf5]; try rfl) rfl ⟨(nilV, nilV, nilV), [], by rw [HR.out]; rfl, by rw [HR.out]; exact PB.nil _ _, ?_⟩
    have hb := HE9.out
    (repeat' (first | (with_reducible exact Below.refl _ _) | (with_reducible assumption) | (with_reducible refine Below.setCell ?_ ?_ _) | (with_reducible refine Below.alloc ?_ ?_ _) | (with_reducible refine below_drewN ?_ _) | (with_reducible refine Below.drew ?_) | (with_reducible exact Nat.le_refl _) | omega | (simp; done) | (simp; omega)))
  subst hK0
  have HG : Hid (GBk b) := bkF_zero HR0.out.2.2.2.2.1.symm
  by_cases h30 : ln = 30
  · obtain rfl : C = 2 := by rw [HC.out, if_neg (by decide), if_pos h30]
    have e30 : ((ln : Int) == 30) = true := by rw [h30]; rfl
    clear HCP HAL HNW
    have HR : Hid (RB = bkZ) := by unfold Hid; rw [HR0.out.2.1, stB, if_pos (by rw [← HR0.out.1]; decide)]
    have HCD : Hid (∀ W, Calls Try.prog 35 #[.int .i64 2] W fun e w' => e = .returned (.agg #[.int .i64 2, .int .i64 0, .int .i64 0, .slice none 0 0, .slice none 0 0, .slice none 0 0]) ∧ Below W.heap.size W w') := fun W => spec_cd 2 W
    go_wp2_with (fail)
    refine (HCD.out _).mono ?_
    rintro e w9 ⟨rfl, hb9⟩
    have m9 := (hb9.block _ (ltOfQ HM.out)).trans HM.out
    have HE9 : Hid (Below w.heap.size w w9) := HE.out.trans (hb9.mono HE.out.size)
    clear hb9
    obtain ⟨r0, r1, r2, r3, r4, r5, rl⟩ := six_of m9
    have qf0 := frozOf m9 0
    have qf1 := frozOf m9 1
    have qf2 := frozOf m9 2
    have qf3 := frozOf m9 3
    have qf4 := frozOf m9 4
    have qf5 := frozOf m9 5
    clear m9
    go_wp2
    try simp only [Exit.inBlock, Exit.then]
    refine bodyPost_ret (by simp [results, Try.results10, go_sem, r0, r1, r2, r3, r4, r5, rl, qf0, qf1, qf2, qf3, qf4, qf5]; try rfl) rfl ⟨(nilV, nilV, nilV), [], by rw [HR.out]; rfl, by rw [HR.out]; exact PB.nil _ _, ?_⟩
    have hb := HE9.out
    (repeat' (first | (with_reducible exact Below.refl _ _) | (with_reducible assumption) | (with_reducible refine Below.setCell ?_ ?_ _) | (with_reducible refine Below.alloc ?_ ?_ _) | (with_reducible refine below_drewN ?_ _) | (with_reducible refine Below.drew ?_) | (with_reducible exact Nat.le_refl _) | omega | (simp; done) | (simp; omega)))
  have e30 : ((ln : Int) == 30) = false := beq_eq_false_iff_ne.2 (by omega)
  by_cases h25 : 25 < sn
  · obtain rfl : C = 2 := by rw [HC.out, if_neg (by decide), if_neg h30, if_pos h25]
    have e25 : (25 : Int) < (sn : Int) := by omega
    clear HCP HAL HNW
    have HR : Hid (RB = bkZ) := by unfold Hid; rw [HR0.out.2.1, stB, if_pos (by rw [← HR0.out.1]; decide)]
    have HCD : Hid (∀ W, Calls Try.prog 35 #[.int .i64 2] W fun e w' => e = .returned (.agg #[.int .i64 2, .int .i64 0, .int .i64 0, .slice none 0 0, .slice none 0 0, .slice none 0 0]) ∧ Below W.heap.size W w') := fun W => spec_cd 2 W
    go_wp2_with (fail)
    refine (HCD.out _).mono ?_
    rintro e w9 ⟨rfl, hb9⟩
    have m9 := (hb9.block _ (ltOfQ HM.out)).trans HM.out
    have HE9 : Hid (Below w.heap.size w w9) := HE.out.trans (hb9.mono HE.out.size)
    clear hb9
    obtain ⟨r0, r1, r2, r3, r4, r5, rl⟩ := six_of m9
    have qf0 := frozOf m9 0
    have qf1 := frozOf m9 1
    have qf2 := frozOf m9 2
    have qf3 := frozOf m9 3
    have qf4 := frozOf m9 4
    have qf5 := frozOf m9 5
    clear m9
    go_wp2
    try simp only [Exit.inBlock, Exit.then]
    refine bodyPost_ret (by simp [results, Try.results10, go_sem, r0, r1, r2, r3, r4, r5, rl, qf0, qf1, qf2, qf3, qf4, qf5]; try rfl) rfl ⟨(nilV, nilV, nilV), [], by rw [HR.out]; rfl, by rw [HR.out]; exact PB.nil _ _, ?_⟩
    have hb := HE9.out
    (repeat' (first | (with_reducible exact Below.refl _ _) | (with_reducible assumption) | (with_reducible refine Below.setCell ?_ ?_ _) | (with_reducible refine Below.alloc ?_ ?_ _) | (with_reducible refine below_drewN ?_ _) | (with_reducible refine Below.drew ?_) | (with_reducible exact Nat.le_refl _) | omega | (simp; done) | (simp; omega)))
  have e25 : ¬ (25 : Int) < (sn : Int) := by omega
  have e25' : (sn : Int) ≤ 25 := by omega
  go_wp2_with (fail)
  refine (HNW.out _ HE.out).mono ?_
  rintro e w2 ⟨rfl, hb2⟩
  have HMw2 : Hid (w2.heap[w.heap.size + 1]? = some (.cells #[.int .i64 0, .int .i64 0, .int .i64 0, .slice none 0 0, .slice none 0 0, .slice none 0 0] 33)) := (hb2.block _ (ltOfQ HM.out)).trans HM.out
  have HEw2 : Hid (Below w.heap.size w w2) := HE.out.trans (hb2.mono HE.out.size)
  have HKw2 : Hid (w2.heap[w.heap.size]? = some (.cells #[.int .i64 st, .slice wa wn wk, .slice la ln lc, .slice xa xn xc] 31)) := (hb2.block _ (ltOfQ HK.out)).trans HK.out
  clear HM HE HK p0 p1 p2 p3 pl
  have HM := HMw2
  have HE := HEw2
  have HK := HKw2
  clear HMw2 HEw2 HKw2
  obtain ⟨p0, p1, p2, p3, pl⟩ : w2.cell? ⟨w.heap.size, 0, none⟩ = some (.int .i64 st) ∧ w2.cell? ⟨w.heap.size, 1, none⟩ = some (.slice wa wn wk) ∧ w2.cell? ⟨w.heap.size, 2, none⟩ = some (.slice la ln lc) ∧ w2.cell? ⟨w.heap.size, 3, none⟩ = some (.slice xa xn xc) ∧ w.heap.size < w2.heap.size := ⟨cellOfQ HK.out 0 rfl, cellOfQ HK.out 1 rfl, cellOfQ HK.out 2 rfl, cellOfQ HK.out 3 rfl, ltOfQ HK.out⟩
  clear hb2 HNW
  cases NW
  case false =>
    obtain rfl : C = 1 := by rw [HC.out, if_neg (by decide), if_neg h30, if_neg h25, if_pos rfl]
    clear HCP HAL
    have HR : Hid (RB = bkZ) := by unfold Hid; rw [HR0.out.2.1, stB, if_pos (by rw [← HR0.out.1]; decide)]
    have HCD : Hid (∀ W, Calls Try.prog 35 #[.int .i64 1] W fun e w' => e = .returned (.agg #[.int .i64 1, .int .i64 0, .int .i64 0, .slice none 0 0, .slice none 0 0, .slice none 0 0]) ∧ Below W.heap.size W w') := fun W => spec_cd 1 W
    go_wp2_with (fail)
    refine (HCD.out _).mono ?_
    rintro e w9 ⟨rfl, hb9⟩
    have m9 := (hb9.block _ (ltOfQ HM.out)).trans HM.out
    have HE9 : Hid (Below w.heap.size w w9) := HE.out.trans (hb9.mono HE.out.size)
    clear hb9
    obtain ⟨r0, r1, r2, r3, r4, r5, rl⟩ := six_of m9
    have qf0 := frozOf m9 0
    have qf1 := frozOf m9 1
    have qf2 := frozOf m9 2
    have qf3 := frozOf m9 3
    have qf4 := frozOf m9 4
    have qf5 := frozOf m9 5
    clear m9
    go_wp2
    try simp only [Exit.inBlock, Exit.then]
    refine bodyPost_ret (by simp [results, Try.results10, go_sem, r0, r1, r2, r3, r4, r5, rl, qf0, qf1, qf2, qf3, qf4, qf5]; try rfl) rfl ⟨(nilV, nilV, nilV), [], by rw [HR.out]; rfl, by rw [HR.out]; exact PB.nil _ _, ?_⟩
    have hb := HE9.out
    (repeat' (first | (with_reducible exact Below.refl _ _) | (with_reducible assumption) | (with_reducible refine Below.setCell ?_ ?_ _) | (with_reducible refine Below.alloc ?_ ?_ _) | (with_reducible refine below_drewN ?_ _) | (with_reducible refine Below.drew ?_) | (with_reducible exact Nat.le_refl _) | omega | (simp; done) | (simp; omega)))
  by_cases hn0 : sn = 0
  · obtain rfl : C = 4 := by rw [HC.out, if_neg (by decide), if_neg h30, if_neg h25, if_neg (by decide), if_pos hn0]
    have e0 : ((sn : Int) == 0) = true := by rw [hn0]; rfl
    clear HCP HAL
    have HR : Hid (RB = bkZ) := by unfold Hid; rw [HR0.out.2.1, stB, if_pos (by rw [← HR0.out.1]; decide)]
    have HCD : Hid (∀ W, Calls Try.prog 35 #[.int .i64 4] W fun e w' => e = .returned (.agg #[.int .i64 4, .int .i64 0, .int .i64 0, .slice none 0 0, .slice none 0 0, .slice none 0 0]) ∧ Below W.heap.size W w') := fun W => spec_cd 4 W
    go_wp2_with (fail)
    refine (HCD.out _).mono ?_
    rintro e w9 ⟨rfl, hb9⟩
    have m9 := (hb9.block _ (ltOfQ HM.out)).trans HM.out
    have HE9 : Hid (Below w.heap.size w w9) := HE.out.trans (hb9.mono HE.out.size)
    clear hb9
    obtain ⟨r0, r1, r2, r3, r4, r5, rl⟩ := six_of m9
    have qf0 := frozOf m9 0
    have qf1 := frozOf m9 1
    have qf2 := frozOf m9 2
    have qf3 := frozOf m9 3
    have qf4 := frozOf m9 4
    have qf5 := frozOf m9 5
    clear m9
    go_wp2
    try simp only [Exit.inBlock, Exit.then]
    refine bodyPost_ret (by simp [results, Try.results10, go_sem, r0, r1, r2, r3, r4, r5, rl, qf0, qf1, qf2, qf3, qf4, qf5]; try rfl) rfl ⟨(nilV, nilV, nilV), [], by rw [HR.out]; rfl, by rw [HR.out]; exact PB.nil _ _, ?_⟩
    have hb := HE9.out
    (repeat' (first | (with_reducible exact Below.refl _ _) | (with_reducible assumption) | (with_reducible refine Below.setCell ?_ ?_ _) | (with_reducible refine Below.alloc ?_ ?_ _) | (with_reducible refine below_drewN ?_ _) | (with_reducible refine Below.drew ?_) | (with_reducible exact Nat.le_refl _) | omega | (simp; done) | (simp; omega)))
  have e0 : ((sn : Int) == 0) = false := beq_eq_false_iff_ne.2 (by omega)
  obtain rfl : C = KW := by rw [HC.out, if_neg (by decide), if_neg h30, if_neg h25, if_neg (by decide), if_neg hn0]
  go_wp2_with (fail)
  refine (HAL.out HG.out _ HE.out).mono ?_
  rintro e w3 ⟨v3, rfl, hi3, hb3⟩
  have HMw3 : Hid (w3.heap[w.heap.size + 1]? = some (.cells #[.int .i64 0, .int .i64 0, .int .i64 0, .slice none 0 0, .slice none 0 0, .slice none 0 0] 33)) := (hb3.block _ (ltOfQ HM.out)).trans HM.out
  have HEw3 : Hid (Below w.heap.size w w3) := HE.out.trans (hb3.mono HE.out.size)
  have HKw3 : Hid (w3.heap[w.heap.size]? = some (.cells #[.int .i64 st, .slice wa wn wk, .slice la ln lc, .slice xa xn xc] 31)) := (hb3.block _ (ltOfQ HK.out)).trans HK.out
  clear HM HE HK p0 p1 p2 p3 pl
  have HM := HMw3
  have HE := HEw3
  have HK := HKw3
  clear HMw3 HEw3 HKw3
  obtain ⟨p0, p1, p2, p3, pl⟩ : w3.cell? ⟨w.heap.size, 0, none⟩ = some (.int .i64 st) ∧ w3.cell? ⟨w.heap.size, 1, none⟩ = some (.slice wa wn wk) ∧ w3.cell? ⟨w.heap.size, 2, none⟩ = some (.slice la ln lc) ∧ w3.cell? ⟨w.heap.size, 3, none⟩ = some (.slice xa xn xc) ∧ w.heap.size < w3.heap.size := ⟨cellOfQ HK.out 0 rfl, cellOfQ HK.out 1 rfl, cellOfQ HK.out 2 rfl, cellOfQ HK.out 3 rfl, ltOfQ HK.out⟩
  clear hb3 HAL
  obtain ⟨va, vc, hv3⟩ := hi3.form
  obtain ⟨N, hN⟩ : ∃ N, N = (alL b).length := ⟨_, rfl⟩
  rw [← hN] at hv3
  subst hv3
  have HN : Hid (N = (alL b).length) := hN
  clear hN
  have hNb : N ≤ 1000 := by
    rw [HN.out, alL, List.length_append]
    have h1 := preL_len HG.out.ws b.ls.length (Nat.le_refl _)
    rw [preL_all] at h1
    have h2 := HG.out.ls
    have h3 := HG.out.sc
    omega
  have HI3 : Hid (RdI (w3.alloc (.cells #[] 2)) (.slice va N vc) (alL b) ∧ NC (.slice va N vc)) := ⟨hi3.rg.below ((Below.refl _ _).alloc (Nat.le_refl _) _), hi3.nc⟩
  clear hi3
  go_wp2_with (at_builtin; first | (refine appAny rfl _ _ 24 rfl w3.heap.size 2 i0 (.int .i64 0) 1 8 Try.underlying24 hi0 hz0 hz1 hz2 rfl (by decide) (.slice (some ⟨w3.heap.size, 0, none⟩) 0 0) 0 [] rfl (World.ownsRow_lit w3 #[] 0 (Nat.le_refl _) (by decide) (by simp)) va N vc ((alL b).map (Value.int .i64)) rfl (by rw [HN.out]; simp) (fun e => HI3.out.2 _ _ (by rw [e])) (newsI HI3.out.1) (ones_int _) (by unfold maxLen; omega) (by omega) (by simp) ?_; intro v5 w5 hown5 hgrow5 _; obtain ⟨a5, c5, rfl, hi5, hb5⟩ := apI HN.out hown5 hgrow5; clear hown5 hgrow5) | (refine appAny rfl _ _ 24 rfl w3.heap.size 2 i0 (.int .i64 0) 1 8 Try.underlying24 hi0 hz0 hz1 hz2 rfl (by decide) (.slice a5 N c5) N ((alL b).map (Value.int .i64)) rfl (is_row HN.out hi5) sa sn sc (ws.map (Value.int .i64)) rfl (by rw [HWS.out.1]; simp) (fun e => HWS.out.2.1 _ _ (by rw [e])) (newsI (HWS.out.2.2.below (HE.out.trans (hb5.mono HE.out.size)))) (ones_int _) (by unfold maxLen; omega) (by omega) hb5.size ?_; intro v6 w6 hown6 hgrow6 _; obtain ⟨a6, c6, rfl, hi6⟩ := rowI HN.out HWS.out.1 hown6))
  have hb6 : Below w3.heap.size w3 w6 := hb5.grown hgrow6 hb5.size (fun q hq => (IS.lt hi5 q hq).1)
  have HWF : Hid (Calls Try.prog 38 #[.slice a6 (N + sn) c6, .int .i64 N] w6 fun e w' => e = .returned (.int .i64 C) ∧ w' = w6) := by
    rw [HR0.out.2.2.2.2.2.2.2.2]
    exact spec_waf (by rw [List.length_append, ← HN.out, ← HWS.out.1]; omega) hi6.rg N HN.out
  have HMw6 : Hid (w6.heap[w.heap.size + 1]? = some (.cells #[.int .i64 0, .int .i64 0, .int .i64 0, .slice none 0 0, .slice none 0 0, .slice none 0 0] 33)) := (hb6.block _ (ltOfQ HM.out)).trans HM.out
  have HEw6 : Hid (Below w.heap.size w w6) := HE.out.trans (hb6.mono HE.out.size)
  have HKw6 : Hid (w6.heap[w.heap.size]? = some (.cells #[.int .i64 st, .slice wa wn wk, .slice la ln lc, .slice xa xn xc] 31)) := (hb6.block _ (ltOfQ HK.out)).trans HK.out
  clear HM HE HK p0 p1 p2 p3 pl
  have HM := HMw6
  have HE := HEw6
  have HK := HKw6
  clear HMw6 HEw6 HKw6
  obtain ⟨p0, p1, p2, p3, pl⟩ : w6.cell? ⟨w.heap.size, 0, none⟩ = some (.int .i64 st) ∧ w6.cell? ⟨w.heap.size, 1, none⟩ = some (.slice wa wn wk) ∧ w6.cell? ⟨w.heap.size, 2, none⟩ = some (.slice la ln lc) ∧ w6.cell? ⟨w.heap.size, 3, none⟩ = some (.slice xa xn xc) ∧ w.heap.size < w6.heap.size := ⟨cellOfQ HK.out 0 rfl, cellOfQ HK.out 1 rfl, cellOfQ HK.out 2 rfl, cellOfQ HK.out 3 rfl, ltOfQ HK.out⟩
  clear hb6 hb5 hi5 hi6 hown6 hgrow6 HI3
  refine HWF.out.mono ?_
  rintro e w7 ⟨rfl, hw7⟩
  subst w7
  clear HWF
  by_cases hC0 : C = 0
  case neg =>
    have hCb : (C == 0) = false := beq_eq_false_iff_ne.2 hC0
    clear HCP p0 p1 p2 p3 pl
    have HR : Hid (RB = bkZ) := by unfold Hid; rw [HR0.out.2.1, stB, if_pos (by rw [← HR0.out.1]; exact hC0)]
    have HCD : Hid (∀ W, Calls Try.prog 35 #[.int .i64 C] W fun e w' => e = .returned (.agg #[.int .i64 C, .int .i64 0, .int .i64 0, .slice none 0 0, .slice none 0 0, .slice none 0 0]) ∧ Below W.heap.size W w') := fun W => spec_cd C W
    go_wp2_with (fail)
    refine (HCD.out _).mono ?_
    rintro e w9 ⟨rfl, hb9⟩
    have m9 := (hb9.block _ (ltOfQ HM.out)).trans HM.out
    have HE9 : Hid (Below w.heap.size w w9) := HE.out.trans (hb9.mono HE.out.size)
    clear hb9
    obtain ⟨r0, r1, r2, r3, r4, r5, rl⟩ := six_of m9
    have qf0 := frozOf m9 0
    have qf1 := frozOf m9 1
    have qf2 := frozOf m9 2
    have qf3 := frozOf m9 3
    have qf4 := frozOf m9 4
    have qf5 := frozOf m9 5
    clear m9
    go_wp2
    try simp only [Exit.inBlock, Exit.then]
    refine bodyPost_ret (by simp [results, Try.results10, go_sem, r0, r1, r2, r3, r4, r5, rl, qf0, qf1, qf2, qf3, qf4, qf5]; try rfl) rfl ⟨(nilV, nilV, nilV), [], by rw [HR.out]; rfl, by rw [HR.out]; exact PB.nil _ _, ?_⟩
    have hb := HE9.out
    (repeat' (first | (with_reducible exact Below.refl _ _) | (with_reducible assumption) | (with_reducible refine Below.setCell ?_ ?_ _) | (with_reducible refine Below.alloc ?_ ?_ _) | (with_reducible refine below_drewN ?_ _) | (with_reducible refine Below.drew ?_) | (with_reducible exact Nat.le_refl _) | omega | (simp; done) | (simp; omega)))
  subst hC0
  have HR : Hid (RB = ⟨b.st, b.wn, b.ls ++ [newL id ws], b.sc⟩) := by unfold Hid; rw [HR0.out.2.1, stB, if_neg (fun e => e HR0.out.1.symm)]
  go_wp2_with (fail)
  refine (HCP.out _ HE.out).mono ?_
  rintro e w7 ⟨⟨v1, v2, v3⟩, rs, rfl, hpb, hb7⟩
  simp only at hpb
  have HRL : Hid (rs.length = ln) := by unfold Hid; rw [hpb.len]; exact HR0.out.2.2.2.1.symm
  obtain ⟨na, nc, ew⟩ := OG.fm hpb.wn
  obtain ⟨ka, kc, el⟩ := OG.fm hpb.row
  obtain ⟨ya, yc, ex⟩ := hpb.sc.form
  rw [← HR0.out.2.2.2.2.2.1] at ew
  rw [HRL.out] at el
  rw [← HR0.out.2.2.2.2.2.2.1] at ex
  subst ew el ex
  obtain ⟨B0, hB0⟩ : ∃ x, x = w6.heap.size := ⟨_, rfl⟩
  obtain ⟨K, hKK⟩ : ∃ x, x = w7.heap.size := ⟨_, rfl⟩
  obtain ⟨U, hU⟩ : ∃ X, X = w7.alloc (.cells #[.int .i64 st, .slice na wn nc, .slice ka ln kc, .slice ya xn yc] 31) := ⟨_, rfl⟩
  have HN0 : Hid (NS U U.drew B0 K st (.slice na wn nc) (.slice ka ln kc) (.slice ya xn yc) (.slice none 0 0) b rs []) := by
    have hbU : Below w7.heap.size w7 U := by rw [hU]; (repeat' (first | (with_reducible exact Below.refl _ _) | (with_reducible assumption) | (with_reducible refine Below.setCell ?_ ?_ _) | (with_reducible refine Below.alloc ?_ ?_ _) | (with_reducible refine below_drewN ?_ _) | (with_reducible refine Below.drew ?_) | (with_reducible exact Nat.le_refl _) | omega | (simp; done) | (simp; omega)))
    have hsz : w7.heap.size < U.heap.size := by rw [hU]; simp
    have h67 := hb7.size
    refine ⟨(Below.refl _ _).drew, (Below.refl _ _).drew, ?_, ?_, ?_, ?_, fun q hq => ?_, ⟨rfl, Or.inl ⟨rfl, rfl⟩⟩⟩
    · show B0 ≤ U.heap.size; omega
    · show U.heap[K]? = _; rw [hU, hKK]; exact heap_alloc_new _ _
    · omega
    · rw [hB0]; exact (hpb.below hbU).below ((Below.refl _ _).drew)
    · have := (hpb.blk hq).2; omega
  have HS : Hid (sn = ws.length ∧ NC (.slice sa sn sc) ∧ RdI U (.slice sa sn sc) ws) := by
    have hbU : Below w7.heap.size w7 U := by rw [hU]; (repeat' (first | (with_reducible exact Below.refl _ _) | (with_reducible assumption) | (with_reducible refine Below.setCell ?_ ?_ _) | (with_reducible refine Below.alloc ?_ ?_ _) | (with_reducible refine below_drewN ?_ _) | (with_reducible refine Below.drew ?_) | (with_reducible exact Nat.le_refl _) | omega | (simp; done) | (simp; omega)))
    have hb := HE.out.trans (hb7.mono HE.out.size)
    exact ⟨HWS.out.1, HWS.out.2.1, (HWS.out.2.2.below hb).below hbU⟩
  have HMU : Hid (U.heap[w.heap.size + 1]? = some (.cells #[.int .i64 0, .int .i64 0, .int .i64 0, .slice none 0 0, .slice none 0 0, .slice none 0 0] 33) ∧ Below w.heap.size w U ∧ w.heap.size + 1 < B0 ∧ w.heap.size ≤ B0) := by
    have hbU : Below w7.heap.size w7 U := by rw [hU]; (repeat' (first | (with_reducible exact Below.refl _ _) | (with_reducible assumption) | (with_reducible refine Below.setCell ?_ ?_ _) | (with_reducible refine Below.alloc ?_ ?_ _) | (with_reducible refine below_drewN ?_ _) | (with_reducible refine Below.drew ?_) | (with_reducible exact Nat.le_refl _) | omega | (simp; done) | (simp; omega)))
    have hb := HE.out.trans (hb7.mono HE.out.size)
    have h1 := ltOfQ HM.out
    have h2 := hb7.size
    refine ⟨(hbU.block _ (by omega)).trans ((hb7.block _ h1).trans HM.out), hb.trans (hbU.mono hb.size), by omega, by omega⟩
  clear hpb hb7 HM HE HK p0 p1 p2 p3 pl HCP HWS HC hB0
  go_upto_region 15 with fail
  rw [← hKK, ← hU]
  clear hKK hU
  go_cut [10] from 52 (fun r10 wx => ∃ (a8 : Option Addr) (c8 : Nat) (rs' : List Lr), r10 = .pointer (some ⟨K, 0, none⟩) ∧ Hid (NQ U wx B0 K st (.slice na wn nc) (.slice a8 (ln + 1) c8) (.slice ya xn yc) ⟨b.st, b.wn, b.ls ++ [newL id ws], b.sc⟩ rs'))
  case first =>
    have hN := HN0.out
    refine wp_region_holdsA (S := KA B0 U) (by kernel_rfl) (KA.of hN.bw) (fun hS => ?_)
    refine fl_takeA (i := 0) (d := 52) (v := .pointer (some ⟨K, 2, none⟩)) rfl rfl rfl (by kernel_rfl) (by kernel_rfl) (by kernel_rfl) hS ?_ ?_
    · intro w' hk; unfold KA at hk; go_simp
    simp only [Act.put, List.setIfInBounds_toArray, List.set_cons_zero, List.set_cons_succ]
    refine fl_takeA (i := 2) (d := 54) (v := .int .i64 id) rfl rfl rfl (by kernel_rfl) (by kernel_rfl) (by kernel_rfl) hS ?_ ?_
    · intro w' hk; unfold KA at hk; go_simp
    simp only [Act.put, List.setIfInBounds_toArray, List.set_cons_zero, List.set_cons_succ]
    refine fl_takeA (i := 4) (d := 56) (v := .slice sa sn sc) rfl rfl rfl (by kernel_rfl) (by kernel_rfl) (by kernel_rfl) hS ?_ ?_
    · intro w' hk; unfold KA at hk; go_simp
    simp only [Act.put, List.setIfInBounds_toArray, List.set_cons_zero, List.set_cons_succ]
    refine wpAnyH_all (rs := [1, 3]) (by kernel_rfl) (by simp) ?_
    intro i hi
    rcases (by simpa using hi : i = 1 ∨ i = 3) with rfl | rfl
    · clear hi
      have z2 : (U.drew).cell? ⟨K, 2, none⟩ = some (.slice ka ln kc) := cellOfQ hN.k 2 rfl
      refine op_val (d := 53) (v := .slice ka ln kc) (w' := U.drew) rfl rfl rfl (by go_simp; try rfl) ?_
      simp only [Act.put, List.setIfInBounds_toArray, List.set_cons_zero, List.set_cons_succ]
      clear z2
      refine ⟨KA.of hN.bw, ?_⟩
      refine wpAnyH_all (rs := [3]) (by kernel_rfl) (by simp) ?_
      intro i hi
      obtain rfl : i = 3 := by simpa using hi
      clear hi
      refine op_val (d := 55) (v := .slice (some ⟨(U.drew).heap.size, 0, none⟩) 0 0) (w' := (U.drew).alloc (.cells #[] 2)) rfl rfl rfl (by go_simp; try rfl) ?_
      simp only [Act.put, List.setIfInBounds_toArray, List.set_cons_zero, List.set_cons_succ]
      have hN := hN.mk3
      obtain ⟨g3, hg3⟩ : ∃ g, g = (U.drew).heap.size := ⟨_, rfl⟩
      rw [← hg3] at hN ⊢
      generalize (U.drew).alloc (.cells #[] 2) = y3 at hN ⊢
      clear hg3
      refine ⟨KA.of hN.bw, ?_⟩
      refine wpAnyH_all (rs := [5]) (by kernel_rfl) (by simp) ?_
      intro i hi
      obtain rfl : i = 5 := by simpa using hi
      clear hi
      refine op_appA (dd := 57) rfl rfl rfl _ _ 24 rfl U.heap.size 2 i0 (.int .i64 0) 1 8 Try.underlying24 hi0 hz0 hz1 hz2 rfl (by decide) (.slice (some ⟨g3, 0, none⟩) 0 0) 0 [] rfl hN.i sa sn sc (ws.map (Value.int .i64)) rfl (by rw [HS.out.1]; simp) (fun e => HS.out.2.1 _ _ (by rw [e])) (newsI (HS.out.2.2.below hN.u)) (ones_int _) (by unfold maxLen; omega) (by omega) hN.u.size ?_
      intro v5 y5 hown hgrow
      simp only [Act.put, List.setIfInBounds_toArray, List.set_cons_zero, List.set_cons_succ]
      have hN := hN.ap5 HS.out.1 hown hgrow
      obtain ⟨a5, c5, hv5⟩ := hN.i.form
      rw [← HS.out.1] at hv5
      subst hv5
      clear hown hgrow
      refine ⟨KA.of hN.bw, ?_⟩
      refine fl_takeA (i := 6) (d := 58) (v := .agg #[.int .i64 id, .int .i64 0, .slice a5 sn c5, .bool false, .slice none 0 0]) rfl rfl rfl (by kernel_rfl) (by kernel_rfl) (by kernel_rfl) (KA.of hN.bw) ?_ ?_
      · intro w' hk; go_simp
      simp only [Act.put, List.setIfInBounds_toArray, List.set_cons_zero, List.set_cons_succ]
      refine wpAnyH_all (rs := [7]) (by kernel_rfl) (by simp) ?_
      intro i hi
      obtain rfl : i = 7 := by simpa using hi
      clear hi
      refine op_val (d := 59) (v := .slice (some ⟨(y5).heap.size, 0, none⟩) 1 1) (w' := (y5).alloc (.cells #[.int .i64 id, .int .i64 0, .slice a5 sn c5, .bool false, .slice none 0 0] 61)) rfl rfl rfl (by go_simp; try rfl) ?_
      simp only [Act.put, List.setIfInBounds_toArray, List.set_cons_zero, List.set_cons_succ]
      have hL := heap_alloc_new (y5) (.cells #[.int .i64 id, .int .i64 0, .slice a5 sn c5, .bool false, .slice none 0 0] 61)
      have hN := hN.mk7 (o := .cells #[.int .i64 id, .int .i64 0, .slice a5 sn c5, .bool false, .slice none 0 0] 61)
      obtain ⟨g7, hg7⟩ : ∃ g, g = (y5).heap.size := ⟨_, rfl⟩
      rw [← hg7] at hL ⊢
      generalize (y5).alloc (.cells #[.int .i64 id, .int .i64 0, .slice a5 sn c5, .bool false, .slice none 0 0] 61) = y7 at hN hL ⊢
      clear hg7
      refine ⟨KA.of hN.bw, ?_⟩
      refine wpAnyH_all (rs := [8]) (by kernel_rfl) (by simp) ?_
      intro i hi
      obtain rfl : i = 8 := by simpa using hi
      clear hi
      refine op_appA (dd := 60) rfl rfl rfl _ _ 29 rfl B0 61 il (.agg #[.int .i64 0, .int .i64 0, .slice none 0 0, .bool false, .slice none 0 0]) 5 72 Try.underlying29 hil hl0 hl1 hl2 rfl (by decide) (.slice ka ln kc) ln (rs.flatMap lrC) rfl (by have h9 := hN.p.row; unfold OG at h9; rw [HRL.out] at h9; exact h9) (some ⟨g7, 0, none⟩) 1 1 (lrC ⟨id, 0, a5, sn, c5, false, none, 0, 0⟩) rfl rfl (fun h => by cases h) (fun ad h => by injection h with h; subst h; exact World.news_of_block (fr := (0, 0)) hL) (lrC_one _) (by unfold maxLen; omega) (by omega) hN.lo ?_
      intro v8 y8 hown hgrow
      simp only [Act.put, List.setIfInBounds_toArray, List.set_cons_zero, List.set_cons_succ]
      rw [← HRL.out] at hown
      obtain ⟨a8, c8, hv8, hb8, hk8, hQ⟩ := hN.ap8 hown hgrow
      rw [HRL.out] at hv8
      subst hv8
      clear hown hgrow hL
      refine ⟨KA.of hb8, ?_⟩
      refine fl_takeA (i := 9) (d := 61) (v := .pointer (some ⟨K, 2, none⟩)) rfl rfl rfl (by kernel_rfl) (by kernel_rfl) (by kernel_rfl) (KA.of hb8) ?_ ?_
      · intro w' hk; go_simp
      simp only [Act.put, List.setIfInBounds_toArray, List.set_cons_zero, List.set_cons_succ]
      have z2 : y8.cell? ⟨K, 2, none⟩ = some (.slice ka ln kc) := cellOfQ hk8 2 rfl
      have f2 := frozOfQ hk8 2
      have zl := ltOfQ hk8
      refine wpAnyH_all (rs := [10]) (by kernel_rfl) (by simp) ?_
      intro i hi
      obtain rfl : i = 10 := by simpa using hi
      clear hi
      refine op_skipN (w' := y8.setCell ⟨K, 2, none⟩ (.slice a8 (ln + 1) c8)) rfl rfl (by go_simp; try rfl) ?_
      simp only [Act.put]
      refine ⟨KA.of hQ.bw, wpAnyH_done (by kernel_rfl) (NoPanic.normal ?_) _⟩
      clear z2 f2 zl
      generalize y8.setCell ⟨K, 2, none⟩ (.slice a8 (ln + 1) c8) = y9 at hQ ⊢
      go_wp2_with (fail)
      go_meet
      exact ⟨_, _, _, rfl, hQ⟩
    · clear hi
      refine op_val (d := 55) (v := .slice (some ⟨(U.drew).heap.size, 0, none⟩) 0 0) (w' := (U.drew).alloc (.cells #[] 2)) rfl rfl rfl (by go_simp; try rfl) ?_
      simp only [Act.put, List.setIfInBounds_toArray, List.set_cons_zero, List.set_cons_succ]
      have hN := hN.mk3
      obtain ⟨g3, hg3⟩ : ∃ g, g = (U.drew).heap.size := ⟨_, rfl⟩
      rw [← hg3] at hN ⊢
      generalize (U.drew).alloc (.cells #[] 2) = y3 at hN ⊢
      clear hg3
      refine ⟨KA.of hN.bw, ?_⟩
      refine wpAnyH_all (rs := [1, 5]) (by kernel_rfl) (by simp) ?_
      intro i hi
      rcases (by simpa using hi : i = 1 ∨ i = 5) with rfl | rfl
      · clear hi
        have z2 : (y3).cell? ⟨K, 2, none⟩ = some (.slice ka ln kc) := cellOfQ hN.k 2 rfl
        refine op_val (d := 53) (v := .slice ka ln kc) (w' := y3) rfl rfl rfl (by go_simp; try rfl) ?_
        simp only [Act.put, List.setIfInBounds_toArray, List.set_cons_zero, List.set_cons_succ]
        clear z2
        refine ⟨KA.of hN.bw, ?_⟩
        refine wpAnyH_all (rs := [5]) (by kernel_rfl) (by simp) ?_
        intro i hi
        obtain rfl : i = 5 := by simpa using hi
        clear hi
        refine op_appA (dd := 57) rfl rfl rfl _ _ 24 rfl U.heap.size 2 i0 (.int .i64 0) 1 8 Try.underlying24 hi0 hz0 hz1 hz2 rfl (by decide) (.slice (some ⟨g3, 0, none⟩) 0 0) 0 [] rfl hN.i sa sn sc (ws.map (Value.int .i64)) rfl (by rw [HS.out.1]; simp) (fun e => HS.out.2.1 _ _ (by rw [e])) (newsI (HS.out.2.2.below hN.u)) (ones_int _) (by unfold maxLen; omega) (by omega) hN.u.size ?_
        intro v5 y5 hown hgrow
        simp only [Act.put, List.setIfInBounds_toArray, List.set_cons_zero, List.set_cons_succ]
        have hN := hN.ap5 HS.out.1 hown hgrow
        obtain ⟨a5, c5, hv5⟩ := hN.i.form
        rw [← HS.out.1] at hv5
        subst hv5
        clear hown hgrow
        refine ⟨KA.of hN.bw, ?_⟩
        refine fl_takeA (i := 6) (d := 58) (v := .agg #[.int .i64 id, .int .i64 0, .slice a5 sn c5, .bool false, .slice none 0 0]) rfl rfl rfl (by kernel_rfl) (by kernel_rfl) (by kernel_rfl) (KA.of hN.bw) ?_ ?_
        · intro w' hk; go_simp
        simp only [Act.put, List.setIfInBounds_toArray, List.set_cons_zero, List.set_cons_succ]
        refine wpAnyH_all (rs := [7]) (by kernel_rfl) (by simp) ?_
        intro i hi
        obtain rfl : i = 7 := by simpa using hi
        clear hi
        refine op_val (d := 59) (v := .slice (some ⟨(y5).heap.size, 0, none⟩) 1 1) (w' := (y5).alloc (.cells #[.int .i64 id, .int .i64 0, .slice a5 sn c5, .bool false, .slice none 0 0] 61)) rfl rfl rfl (by go_simp; try rfl) ?_
        simp only [Act.put, List.setIfInBounds_toArray, List.set_cons_zero, List.set_cons_succ]
        have hL := heap_alloc_new (y5) (.cells #[.int .i64 id, .int .i64 0, .slice a5 sn c5, .bool false, .slice none 0 0] 61)
        have hN := hN.mk7 (o := .cells #[.int .i64 id, .int .i64 0, .slice a5 sn c5, .bool false, .slice none 0 0] 61)
        obtain ⟨g7, hg7⟩ : ∃ g, g = (y5).heap.size := ⟨_, rfl⟩
        rw [← hg7] at hL ⊢
        generalize (y5).alloc (.cells #[.int .i64 id, .int .i64 0, .slice a5 sn c5, .bool false, .slice none 0 0] 61) = y7 at hN hL ⊢
        clear hg7
        refine ⟨KA.of hN.bw, ?_⟩
        refine wpAnyH_all (rs := [8]) (by kernel_rfl) (by simp) ?_
        intro i hi
        obtain rfl : i = 8 := by simpa using hi
        clear hi
        refine op_appA (dd := 60) rfl rfl rfl _ _ 29 rfl B0 61 il (.agg #[.int .i64 0, .int .i64 0, .slice none 0 0, .bool false, .slice none 0 0]) 5 72 Try.underlying29 hil hl0 hl1 hl2 rfl (by decide) (.slice ka ln kc) ln (rs.flatMap lrC) rfl (by have h9 := hN.p.row; unfold OG at h9; rw [HRL.out] at h9; exact h9) (some ⟨g7, 0, none⟩) 1 1 (lrC ⟨id, 0, a5, sn, c5, false, none, 0, 0⟩) rfl rfl (fun h => by cases h) (fun ad h => by injection h with h; subst h; exact World.news_of_block (fr := (0, 0)) hL) (lrC_one _) (by unfold maxLen; omega) (by omega) hN.lo ?_
        intro v8 y8 hown hgrow
        simp only [Act.put, List.setIfInBounds_toArray, List.set_cons_zero, List.set_cons_succ]
        rw [← HRL.out] at hown
        obtain ⟨a8, c8, hv8, hb8, hk8, hQ⟩ := hN.ap8 hown hgrow
        rw [HRL.out] at hv8
        subst hv8
        clear hown hgrow hL
        refine ⟨KA.of hb8, ?_⟩
        refine fl_takeA (i := 9) (d := 61) (v := .pointer (some ⟨K, 2, none⟩)) rfl rfl rfl (by kernel_rfl) (by kernel_rfl) (by kernel_rfl) (KA.of hb8) ?_ ?_
        · intro w' hk; go_simp
        simp only [Act.put, List.setIfInBounds_toArray, List.set_cons_zero, List.set_cons_succ]
        have z2 : y8.cell? ⟨K, 2, none⟩ = some (.slice ka ln kc) := cellOfQ hk8 2 rfl
        have f2 := frozOfQ hk8 2
        have zl := ltOfQ hk8
        refine wpAnyH_all (rs := [10]) (by kernel_rfl) (by simp) ?_
        intro i hi
        obtain rfl : i = 10 := by simpa using hi
        clear hi
        refine op_skipN (w' := y8.setCell ⟨K, 2, none⟩ (.slice a8 (ln + 1) c8)) rfl rfl (by go_simp; try rfl) ?_
        simp only [Act.put]
        refine ⟨KA.of hQ.bw, wpAnyH_done (by kernel_rfl) (NoPanic.normal ?_) _⟩
        clear z2 f2 zl
        generalize y8.setCell ⟨K, 2, none⟩ (.slice a8 (ln + 1) c8) = y9 at hQ ⊢
        go_wp2_with (fail)
        go_meet
        exact ⟨_, _, _, rfl, hQ⟩
      · clear hi
        refine op_appA (dd := 57) rfl rfl rfl _ _ 24 rfl U.heap.size 2 i0 (.int .i64 0) 1 8 Try.underlying24 hi0 hz0 hz1 hz2 rfl (by decide) (.slice (some ⟨g3, 0, none⟩) 0 0) 0 [] rfl hN.i sa sn sc (ws.map (Value.int .i64)) rfl (by rw [HS.out.1]; simp) (fun e => HS.out.2.1 _ _ (by rw [e])) (newsI (HS.out.2.2.below hN.u)) (ones_int _) (by unfold maxLen; omega) (by omega) hN.u.size ?_
        intro v5 y5 hown hgrow
        simp only [Act.put, List.setIfInBounds_toArray, List.set_cons_zero, List.set_cons_succ]
        have hN := hN.ap5 HS.out.1 hown hgrow
        obtain ⟨a5, c5, hv5⟩ := hN.i.form
        rw [← HS.out.1] at hv5
        subst hv5
        clear hown hgrow
        refine ⟨KA.of hN.bw, ?_⟩
        refine fl_takeA (i := 6) (d := 58) (v := .agg #[.int .i64 id, .int .i64 0, .slice a5 sn c5, .bool false, .slice none 0 0]) rfl rfl rfl (by kernel_rfl) (by kernel_rfl) (by kernel_rfl) (KA.of hN.bw) ?_ ?_
        · intro w' hk; go_simp
        simp only [Act.put, List.setIfInBounds_toArray, List.set_cons_zero, List.set_cons_succ]
        refine wpAnyH_all (rs := [1, 7]) (by kernel_rfl) (by simp) ?_
        intro i hi
        rcases (by simpa using hi : i = 1 ∨ i = 7) with rfl | rfl
        · clear hi
          have z2 : (y5).cell? ⟨K, 2, none⟩ = some (.slice ka ln kc) := cellOfQ hN.k 2 rfl
          refine op_val (d := 53) (v := .slice ka ln kc) (w' := y5) rfl rfl rfl (by go_simp; try rfl) ?_
          simp only [Act.put, List.setIfInBounds_toArray, List.set_cons_zero, List.set_cons_succ]
          clear z2
          refine ⟨KA.of hN.bw, ?_⟩
          refine wpAnyH_all (rs := [7]) (by kernel_rfl) (by simp) ?_
          intro i hi
          obtain rfl : i = 7 := by simpa using hi
          clear hi
          refine op_val (d := 59) (v := .slice (some ⟨(y5).heap.size, 0, none⟩) 1 1) (w' := (y5).alloc (.cells #[.int .i64 id, .int .i64 0, .slice a5 sn c5, .bool false, .slice none 0 0] 61)) rfl rfl rfl (by go_simp; try rfl) ?_
          simp only [Act.put, List.setIfInBounds_toArray, List.set_cons_zero, List.set_cons_succ]
          have hL := heap_alloc_new (y5) (.cells #[.int .i64 id, .int .i64 0, .slice a5 sn c5, .bool false, .slice none 0 0] 61)
          have hN := hN.mk7 (o := .cells #[.int .i64 id, .int .i64 0, .slice a5 sn c5, .bool false, .slice none 0 0] 61)
          obtain ⟨g7, hg7⟩ : ∃ g, g = (y5).heap.size := ⟨_, rfl⟩
          rw [← hg7] at hL ⊢
          generalize (y5).alloc (.cells #[.int .i64 id, .int .i64 0, .slice a5 sn c5, .bool false, .slice none 0 0] 61) = y7 at hN hL ⊢
          clear hg7
          refine ⟨KA.of hN.bw, ?_⟩
          refine wpAnyH_all (rs := [8]) (by kernel_rfl) (by simp) ?_
          intro i hi
          obtain rfl : i = 8 := by simpa using hi
          clear hi
          refine op_appA (dd := 60) rfl rfl rfl _ _ 29 rfl B0 61 il (.agg #[.int .i64 0, .int .i64 0, .slice none 0 0, .bool false, .slice none 0 0]) 5 72 Try.underlying29 hil hl0 hl1 hl2 rfl (by decide) (.slice ka ln kc) ln (rs.flatMap lrC) rfl (by have h9 := hN.p.row; unfold OG at h9; rw [HRL.out] at h9; exact h9) (some ⟨g7, 0, none⟩) 1 1 (lrC ⟨id, 0, a5, sn, c5, false, none, 0, 0⟩) rfl rfl (fun h => by cases h) (fun ad h => by injection h with h; subst h; exact World.news_of_block (fr := (0, 0)) hL) (lrC_one _) (by unfold maxLen; omega) (by omega) hN.lo ?_
          intro v8 y8 hown hgrow
          simp only [Act.put, List.setIfInBounds_toArray, List.set_cons_zero, List.set_cons_succ]
          rw [← HRL.out] at hown
          obtain ⟨a8, c8, hv8, hb8, hk8, hQ⟩ := hN.ap8 hown hgrow
          rw [HRL.out] at hv8
          subst hv8
          clear hown hgrow hL
          refine ⟨KA.of hb8, ?_⟩
          refine fl_takeA (i := 9) (d := 61) (v := .pointer (some ⟨K, 2, none⟩)) rfl rfl rfl (by kernel_rfl) (by kernel_rfl) (by kernel_rfl) (KA.of hb8) ?_ ?_
          · intro w' hk; go_simp
          simp only [Act.put, List.setIfInBounds_toArray, List.set_cons_zero, List.set_cons_succ]
          have z2 : y8.cell? ⟨K, 2, none⟩ = some (.slice ka ln kc) := cellOfQ hk8 2 rfl
          have f2 := frozOfQ hk8 2
          have zl := ltOfQ hk8
          refine wpAnyH_all (rs := [10]) (by kernel_rfl) (by simp) ?_
          intro i hi
          obtain rfl : i = 10 := by simpa using hi
          clear hi
          refine op_skipN (w' := y8.setCell ⟨K, 2, none⟩ (.slice a8 (ln + 1) c8)) rfl rfl (by go_simp; try rfl) ?_
          simp only [Act.put]
          refine ⟨KA.of hQ.bw, wpAnyH_done (by kernel_rfl) (NoPanic.normal ?_) _⟩
          clear z2 f2 zl
          generalize y8.setCell ⟨K, 2, none⟩ (.slice a8 (ln + 1) c8) = y9 at hQ ⊢
          go_wp2_with (fail)
          go_meet
          exact ⟨_, _, _, rfl, hQ⟩
        · clear hi
          refine op_val (d := 59) (v := .slice (some ⟨(y5).heap.size, 0, none⟩) 1 1) (w' := (y5).alloc (.cells #[.int .i64 id, .int .i64 0, .slice a5 sn c5, .bool false, .slice none 0 0] 61)) rfl rfl rfl (by go_simp; try rfl) ?_
          simp only [Act.put, List.setIfInBounds_toArray, List.set_cons_zero, List.set_cons_succ]
          have hL := heap_alloc_new (y5) (.cells #[.int .i64 id, .int .i64 0, .slice a5 sn c5, .bool false, .slice none 0 0] 61)
          have hN := hN.mk7 (o := .cells #[.int .i64 id, .int .i64 0, .slice a5 sn c5, .bool false, .slice none 0 0] 61)
          obtain ⟨g7, hg7⟩ : ∃ g, g = (y5).heap.size := ⟨_, rfl⟩
          rw [← hg7] at hL ⊢
          generalize (y5).alloc (.cells #[.int .i64 id, .int .i64 0, .slice a5 sn c5, .bool false, .slice none 0 0] 61) = y7 at hN hL ⊢
          clear hg7
          refine ⟨KA.of hN.bw, ?_⟩
          refine wpAnyH_all (rs := [1]) (by kernel_rfl) (by simp) ?_
          intro i hi
          obtain rfl : i = 1 := by simpa using hi
          clear hi
          have z2 : (y7).cell? ⟨K, 2, none⟩ = some (.slice ka ln kc) := cellOfQ hN.k 2 rfl
          refine op_val (d := 53) (v := .slice ka ln kc) (w' := y7) rfl rfl rfl (by go_simp; try rfl) ?_
          simp only [Act.put, List.setIfInBounds_toArray, List.set_cons_zero, List.set_cons_succ]
          clear z2
          refine ⟨KA.of hN.bw, ?_⟩
          refine wpAnyH_all (rs := [8]) (by kernel_rfl) (by simp) ?_
          intro i hi
          obtain rfl : i = 8 := by simpa using hi
          clear hi
          refine op_appA (dd := 60) rfl rfl rfl _ _ 29 rfl B0 61 il (.agg #[.int .i64 0, .int .i64 0, .slice none 0 0, .bool false, .slice none 0 0]) 5 72 Try.underlying29 hil hl0 hl1 hl2 rfl (by decide) (.slice ka ln kc) ln (rs.flatMap lrC) rfl (by have h9 := hN.p.row; unfold OG at h9; rw [HRL.out] at h9; exact h9) (some ⟨g7, 0, none⟩) 1 1 (lrC ⟨id, 0, a5, sn, c5, false, none, 0, 0⟩) rfl rfl (fun h => by cases h) (fun ad h => by injection h with h; subst h; exact World.news_of_block (fr := (0, 0)) hL) (lrC_one _) (by unfold maxLen; omega) (by omega) hN.lo ?_
          intro v8 y8 hown hgrow
          simp only [Act.put, List.setIfInBounds_toArray, List.set_cons_zero, List.set_cons_succ]
          rw [← HRL.out] at hown
          obtain ⟨a8, c8, hv8, hb8, hk8, hQ⟩ := hN.ap8 hown hgrow
          rw [HRL.out] at hv8
          subst hv8
          clear hown hgrow hL
          refine ⟨KA.of hb8, ?_⟩
          refine fl_takeA (i := 9) (d := 61) (v := .pointer (some ⟨K, 2, none⟩)) rfl rfl rfl (by kernel_rfl) (by kernel_rfl) (by kernel_rfl) (KA.of hb8) ?_ ?_
          · intro w' hk; go_simp
          simp only [Act.put, List.setIfInBounds_toArray, List.set_cons_zero, List.set_cons_succ]
          have z2 : y8.cell? ⟨K, 2, none⟩ = some (.slice ka ln kc) := cellOfQ hk8 2 rfl
          have f2 := frozOfQ hk8 2
          have zl := ltOfQ hk8
          refine wpAnyH_all (rs := [10]) (by kernel_rfl) (by simp) ?_
          intro i hi
          obtain rfl : i = 10 := by simpa using hi
          clear hi
          refine op_skipN (w' := y8.setCell ⟨K, 2, none⟩ (.slice a8 (ln + 1) c8)) rfl rfl (by go_simp; try rfl) ?_
          simp only [Act.put]
          refine ⟨KA.of hQ.bw, wpAnyH_done (by kernel_rfl) (NoPanic.normal ?_) _⟩
          clear z2 f2 zl
          generalize y8.setCell ⟨K, 2, none⟩ (.slice a8 (ln + 1) c8) = y9 at hQ ⊢
          go_wp2_with (fail)
          go_meet
          exact ⟨_, _, _, rfl, hQ⟩
  case rest =>
  obtain ⟨a8, c8, rs', rfl, hQ⟩ := hcut
  have hm := (hQ.out.bw.block _ HMU.out.2.2.1).trans HMU.out.1
  obtain ⟨r0, r1, r2, r3, r4, r5, rl⟩ := six_of hm
  have qf0 := frozOf hm 0
  have qf1 := frozOf hm 1
  have qf2 := frozOf hm 2
  have qf3 := frozOf hm 3
  have qf4 := frozOf hm 4
  have qf5 := frozOf hm 5
  have y0 : wc.cell? ⟨K, 0, none⟩ = some (.int .i64 st) := cellOfQ hQ.out.k 0 rfl
  have y1 : wc.cell? ⟨K, 1, none⟩ = some (.slice na wn nc) := cellOfQ hQ.out.k 1 rfl
  have y2 : wc.cell? ⟨K, 2, none⟩ = some (.slice a8 (ln + 1) c8) := cellOfQ hQ.out.k 2 rfl
  have y3 : wc.cell? ⟨K, 3, none⟩ = some (.slice ya xn yc) := cellOfQ hQ.out.k 3 rfl
  have yl := ltOfQ hQ.out.k
  have HF : Hid (Below w.heap.size w wc ∧ RB.st = st) := ⟨HMU.out.2.1.trans (hQ.out.bw.mono HMU.out.2.2.2), by rw [HR.out]; exact HR0.out.2.2.1⟩
  clear hm HN0 HS
  go_wp2
  try simp only [Exit.inBlock, Exit.then]
  refine bodyPost_ret (by simp [results, Try.results10, go_sem, r0, r1, r2, r3, r4, r5, rl, qf0, qf1, qf2, qf3, qf4, qf5]; try rfl) rfl ⟨(.slice na wn nc, .slice a8 (ln + 1) c8, .slice ya xn yc), rs', by rw [HF.out.2], ?_, ?_⟩
  · rw [HR.out]
    refine PB.low (PB.keep hQ.out.p fun k hk => ?_) HMU.out.2.2.2
    have h1 := (hQ.out.p.blk hk).1
    have h2 := HMU.out.2.2.1
    have hoff : ∀ (u : World) o v, (u.setCell ⟨w.heap.size + 1, o, none⟩ v).heap[k]? = u.heap[k]? := fun u o v => heap_setCell_other _ _ _ _ (by simp; omega)
    rw [hoff, hoff, hoff, hoff, hoff, hoff]
  · have hb := HF.out.1
    (repeat' (first | (with_reducible exact Below.refl _ _) | (with_reducible assumption) | (with_reducible refine Below.setCell ?_ ?_ _) | (with_reducible refine Below.alloc ?_ ?_ _) | (with_reducible refine below_drewN ?_ _) | (with_reducible refine Below.drew ?_) | (with_reducible exact Nat.le_refl _) | omega | (simp; done) | (simp; omega)))

end Go.Proofs.Ytcfjanignfbidaa
