/- Proved here: WindowLeft of the program. -/
import Derived.Test.YtbkklnbcoegamaaIxM
import Derived.Test.YtbkklnbcoegamaaQoO
import Derived.Test.YtbkklnbcoegamaaQoL
import Derived.Test.YtbkklnbcoegamaaOpA
import Derived.Maps.AppendAt
import Derived.Deep.AppendLies
import Derived.Deep.Cut
namespace Go.Proofs.Ytbkklnbcoegamaa
open Go.RowKit Go.Maps
set_option linter.unusedVariables false
set_option linter.unusedSimpArgs false

set_option maxHeartbeats 1600000 in
theorem impl_minW {w : World} {v : Value} {s : List Int} (hp : 0 < s.length) (hn : s.length ≤ 1048576) (h : RdI w v s) :
    Calls Try.prog 49 #[v] w fun e w' => e = .returned (.int .i64 (leK s (s.length - 1))) ∧ w' = w := by
  obtain ⟨g, o, c, rfl, hg, hj⟩ := h.ri hp
  obtain ⟨n, hnn⟩ : ∃ n, n = s.length := ⟨_, rfl⟩
  obtain ⟨C, hC⟩ : ∃ C, C = leK s (s.length - 1) := ⟨_, rfl⟩
  rw [← hC]
  have H : Hid ((∀ j, j < s.length → w.cell? ⟨g, o + j, none⟩ = some (.int .i64 (s.getD j 0))) ∧ n = s.length ∧ C = leK s (n - 1)) := ⟨hj, hnn, by rw [hC, hnn]⟩
  rw [← hnn] at hp hn ⊢
  clear h hj hC hnn
  have c0 := H.out.1 0 (by rw [← H.out.2.1]; omega)
  rw [Nat.add_zero] at c0
  obtain ⟨x0, hx0⟩ : ∃ x, x = s.getD 0 0 := ⟨_, rfl⟩
  rw [← hx0] at c0
  have HX0 : Hid (x0 = leK s 0) := by unfold Hid; rw [leK]; exact hx0
  clear hx0
  have z0 : (0 : Int) < (n : Int) := by omega
  have z1 : ¬ (n : Int) < 1 := by omega
  go_enter Try.func49, Try.ntmps49
  go_wp2
  go_loopw [3, 4] (fun m i wr => ∃ k k1 : Nat, k1 ≤ n ∧ m = .int .i64 (leK s k) ∧ i = .int .i64 k1 ∧ w = wr ∧ Hid (k1 = k + 1)) (fun _ i _ => n - (intOf i).toNat)
  case atStart => exact ⟨0, 1, by omega, by rw [← HX0.out], rfl, rfl, rfl⟩
  case round =>
    clear c0
    obtain ⟨k, k1, hk, rfl, rfl, rfl, hR⟩ := hrel
    obtain ⟨M, hM⟩ : ∃ M, M = leK s k := ⟨_, rfl⟩
    rw [← hM]
    have HM : Hid (M = leK s k) := hM
    clear hM
    by_cases hlt : k1 < n
    · have c0 := H.out.1 k1 (by rw [← H.out.2.1]; exact hlt)
      obtain ⟨x, hx⟩ : ∃ x, x = s.getD k1 0 := ⟨_, rfl⟩
      rw [← hx] at c0
      have HN : Hid (leK s (k + 1) = if x < M then x else M) := by unfold Hid; rw [leK, hx, HM.out, hR.out]
      clear hx
      have b0 : (0 : Int) ≤ (k1 : Int) := by omega
      have b1 : (k1 : Int) < (n : Int) := by omega
      by_cases hc : x < M
      · have HE : Hid (x = leK s (k + 1) ∧ k1 + 1 = k + 1 + 1) := ⟨by rw [HN.out, if_pos hc], by rw [hR.out]⟩
        clear HN
        go_wp2
        go_roundw
        case rel => exact ⟨k + 1, k1 + 1, by omega, by rw [← HE.out.1], by go_num, by first | rfl | trivial, HE.out.2⟩
        case measure => simp [intOf]; omega
      · have HE : Hid (M = leK s (k + 1) ∧ k1 + 1 = k + 1 + 1) := ⟨by rw [HN.out, if_neg hc], by rw [hR.out]⟩
        clear HN
        go_wp2
        go_roundw
        case rel => exact ⟨k + 1, k1 + 1, by omega, by rw [← HE.out.1], by go_num, by first | rfl | trivial, HE.out.2⟩
        case measure => simp [intOf]; omega
    · have HE : Hid (C = M) := by unfold Hid; rw [H.out.2.2, HM.out, show n - 1 = k by have := hR.out; omega]
      go_wp2
      go_returns
      exact ⟨by rw [HE.out]; try rfl, rfl⟩

theorem cell_block {w w' : World} {q o : Nat} (h : w'.heap[q]? = w.heap[q]?) : w'.cell? ⟨q, o, none⟩ = w.cell? ⟨q, o, none⟩ := by unfold World.cell?; simp only [h]
theorem own_formW {w : World} {B n : Nat} {v : Value} {ys : List Value} (h : w.ownsRow B 2 1 v n ys) : ∃ a c, v = .slice a n c := by
  rcases h.2 with ⟨rfl, rfl⟩ | ⟨g, cap, cur, rfl, _⟩
  · exact ⟨_, _, rfl⟩
  · exact ⟨_, _, rfl⟩
theorem rd_oneW {w : World} {g c : Nat} {x : Int} {T : TypeId} (h : w.heap[g]? = some (.cells #[.int .i64 x] T)) : RdI w (.slice (some ⟨g, 0, none⟩) 1 c) [x] := by
  refine ⟨_, c, rfl, fun _ => ⟨g, 0, rfl, ltOf h, fun j hj i hi => ?_⟩⟩
  obtain rfl : i = 0 := by omega
  have hj' : j < 1 := hj
  obtain rfl : j = 0 := by omega
  simp [World.cell?, h, inC]
theorem ofC_one (b : Bk) (id : Int) : ofC b [id] = bgC b id := by
  unfold ofC bgC
  by_cases h : bkF b ≠ 0
  · rw [if_pos h, if_pos h]
  · rw [if_neg h, if_neg h]
    by_cases h1 : fdI (idA b.ls) id b.ls.length < 0
    · rw [if_pos h1, if_neg (fun e => by have := e id (by simp); omega)]
    · rw [if_neg h1, if_pos (fun x hx => by simp only [List.mem_singleton] at hx; subst hx; omega)]
set_option maxRecDepth 10000 in
set_option maxHeartbeats 3200000 in
theorem impl_wl {st : Int} {w : World} {vw vl vs : Value} {b : Bk} (id now : Int) (hst : b.st = st) (hidw : (Lit.int .i64 id).wf = true) (hs : smBk 1048576 b) (h : RdX w vw vl vs b) :
    Calls Try.prog 17 #[.agg #[.int .i64 st, vw, vl, vs], .int .i64 id, .int .i64 now] w fun e w' => e = .returned (.agg #[.int .i64 (wlC b id now), .int .i64 (wlV b id now)]) ∧ Below w.heap.size w w' := by
  obtain ⟨i0, hi0, hz0, hz1, hz2⟩ := info_parts info_i64
  obtain ⟨wa, wc, e1⟩ := h.wn.form
  obtain ⟨la, lc, e2⟩ := h.ls.rlo.form
  obtain ⟨xa, xc, e3⟩ := h.sc.form
  subst e1 e2 e3
  obtain ⟨wn, hwn⟩ : ∃ n, n = b.wn.length := ⟨_, rfl⟩
  obtain ⟨ln, hln⟩ : ∃ n, n = b.ls.length := ⟨_, rfl⟩
  obtain ⟨xn, hxn⟩ : ∃ n, n = b.sc.length := ⟨_, rfl⟩
  rw [← hwn, ← hln, ← hxn] at h ⊢
  obtain ⟨C, hC⟩ : ∃ K, K = bgC b id := ⟨_, rfl⟩
  obtain ⟨RC, hRC⟩ : ∃ K, K = wlC b id now := ⟨_, rfl⟩
  obtain ⟨RV, hRV⟩ : ∃ K, K = wlV b id now := ⟨_, rfl⟩
  rw [← hRC, ← hRV]
  obtain ⟨W, hW⟩ : ∃ W, W = (w.alloc (.cells #[.int .i64 st, .slice wa wn wc, .slice la ln lc, .slice xa xn xc] 31)).alloc (.cells #[.int .i64 0, .int .i64 0] 42) := ⟨_, rfl⟩
  have HW : Hid (Below w.heap.size w W ∧ W.heap[w.heap.size]? = some (.cells #[.int .i64 st, .slice wa wn wc, .slice la ln lc, .slice xa xn xc] 31) ∧ W.heap[w.heap.size + 1]? = some (.cells #[.int .i64 0, .int .i64 0] 42)) := by
    rw [hW]
    refine ⟨by (repeat' (first | (with_reducible exact Below.refl _ _) | (with_reducible assumption) | (with_reducible refine Below.setCell ?_ ?_ _) | (with_reducible refine Below.alloc ?_ ?_ _) | (with_reducible refine below_drewN ?_ _) | (with_reducible refine Below.drew ?_) | (with_reducible exact Nat.le_refl _) | omega | (simp; done) | (simp; omega))), (Below.heap_alloc _ _ _ (by simp)).trans (heap_alloc_new w _), ?_⟩
    have := heap_alloc_new (w.alloc (.cells #[.int .i64 st, .slice wa wn wc, .slice la ln lc, .slice xa xn xc] 31)) (.cells #[.int .i64 0, .int .i64 0] 42); simpa using this
  obtain ⟨Y, hY⟩ : ∃ Y, Y = W.alloc (.cells #[.int .i64 id] 2) := ⟨_, rfl⟩
  have HY : Hid (Below W.heap.size W Y ∧ Y.heap[W.heap.size]? = some (.cells #[.int .i64 id] 2)) := by rw [hY]; exact ⟨by (repeat' (first | (with_reducible exact Below.refl _ _) | (with_reducible assumption) | (with_reducible refine Below.setCell ?_ ?_ _) | (with_reducible refine Below.alloc ?_ ?_ _) | (with_reducible refine below_drewN ?_ _) | (with_reducible refine Below.drew ?_) | (with_reducible exact Nat.le_refl _) | omega | (simp; done) | (simp; omega))), heap_alloc_new _ _⟩
  have HB : Hid (Calls Try.prog 36 #[.agg #[.int .i64 st, .slice wa wn wc, .slice la ln lc, .slice xa xn xc], .slice (some ⟨W.heap.size, 0, none⟩) 1 1] Y fun e w' => ∃ p, e = .returned (.tuple #[.pointer p, .int .i64 C]) ∧ (C ≠ 0 → p = none) ∧ (C = 0 → ∃ K, p = some ⟨K, 0, none⟩ ∧ OBx w' Y.heap.size K b) ∧ Below Y.heap.size Y w') := by
    rw [hC, ← ofC_one]
    exact impl_opf hst hs ((h.below HW.out.1).below HY.out.1) (rd_oneW HY.out.2) (by simp) (fun x hx => by simp only [List.mem_singleton] at hx; subst hx; exact hidw)
  have HI : Hid (∀ W q, q = decide (0 ≤ now ∧ now ≤ 1000000000) → Calls Try.prog 38 #[.int .i64 now, .int .i64 0, .int .i64 1000000000] W fun e w' => e = .returned (.bool q) ∧ w' = W) := fun W q hq => impl_insC now 0 1000000000 q hq W
  have HR0 : Hid (RdX w (.slice wa wn wc) (.slice la ln lc) (.slice xa xn xc) b ∧ C = bgC b id ∧ RC = wlC b id now ∧ RV = wlV b id now ∧ wn = b.wn.length ∧ ln = b.ls.length) := ⟨h, hC, hRC, hRV, hwn, hln⟩
  have hWs : W.heap.size = w.heap.size + 2 := by rw [hW]; simp
  clear h hs hst hwn hln hxn hC hRC hRV hidw
  go_enter Try.func17, Try.ntmps17
  go_wp2_with (fail)
  rw [← hW]
  clear hW
  try rw [← hWs]
  rw [← hY]
  clear hY hWs
  refine HB.out.mono ?_
  rintro e w1 ⟨p, rfl, hpn, hps, hb1⟩
  have hBY : Below W.heap.size W w1 := HY.out.1.trans (hb1.mono HY.out.1.size)
  have m0 := (hBY.block _ (ltOfQ HW.out.2.1)).trans HW.out.2.1
  have m1 := (hBY.block _ (ltOfQ HW.out.2.2)).trans HW.out.2.2
  have HE : Hid (Below w.heap.size w w1) := HW.out.1.trans (hBY.mono HW.out.1.size)
  have HM : Hid (w1.heap[w.heap.size]? = some (.cells #[.int .i64 st, .slice wa wn wc, .slice la ln lc, .slice xa xn xc] 31) ∧ w1.heap[w.heap.size + 1]? = some (.cells #[.int .i64 0, .int .i64 0] 42)) := ⟨m0, m1⟩
  have r0 := cellOfQ m1 0 rfl
  have r1 := cellOfQ m1 1 rfl
  have rl := ltOfQ m1
  have rf0 := frozOfQ m1 0
  have rf1 := frozOfQ m1 1
  obtain ⟨p0, p1, p2, p3, pl⟩ : w1.cell? ⟨w.heap.size, 0, none⟩ = some (.int .i64 st) ∧ w1.cell? ⟨w.heap.size, 1, none⟩ = some (.slice wa wn wc) ∧ w1.cell? ⟨w.heap.size, 2, none⟩ = some (.slice la ln lc) ∧ w1.cell? ⟨w.heap.size, 3, none⟩ = some (.slice xa xn xc) ∧ w.heap.size < w1.heap.size := ⟨cellOfQ m0 0 rfl, cellOfQ m0 1 rfl, cellOfQ m0 2 rfl, cellOfQ m0 3 rfl, ltOfQ m0⟩
  clear hb1 HB HW HY m0 m1 hBY
  by_cases hC0 : C = 0
  case neg =>
    have HR : Hid (RC = C ∧ RV = 0) := by
      have e : bgC b id ≠ 0 := by rw [← HR0.out.2.1]; exact hC0
      exact ⟨by rw [HR0.out.2.2.1, wlC, if_pos e, HR0.out.2.1], by rw [HR0.out.2.2.2.1, wlV, if_pos e]⟩
    have hCb : (C == 0) = false := beq_eq_false_iff_ne.2 hC0
    clear hps hpn
    go_wp2
    try simp only [Exit.inBlock, Exit.then]
    refine bodyPost_ret (by simp [results, Try.results17, go_sem, r0, r1, rl, rf0, rf1]; try rfl) rfl ⟨by rw [HR.out.1, HR.out.2], ?_⟩
    have hb := HE.out
    (repeat' (first | (with_reducible exact Below.refl _ _) | (with_reducible assumption) | (with_reducible refine Below.setCell ?_ ?_ _) | (with_reducible refine Below.alloc ?_ ?_ _) | (with_reducible refine below_drewN ?_ _) | (with_reducible refine Below.drew ?_) | (with_reducible exact Nat.le_refl _) | omega | (simp; done) | (simp; omega)))
  have HC0 : Hid (bgC b id = 0) := by unfold Hid; rw [← HR0.out.2.1]; exact hC0
  obtain ⟨K, rfl, hob⟩ := hps hC0
  clear hpn hps
  subst hC0
  by_cases hN : 0 ≤ now ∧ now ≤ 1000000000
  case neg =>
    have HR : Hid (RC = 3 ∧ RV = 0) := ⟨by rw [HR0.out.2.2.1, wlC, if_neg (fun e => e HC0.out), if_neg hN], by rw [HR0.out.2.2.2.1, wlV, if_neg (fun e => e HC0.out), if_neg hN]⟩
    have HD : Hid (false = decide (0 ≤ now ∧ now ≤ 1000000000)) := by unfold Hid; rw [decide_eq_false hN]
    clear hN hob
    go_wp2_with (fail)
    refine (HI.out _ false HD.out).mono ?_
    rintro e w2 ⟨rfl, hw2⟩
    subst w2
    go_wp2
    try simp only [Exit.inBlock, Exit.then]
    refine bodyPost_ret (by simp [results, Try.results17, go_sem, r0, r1, rl, rf0, rf1]; try rfl) rfl ⟨by rw [HR.out.1, HR.out.2], ?_⟩
    have hb := HE.out
    (repeat' (first | (with_reducible exact Below.refl _ _) | (with_reducible assumption) | (with_reducible refine Below.setCell ?_ ?_ _) | (with_reducible refine Below.alloc ?_ ?_ _) | (with_reducible refine below_drewN ?_ _) | (with_reducible refine Below.drew ?_) | (with_reducible exact Nat.le_refl _) | omega | (simp; done) | (simp; omega)))
  have HD : Hid (true = decide (0 ≤ now ∧ now ≤ 1000000000)) := by unfold Hid; rw [decide_eq_true hN]
  obtain ⟨hG, i, hi, hfi, hid⟩ := bgC_cases HC0.out
  obtain ⟨d, hd⟩ : ∃ d, d = b.ls[i].dn := ⟨_, rfl⟩
  obtain ⟨dn, hdn⟩ : ∃ n, n = d.length := ⟨_, rfl⟩
  have HS : Hid (RC = (if (liW b.wn dn d now wn).length = 0 then 6 else 0) ∧ RV = leL (liW b.wn dn d now wn)) := by
    have e := wlL_at (now := now) hi hfi
    rw [← HR0.out.2.2.2.2.1, ← hd, ← hdn] at e
    exact ⟨by rw [HR0.out.2.2.1, wlC, if_neg (fun e => e HC0.out), if_pos hN, e], by rw [HR0.out.2.2.2.1, wlV, if_neg (fun e => e HC0.out), if_pos hN, e]⟩
  have HWD : Hid (∀ j (h : j < b.wn.length), 0 ≤ b.wn[j].f ∧ b.wn[j].f < b.wn[j].t ∧ b.wn[j].t < 41 ∧ 0 ≤ b.wn[j].m ∧ b.wn[j].m ≤ 1000000000) := fun j hj => by have h1 := hG.wd j hj; have h2 := hG.st; omega
  have HTM : Hid (∀ k, k < d.length → 0 ≤ d.getD k 0 ∧ d.getD k 0 ≤ 1000000000) := fun k hk => by
    have := hG.tm i hi k (by rw [← hd]; exact hk)
    rw [show d.getD k 0 = d[k] from by simp [List.getD, hk]]
    subst hd; exact this
  have hwn10 : wn ≤ 10 := by rw [HR0.out.2.2.2.2.1]; exact hG.wn
  obtain ⟨bp, bm, vw', vl', vs', f, rs, m, hob, _, _⟩ := hob
  obtain ⟨G, cG, hvl, hG1, hG2, hat⟩ := hob.row (by omega)
  subst hvl
  have hri : i < rs.length := by rw [hob.pb.len]; exact hi
  have hat1 := hat i hri
  have hdv := hob.pb.dn i hri hi
  have HL : Hid (Calls Try.prog 37 #[.pointer (some ⟨K, 0, none⟩), .int .i64 id] w1 fun e w' => e = .returned (.pointer (some ⟨G, i * 5, none⟩)) ∧ Below w1.heap.size w1 w') := impl_lot b.ls.length rfl hob hi id hid.symm
  have hc4 := hat1.c.2.2.2.2
  have HDN : Hid (RdI w1 (.slice rs[i].da rs[i].dn rs[i].dc) d) := by rw [hd]; exact hdv.rg
  obtain ⟨x7, hx7⟩ : ∃ x, x = rs[i].da := ⟨_, rfl⟩
  obtain ⟨x8, hx8⟩ : ∃ x, x = rs[i].dn := ⟨_, rfl⟩
  obtain ⟨x9, hx9⟩ : ∃ x, x = rs[i].dc := ⟨_, rfl⟩
  rw [← hx7, ← hx8, ← hx9] at hc4 HDN
  have hxd : x8 = dn := by rw [hdn]; exact HDN.out.len
  have hdn2 : x8 = d.length := by rw [hxd, hdn]
  subst hxd
  clear hx7 hx8 hx9 hat1 hat hdv hob hri hG hdn hd hid hfi hG1 hi
  go_wp2_with (fail)
  refine (HI.out _ true HD.out).mono ?_
  rintro e w2 ⟨rfl, hw2⟩
  subst w2
  go_wp2_with (fail)
  refine HL.out.mono ?_
  rintro e V ⟨rfl, hbV⟩
  have HV : Hid (Below w.heap.size w V ∧ Below w1.heap.size w1 V ∧ V.cell? ⟨G, i * 5 + 4, none⟩ = some (.slice x7 x8 x9) ∧ G < V.heap.size ∧ x8 = d.length) := ⟨HE.out.trans (hbV.mono HE.out.size), hbV, (hbV.cell (p := ⟨G, i * 5 + 4, none⟩) hG2).trans hc4, Nat.lt_of_lt_of_le hG2 hbV.size, hdn2⟩
  have n0 := (hbV.block _ (ltOfQ HM.out.1)).trans HM.out.1
  have HMV : Hid (V.heap[w.heap.size]? = some (.cells #[.int .i64 st, .slice wa wn wc, .slice la ln lc, .slice xa xn xc] 31) ∧ V.heap[w.heap.size + 1]? = some (.cells #[.int .i64 0, .int .i64 0] 42)) := ⟨n0, (hbV.block _ (ltOfQ HM.out.2)).trans HM.out.2⟩
  clear p0 p1 p2 p3 pl r0 r1 rl rf0 rf1 HL HI HD hc4 hG2 hdn2 hbV HM
  obtain ⟨p0, p1, p2, p3, pl⟩ : V.cell? ⟨w.heap.size, 0, none⟩ = some (.int .i64 st) ∧ V.cell? ⟨w.heap.size, 1, none⟩ = some (.slice wa wn wc) ∧ V.cell? ⟨w.heap.size, 2, none⟩ = some (.slice la ln lc) ∧ V.cell? ⟨w.heap.size, 3, none⟩ = some (.slice xa xn xc) ∧ w.heap.size < V.heap.size := ⟨cellOfQ n0 0 rfl, cellOfQ n0 1 rfl, cellOfQ n0 2 rfl, cellOfQ n0 3 rfl, ltOfQ n0⟩
  clear n0
  go_wp2
  clear p0 p1 p2 p3 pl
  go_loopw [9, 34] (fun l i wr => ∃ (j ml : Nat) (va : Option Addr) (vc : Nat), j ≤ wn ∧ l = .slice va ml vc ∧ i = .int .i64 j ∧ Hid (ml = (liW b.wn x8 d now j).length ∧ IS wr V.heap.size (.slice va ml vc) (liW b.wn x8 d now j) ∧ Below V.heap.size V wr)) (fun _ i _ => wn - (intOf i).toNat)
  case atStart => exact ⟨0, 0, none, 0, Nat.zero_le _, rfl, rfl, rfl, ⟨by simp, Or.inl ⟨rfl, rfl⟩⟩, Below.refl _ _⟩
  case round =>
    obtain ⟨j, ml, va, vc, hjn, rfl, rfl, hR⟩ := hrel
    have HE : Hid (Below w.heap.size w wr) := HV.out.1.trans (hR.out.2.2.mono HV.out.1.size)
    have hml : ml ≤ 10 := by rw [hR.out.1]; have := liW_len b.wn x8 d now j; omega
    by_cases hlt : j < wn
    · have hjl : j < b.wn.length := by rw [← HR0.out.2.2.2.2.1]; exact hlt
      obtain ⟨g2, o2, c2, he, hg2, hj⟩ := (HR0.out.1.wn.below HE.out).pos (by omega)
      simp only [Value.slice.injEq] at he
      obtain ⟨rfl, hx1, hx2⟩ := he
      clear hx1 hx2
      obtain ⟨c0, c1, c2'⟩ := wdC_at (hj j hjl)
      obtain ⟨u, hu⟩ : ∃ x, x = b.wn[j] := ⟨_, rfl⟩
      have hwd := HWD.out j hjl
      rw [← hu] at c0 c1 c2' hwd
      have HN : Hid ((wdO x8 u → liW b.wn x8 d now (j + 1) = liW b.wn x8 d now j ++ [wdL d now u]) ∧ (¬ wdO x8 u → liW b.wn x8 d now (j + 1) = liW b.wn x8 d now j)) := by
        have e : b.wn.getD j wdD = u := by rw [hu]; simp [List.getD, hjl]
        exact ⟨fun h => by rw [liW, e, if_pos h], fun h => by rw [liW, e, if_neg h]⟩
      have HISO : Hid (∀ W q, q = decide (wdO x8 u) → Calls Try.prog 48 #[.agg #[.int .i64 u.f, .int .i64 u.t, .int .i64 u.m], .slice x7 x8 x9] W fun e w' => e = .returned (.bool q) ∧ Below W.heap.size W w') := fun W q hq => impl_iso u q hq (by omega)
      have HLF : Hid (wdO x8 u → ∀ W, Below V.heap.size V W → Calls Try.prog 39 #[.agg #[.int .i64 u.f, .int .i64 u.t, .int .i64 u.m], .slice x7 x8 x9, .int .i64 now] W fun e w' => e = .returned (.int .i64 (wdL d now u)) ∧ Below W.heap.size W w') := fun ho W hW => by
        have hf : 0 ≤ u.f ∧ u.f < (x8 : Int) := by unfold wdO at ho; omega
        exact impl_left u now hf ⟨hwd.2.2.2.1, hwd.2.2.2.2⟩ hN (HTM.out _ (by have := HV.out.2.2.2.2; omega)) (((HDN.out.below HV.out.2.1)).below hW)
      clear hj hu hjl hwd
      obtain ⟨uf, ut, um⟩ := u
      simp only at c0 c1 c2' HISO HLF
      obtain ⟨V2, hV2⟩ : ∃ V2, V2 = wr.alloc (.cells #[.int .i64 uf, .int .i64 ut, .int .i64 um] 62) := ⟨_, rfl⟩
      have hbb2 : Below wr.heap.size wr V2 := by rw [hV2]; (repeat' (first | (with_reducible exact Below.refl _ _) | (with_reducible assumption) | (with_reducible refine Below.setCell ?_ ?_ _) | (with_reducible refine Below.alloc ?_ ?_ _) | (with_reducible refine below_drewN ?_ _) | (with_reducible refine Below.drew ?_) | (with_reducible exact Nat.le_refl _) | omega | (simp; done) | (simp; omega)))
      have hx2 : V2.heap[wr.heap.size]? = some (.cells #[.int .i64 uf, .int .i64 ut, .int .i64 um] 62) := by rw [hV2]; exact heap_alloc_new _ _
      have HV2 : Hid (Below V.heap.size V V2 ∧ IS V2 V.heap.size (.slice va ml vc) (liW b.wn x8 d now j) ∧ ml = (liW b.wn x8 d now j).length ∧ V2.heap[wr.heap.size]? = some (.cells #[.int .i64 uf, .int .i64 ut, .int .i64 um] 62)) := ⟨hR.out.2.2.trans (hbb2.mono hR.out.2.2.size), hR.out.2.1.kept fun q hq => hbb2.block q (IS.lt hR.out.2.1 q hq).2, hR.out.1, hx2⟩
      obtain ⟨q0, q1, q2, ql⟩ : V2.cell? ⟨wr.heap.size, 0, none⟩ = some (.int .i64 uf) ∧ V2.cell? ⟨wr.heap.size, 1, none⟩ = some (.int .i64 ut) ∧ V2.cell? ⟨wr.heap.size, 2, none⟩ = some (.int .i64 um) ∧ wr.heap.size < V2.heap.size := ⟨cellOfQ hx2 0 rfl, cellOfQ hx2 1 rfl, cellOfQ hx2 2 rfl, ltOfQ hx2⟩
      have s4 := (HV2.out.1.cell (p := ⟨G, i * 5 + 4, none⟩) HV.out.2.2.2.1).trans HV.out.2.2.1
      have sl : G < V2.heap.size := Nat.lt_of_lt_of_le HV.out.2.2.2.1 HV2.out.1.size
      have b0 : (0 : Int) ≤ (j : Int) := by omega
      have b1 : (j : Int) < (wn : Int) := by omega
      have HOL : Hid (∀ q, (Value.slice va ml vc).ownBlock = some q → V.heap.size ≤ q ∧ q < wr.heap.size) := fun q hq => IS.lt hR.out.2.1 q hq
      clear hR hbb2 hx2
      go_wp2
      rw [← hV2]
      clear hV2 c0 c1 c2'
      obtain ⟨q, hq⟩ : ∃ q, q = decide (wdO x8 ⟨uf, ut, um⟩) := ⟨_, rfl⟩
      have HQ : Hid (q = decide (wdO x8 ⟨uf, ut, um⟩)) := hq
      clear hq
      refine wp_region_float (by kernel_rfl) (fun hS => ?_)
      refine fl_take (i := 0) (d := 38) (v := .agg #[.int .i64 uf, .int .i64 ut, .int .i64 um]) rfl rfl rfl (by kernel_rfl) (by kernel_rfl) (by kernel_rfl) hS ?_ ?_
      · intro w' hk; go_simp
      simp only [Act.put, List.setIfInBounds_toArray, List.set_cons_zero, List.set_cons_succ]
      refine fl_take (i := 1) (d := 39) (v := .pointer (some ⟨G, i * 5, none⟩)) rfl rfl rfl (by kernel_rfl) (by kernel_rfl) (by kernel_rfl) hS ?_ ?_
      · intro w' hk; go_simp
      simp only [Act.put, List.setIfInBounds_toArray, List.set_cons_zero, List.set_cons_succ]
      refine fl_take (i := 2) (d := 40) (v := .pointer (some ⟨G, i * 5, none⟩)) rfl rfl rfl (by kernel_rfl) (by kernel_rfl) (by kernel_rfl) hS ?_ ?_
      · intro w' hk; go_simp
      simp only [Act.put, List.setIfInBounds_toArray, List.set_cons_zero, List.set_cons_succ]
      refine fl_take (i := 3) (d := 41) (v := .pointer (some ⟨G, i * 5 + 4, none⟩)) rfl rfl rfl (by kernel_rfl) (by kernel_rfl) (by kernel_rfl) hS ?_ ?_
      · intro w' hk; go_simp
      simp only [Act.put, List.setIfInBounds_toArray, List.set_cons_zero, List.set_cons_succ]
      refine fl_take (i := 4) (d := 42) (v := .slice x7 x8 x9) rfl rfl rfl (by kernel_rfl) (by kernel_rfl) (by kernel_rfl) hS ?_ ?_
      · intro w' hk; go_simp
      simp only [Act.put, List.setIfInBounds_toArray, List.set_cons_zero, List.set_cons_succ]
      refine wpAnyH_all (rs := [5]) (by kernel_rfl) (by simp) ?_
      intro i' hi'
      obtain rfl : i' = 5 := by simpa using hi'
      clear hi'
      refine op_call (d := 43) rfl rfl rfl (by go_simp) ((HISO.out _ q HQ.out).mono ?_)
      rintro e w5 ⟨rfl, hb5⟩
      have hb5' : Below V2.heap.size V2 w5 := (Below.refl _ _).drew.trans hb5
      refine ⟨_, rfl, KS.of hb5', ?_⟩
      simp only [Act.put, List.setIfInBounds_toArray, List.set_cons_zero, List.set_cons_succ]
      refine wpAnyH_done (by kernel_rfl) (NoPanic.normal ?_) _
      have H5 : Hid (Below V.heap.size V w5 ∧ IS w5 V.heap.size (.slice va ml vc) (liW b.wn x8 d now j) ∧ ml = (liW b.wn x8 d now j).length) := ⟨HV2.out.1.trans (hb5'.mono HV2.out.1.size), HV2.out.2.1.kept fun q hq => hb5'.block q (IS.lt HV2.out.2.1 q hq).2, HV2.out.2.2.1⟩
      cases q
      · have HT : Hid (liW b.wn x8 d now (j + 1) = liW b.wn x8 d now j) := HN.out.2 (of_decide_eq_false HQ.out.symm)
        clear HN HLF HISO HQ hb5 hb5' q0 q1 q2 ql s4 sl hS
        go_wp2
        go_roundw
        case rel => exact ⟨j + 1, ml, va, vc, by omega, rfl, by go_num, by rw [HT.out]; exact H5.out.2.2, by rw [HT.out]; exact H5.out.2.1, H5.out.1⟩
        case measure => simp [intOf]; omega
      · obtain ⟨L, hL⟩ : ∃ L, L = wdL d now ⟨uf, ut, um⟩ := ⟨_, rfl⟩
        have HT : Hid (liW b.wn x8 d now (j + 1) = liW b.wn x8 d now j ++ [L]) := by rw [hL]; exact HN.out.1 (of_decide_eq_true HQ.out.symm)
        have HLF2 : Hid (∀ W, Below V.heap.size V W → Calls Try.prog 39 #[.agg #[.int .i64 uf, .int .i64 ut, .int .i64 um], .slice x7 x8 x9, .int .i64 now] W fun e w' => e = .returned (.int .i64 L) ∧ Below W.heap.size W w') := by rw [hL]; exact HLF.out (of_decide_eq_true HQ.out.symm)
        have hx5 := (hb5'.block _ ql).trans HV2.out.2.2.2
        have hs5 := (hb5'.cell (p := ⟨G, i * 5 + 4, none⟩) sl).trans s4
        have hsl5 : G < w5.heap.size := Nat.lt_of_lt_of_le sl hb5'.size
        clear HN HLF HISO HQ hb5 hb5' q0 q1 q2 ql s4 sl hS hL HV2
        obtain ⟨q0, q1, q2, ql⟩ : w5.cell? ⟨wr.heap.size, 0, none⟩ = some (.int .i64 uf) ∧ w5.cell? ⟨wr.heap.size, 1, none⟩ = some (.int .i64 ut) ∧ w5.cell? ⟨wr.heap.size, 2, none⟩ = some (.int .i64 um) ∧ wr.heap.size < w5.heap.size := ⟨cellOfQ hx5 0 rfl, cellOfQ hx5 1 rfl, cellOfQ hx5 2 rfl, ltOfQ hx5⟩
        clear hx5
        go_wp2
        refine wp_region_holdsA (S := fun u : World => u.cell? ⟨wr.heap.size, 0, none⟩ = some (.int .i64 uf) ∧ u.cell? ⟨wr.heap.size, 1, none⟩ = some (.int .i64 ut) ∧ u.cell? ⟨wr.heap.size, 2, none⟩ = some (.int .i64 um) ∧ u.cell? ⟨G, i * 5 + 4, none⟩ = some (.slice x7 x8 x9) ∧ True) (by kernel_rfl) ⟨q0, q1, q2, hs5, trivial⟩ (fun hS => ?_)
        refine fl_takeA (i := 0) (d := 44) (v := .slice va ml vc) rfl rfl rfl (by kernel_rfl) (by kernel_rfl) (by kernel_rfl) hS ?_ ?_
        · intro w' hk; obtain ⟨hk0, hk1, hk2, hk3, hk4⟩ := hk; go_simp
        simp only [Act.put, List.setIfInBounds_toArray, List.set_cons_zero, List.set_cons_succ]
        refine fl_takeA (i := 1) (d := 45) (v := .agg #[.int .i64 uf, .int .i64 ut, .int .i64 um]) rfl rfl rfl (by kernel_rfl) (by kernel_rfl) (by kernel_rfl) hS ?_ ?_
        · intro w' hk; obtain ⟨hk0, hk1, hk2, hk3, hk4⟩ := hk; go_simp
        simp only [Act.put, List.setIfInBounds_toArray, List.set_cons_zero, List.set_cons_succ]
        refine fl_takeA (i := 2) (d := 46) (v := .pointer (some ⟨G, i * 5, none⟩)) rfl rfl rfl (by kernel_rfl) (by kernel_rfl) (by kernel_rfl) hS ?_ ?_
        · intro w' hk; obtain ⟨hk0, hk1, hk2, hk3, hk4⟩ := hk; go_simp
        simp only [Act.put, List.setIfInBounds_toArray, List.set_cons_zero, List.set_cons_succ]
        refine fl_takeA (i := 3) (d := 47) (v := .pointer (some ⟨G, i * 5, none⟩)) rfl rfl rfl (by kernel_rfl) (by kernel_rfl) (by kernel_rfl) hS ?_ ?_
        · intro w' hk; obtain ⟨hk0, hk1, hk2, hk3, hk4⟩ := hk; go_simp
        simp only [Act.put, List.setIfInBounds_toArray, List.set_cons_zero, List.set_cons_succ]
        refine fl_takeA (i := 4) (d := 48) (v := .pointer (some ⟨G, i * 5 + 4, none⟩)) rfl rfl rfl (by kernel_rfl) (by kernel_rfl) (by kernel_rfl) hS ?_ ?_
        · intro w' hk; obtain ⟨hk0, hk1, hk2, hk3, hk4⟩ := hk; go_simp
        simp only [Act.put, List.setIfInBounds_toArray, List.set_cons_zero, List.set_cons_succ]
        refine fl_takeA (i := 5) (d := 49) (v := .slice x7 x8 x9) rfl rfl rfl (by kernel_rfl) (by kernel_rfl) (by kernel_rfl) hS ?_ ?_
        · intro w' hk; obtain ⟨hk0, hk1, hk2, hk3, hk4⟩ := hk; go_simp
        simp only [Act.put, List.setIfInBounds_toArray, List.set_cons_zero, List.set_cons_succ]
        refine fl_takeA (i := 6) (d := 50) (v := .int .i64 now) rfl rfl rfl (by kernel_rfl) (by kernel_rfl) (by kernel_rfl) hS ?_ ?_
        · intro w' hk; obtain ⟨hk0, hk1, hk2, hk3, hk4⟩ := hk; go_simp
        simp only [Act.put, List.setIfInBounds_toArray, List.set_cons_zero, List.set_cons_succ]
        have hd5 : Below w5.heap.size w5 w5.drew := (Below.refl _ _).drew
        refine wpAnyH_all (rs := [7]) (by kernel_rfl) (by simp) ?_
        intro i' hi'
        obtain rfl : i' = 7 := by simpa using hi'
        clear hi'
        refine op_call (d := 51) rfl rfl rfl (by go_simp) ((HLF2.out w5.drew (H5.out.1.trans (hd5.mono H5.out.1.size))).mono ?_)
        rintro e w6 ⟨rfl, hb6⟩
        have hb6' : Below w5.heap.size w5 w6 := hd5.trans hb6
        have hS6 : (fun u : World => u.cell? ⟨wr.heap.size, 0, none⟩ = some (.int .i64 uf) ∧ u.cell? ⟨wr.heap.size, 1, none⟩ = some (.int .i64 ut) ∧ u.cell? ⟨wr.heap.size, 2, none⟩ = some (.int .i64 um) ∧ u.cell? ⟨G, i * 5 + 4, none⟩ = some (.slice x7 x8 x9) ∧ True) w6 := ⟨(hb6'.cell (p := ⟨wr.heap.size, 0, none⟩) ql).trans q0, (hb6'.cell (p := ⟨wr.heap.size, 1, none⟩) ql).trans q1, (hb6'.cell (p := ⟨wr.heap.size, 2, none⟩) ql).trans q2, (hb6'.cell (p := ⟨G, i * 5 + 4, none⟩) hsl5).trans hs5, trivial⟩
        refine ⟨_, rfl, hS6, ?_⟩
        simp only [Act.put, List.setIfInBounds_toArray, List.set_cons_zero, List.set_cons_succ]
        refine wpAnyH_all (rs := [8]) (by kernel_rfl) (by simp) ?_
        intro i' hi'
        obtain rfl : i' = 8 := by simpa using hi'
        clear hi'
        refine op_val (d := 52) (v := .slice (some ⟨w6.heap.size, 0, none⟩) 1 1) (w' := w6.alloc (.cells #[.int .i64 L] 2)) rfl rfl rfl (by go_simp; try rfl) ?_
        simp only [Act.put, List.setIfInBounds_toArray, List.set_cons_zero, List.set_cons_succ]
        obtain ⟨W1, hW1⟩ : ∃ X9, X9 = w6.alloc (.cells #[.int .i64 L] 2) := ⟨_, rfl⟩
        have hn2 := heap_alloc_new w6 (.cells #[.int .i64 L] 2)
        have hb7 : Below w6.heap.size w6 W1 := by rw [hW1]; (repeat' (first | (with_reducible exact Below.refl _ _) | (with_reducible assumption) | (with_reducible refine Below.setCell ?_ ?_ _) | (with_reducible refine Below.alloc ?_ ?_ _) | (with_reducible refine below_drewN ?_ _) | (with_reducible refine Below.drew ?_) | (with_reducible exact Nat.le_refl _) | omega | (simp; done) | (simp; omega)))
        rw [← hW1] at hn2 ⊢
        have hb8 : Below w5.heap.size w5 W1 := hb6'.trans (hb7.mono hb6'.size)
        have hS7 : (fun u : World => u.cell? ⟨wr.heap.size, 0, none⟩ = some (.int .i64 uf) ∧ u.cell? ⟨wr.heap.size, 1, none⟩ = some (.int .i64 ut) ∧ u.cell? ⟨wr.heap.size, 2, none⟩ = some (.int .i64 um) ∧ u.cell? ⟨G, i * 5 + 4, none⟩ = some (.slice x7 x8 x9) ∧ True) W1 := ⟨(hb8.cell (p := ⟨wr.heap.size, 0, none⟩) ql).trans q0, (hb8.cell (p := ⟨wr.heap.size, 1, none⟩) ql).trans q1, (hb8.cell (p := ⟨wr.heap.size, 2, none⟩) ql).trans q2, (hb8.cell (p := ⟨G, i * 5 + 4, none⟩) hsl5).trans hs5, trivial⟩
        have HOW : Hid (W1.ownsRow V.heap.size 2 1 (.slice va ml vc) ml ((liW b.wn x8 d now j).map (Value.int .i64)) ∧ Below V.heap.size V W1 ∧ V.heap.size ≤ W1.heap.size ∧ w5.heap.size ≤ W1.heap.size ∧ ml = (liW b.wn x8 d now j).length) := by
          have h9 := H5.out.2.1.kept fun q hq => hb8.block q (IS.lt H5.out.2.1 q hq).2
          unfold IS at h9
          rw [← H5.out.2.2] at h9
          have hc9 := H5.out.1.trans (hb8.mono H5.out.1.size)
          exact ⟨h9, hc9, hc9.size, hb8.size, H5.out.2.2⟩
        refine ⟨hS7, wpAnyH_all (rs := [9]) (by kernel_rfl) (by simp) ?_⟩
        intro i' hi'
        obtain rfl : i' = 9 := by simpa using hi'
        clear hi'
        refine op_appA rfl rfl rfl _ _ 24 rfl V.heap.size 2 i0 (.int .i64 0) 1 8 Try.underlying24 hi0 hz0 hz1 hz2 rfl (by decide) (.slice va ml vc) ml ((liW b.wn x8 d now j).map (Value.int .i64)) rfl HOW.out.1 (some ⟨w6.heap.size, 0, none⟩) 1 1 [.int .i64 L] rfl rfl (fun h => by cases h) (fun ad h => by injection h with h; subst h; exact World.news_of_block (cs := #[.int .i64 L]) (t := 2) (fr := (0, 0)) hn2) (by simp [Value.oneCell']) (by unfold maxLen; omega) (by omega) HOW.out.2.2.1 ?_
        intro v7 w7 hown6 hgrow6
        simp only [Act.put, List.setIfInBounds_toArray, List.set_cons_zero, List.set_cons_succ]
        obtain ⟨va6, vc6, rfl⟩ := own_formW hown6
        have R : Hid (ml + 1 = (liW b.wn x8 d now (j + 1)).length ∧ IS w7 V.heap.size (.slice va6 (ml + 1) vc6) (liW b.wn x8 d now (j + 1)) ∧ Below V.heap.size V w7) := by
          have hlow : ∀ q, (Value.slice va ml vc).ownBlock = some q → V.heap.size ≤ q := fun q hq => (World.ownsRow.lt HOW.out.1 q hq).1
          have hb9 : Below V.heap.size W1 w7 := (Below.refl _ _).grown hgrow6 HOW.out.2.2.1 hlow
          refine ⟨by rw [HT.out, List.length_append, HOW.out.2.2.2.2]; rfl, ?_, HOW.out.2.1.trans hb9⟩
          rw [HT.out]; unfold IS; rw [List.length_append, ← HOW.out.2.2.2.2, List.map_append]; exact hown6
        have hkp : ∀ q, q < w5.heap.size → (∀ p, (Value.slice va ml vc).ownBlock = some p → p ≠ q) → w7.heap[q]? = W1.heap[q]? := fun q h1 h2 => hgrow6.block q (Nat.lt_of_lt_of_le h1 HOW.out.2.2.2.1) (fun e => h2 q e.symm rfl)
        have hwb := hkp wr.heap.size ql (fun p hp => by have := (HOL.out p hp).2; omega)
        have hgb := hkp G hsl5 (fun p hp => by have := (HOL.out p hp).1; have := HV.out.2.2.2.1; omega)
        have hS8 : (fun u : World => u.cell? ⟨wr.heap.size, 0, none⟩ = some (.int .i64 uf) ∧ u.cell? ⟨wr.heap.size, 1, none⟩ = some (.int .i64 ut) ∧ u.cell? ⟨wr.heap.size, 2, none⟩ = some (.int .i64 um) ∧ u.cell? ⟨G, i * 5 + 4, none⟩ = some (.slice x7 x8 x9) ∧ True) w7 := ⟨(cell_block hwb).trans hS7.1, (cell_block hwb).trans hS7.2.1, (cell_block hwb).trans hS7.2.2.1, (cell_block hgb).trans hS7.2.2.2.1, trivial⟩
        refine ⟨hS8, wpAnyH_all (rs := [10]) (by kernel_rfl) (by simp) ?_⟩
        intro i' hi'
        obtain rfl : i' = 10 := by simpa using hi'
        clear hi'
        refine op_val (d := 9) (v := .slice va6 (ml + 1) vc6) (w' := w7) rfl rfl rfl (by go_simp; try rfl) ?_
        simp only [Act.put, List.setIfInBounds_toArray, List.set_cons_zero, List.set_cons_succ]
        refine ⟨hS8, wpAnyH_done (by kernel_rfl) (NoPanic.normal ?_) _⟩
        clear hown6 hgrow6 HOW hW1 hS hS6 hS7 hS8 hwb hgb hkp hb6 hb6' hb7 hb8 hd5 q0 q1 q2 ql hs5 hsl5 hn2
        go_wp2
        go_roundw
        case rel => exact ⟨j + 1, ml + 1, va6, vc6, by omega, rfl, by go_num, R.out⟩
        case measure => simp [intOf]; omega
    · obtain rfl : j = wn := by omega
      have m1 := (hR.out.2.2.block _ (ltOfQ HMV.out.2)).trans HMV.out.2
      have r0 := cellOfQ m1 0 rfl
      have r1 := cellOfQ m1 1 rfl
      have rl := ltOfQ m1
      have rf0 := frozOfQ m1 0
      have rf1 := frozOfQ m1 1
      have HMI : Hid (0 < ml → Calls Try.prog 49 #[.slice va ml vc] wr fun e w' => e = .returned (.int .i64 (leL (liW b.wn x8 d now j))) ∧ w' = wr) := fun h0 => impl_minW (by rw [← hR.out.1]; exact h0) (by rw [← hR.out.1]; omega) hR.out.2.1.rg
      have HLN : Hid (ml = (liW b.wn x8 d now j).length) := hR.out.1
      obtain ⟨M, hM⟩ : ∃ M, M = leL (liW b.wn x8 d now j) := ⟨_, rfl⟩
      have HMM : Hid (M = leL (liW b.wn x8 d now j)) := hM
      rw [← hM] at HMI
      clear m1 hR hM
      by_cases hm0 : ml = 0
      · have HR : Hid (RC = 6 ∧ RV = 0) := by
          have h0 : (liW b.wn x8 d now j).length = 0 := by rw [← HLN.out]; exact hm0
          refine ⟨by rw [HS.out.1, if_pos h0], ?_⟩
          rw [HS.out.2, List.eq_nil_of_length_eq_zero h0]; rfl
        subst hm0
        go_wp2
        try simp only [Exit.inBlock, Exit.then]
        refine bodyPost_ret (by simp [results, Try.results17, go_sem, r0, r1, rl, rf0, rf1]; try rfl) rfl ⟨by rw [HR.out.1, HR.out.2], ?_⟩
        have hb := HE.out
        (repeat' (first | (with_reducible exact Below.refl _ _) | (with_reducible assumption) | (with_reducible refine Below.setCell ?_ ?_ _) | (with_reducible refine Below.alloc ?_ ?_ _) | (with_reducible refine below_drewN ?_ _) | (with_reducible refine Below.drew ?_) | (with_reducible exact Nat.le_refl _) | omega | (simp; done) | (simp; omega)))
      · have HR : Hid (RC = 0 ∧ RV = M) := ⟨by rw [HS.out.1, if_neg (by rw [← HLN.out]; exact hm0)], by rw [HS.out.2, HMM.out]⟩
        have g1 : ((ml : Int) == 0) = false := beq_eq_false_iff_ne.2 (by omega)
        have g2 : (ml == 0) = false := beq_eq_false_iff_ne.2 hm0
        go_wp2_with (fail)
        refine (HMI.out (by omega)).mono ?_
        rintro e w2 ⟨rfl, hw2⟩
        subst w2
        go_wp2
        try simp only [Exit.inBlock, Exit.then]
        refine bodyPost_ret (by simp [results, Try.results17, go_sem, r0, r1, rl, rf0, rf1]; try rfl) rfl ⟨by rw [HR.out.1, HR.out.2], ?_⟩
        have hb := HE.out
        (repeat' (first | (with_reducible exact Below.refl _ _) | (with_reducible assumption) | (with_reducible refine Below.setCell ?_ ?_ _) | (with_reducible refine Below.alloc ?_ ?_ _) | (with_reducible refine below_drewN ?_ _) | (with_reducible refine Below.drew ?_) | (with_reducible exact Nat.le_refl _) | omega | (simp; done) | (simp; omega)))

end Go.Proofs.Ytbkklnbcoegamaa
