/- Proved here: how the laws' package weighs, copies and compares wirings; one that came in: how it is read. -/
import Derived.Test.YtbfieehlekgjeaaWrB
import Derived.Test.YtbfieehlekgjeaaTyGen
import Derived.Test.YtbfieehlekgjeaaOpenBx
namespace Go.Proofs.Ytbfieehlekgjeaa
open Go.ChangeShapes Go.WideShapes Go.ChangeAt Go.RowKit Go.Joins Go.Deep
set_option linter.unusedVariables false
set_option linter.unusedSimpArgs false

set_option maxHeartbeats 1600000 in
theorem szWiring_gen (a b : Option Addr) (n c m d : Nat) (s : List (List Bx)) (w : World) (h2 : n ≤ maxLen) (h3 : m ≤ maxLen) (h : RSS w (.slice a n c) s) (hm : ∀ j (h : j < s.length), okL s[j]) :
    Calls Try.prog 8 #[.agg #[.slice a n c, .slice b m d], .int .i64 1048576] w fun e w' => ∃ r, e = .returned (.int .i64 r) ∧ (r < 0 ∨ (0 ≤ r ∧ (n : Int) ≤ 1048576 ∧ (m : Int) ≤ 1048576 ∧ ∀ j (h : j < s.length), smL 1048576 s[j])) ∧ Below w.heap.size w w' := by
  have H : Hid (RSS w (.slice a n c) s ∧ n ≤ maxLen ∧ m ≤ maxLen ∧ ∀ j (h : j < s.length), okL s[j]) := ⟨h, h2, h3, hm⟩
  clear h hm h2 h3
  go_enter Try.func8, Try.ntmps8
  go_wp2_with (fail)
  refine (szBoxSS_gen a n c 1048576 s _ (by omega) (by omega) H.out.2.1 (H.out.1.below (by (repeat' (first | (with_reducible exact Below.refl _ _) | (with_reducible assumption) | (with_reducible refine Below.setCell ?_ ?_ _) | (with_reducible refine Below.alloc ?_ ?_ _) | (with_reducible refine below_drewN ?_ _) | (with_reducible refine Below.drew ?_) | (with_reducible exact Nat.le_refl _) | omega | (simp; done) | (simp; omega))))) H.out.2.2.2).mono ?_
  rintro e w1 ⟨q1, rfl, hq1, hb1⟩
  have k0 := (hb1.block w.heap.size (by simp)).trans (heap_alloc_new w _)
  have HB1 : Hid (Below w.heap.size w w1) := (show Below w.heap.size w _ from by (repeat' (first | (with_reducible exact Below.refl _ _) | (with_reducible assumption) | (with_reducible refine Below.setCell ?_ ?_ _) | (with_reducible refine Below.alloc ?_ ?_ _) | (with_reducible refine below_drewN ?_ _) | (with_reducible refine Below.drew ?_) | (with_reducible exact Nat.le_refl _) | omega | (simp; done) | (simp; omega)))).trans (hb1.mono (by simp))
  obtain ⟨p0, p1, pf, plt⟩ := two_atW k0
  clear hb1 k0
  rcases hq1 with hneg | ⟨h3, h4, h5, h6⟩
  · go_wp2
    go_returns
    exact ⟨-1, rfl, Or.inl (by omega), HB1.out⟩
  have h7 : ¬ q1 < 0 := by omega
  have HS : Hid ((n : Int) ≤ 1048576 ∧ ∀ j (h : j < s.length), smL 1048576 s[j]) := ⟨h5, h6⟩
  clear h5 h6
  go_wp2_with (fail)
  refine (szViaS_gen b m d q1 _ h3 (by omega) H.out.2.2.1).mono ?_
  rintro e w2 ⟨q2, rfl, hq2, hb2⟩
  have HB2 : Hid (Below w.heap.size w w2) := HB1.out.trans (hb2.mono HB1.out.size)
  clear hb2
  rcases hq2 with hneg | ⟨h8, h9, h10⟩
  · go_wp2
    go_returns
    exact ⟨-1, rfl, Or.inl (by omega), HB2.out⟩
  have h11 : ¬ q2 < 0 := by omega
  have HM : Hid ((m : Int) ≤ 1048576) := by unfold Hid; omega
  go_wp2
  go_returns
  exact ⟨q2, rfl, Or.inr ⟨h8, HS.out.1, HM.out, HS.out.2⟩, HB2.out⟩

set_option maxRecDepth 10000 in
set_option maxHeartbeats 3200000 in
theorem toWiring_any {w : World} {v u : Value} {s : List (List Bx)} {t : List Vi} (hn : s.length ≤ 1048576) (ht : t.length ≤ 1048576) (hsm : ∀ j (h : j < s.length), smL 1048576 s[j]) (h : RSS w v s) (h' : RG 6 viC w u t) :
    Calls Try.prog 10 #[.agg #[v, u]] w fun e w' => ∃ g q, e = .returned (.agg #[.slice (some ⟨g, 0, none⟩) s.length s.length, .slice (some ⟨q, 0, none⟩) t.length t.length]) ∧ RSC w' (.slice (some ⟨g, 0, none⟩) s.length s.length) s ∧ RG 6 viC w' (.slice (some ⟨q, 0, none⟩) t.length t.length) t ∧ Below w.heap.size w w' := by
  obtain ⟨a, c, rfl⟩ := h.form
  obtain ⟨b, d, rfl⟩ := h'.form
  obtain ⟨n, hnn⟩ : ∃ n, n = s.length := ⟨_, rfl⟩
  obtain ⟨m, hmm⟩ : ∃ m, m = t.length := ⟨_, rfl⟩
  rw [← hnn] at h hn ⊢
  rw [← hmm] at h' ht ⊢
  have H : Hid (RSS w (.slice a n c) s ∧ RG 6 viC w (.slice b m d) t ∧ (n = s.length ∧ m = t.length) ∧ (n ≤ 1048576 ∧ m ≤ 1048576) ∧ ∀ j (h : j < s.length), smL 1048576 s[j]) := ⟨h, h', ⟨hnn, hmm⟩, ⟨hn, ht⟩, hsm⟩
  clear h h' hnn hmm hn ht hsm
  go_enter Try.func10, Try.ntmps10
  go_wp2_with (fail)
  refine (toBoxSS_any (by rw [← H.out.2.2.1.1]; exact H.out.2.2.2.1.1) H.out.2.2.2.2 (H.out.1.below (by (repeat' (first | (with_reducible exact Below.refl _ _) | (with_reducible assumption) | (with_reducible refine Below.setCell ?_ ?_ _) | (with_reducible refine Below.alloc ?_ ?_ _) | (with_reducible refine below_drewN ?_ _) | (with_reducible refine Below.drew ?_) | (with_reducible exact Nat.le_refl _) | omega | (simp; done) | (simp; omega)))))).mono ?_
  rintro e w1 ⟨g1, rfl, hg1, hr1, hb1⟩
  have k0 := (hb1.block w.heap.size (by simp; omega)).trans ((Below.heap_alloc _ _ _ (by simp; omega)).trans ((Below.heap_alloc _ _ _ (by simp)).trans (heap_alloc_new w _)))
  have k1 := (hb1.block (w.heap.size + 1) (by simp)).trans ((Below.heap_alloc _ _ _ (by simp)).trans (hq_at1 w _ _))
  have k2 := (hb1.block (w.heap.size + 2) (by simp)).trans (hq_at2 w _ _ _)
  have hb : Below w.heap.size w w1 := (show Below w.heap.size w _ from by (repeat' (first | (with_reducible exact Below.refl _ _) | (with_reducible assumption) | (with_reducible refine Below.setCell ?_ ?_ _) | (with_reducible refine Below.alloc ?_ ?_ _) | (with_reducible refine below_drewN ?_ _) | (with_reducible refine Below.drew ?_) | (with_reducible exact Nat.le_refl _) | omega | (simp; done) | (simp; omega)))).trans (hb1.mono (by simp; omega))
  have hz1 := hb1.size
  simp at hg1 hr1 hz1
  rw [← H.out.2.2.1.1] at hr1 ⊢
  obtain ⟨W1, hW1⟩ : ∃ W1, W1 = w1.setCell ⟨w.heap.size + 2, 0, none⟩ (.slice (some ⟨g1, 0, none⟩) n n) := ⟨_, rfl⟩
  have m0 : W1.heap[w.heap.size]? = some (.cells #[.slice a n c, .slice b m d] 25) := by rw [hW1, heap_setCell_other _ _ _ _ (by simp)]; exact k0
  have m1 : W1.heap[w.heap.size + 1]? = some (.cells #[.slice none 0 0, .slice none 0 0] 31) := by rw [hW1, heap_setCell_other _ _ _ _ (by simp)]; exact k1
  have m2 : W1.heap[w.heap.size + 2]? = some (.cells #[.slice (some ⟨g1, 0, none⟩) n n, .slice none 0 0] 31) := by
    have := heap_setCell_same w1 (w.heap.size + 2) 0 _ _ (.slice (some ⟨g1, 0, none⟩) n n) k2
    rw [hW1]
    simpa using this
  have hbw : Below w.heap.size w W1 := by rw [hW1]; exact hb.setCell (by simp) _
  have HR1 : Hid (∀ W, (∀ q, w.heap.size + 3 ≤ q → q < W1.heap.size → W.heap[q]? = W1.heap[q]?) → W1.heap.size ≤ W.heap.size → RSC W (.slice (some ⟨g1, 0, none⟩) n n) s) := fun W hW hs => by
    have hsz : W1.heap.size = w1.heap.size := by rw [hW1]; simp
    refine hr1 W (fun q h1 h2 => (hW q (by omega) (by omega)).trans ?_) (by omega)
    rw [hW1, heap_setCell_other _ _ _ _ (by simp; omega)]
  obtain ⟨q0, q1, qf, ql⟩ := two_atW k2
  have qf0 := qf 0
  obtain ⟨p0, p1, pf, pl⟩ := two_atW k0
  have HW1 : Hid (W1 = w1.setCell ⟨w.heap.size + 2, 0, none⟩ (.slice (some ⟨g1, 0, none⟩) n n)) := hW1
  clear hW1 k0 k1 k2 hr1 hb hb1
  go_wp2_with (fail)
  rw [← HW1.out]
  clear HW1 q0 q1 qf ql qf0 p0 p1 pf pl hz1
  refine (toViaS_any (by rw [← H.out.2.2.1.2]; exact H.out.2.2.2.1.2) (H.out.2.1.below hbw)).mono ?_
  rintro e w2 ⟨g2, rfl, hs2, hb2⟩
  have hlt2 := (OG.lt hs2 g2 rfl)
  rw [← H.out.2.2.1.2] at hs2 ⊢
  have k1 := (hb2.block (w.heap.size + 1) (two_atW m1).2.2.2).trans m1
  have k2 := (hb2.block (w.heap.size + 2) (two_atW m2).2.2.2).trans m2
  have hsz1 := (two_atW m2).2.2.2
  have hbx : Below w.heap.size w w2 := hbw.trans (hb2.mono hbw.size)
  obtain ⟨W2, hW2⟩ : ∃ W2, W2 = ((w2.setCell ⟨w.heap.size + 2, 1, none⟩ (.slice (some ⟨g2, 0, none⟩) m m)).setCell ⟨w.heap.size + 1, 0, none⟩ (.slice (some ⟨g1, 0, none⟩) n n)).setCell ⟨w.heap.size + 1, 1, none⟩ (.slice (some ⟨g2, 0, none⟩) m m) := ⟨_, rfl⟩
  have HF : Hid (RSC W2 (.slice (some ⟨g1, 0, none⟩) n n) s ∧ RG 6 viC W2 (.slice (some ⟨g2, 0, none⟩) m m) t ∧ Below w.heap.size w W2) := by
    have hz : W2.heap.size = w2.heap.size := by rw [hW2]; simp
    have ho : ∀ q, w.heap.size + 3 ≤ q → W2.heap[q]? = w2.heap[q]? := fun q hq => by
      rw [hW2, heap_setCell_other _ _ _ _ (by simp; omega), heap_setCell_other _ _ _ _ (by simp; omega), heap_setCell_other _ _ _ _ (by simp; omega)]
    refine ⟨HR1.out W2 (fun q h1 h2 => (ho q h1).trans (hb2.block q h2)) (by have := hb2.size; omega), (OG.rg viC_len hs2).kept (fun q hq => ho q ?_) (by rw [hz]; exact Nat.le_refl _), ?_⟩
    · injection hq with hq; have hq' : g2 = q := hq; omega
    · rw [hW2]
      have hb := hbx
      (repeat' (first | (with_reducible exact Below.refl _ _) | (with_reducible assumption) | (with_reducible refine Below.setCell ?_ ?_ _) | (with_reducible refine Below.alloc ?_ ?_ _) | (with_reducible refine below_drewN ?_ _) | (with_reducible refine Below.drew ?_) | (with_reducible exact Nat.le_refl _) | omega | (simp; done) | (simp; omega)))
  have e1 : W2.heap[w.heap.size + 1]? = some (.cells #[.slice (some ⟨g1, 0, none⟩) n n, .slice (some ⟨g2, 0, none⟩) m m] 31) := by
    have k1' : (w2.setCell ⟨w.heap.size + 2, 1, none⟩ (.slice (some ⟨g2, 0, none⟩) m m)).heap[w.heap.size + 1]? = some (.cells #[.slice none 0 0, .slice none 0 0] 31) := by rw [heap_setCell_other _ _ _ _ (by simp)]; exact k1
    have s0 := heap_setCell_same _ _ 0 _ _ (.slice (some ⟨g1, 0, none⟩) n n) k1'
    have s1 := heap_setCell_same _ _ 1 _ _ (.slice (some ⟨g2, 0, none⟩) m m) s0
    rw [hW2]
    simpa using s1
  obtain ⟨q0, q1, qf, ql⟩ := two_atW k2
  have qf1 := qf 1
  obtain ⟨p0, p1, pf, pl⟩ := two_atW k1
  have pf0 := pf 0
  have pf1 := pf 1
  have HW2 : Hid _ := hW2
  obtain ⟨t0, t1, tf, tl⟩ := two_atW e1
  clear hW2 k1 k2 hbx hbw HR1 e1 hs2 hb2 m0 m1 m2 hlt2
  go_wp2
  rw [← HW2.out]
  refine bodyPost_ret (by simp [results, Try.results10, go_sem, t0, t1]) rfl ⟨g1, g2, rfl, HF.out.1, HF.out.2.1, HF.out.2.2⟩

set_option maxHeartbeats 1600000 in
theorem eqWiring_same {w : World} {va ua vb ub : Value} {s : List (List Bx)} {t : List Vi} (hn : s.length ≤ 1099511627776) (ht : t.length ≤ 1099511627776) (hsm : ∀ j (h : j < s.length), smL 1048576 s[j]) (ha : RSS w va s) (ha' : RG 6 viC w ua t) (hb : RSS w vb s) (hb' : RG 6 viC w ub t) :
    Calls Try.prog 12 #[.agg #[va, ua], .agg #[vb, ub]] w fun e w' => e = .returned (.bool true) ∧ Below w.heap.size w w' := by
  obtain ⟨a1, c1', rfl⟩ := ha.form
  obtain ⟨a2, c2', rfl⟩ := hb.form
  obtain ⟨a3, c3', rfl⟩ := ha'.form
  obtain ⟨a4, c4', rfl⟩ := hb'.form
  obtain ⟨n, hnn⟩ : ∃ n, n = s.length := ⟨_, rfl⟩
  obtain ⟨m, hmm⟩ : ∃ m, m = t.length := ⟨_, rfl⟩
  rw [← hnn] at ha hb ⊢
  rw [← hmm] at ha' hb' ⊢
  have H : Hid ((RSS w (.slice a1 n c1') s ∧ RSS w (.slice a2 n c2') s ∧ s.length ≤ 1099511627776 ∧ ∀ j (h : j < s.length), smL 1048576 s[j]) ∧ RG 6 viC w (.slice a3 m c3') t ∧ RG 6 viC w (.slice a4 m c4') t ∧ t.length ≤ 1099511627776) := ⟨⟨ha, hb, hn, hsm⟩, ha', hb', ht⟩
  clear ha hb hn hsm hnn ha' hb' ht hmm
  go_enter Try.func12, Try.ntmps12
  go_wp2_with (fail)
  refine (eqBoxSS_same H.out.1.2.2.1 H.out.1.2.2.2 (H.out.1.1.below (by (repeat' (first | (with_reducible exact Below.refl _ _) | (with_reducible assumption) | (with_reducible refine Below.setCell ?_ ?_ _) | (with_reducible refine Below.alloc ?_ ?_ _) | (with_reducible refine below_drewN ?_ _) | (with_reducible refine Below.drew ?_) | (with_reducible exact Nat.le_refl _) | omega | (simp; done) | (simp; omega))))) (H.out.1.2.1.below (by (repeat' (first | (with_reducible exact Below.refl _ _) | (with_reducible assumption) | (with_reducible refine Below.setCell ?_ ?_ _) | (with_reducible refine Below.alloc ?_ ?_ _) | (with_reducible refine below_drewN ?_ _) | (with_reducible refine Below.drew ?_) | (with_reducible exact Nat.le_refl _) | omega | (simp; done) | (simp; omega)))))).mono ?_
  rintro e w1 ⟨rfl, hb1⟩
  have k0 := (hb1.block w.heap.size (by simp; omega)).trans ((Below.heap_alloc _ _ _ (by simp)).trans (heap_alloc_new w _))
  have k1 := (hb1.block (w.heap.size + 1) (by simp)).trans (hq_at1 w _ _)
  have HB1 : Hid (Below w.heap.size w w1) := (show Below w.heap.size w _ from by (repeat' (first | (with_reducible exact Below.refl _ _) | (with_reducible assumption) | (with_reducible refine Below.setCell ?_ ?_ _) | (with_reducible refine Below.alloc ?_ ?_ _) | (with_reducible refine below_drewN ?_ _) | (with_reducible refine Below.drew ?_) | (with_reducible exact Nat.le_refl _) | omega | (simp; done) | (simp; omega)))).trans (hb1.mono (by simp; omega))
  obtain ⟨p0, p1, pf, pl⟩ := two_atW k0
  obtain ⟨q0, q1, qf, ql⟩ := two_atW k1
  clear hb1 k0 k1
  go_wp2_with (fail)
  refine (eqViaS_same H.out.2.2.2 (H.out.2.1.below HB1.out) (H.out.2.2.1.below HB1.out)).mono ?_
  rintro e w2 ⟨rfl, hb2⟩
  have HB2 : Hid (Below w.heap.size w w2) := HB1.out.trans (hb2.mono HB1.out.size)
  clear hb2
  go_wp2
  go_returns
  exact ⟨rfl, HB2.out⟩

set_option maxRecDepth 100000 in
theorem lst_cells {H : Type} {enc : TypeId × Value → H} {W : World} {fuel : Nat} {cs : List Value} {x : DataW H × List MemPlace} (h : DataW.trod enc Try.prog W 0 (fun _ => true) true fuel 94 cs = some x) : ∃ r : Rl, cs = rlC r ∧ ∃ s : List Bx, RB W (.slice r.a r.n r.c) s ∧ okL s := by
  have : Nonempty Bx := ⟨⟨0, 0, 0, 0⟩⟩
  obtain ⟨a, n, c, s, k, h1, h2, _⟩ := rg_of_trod (en := bcells) (Q := fun _ => True) Try.underlying94 (show Try.prog.cellsOf 99 = 4 by kernel_rfl) (by omega) (fun _ => rfl) (fun _ _ _ h => by obtain ⟨b, e⟩ := box_cells h; exact ⟨b, e, trivial⟩) h
  refine ⟨⟨a, n, c⟩, k, s, ?_, h2⟩
  obtain ⟨a', c', he, hr⟩ := h1
  simp only [Value.slice.injEq] at he
  obtain ⟨rfl, rfl, rfl⟩ := he
  refine ⟨a, c, rfl, fun hne => ?_⟩
  obtain ⟨g, o, rfl, hg, hc⟩ := hr hne
  refine ⟨g, o, rfl, hg, fun j hj => ?_⟩
  have e : bat s j = s[j] := bat_get hj
  rw [e]
  exact ⟨hc j hj 0 (by omega), hc j hj 1 (by omega), hc j hj 2 (by omega), hc j hj 3 (by omega)⟩

set_option maxRecDepth 100000 in
theorem via_cells {H : Type} {enc : TypeId × Value → H} {W : World} {fuel : Nat} {cs : List Value} {x : DataW H × List MemPlace} (h : DataW.trod enc Try.prog W 0 (fun _ => true) true fuel 101 cs = some x) : ∃ a : Vi, cs = viC a ∧ True := by
  obtain ⟨y0, y1, y2, n, hx, hl, h0, h1, h2⟩ := trod_struct3 Try.underlying101 h
  have k6 : Try.prog.cellsOf 101 = 6 := by kernel_rfl
  have k1 : Try.prog.cellsOf 2 = 1 := by kernel_rfl
  rw [k6] at hl
  obtain ⟨c0, c1, c2, c3, c4, c5, rfl⟩ : ∃ c0 c1 c2 c3 c4 c5, cs = [c0, c1, c2, c3, c4, c5] := by
    match cs, hl with
    | [c0, c1, c2, c3, c4, c5], _ => exact ⟨c0, c1, c2, c3, c4, c5, rfl⟩
  obtain ⟨n0, e0, _, _⟩ := DataW.trod_int Try.underlying2 h0
  obtain ⟨n1, e1, _, _⟩ := DataW.trod_int Try.underlying2 h1
  obtain ⟨z0, z1, z2, z3, n2, hx2, hl2, q0, q1, q2, q3⟩ := trod_struct4 Try.underlying99 h2
  obtain ⟨m0, f0, _, _⟩ := DataW.trod_int Try.underlying2 q0
  obtain ⟨m1, f1, _, _⟩ := DataW.trod_int Try.underlying2 q1
  obtain ⟨m2, f2, _, _⟩ := DataW.trod_int Try.underlying2 q2
  obtain ⟨m3, f3, _, _⟩ := DataW.trod_int Try.underlying2 q3
  simp [k1, cells_laws_Box] at e0 e1 f0 f1 f2 f3
  subst e0 e1 f0 f1 f2 f3
  exact ⟨⟨n0, n1, ⟨m0, m1, m2, m3⟩⟩, rfl, trivial⟩

set_option maxRecDepth 100000 in
/-- A wiring that came in. -/
theorem wiring_open {H : Type} {enc : TypeId × Value → H} {W : World} {base : Nat} {v : Value} {d : DataW H} {p : List MemPlace}
    (hv : Value.okWide Try.prog W .any base 25 v) (h : DataW.Trod enc Try.prog W 0 (fun _ => true) true 25 v d p) :
    ∃ (a b : Option Addr) (n c m e : Nat) (s : List (List Bx)) (t : List Vi), v = .agg #[.slice a n c, .slice b m e] ∧ RSS W (.slice a n c) s ∧ RG 6 viC W (.slice b m e) t ∧ n ≤ maxLen ∧ m ≤ maxLen ∧ ∀ j (h : j < s.length), okL s[j] := by
  obtain ⟨c0, c1, y0, y1, m, rfl, rfl, rfl, hy0, hy1⟩ := open_agg2 Try.underlying25 (by kernel_rfl) (by kernel_rfl) hv h
  obtain ⟨a, n, c, rs, k0, h1, h2, h3⟩ := rg_of_trod (Q := fun r : Rl => ∃ s : List Bx, RB W (.slice r.a r.n r.c) s ∧ okL s) Try.underlying22 (show Try.prog.cellsOf 94 = 1 by kernel_rfl) (by omega) rlC_len (fun _ _ _ h => lst_cells h) hy0
  have : Nonempty Vi := ⟨⟨0, 0, ⟨0, 0, 0, 0⟩⟩⟩
  obtain ⟨b, mm, e, t, k1, g1, g2, _⟩ := rg_of_trod (Q := fun _ => True) Try.underlying23 (show Try.prog.cellsOf 101 = 6 by kernel_rfl) (by omega) viC_len (fun _ _ _ h => via_cells h) hy1
  simp at k0 k1
  subst k0 k1
  have each : ∀ j, ∃ s : List Bx, ∀ (h : j < rs.length), RB W (.slice rs[j].a rs[j].n rs[j].c) s ∧ okL s := by
    intro j
    by_cases hj : j < rs.length
    · obtain ⟨s, hs⟩ := h3 j hj
      exact ⟨s, fun _ => hs⟩
    · exact ⟨[], fun h => absurd h hj⟩
  let f : Nat → List Bx := fun i => Classical.choose (each i)
  have hf' : ∀ j (h : j < rs.length), RB W (.slice rs[j].a rs[j].n rs[j].c) (f j) ∧ okL (f j) := fun j => Classical.choose_spec (each j)
  refine ⟨a, b, n, c, mm, e, (List.range rs.length).map f, t, rfl, ⟨rs, h1, by simp, fun j hj hj' => ?_⟩, g1, by rw [h1.len]; exact h2, by rw [g1.len]; exact g2, fun j hj => ?_⟩
  · have := (hf' j hj).1
    simpa using this
  · simp at hj
    have := (hf' j hj).2
    simpa using this

end Go.Proofs.Ytbfieehlekgjeaa
