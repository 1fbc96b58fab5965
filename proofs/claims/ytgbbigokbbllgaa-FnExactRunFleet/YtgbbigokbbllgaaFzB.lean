/- Proved here: fleets (a number, two lists of numbers): how the laws' package weighs, copies, compares and marks one; how one that came in is read. No condition. -/
import Derived.Test.YtgbbigokbbllgaaTwA
import Derived.Test.YtgbbigokbbllgaaNlI
import Derived.Test.YtgbbigokbbllgaaNlW
namespace Go.Proofs.Ytgbbigokbbllgaa
open Go.ChangeShapes Go.WideShapes Go.ChangeAt Go.RowKit Go.Joins Go.Deep
set_option linter.unusedVariables false
set_option linter.unusedSimpArgs false

set_option maxHeartbeats 1600000 in
theorem szFleet_gen (C : Int) (a : Option Addr) (n c : Nat) (b : Option Addr) (m d : Nat) (l : Int) (w : World) (h0 : 0 ≤ l) (h1 : l ≤ 1048576) (h2 : n ≤ maxLen ∧ m ≤ maxLen) :
    Calls Try.prog 20 #[.agg #[.int .i64 C, .slice a n c, .slice b m d], .int .i64 l] w fun e w' => ∃ r, e = .returned (.int .i64 r) ∧ (r < 0 ∨ (0 ≤ r ∧ r ≤ l ∧ (n : Int) ≤ l ∧ (m : Int) ≤ l)) ∧ Below w.heap.size w w' := by
  have H : Hid (n ≤ maxLen ∧ m ≤ maxLen) := h2
  clear h2
  go_enter Try.func20, Try.ntmps20
  go_wp2_with (fail)
  refine (szInt64S_gen a n c l _ h0 h1 H.out.1).mono ?_
  rintro e w1 ⟨q1, rfl, hq1, hb1⟩
  have k1 := (hb1.block w.heap.size (by simp)).trans (heap_alloc_new w _)
  obtain ⟨p0, p1, p2, pf, pl⟩ := tw_three k1
  have HB1 : Hid (Below w.heap.size w w1) := (show Below w.heap.size w _ from by (repeat' (first | (with_reducible exact Below.refl _ _) | (with_reducible assumption) | (with_reducible refine Below.setCell ?_ ?_ _) | (with_reducible refine Below.alloc ?_ ?_ _) | (with_reducible refine below_drewN ?_ _) | (with_reducible refine Below.drew ?_) | (with_reducible exact Nat.le_refl _) | omega | (simp; done) | (simp; omega)))).trans (hb1.mono (by simp))
  clear hb1 k1 pf
  rcases hq1 with hneg | ⟨h3, h4, h5⟩
  · go_wp2
    go_returns
    exact ⟨-1, rfl, Or.inl (by omega), HB1.out⟩
  have h6 : ¬ q1 < 0 := by omega
  go_wp2_with (fail)
  refine (szInt64S_gen b m d q1 _ h3 (by omega) H.out.2).mono ?_
  rintro e w2 ⟨q2, rfl, hq2, hb2⟩
  have HB2 : Hid (Below w.heap.size w w2) := HB1.out.trans (hb2.mono HB1.out.size)
  clear hb2 p0 p1 p2 pl
  rcases hq2 with hneg | ⟨h7, h8, h9⟩
  · go_wp2
    go_returns
    exact ⟨-1, rfl, Or.inl (by omega), HB2.out⟩
  have h10 : ¬ q2 < 0 := by omega
  go_wp2
  go_returns
  exact ⟨q2, rfl, Or.inr ⟨h7, by omega, h5, by omega⟩, HB2.out⟩

set_option maxHeartbeats 6400000 in
theorem toFleet_any (C : Int) {w : World} {va vb : Value} {s t : List Int} (hn : s.length ≤ 1048576 ∧ t.length ≤ 1048576) (h : RdL w va vb s t) :
    Calls Try.prog 22 #[.agg #[.int .i64 C, va, vb]] w fun e w' => ∃ g : Nat × Nat, e = .returned (.agg #[.int .i64 C, .slice (some ⟨g.1, 0, none⟩) s.length s.length, .slice (some ⟨g.2, 0, none⟩) t.length t.length]) ∧ OwL w' w.heap.size (.slice (some ⟨g.1, 0, none⟩) s.length s.length) (.slice (some ⟨g.2, 0, none⟩) t.length t.length) s t ∧ Below w.heap.size w w' := by
  obtain ⟨a, c, rfl⟩ := h.1.form
  obtain ⟨b, d, rfl⟩ := h.2.form
  obtain ⟨n, hnn⟩ : ∃ n, n = s.length := ⟨_, rfl⟩
  obtain ⟨m, hmm⟩ : ∃ n, n = t.length := ⟨_, rfl⟩
  rw [← hnn, ← hmm] at h ⊢
  have H : Hid (RdL w (.slice a n c) (.slice b m d) s t ∧ (s.length ≤ 1048576 ∧ t.length ≤ 1048576) ∧ n = s.length ∧ m = t.length) := ⟨h, hn, hnn, hmm⟩
  clear h hn hnn hmm
  go_enter Try.func22, Try.ntmps22
  go_wp2_with (fail)
  refine (toInt64S_any H.out.2.1.1 (H.out.1.1.below (by (repeat' (first | (with_reducible exact Below.refl _ _) | (with_reducible assumption) | (with_reducible refine Below.setCell ?_ ?_ _) | (with_reducible refine Below.alloc ?_ ?_ _) | (with_reducible refine below_drewN ?_ _) | (with_reducible refine Below.drew ?_) | (with_reducible exact Nat.le_refl _) | omega | (simp; done) | (simp; omega)))))).mono ?_
  rintro e w1 ⟨g1, rfl, hs1, hb1⟩
  have hz1 : w.heap.size + 3 ≤ w1.heap.size := by have := hb1.size; simpa using this
  have k0 : w1.heap[w.heap.size]? = some (.cells #[.int .i64 C, .slice a n c, .slice b m d] 42) := by
    rw [hb1.block w.heap.size (by simp; omega)]
    exact (Below.heap_alloc _ _ _ (by simp; omega)).trans ((Below.heap_alloc _ _ _ (by simp)).trans (heap_alloc_new w _))
  have k1 : w1.heap[w.heap.size + 1]? = some (.cells #[.int .i64 0, .slice none 0 0, .slice none 0 0] 45) := by
    rw [hb1.block (w.heap.size + 1) (by simp)]
    exact (Below.heap_alloc _ _ _ (by simp)).trans (tw_at1 w _ _)
  have k2 : w1.heap[w.heap.size + 2]? = some (.cells #[.int .i64 C, .slice none 0 0, .slice none 0 0] 45) := by
    rw [hb1.block (w.heap.size + 2) (by simp)]
    exact tw_at2 w _ _ _
  have hb : Below w.heap.size w w1 := (show Below w.heap.size w _ from by (repeat' (first | (with_reducible exact Below.refl _ _) | (with_reducible assumption) | (with_reducible refine Below.setCell ?_ ?_ _) | (with_reducible refine Below.alloc ?_ ?_ _) | (with_reducible refine below_drewN ?_ _) | (with_reducible refine Below.drew ?_) | (with_reducible exact Nat.le_refl _) | omega | (simp; done) | (simp; omega)))).trans (hb1.mono (by simp; omega))
  have hlt := IS.lt hs1 g1 rfl
  simp at hlt
  rw [← H.out.2.2.1] at hs1 ⊢
  -- the first list lies in the copy
  obtain ⟨W1, hW1⟩ : ∃ W1, W1 = w1.setCell ⟨w.heap.size + 2, 1, none⟩ (.slice (some ⟨g1, 0, none⟩) n n) := ⟨_, rfl⟩
  have HW1 : Hid (W1 = w1.setCell ⟨w.heap.size + 2, 1, none⟩ (.slice (some ⟨g1, 0, none⟩) n n)) := hW1
  have HF1 : Hid (IS W1 (w.heap.size + 3) (.slice (some ⟨g1, 0, none⟩) n n) s ∧ Below w.heap.size w W1 ∧ W1.heap[w.heap.size]? = some (.cells #[.int .i64 C, .slice a n c, .slice b m d] 42) ∧ W1.heap[w.heap.size + 1]? = some (.cells #[.int .i64 0, .slice none 0 0, .slice none 0 0] 45) ∧ W1.heap[w.heap.size + 2]? = some (.cells #[.int .i64 C, .slice (some ⟨g1, 0, none⟩) n n, .slice none 0 0] 45)) := by
    refine ⟨?_, ?_, ?_, ?_, ?_⟩
    · have e : IS w1 (w.heap.size + 3) (.slice (some ⟨g1, 0, none⟩) n n) s := by simpa using hs1
      refine e.kept fun q hq => ?_
      have := (IS.lt e q hq).1
      rw [hW1, heap_setCell_other _ _ _ _ (by simp; omega)]
    · rw [hW1]; (repeat' (first | (with_reducible exact Below.refl _ _) | (with_reducible assumption) | (with_reducible refine Below.setCell ?_ ?_ _) | (with_reducible refine Below.alloc ?_ ?_ _) | (with_reducible refine below_drewN ?_ _) | (with_reducible refine Below.drew ?_) | (with_reducible exact Nat.le_refl _) | omega | (simp; done) | (simp; omega)))
    · rw [hW1, heap_setCell_other _ _ _ _ (by simp)]; exact k0
    · rw [hW1, heap_setCell_other _ _ _ _ (by simp)]; exact k1
    · rw [hW1]
      have := heap_setCell_same _ _ 1 _ _ (.slice (some ⟨g1, 0, none⟩) n n) k2
      simpa using this
  obtain ⟨r0, r1, r2, rf, rl⟩ := tw_three k0
  obtain ⟨q0, q1, q2, qf, ql⟩ := tw_three k2
  have qf0 := qf 0
  have qf1 := qf 1
  clear hW1 k0 k1 k2 hb hs1 hb1 qf rf
  go_wp2_with (fail)
  rw [← HW1.out]
  clear r0 r1 r2 rl q0 q1 q2 ql qf1 qf0
  refine (toInt64S_any H.out.2.1.2 (H.out.1.2.below HF1.out.2.1)).mono ?_
  rintro e w2 ⟨g2, rfl, hs2, hb2⟩
  rw [← H.out.2.2.2] at hs2 ⊢
  have hz2 : w.heap.size + 3 ≤ W1.heap.size := by rw [HW1.out]; simpa using hz1
  have j1 := (hb2.block (w.heap.size + 1) (by omega)).trans HF1.out.2.2.2.1
  have j2 := (hb2.block (w.heap.size + 2) (by omega)).trans HF1.out.2.2.2.2
  obtain ⟨W2, hW2⟩ : ∃ W2, W2 = (((w2.setCell ⟨w.heap.size + 2, 2, none⟩ (.slice (some ⟨g2, 0, none⟩) m m)).setCell ⟨w.heap.size + 1, 0, none⟩ (.int .i64 C)).setCell ⟨w.heap.size + 1, 1, none⟩ (.slice (some ⟨g1, 0, none⟩) n n)).setCell ⟨w.heap.size + 1, 2, none⟩ (.slice (some ⟨g2, 0, none⟩) m m) := ⟨_, rfl⟩
  have ho : ∀ q, w.heap.size + 3 ≤ q → W2.heap[q]? = w2.heap[q]? := fun q hq => by
    rw [hW2, heap_setCell_other _ _ _ _ (by simp; omega), heap_setCell_other _ _ _ _ (by simp; omega), heap_setCell_other _ _ _ _ (by simp; omega), heap_setCell_other _ _ _ _ (by simp; omega)]
  have hbb : Below w.heap.size w w2 := HF1.out.2.1.trans (hb2.mono HF1.out.2.1.size)
  have hga : g1 < W1.heap.size := (IS.lt HF1.out.1 g1 rfl).2
  have hgb : W1.heap.size ≤ g2 := (IS.lt hs2 g2 rfl).1
  have HF2 : Hid (OwL W2 w.heap.size (.slice (some ⟨g1, 0, none⟩) n n) (.slice (some ⟨g2, 0, none⟩) m m) s t ∧ Below w.heap.size w W2) := by
    refine ⟨⟨?_, ?_, ?_⟩, ?_⟩
    · have e1 := HF1.out.1.bel hb2
      have e2 : IS W2 (w.heap.size + 3) (.slice (some ⟨g1, 0, none⟩) n n) s := e1.kept fun q hq => ho q (IS.lt e1 q hq).1
      exact e2.low (by omega)
    · have e1 := hs2.low hz2
      have e2 : IS W2 (w.heap.size + 3) (.slice (some ⟨g2, 0, none⟩) m m) t := e1.kept fun q hq => ho q (IS.lt e1 q hq).1
      exact e2.low (by omega)
    · intro g h1 h2
      have e1 : g1 = g := Option.some.inj h1
      have e2 : g2 = g := Option.some.inj h2
      omega
    · rw [hW2]; (repeat' (first | (with_reducible exact Below.refl _ _) | (with_reducible assumption) | (with_reducible refine Below.setCell ?_ ?_ _) | (with_reducible refine Below.alloc ?_ ?_ _) | (with_reducible refine below_drewN ?_ _) | (with_reducible refine Below.drew ?_) | (with_reducible exact Nat.le_refl _) | omega | (simp; done) | (simp; omega)))
  have e1 : W2.heap[w.heap.size + 1]? = some (.cells #[.int .i64 C, .slice (some ⟨g1, 0, none⟩) n n, .slice (some ⟨g2, 0, none⟩) m m] 45) := by
    have k1' : (w2.setCell ⟨w.heap.size + 2, 2, none⟩ (.slice (some ⟨g2, 0, none⟩) m m)).heap[w.heap.size + 1]? = some (.cells #[.int .i64 0, .slice none 0 0, .slice none 0 0] 45) := by rw [heap_setCell_other _ _ _ _ (by simp)]; exact j1
    have s0 := heap_setCell_same _ _ 0 _ _ (.int .i64 C) k1'
    have s1 := heap_setCell_same _ _ 1 _ _ (.slice (some ⟨g1, 0, none⟩) n n) s0
    have s2 := heap_setCell_same _ _ 2 _ _ (.slice (some ⟨g2, 0, none⟩) m m) s1
    rw [hW2]
    simpa using s2
  obtain ⟨q0, q1, q2, qf, ql⟩ := tw_three j2
  have qf2 := qf 2
  obtain ⟨p0, p1, p2, pf, pl⟩ := tw_three j1
  have pf0 := pf 0
  have pf1 := pf 1
  have pf2 := pf 2
  have HW2 : Hid _ := hW2
  obtain ⟨t0, t1, t2, tf, tl⟩ := tw_three e1
  clear hW2 j1 j2 hbb hs2 e1 hb2 qf pf ho hga hgb
  go_wp2
  rw [← HW2.out]
  refine bodyPost_ret (by simp [results, Try.results22, go_sem, t0, t1, t2]) rfl ⟨(g1, g2), rfl, HF2.out⟩

set_option maxHeartbeats 1600000 in
theorem eqFleet_same (C : Int) {w : World} {va vb va' vb' : Value} {s t : List Int} (hn : s.length ≤ 1048576 ∧ t.length ≤ 1048576) (ha : RdL w va vb s t) (hb : RdL w va' vb' s t) :
    Calls Try.prog 24 #[.agg #[.int .i64 C, va, vb], .agg #[.int .i64 C, va', vb']] w fun e w' => e = .returned (.bool true) ∧ Below w.heap.size w w' := by
  obtain ⟨a1, c1', rfl⟩ := ha.1.form
  obtain ⟨a2, c2', rfl⟩ := hb.1.form
  obtain ⟨b1, d1', rfl⟩ := ha.2.form
  obtain ⟨b2, d2', rfl⟩ := hb.2.form
  obtain ⟨n, hnn⟩ : ∃ n, n = s.length := ⟨_, rfl⟩
  obtain ⟨m, hmm⟩ : ∃ n, n = t.length := ⟨_, rfl⟩
  rw [← hnn, ← hmm] at ha hb ⊢
  have H : Hid (RdL w (.slice a1 n c1') (.slice b1 m d1') s t ∧ RdL w (.slice a2 n c2') (.slice b2 m d2') s t ∧ s.length ≤ 1099511627776 ∧ t.length ≤ 1099511627776) := ⟨ha, hb, by omega, by omega⟩
  clear ha hb hn hnn hmm
  go_enter Try.func24, Try.ntmps24
  go_wp2_with (fail)
  refine (eqInt64S_same H.out.2.2.1 (H.out.1.1.below (by (repeat' (first | (with_reducible exact Below.refl _ _) | (with_reducible assumption) | (with_reducible refine Below.setCell ?_ ?_ _) | (with_reducible refine Below.alloc ?_ ?_ _) | (with_reducible refine below_drewN ?_ _) | (with_reducible refine Below.drew ?_) | (with_reducible exact Nat.le_refl _) | omega | (simp; done) | (simp; omega))))) (H.out.2.1.1.below (by (repeat' (first | (with_reducible exact Below.refl _ _) | (with_reducible assumption) | (with_reducible refine Below.setCell ?_ ?_ _) | (with_reducible refine Below.alloc ?_ ?_ _) | (with_reducible refine below_drewN ?_ _) | (with_reducible refine Below.drew ?_) | (with_reducible exact Nat.le_refl _) | omega | (simp; done) | (simp; omega)))))).mono ?_
  rintro e w1 ⟨rfl, hb1⟩
  have g0 := (hb1.block w.heap.size (by simp; omega)).trans ((Below.heap_alloc _ _ _ (by simp)).trans (heap_alloc_new w _))
  have g1 := (hb1.block (w.heap.size + 1) (by simp)).trans (tw_at1 w _ _)
  obtain ⟨p0, p1, p2, pf, pl⟩ := tw_three g0
  obtain ⟨q0, q1, q2, qf, ql⟩ := tw_three g1
  have HB1 : Hid (Below w.heap.size w w1) := (show Below w.heap.size w _ from by (repeat' (first | (with_reducible exact Below.refl _ _) | (with_reducible assumption) | (with_reducible refine Below.setCell ?_ ?_ _) | (with_reducible refine Below.alloc ?_ ?_ _) | (with_reducible refine below_drewN ?_ _) | (with_reducible refine Below.drew ?_) | (with_reducible exact Nat.le_refl _) | omega | (simp; done) | (simp; omega)))).trans (hb1.mono (by simp; omega))
  clear hb1 g0 g1 pf qf
  go_wp2_with (fail)
  refine (eqInt64S_same H.out.2.2.2 (H.out.1.2.below HB1.out) (H.out.2.1.2.below HB1.out)).mono ?_
  rintro e w2 ⟨rfl, hb2⟩
  have HB2 : Hid (Below w.heap.size w w2) := HB1.out.trans (hb2.mono HB1.out.size)
  clear hb2
  go_wp2
  go_returns
  exact ⟨rfl, HB2.out⟩

set_option maxRecDepth 100000 in
theorem fz_cellsFleet {H : Type} {enc : TypeId × Value → H} {W : World} {fuel : Nat} {cs : List Value} {x : DataW H × List MemPlace} (h : DataW.trod enc Try.prog W 0 (fun _ => true) true fuel 22 cs = some x) :
    ∃ (a : Option Addr) (n c : Nat) (s : List Int), cs = [.slice a n c] ∧ RdI W (.slice a n c) s ∧ n ≤ maxLen := by
  obtain ⟨a, n, c, s, hcs, h1, h2, _⟩ := rg_of_trod (Q := fun _ => True) Try.underlying22 (show Try.prog.cellsOf 2 = 1 by kernel_rfl) (by omega) inC_len (fun _ _ _ h => int_cell h) h
  exact ⟨a, n, c, s, hcs, h1, by rw [h1.len]; exact h2⟩

set_option maxRecDepth 100000 in
/-- One that came in. -/
theorem fleet_open {H : Type} {enc : TypeId × Value → H} {W : World} {base : Nat} {v : Value} {d : DataW H} {p : List MemPlace}
    (hv : Value.okWide Try.prog W .any base 42 v) (h : DataW.Trod enc Try.prog W 0 (fun _ => true) true 42 v d p) :
    ∃ (C : Int) (a : Option Addr) (n c : Nat) (s : List Int) (b : Option Addr) (m d : Nat) (t : List Int), v = .agg #[.int .i64 C, .slice a n c, .slice b m d] ∧ RdL W (.slice a n c) (.slice b m d) s t ∧ n ≤ maxLen ∧ m ≤ maxLen := by
  obtain ⟨cs, rfl, hsz⟩ := okWide_struct Try.underlying42 hv
  have k3 : Try.prog.cellsOf 42 = 3 := by kernel_rfl
  have k1 : Try.prog.cellsOf 2 = 1 := by kernel_rfl
  have ks : Try.prog.cellsOf 22 = 1 := by kernel_rfl
  rw [k3] at hsz
  obtain ⟨l⟩ := cs
  obtain ⟨c0, c1, c2, rfl⟩ : ∃ c0 c1 c2, l = [c0, c1, c2] := by
    match l, hsz with
    | [c0, c1, c2], _ => exact ⟨c0, c1, c2, rfl⟩
  obtain ⟨fuel, hf⟩ := h
  obtain ⟨y0, y1, y2, n, hx, hl, h0, h1, h2⟩ := trod_struct3 Try.underlying42 hf
  obtain ⟨C, e0, _, _⟩ := DataW.trod_int Try.underlying2 h0
  obtain ⟨a, n, c, s, e1, r1, r2⟩ := fz_cellsFleet h1
  obtain ⟨b, m, d, t, e2, r3, r4⟩ := fz_cellsFleet h2
  simp [Value.cells, k1, ks] at e0 e1 e2
  subst e0 e1 e2
  exact ⟨C, a, n, c, s, b, m, d, t, rfl, ⟨r1, r3⟩, r2, r4⟩

end Go.Proofs.Ytgbbigokbbllgaa
