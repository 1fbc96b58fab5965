/- Proved here: how the laws' package compares lots and books that are alike. -/
import Derived.Test.YtcfjanignfbidaaQlU
namespace Go.Proofs.Ytcfjanignfbidaa
open Go.ChangeShapes Go.WideShapes Go.ChangeAt Go.RowKit Go.Joins Go.Deep
set_option linter.unusedVariables false
set_option linter.unusedSimpArgs false

theorem same2 {w V V' : World} {o o' : Obj} {k : Nat} (h : Below w.heap.size w V ∧ V.heap[k]? = some o ∧ V.heap[k + 1]? = some o') (hb : Below V.heap.size V V') : Below w.heap.size w V' ∧ V'.heap[k]? = some o ∧ V'.heap[k + 1]? = some o' :=
  ⟨h.1.trans (hb.mono h.1.size), (hb.block _ (ltOf h.2.1)).trans h.2.1, (hb.block _ (ltOf h.2.2)).trans h.2.2⟩

set_option maxHeartbeats 3200000 in
theorem eqLot_same (r q : Lr) (d : Lo) (w : World) (hs : smLo 1048576 d) (h : Lr1 w r d) (h' : Lr1 w q d) :
    Calls Try.prog 75 #[.agg #[.int .i64 r.id, .int .i64 r.pa, .slice r.wa r.wn r.wc, .bool r.hd, .slice r.da r.dn r.dc], .agg #[.int .i64 q.id, .int .i64 q.pa, .slice q.wa q.wn q.wc, .bool q.hd, .slice q.da q.dn q.dc]] w fun e w' => e = .returned (.bool true) ∧ Below w.heap.size w w' := by
  obtain ⟨ri, rp, ra, rn, rc, rh, ta, tn, tc⟩ := r
  obtain ⟨qi, qp, qa, qn, qc, qh, ua, un, uc⟩ := q
  have e1 := h.id; have e2 := h'.id; have e3 := h.pa; have e4 := h'.pa; have e5 := h.hd; have e6 := h'.hd
  simp only at e1 e2 e3 e4 e5 e6
  subst ri rp rh qi qp qh
  obtain ⟨I, hI⟩ : ∃ I, I = d.id := ⟨_, rfl⟩
  obtain ⟨P, hP⟩ : ∃ I, I = d.pa := ⟨_, rfl⟩
  obtain ⟨D, hD⟩ : ∃ I, I = d.hd := ⟨_, rfl⟩
  have H : Hid ((RdI w (.slice ra rn rc) d.ws ∧ RdI w (.slice ta tn tc) d.dn) ∧ (RdI w (.slice qa qn qc) d.ws ∧ RdI w (.slice ua un uc) d.dn) ∧ smLo 1048576 d) := ⟨⟨h.ws, h.dn⟩, ⟨h'.ws, h'.dn⟩, hs⟩
  simp only [← hI, ← hP, ← hD]
  clear h h' hs hI hP hD
  obtain ⟨W0, hW0⟩ : ∃ W, W = (w.alloc (.cells #[.int .i64 I, .int .i64 P, .slice ra rn rc, .bool D, .slice ta tn tc] 61)).alloc (.cells #[.int .i64 I, .int .i64 P, .slice qa qn qc, .bool D, .slice ua un uc] 61) := ⟨_, rfl⟩
  have HB : Hid (Below w.heap.size w W0 ∧ W0.heap[w.heap.size]? = some (.cells #[.int .i64 I, .int .i64 P, .slice ra rn rc, .bool D, .slice ta tn tc] 61) ∧ W0.heap[w.heap.size + 1]? = some (.cells #[.int .i64 I, .int .i64 P, .slice qa qn qc, .bool D, .slice ua un uc] 61)) := by
    rw [hW0]
    refine ⟨by (repeat' (first | (with_reducible exact Below.refl _ _) | (with_reducible assumption) | (with_reducible refine Below.setCell ?_ ?_ _) | (with_reducible refine Below.alloc ?_ ?_ _) | (with_reducible refine below_drewN ?_ _) | (with_reducible refine Below.drew ?_) | (with_reducible exact Nat.le_refl _) | omega | (simp; done) | (simp; omega))), (Below.heap_alloc _ _ _ (by simp)).trans (heap_alloc_new w _), ?_⟩
    have := heap_alloc_new (w.alloc (.cells #[.int .i64 I, .int .i64 P, .slice ra rn rc, .bool D, .slice ta tn tc] 61)) (.cells #[.int .i64 I, .int .i64 P, .slice qa qn qc, .bool D, .slice ua un uc] 61); simpa using this
  go_enter Try.func75, Try.ntmps75
  go_wp2_with (fail)
  rw [← hW0]
  clear hW0
  refine (eqInt64S_same (by have := H.out.2.2.1; omega) (H.out.1.1.below HB.out.1) (H.out.2.1.1.below HB.out.1)).mono ?_
  rintro e w1 ⟨rfl, hb⟩
  have HB1 : Hid _ := same2 HB.out hb
  have x3 := cellOf HB1.out.2.1 3 rfl
  have y3 := cellOf HB1.out.2.2 3 rfl
  have x4 := cellOf HB1.out.2.1 4 rfl
  have y4 := cellOf HB1.out.2.2 4 rfl
  have lx := ltOf HB1.out.2.1
  have ly := ltOf HB1.out.2.2
  clear hb
  cases D
  · go_wp2_with (fail)
    refine (eqInt64S_same (by have := H.out.2.2.2.1; omega) (H.out.1.2.below HB1.out.1) (H.out.2.1.2.below HB1.out.1)).mono ?_
    rintro e w2 ⟨rfl, hb⟩
    have HB2 : Hid (Below w.heap.size w w2) := HB1.out.1.trans (hb.mono HB1.out.1.size)
    clear hb x3 x4 y3 y4 lx ly
    go_wp2
    go_returns
    exact ⟨rfl, HB2.out⟩
  · go_wp2_with (fail)
    refine (eqInt64S_same (by have := H.out.2.2.2.1; omega) (H.out.1.2.below HB1.out.1) (H.out.2.1.2.below HB1.out.1)).mono ?_
    rintro e w2 ⟨rfl, hb⟩
    have HB2 : Hid (Below w.heap.size w w2) := HB1.out.1.trans (hb.mono HB1.out.1.size)
    clear hb x3 x4 y3 y4 lx ly
    go_wp2
    go_returns
    exact ⟨rfl, HB2.out⟩

set_option maxHeartbeats 1600000 in
theorem eqLotS_same {w : World} {va vb : Value} {s : List Lo} (hn : s.length ≤ 1099511627776) (hsm : ∀ j (h : j < s.length), smLo 1048576 s[j]) (ha : RLo w va s) (hb : RLo w vb s) :
    Calls Try.prog 49 #[va, vb] w fun e w' => e = .returned (.bool true) ∧ Below w.heap.size w w' := by
  obtain ⟨a1, c1', rfl⟩ := ha.form
  obtain ⟨a2, c2', rfl⟩ := hb.form
  obtain ⟨n, hnn⟩ : ∃ n, n = s.length := ⟨_, rfl⟩
  rw [← hnn] at hn ha hb ⊢
  have H : Hid (RLo w (.slice a1 n c1') s ∧ RLo w (.slice a2 n c2') s ∧ n = s.length ∧ ∀ j (h : j < s.length), smLo 1048576 s[j]) := ⟨ha, hb, hnn, hsm⟩
  clear ha hb hnn hsm
  go_enter Try.func49, Try.ntmps49
  go_wp2
  go_loopw [5] (fun i wr => ∃ j : Nat, j ≤ n ∧ i = .int .i64 j ∧ Hid (Below w.heap.size w wr)) (fun i _ => n - (intOf i).toNat)
  case atStart => exact ⟨0, Nat.zero_le _, rfl, Below.refl _ _⟩
  case round =>
    obtain ⟨j, hjn, rfl, hR⟩ := hrel
    by_cases hlt : j < n
    · have hjl : j < s.length := by rw [← H.out.2.2.1]; exact hlt
      obtain ⟨g, o, d1, he, hg, x, hx, c0, c1, c2, c3, c4⟩ := (H.out.1.below hR.out).at hjl
      simp only [Value.slice.injEq] at he
      obtain ⟨rfl, hx1, hx2⟩ := he
      obtain ⟨g', o', d2, he', hg', y, hy, e0, e1, e2, e3, e4⟩ := (H.out.2.1.below hR.out).at hjl
      simp only [Value.slice.injEq] at he'
      obtain ⟨rfl, hx3, hx4⟩ := he'
      clear hx1 hx2 hx3 hx4
      have hcall : Hid (∀ X : Und wr.heap.size wr, Calls Try.prog 75 #[.agg #[.int .i64 x.id, .int .i64 x.pa, .slice x.wa x.wn x.wc, .bool x.hd, .slice x.da x.dn x.dc], .agg #[.int .i64 y.id, .int .i64 y.pa, .slice y.wa y.wn y.wc, .bool y.hd, .slice y.da y.dn y.dc]] X.W fun e w' => e = .returned (.bool true) ∧ Below X.W.heap.size X.W w') := fun X =>
        eqLot_same x y s[j] X.W (H.out.2.2.2 j hjl) (hx.below X.below) (hy.below X.below)
      clear hx hy
      have b0 : (0 : Int) ≤ (j : Int) := by omega
      have b1 : (j : Int) < (n : Int) := by omega
      go_wp2_with (fail)
      (refine wp_region_und (by kernel_rfl) (by kernel_rfl) (fun hund => ?_); (repeat (go_big_quiet_step (first | (go_at_call 75; with_reducible refine und_call ?_ (hcall.out _); exact Nat.le_refl _)))); with_reducible refine wpQuiet_nil ?_; clear hund; intro W1 hb1; obtain ⟨hc1, hf1⟩ := undcell hb1)
      have HB : Hid (Below w.heap.size w W1) := hR.out.trans (hb1.mono hR.out.size)
      clear hb1 hc1 hf1
      go_wp2
      go_roundw
      case rel => exact ⟨j + 1, by omega, by go_num, HB.out⟩
      case measure => simp [intOf]; omega
    · go_wp2
      go_returns
      exact ⟨rfl, hR.out⟩

set_option maxHeartbeats 3200000 in
theorem eqLotBook_same (st : Int) {w : World} {aw al ax bw bl bs : Value} {b : Bk} (hs : smBk 1048576 b) (hst : b.st = st) (h : RdBk w aw al ax b) (h' : RdBk w bw bl bs b) :
    Calls Try.prog 15 #[.agg #[.int .i64 st, aw, al, ax], .agg #[.int .i64 st, bw, bl, bs]] w fun e w' => e = .returned (.bool true) ∧ Below w.heap.size w w' := by
  obtain ⟨a1, a2, e1⟩ := h.wn.form
  obtain ⟨a3, a4, e2⟩ := h.ls.form
  obtain ⟨a5, a6, e3⟩ := h.sc.form
  obtain ⟨b1, b2, e4⟩ := h'.wn.form
  obtain ⟨b3, b4, e5⟩ := h'.ls.form
  obtain ⟨b5, b6, e6⟩ := h'.sc.form
  subst e1 e2 e3 e4 e5 e6
  obtain ⟨n1, hn1⟩ : ∃ n, n = b.wn.length := ⟨_, rfl⟩
  obtain ⟨n2, hn2⟩ : ∃ n, n = b.ls.length := ⟨_, rfl⟩
  obtain ⟨n3, hn3⟩ : ∃ n, n = b.sc.length := ⟨_, rfl⟩
  rw [← hn1, ← hn2, ← hn3] at h h' ⊢
  have H : Hid (RdBk w (.slice a1 n1 a2) (.slice a3 n2 a4) (.slice a5 n3 a6) b ∧ RdBk w (.slice b1 n1 b2) (.slice b3 n2 b4) (.slice b5 n3 b6) b ∧ smBk 1048576 b) := ⟨h, h', hs⟩
  clear h h' hs hn1 hn2 hn3 hst
  obtain ⟨W0, hW0⟩ : ∃ W, W = (w.alloc (.cells #[.int .i64 st, .slice a1 n1 a2, .slice a3 n2 a4, .slice a5 n3 a6] 31)).alloc (.cells #[.int .i64 st, .slice b1 n1 b2, .slice b3 n2 b4, .slice b5 n3 b6] 31) := ⟨_, rfl⟩
  have HB : Hid (Below w.heap.size w W0 ∧ W0.heap[w.heap.size]? = some (.cells #[.int .i64 st, .slice a1 n1 a2, .slice a3 n2 a4, .slice a5 n3 a6] 31) ∧ W0.heap[w.heap.size + 1]? = some (.cells #[.int .i64 st, .slice b1 n1 b2, .slice b3 n2 b4, .slice b5 n3 b6] 31)) := by
    rw [hW0]
    refine ⟨by (repeat' (first | (with_reducible exact Below.refl _ _) | (with_reducible assumption) | (with_reducible refine Below.setCell ?_ ?_ _) | (with_reducible refine Below.alloc ?_ ?_ _) | (with_reducible refine below_drewN ?_ _) | (with_reducible refine Below.drew ?_) | (with_reducible exact Nat.le_refl _) | omega | (simp; done) | (simp; omega))), (Below.heap_alloc _ _ _ (by simp)).trans (heap_alloc_new w _), ?_⟩
    have := heap_alloc_new (w.alloc (.cells #[.int .i64 st, .slice a1 n1 a2, .slice a3 n2 a4, .slice a5 n3 a6] 31)) (.cells #[.int .i64 st, .slice b1 n1 b2, .slice b3 n2 b4, .slice b5 n3 b6] 31); simpa using this
  go_enter Try.func15, Try.ntmps15
  go_wp2_with (fail)
  rw [← hW0]
  clear hW0
  refine (eqWindowS_same (by have := H.out.2.2.wn; omega) (H.out.1.wn.below HB.out.1) (H.out.2.1.wn.below HB.out.1)).mono ?_
  rintro e w1 ⟨rfl, hb⟩
  have HB1 : Hid _ := same2 HB.out hb
  have x2 := cellOf HB1.out.2.1 2 rfl
  have y2 := cellOf HB1.out.2.2 2 rfl
  have lx := ltOf HB1.out.2.1
  have ly := ltOf HB1.out.2.2
  clear hb
  go_wp2_with (fail)
  refine (eqLotS_same (by have := H.out.2.2.ls; omega) H.out.2.2.at_ (H.out.1.ls.below HB1.out.1) (H.out.2.1.ls.below HB1.out.1)).mono ?_
  rintro e w2 ⟨rfl, hb⟩
  clear x2 y2 lx ly
  have HB2 : Hid _ := same2 HB1.out hb
  have x3 := cellOf HB2.out.2.1 3 rfl
  have y3 := cellOf HB2.out.2.2 3 rfl
  have lx := ltOf HB2.out.2.1
  have ly := ltOf HB2.out.2.2
  clear hb
  go_wp2_with (fail)
  refine (eqInt64S_same (by have := H.out.2.2.sc; omega) (H.out.1.sc.below HB2.out.1) (H.out.2.1.sc.below HB2.out.1)).mono ?_
  rintro e w3 ⟨rfl, hb⟩
  have HB3 : Hid (Below w.heap.size w w3) := HB2.out.1.trans (hb.mono HB2.out.1.size)
  clear hb x3 y3 lx ly
  go_wp2
  go_returns
  exact ⟨rfl, HB3.out⟩

end Go.Proofs.Ytcfjanignfbidaa
