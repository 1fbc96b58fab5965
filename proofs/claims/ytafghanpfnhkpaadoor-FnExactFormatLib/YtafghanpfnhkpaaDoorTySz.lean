/- Proved here: how the laws' package weighs places, cells and lists of them: what is not too great has no list or text longer than so many. -/
import Derived.Test.YtafghanpfnhkpaaDoorTyCell
namespace Go.Proofs.YtafghanpfnhkpaaDoor
open Go.ChangeShapes Go.WideShapes Go.ChangeAt Go.RowKit Go.Joins
set_option linter.unusedVariables false
set_option linter.unusedSimpArgs false

/-- A cell as it lies in memory: its text, and where its two lists lie. -/
structure Rc where
  nm : ByteArray
  ba : Option Addr
  bn : Nat
  bc : Nat
  pa : Option Addr
  pn : Nat
  pc : Nat
def rcC (r : Rc) : List Value := [.string r.nm, .slice r.ba r.bn r.bc, .slice r.pa r.pn r.pc]
theorem rcC_len (r : Rc) : (rcC r).length = 3 := rfl
theorem rcC_at {w : World} {g o : Nat} {r : Rc} (h : ∀ i, i < 3 → w.cell? ⟨g, o + i, none⟩ = (rcC r)[i]?) : w.cell? ⟨g, o, none⟩ = some (.string r.nm) ∧ w.cell? ⟨g, o + 1, none⟩ = some (.slice r.ba r.bn r.bc) ∧ w.cell? ⟨g, o + 2, none⟩ = some (.slice r.pa r.pn r.pc) :=
  ⟨h 0 (by omega), h 1 (by omega), h 2 (by omega)⟩
/-- What lies there is that cell. -/
structure Rc1 (w : World) (r : Rc) (c : Cl) : Prop where
  nm : r.nm = c.nm
  bs : RG 5 lbC w (.slice r.ba r.bn r.bc) c.bs
  ps : RG 9 plC w (.slice r.pa r.pn r.pc) c.ps
theorem Rc1.below {w w' : World} {r : Rc} {c : Cl} (h : Rc1 w r c) (hb : Below w.heap.size w w') : Rc1 w' r c := ⟨h.nm, h.bs.below hb, h.ps.below hb⟩
/-- A slice that can be read as a list of cells. -/
structure RelK (w : World) (rs : List Rc) (s : List Cl) : Prop where
  len : rs.length = s.length
  at_ : ∀ j (h : j < rs.length) (h' : j < s.length), Rc1 w rs[j] s[j]
theorem RelK.below {w w' : World} {rs : List Rc} {s : List Cl} (h : RelK w rs s) (hb : Below w.heap.size w w') : RelK w' rs s := ⟨h.len, fun j h1 h2 => (h.at_ j h1 h2).below hb⟩
def RK (w : World) (v : Value) (s : List Cl) : Prop := ∃ rs, RG 3 rcC w v rs ∧ RelK w rs s
theorem RK.below {w w' : World} {v : Value} {s : List Cl} (h : RK w v s) (hb : Below w.heap.size w w') : RK w' v s := by
  obtain ⟨rs, h1, h2⟩ := h; exact ⟨rs, h1.below hb, h2.below hb⟩

/-- No text and no list is longer than m. -/
def smP (m : Int) (p : Pl) : Prop := (p.c.size : Int) ≤ m
structure smC (m : Int) (c : Cl) : Prop where
  nm : (c.nm.size : Int) ≤ m
  bs : (c.bs.length : Int) ≤ m
  ps : (c.ps.length : Int) ≤ m
  pl : ∀ j (h : j < c.ps.length), smP m c.ps[j]

set_option maxHeartbeats 800000 in
theorem szPlace_gen (p : Pl) (l : Int) (w : World) (h0 : 0 ≤ l) (h1 : l ≤ 1048576) (h2 : p.c.size ≤ maxLen) :
    Calls Tryd.prog 30 #[.agg #[.string p.c, .int .i64 p.x, .int .i64 p.y, .int .i64 p.t, .bool p.f, .int .i64 p.nx, .int .i64 p.ny, .int .i64 p.dx, .int .i64 p.dy], .int .i64 l] w fun e w' => ∃ r, e = .returned (.int .i64 r) ∧ (r < 0 ∨ (0 ≤ r ∧ r ≤ l ∧ smP l p)) ∧ Below w.heap.size w w' := by
  unfold maxLen at h2
  have hw : IntKind.i64.wrap (l - (p.c.size : Int)) = l - (p.c.size : Int) := by rw [IntKind.wrap_i64]; omega
  by_cases hn : l - (p.c.size : Int) < 0
  · go_enter Tryd.func30, Tryd.ntmps30
    go_wp2
    go_returns
    exact ⟨-1, rfl, Or.inl (by omega), by (repeat' (first | (with_reducible exact Below.refl _ _) | (with_reducible assumption) | (with_reducible refine Below.setCell ?_ ?_ _) | (with_reducible refine Below.alloc ?_ ?_ _) | (with_reducible refine below_drewN ?_ _) | (with_reducible refine Below.drew ?_) | (with_reducible exact Nat.le_refl _) | omega | (simp; done) | (simp; omega)))⟩
  · go_enter Tryd.func30, Tryd.ntmps30
    go_wp2
    go_returns
    exact ⟨_, rfl, Or.inr ⟨by omega, by omega, by unfold smP; omega⟩, by (repeat' (first | (with_reducible exact Below.refl _ _) | (with_reducible assumption) | (with_reducible refine Below.setCell ?_ ?_ _) | (with_reducible refine Below.alloc ?_ ?_ _) | (with_reducible refine below_drewN ?_ _) | (with_reducible refine Below.drew ?_) | (with_reducible exact Nat.le_refl _) | omega | (simp; done) | (simp; omega)))⟩

set_option maxHeartbeats 800000 in
theorem szLBoxS_gen (a : Option Addr) (n c : Nat) (l : Int) (w : World) (h0 : 0 ≤ l) (h1 : l ≤ 1048576) (h2 : n ≤ maxLen) :
    Calls Tryd.prog 19 #[.slice a n c, .int .i64 l] w fun e w' => ∃ r, e = .returned (.int .i64 r) ∧ (r < 0 ∨ (0 ≤ r ∧ r ≤ l ∧ (n : Int) ≤ l)) ∧ Below w.heap.size w w' := by
  unfold maxLen at h2
  have hw : IntKind.i64.wrap (l - (n : Int)) = l - (n : Int) := by rw [IntKind.wrap_i64]; omega
  by_cases hn : l - (n : Int) < 0
  · go_enter Tryd.func19, Tryd.ntmps19
    go_wp2
    go_returns
    exact ⟨-1, rfl, Or.inl (by omega), by (repeat' (first | (with_reducible exact Below.refl _ _) | (with_reducible assumption) | (with_reducible refine Below.setCell ?_ ?_ _) | (with_reducible refine Below.alloc ?_ ?_ _) | (with_reducible refine below_drewN ?_ _) | (with_reducible refine Below.drew ?_) | (with_reducible exact Nat.le_refl _) | omega | (simp; done) | (simp; omega)))⟩
  · go_enter Tryd.func19, Tryd.ntmps19
    go_wp2
    go_returns
    exact ⟨_, rfl, Or.inr ⟨by omega, by omega, by omega⟩, by (repeat' (first | (with_reducible exact Below.refl _ _) | (with_reducible assumption) | (with_reducible refine Below.setCell ?_ ?_ _) | (with_reducible refine Below.alloc ?_ ?_ _) | (with_reducible refine below_drewN ?_ _) | (with_reducible refine Below.drew ?_) | (with_reducible exact Nat.le_refl _) | omega | (simp; done) | (simp; omega)))⟩

set_option maxHeartbeats 1600000 in
theorem szPlaceS_gen (a : Option Addr) (n c : Nat) (l : Int) (s : List Pl) (w : World) (h0 : 0 ≤ l) (h1 : l ≤ 1048576) (h2 : n ≤ maxLen) (h : RG 9 plC w (.slice a n c) s) (hm : ∀ j (h : j < s.length), (s[j]).c.size ≤ maxLen) :
    Calls Tryd.prog 20 #[.slice a n c, .int .i64 l] w fun e w' => ∃ r, e = .returned (.int .i64 r) ∧ (r < 0 ∨ (0 ≤ r ∧ r ≤ l ∧ (n : Int) ≤ l ∧ ∀ j (h : j < s.length), smP l s[j])) ∧ Below w.heap.size w w' := by
  unfold maxLen at h2
  have H : Hid (RG 9 plC w (.slice a n c) s ∧ n = s.length ∧ ∀ j (h : j < s.length), (s[j]).c.size ≤ maxLen) := ⟨h, h.len, hm⟩
  clear h hm
  have hw : IntKind.i64.wrap (l - (n : Int)) = l - (n : Int) := by rw [IntKind.wrap_i64]; omega
  by_cases hn : l - (n : Int) < 0
  · go_enter Tryd.func20, Tryd.ntmps20
    go_wp2
    go_returns
    exact ⟨-1, rfl, Or.inl (by omega), by (repeat' (first | (with_reducible exact Below.refl _ _) | (with_reducible assumption) | (with_reducible refine Below.setCell ?_ ?_ _) | (with_reducible refine Below.alloc ?_ ?_ _) | (with_reducible refine below_drewN ?_ _) | (with_reducible refine Below.drew ?_) | (with_reducible exact Nat.le_refl _) | omega | (simp; done) | (simp; omega)))⟩
  · have HL : Hid ((n : Int) ≤ l) := by unfold Hid; omega
    obtain ⟨l1, hl1⟩ : ∃ l1, l1 = l - (n : Int) := ⟨_, rfl⟩
    have hl0 : 0 ≤ l1 := by omega
    have hll : l1 ≤ l := by omega
    rw [← hl1] at hw hn
    have hw2 : IntKind.i64.wrap (l - (n : Int)) = l1 := by rw [← hl1]; exact hw
    clear hl1 hw
    go_enter Tryd.func20, Tryd.ntmps20
    go_wp2
    go_loopw [1, 5] (fun q i wr => ∃ (j : Nat) (r : Int), j ≤ n ∧ i = .int .i64 j ∧ q = .int .i64 r ∧ 0 ≤ r ∧ r ≤ l ∧ Hid (Below w.heap.size w wr ∧ ∀ k (h : k < s.length), k < j → smP l s[k])) (fun _ i _ => n - (intOf i).toNat)
    case atStart => exact ⟨0, l1, Nat.zero_le _, rfl, by simp [hw2], hl0, hll, Below.refl _ _, fun k _ hk => by omega⟩
    case round =>
      obtain ⟨j, r, hjn, rfl, rfl, hr0, hrl, hR⟩ := hrel
      by_cases hlt : j < n
      · have hjl : j < s.length := by rw [← H.out.2.1]; exact hlt
        obtain ⟨g, o, c2, he, hg, hj⟩ := (H.out.1.below hR.out.1).pos (by rw [← H.out.2.1]; omega)
        simp only [Value.slice.injEq] at he
        obtain ⟨rfl, hx1, hx2⟩ := he
        clear hx1 hx2
        obtain ⟨c0, c1, c2, c3, c4, c5, c6, c7, c8⟩ := plC_at (hj j hjl)
        obtain ⟨x, hx⟩ : ∃ x, x = s[j] := ⟨_, rfl⟩
        rw [← hx] at c0 c1 c2 c3 c4 c5 c6 c7 c8
        have HX : Hid (x = s[j] ∧ x.c.size ≤ maxLen) := ⟨hx, by rw [hx]; exact H.out.2.2 j hjl⟩
        clear hx hj
        have b0 : (0 : Int) ≤ (j : Int) := by omega
        have b1 : (j : Int) < (n : Int) := by omega
        go_wp2_with (fail)
        refine (szPlace_gen x r _ hr0 (by omega) HX.out.2).mono ?_
        rintro e w3 ⟨r2, rfl, hr2, hb3⟩
        have HB3 : Hid (Below w.heap.size w w3) := hR.out.1.trans (hb3.mono hR.out.1.size)
        clear hb3 c0 c1 c2 c3 c4 c5 c6 c7 c8
        rcases hr2 with hneg | ⟨h3, h4, h5⟩
        · go_wp2
          go_returns
          exact ⟨-1, rfl, Or.inl (by omega), HB3.out⟩
        · have HS : Hid (∀ k (h : k < s.length), k < j + 1 → smP l s[k]) := fun k hk hkj => by
            rcases (by omega : k < j ∨ k = j) with e | rfl
            · exact hR.out.2 k hk e
            · rw [← HX.out.1]; unfold smP at h5 ⊢; omega
          have h6 : ¬ r2 < 0 := by omega
          clear hR h5
          go_wp2
          go_roundw
          case rel => exact ⟨j + 1, r2, by omega, by go_num, rfl, h3, by omega, HB3.out, HS.out⟩
          case measure => simp [intOf]; omega
      · have HS : Hid (Below w.heap.size w wr ∧ ∀ k (h : k < s.length), smP l s[k]) := ⟨hR.out.1, fun k hk => hR.out.2 k hk (by rw [← H.out.2.1] at hk; omega)⟩
        clear hR
        go_wp2
        go_returns
        exact ⟨r, rfl, Or.inr ⟨hr0, hrl, HL.out, HS.out.2⟩, HS.out.1⟩

/-- The lengths are such as a machine can have. -/
structure okC (c : Cl) : Prop where
  nm : c.nm.size ≤ maxLen
  bs : c.bs.length ≤ maxLen
  ps : c.ps.length ≤ maxLen
  pl : ∀ j (h : j < c.ps.length), (c.ps[j]).c.size ≤ maxLen

set_option maxHeartbeats 1600000 in
theorem szCell_gen (r : Rc) (c : Cl) (l : Int) (w : World) (h0 : 0 ≤ l) (h1 : l ≤ 1048576) (hc : okC c) (h : Rc1 w r c) :
    Calls Tryd.prog 9 #[.agg #[.string r.nm, .slice r.ba r.bn r.bc, .slice r.pa r.pn r.pc], .int .i64 l] w fun e w' => ∃ q, e = .returned (.int .i64 q) ∧ (q < 0 ∨ (0 ≤ q ∧ q ≤ l ∧ smC l c)) ∧ Below w.heap.size w w' := by
  have hnm : r.nm.size ≤ maxLen := by rw [h.nm]; exact hc.nm
  have hbn : r.bn ≤ maxLen := by rw [h.bs.len]; exact hc.bs
  have hpn : r.pn ≤ maxLen := by rw [h.ps.len]; exact hc.ps
  have H : Hid (Rc1 w r c ∧ okC c ∧ r.bn ≤ maxLen ∧ r.pn ≤ maxLen) := ⟨h, hc, hbn, hpn⟩
  unfold maxLen at hnm
  clear h hc hbn hpn
  have hw : IntKind.i64.wrap (l - (r.nm.size : Int)) = l - (r.nm.size : Int) := by rw [IntKind.wrap_i64]; omega
  by_cases hn : l - (r.nm.size : Int) < 0
  · go_enter Tryd.func9, Tryd.ntmps9
    go_wp2
    go_returns
    exact ⟨-1, rfl, Or.inl (by omega), by (repeat' (first | (with_reducible exact Below.refl _ _) | (with_reducible assumption) | (with_reducible refine Below.setCell ?_ ?_ _) | (with_reducible refine Below.alloc ?_ ?_ _) | (with_reducible refine below_drewN ?_ _) | (with_reducible refine Below.drew ?_) | (with_reducible exact Nat.le_refl _) | omega | (simp; done) | (simp; omega)))⟩
  have HN : Hid ((c.nm.size : Int) ≤ l) := by unfold Hid; rw [← H.out.1.nm]; omega
  obtain ⟨l1, hl1⟩ : ∃ l1, l1 = l - (r.nm.size : Int) := ⟨_, rfl⟩
  have hl0 : 0 ≤ l1 := by omega
  have hll : l1 ≤ l := by omega
  rw [← hl1] at hw hn
  have hw2 : IntKind.i64.wrap (l - (r.nm.size : Int)) = l1 := by rw [← hl1]; exact hw
  have hw3 : l - (r.nm.size : Int) = l1 := hl1.symm
  clear hl1 hw
  go_enter Tryd.func9, Tryd.ntmps9
  go_wp2_with (fail)
  try simp only [hw2, hw3]
  refine (szLBoxS_gen r.ba r.bn r.bc l1 _ hl0 (by omega) H.out.2.2.1).mono ?_
  rintro e w1 ⟨q1, rfl, hq1, hb1⟩
  have g1 := (hb1.block w.heap.size (by simp)).trans (heap_alloc_new w _)
  have HB1 : Hid (Below w.heap.size w w1) := (show Below w.heap.size w _ from by (repeat' (first | (with_reducible exact Below.refl _ _) | (with_reducible assumption) | (with_reducible refine Below.setCell ?_ ?_ _) | (with_reducible refine Below.alloc ?_ ?_ _) | (with_reducible refine below_drewN ?_ _) | (with_reducible refine Below.drew ?_) | (with_reducible exact Nat.le_refl _) | omega | (simp; done) | (simp; omega)))).trans (hb1.mono (by simp))
  obtain ⟨p0, p1, p2, plt⟩ := three_at g1
  clear hb1 g1
  rcases hq1 with hneg | ⟨h3, h4, h5⟩
  · go_wp2
    go_returns
    exact ⟨-1, rfl, Or.inl (by omega), HB1.out⟩
  have h6 : ¬ q1 < 0 := by omega
  have HB : Hid ((c.bs.length : Int) ≤ l) := by unfold Hid; rw [← H.out.1.bs.len]; omega
  go_wp2_with (fail)
  refine (szPlaceS_gen r.pa r.pn r.pc q1 c.ps _ h3 (by omega) H.out.2.2.2 (H.out.1.ps.below HB1.out) H.out.2.1.pl).mono ?_
  rintro e w2 ⟨q2, rfl, hq2, hb2⟩
  have HB2 : Hid (Below w.heap.size w w2) := HB1.out.trans (hb2.mono HB1.out.size)
  clear hb2
  rcases hq2 with hneg | ⟨h7, h8, h9, h10⟩
  · go_wp2
    go_returns
    exact ⟨-1, rfl, Or.inl (by omega), HB2.out⟩
  have h11 : ¬ q2 < 0 := by omega
  have HS : Hid (smC l c) := ⟨HN.out, HB.out, by rw [← H.out.1.ps.len]; omega, fun j hj => by have := h10 j hj; unfold smP at this ⊢; omega⟩
  clear h10
  go_wp2
  go_returns
  exact ⟨q2, rfl, Or.inr ⟨h7, by omega, HS.out⟩, HB2.out⟩

set_option maxHeartbeats 1600000 in
theorem szCellS_gen (a : Option Addr) (n c : Nat) (l : Int) (s : List Cl) (w : World) (h0 : 0 ≤ l) (h1 : l ≤ 1048576) (h2 : n ≤ maxLen) (h : RK w (.slice a n c) s) (hm : ∀ j (h : j < s.length), okC s[j]) :
    Calls Tryd.prog 4 #[.slice a n c, .int .i64 l] w fun e w' => ∃ r, e = .returned (.int .i64 r) ∧ (r < 0 ∨ (0 ≤ r ∧ r ≤ l ∧ (n : Int) ≤ l ∧ ∀ j (h : j < s.length), smC l s[j])) ∧ Below w.heap.size w w' := by
  unfold maxLen at h2
  obtain ⟨rs, hrs, hrel⟩ := h
  have hnr : n = rs.length := hrs.len
  have H : Hid (RG 3 rcC w (.slice a n c) rs ∧ RelK w rs s ∧ n = rs.length ∧ n = s.length ∧ ∀ j (h : j < s.length), okC s[j]) := ⟨hrs, hrel, hnr, hnr.trans hrel.len, hm⟩
  clear hrs hrel hnr hm
  have hw : IntKind.i64.wrap (l - (n : Int)) = l - (n : Int) := by rw [IntKind.wrap_i64]; omega
  by_cases hn : l - (n : Int) < 0
  · go_enter Tryd.func4, Tryd.ntmps4
    go_wp2
    go_returns
    exact ⟨-1, rfl, Or.inl (by omega), by (repeat' (first | (with_reducible exact Below.refl _ _) | (with_reducible assumption) | (with_reducible refine Below.setCell ?_ ?_ _) | (with_reducible refine Below.alloc ?_ ?_ _) | (with_reducible refine below_drewN ?_ _) | (with_reducible refine Below.drew ?_) | (with_reducible exact Nat.le_refl _) | omega | (simp; done) | (simp; omega)))⟩
  · have HL : Hid ((n : Int) ≤ l) := by unfold Hid; omega
    obtain ⟨l1, hl1⟩ : ∃ l1, l1 = l - (n : Int) := ⟨_, rfl⟩
    have hl0 : 0 ≤ l1 := by omega
    have hll : l1 ≤ l := by omega
    rw [← hl1] at hw hn
    have hw2 : IntKind.i64.wrap (l - (n : Int)) = l1 := by rw [← hl1]; exact hw
    clear hl1 hw
    go_enter Tryd.func4, Tryd.ntmps4
    go_wp2
    go_loopw [1, 5] (fun q i wr => ∃ (j : Nat) (r : Int), j ≤ n ∧ i = .int .i64 j ∧ q = .int .i64 r ∧ 0 ≤ r ∧ r ≤ l ∧ Hid (Below w.heap.size w wr ∧ ∀ k (h : k < s.length), k < j → smC l s[k])) (fun _ i _ => n - (intOf i).toNat)
    case atStart => exact ⟨0, l1, Nat.zero_le _, rfl, by simp [hw2], hl0, hll, Below.refl _ _, fun k _ hk => by omega⟩
    case round =>
      obtain ⟨j, r, hjn, rfl, rfl, hr0, hrl, hR⟩ := hrel
      by_cases hlt : j < n
      · have hjr : j < rs.length := by rw [← H.out.2.2.1]; exact hlt
        have hjl : j < s.length := by rw [← H.out.2.2.2.1]; exact hlt
        obtain ⟨g, o, c2, he, hg, hj⟩ := (H.out.1.below hR.out.1).pos (by rw [← H.out.2.2.1]; omega)
        simp only [Value.slice.injEq] at he
        obtain ⟨rfl, hx1, hx2⟩ := he
        clear hx1 hx2
        obtain ⟨c0, c1, c2⟩ := rcC_at (hj j hjr)
        obtain ⟨x, hx⟩ : ∃ x, x = rs[j] := ⟨_, rfl⟩
        rw [← hx] at c0 c1 c2
        have HX : Hid (Rc1 wr x s[j] ∧ okC s[j]) := ⟨by rw [hx]; exact (H.out.2.1.below hR.out.1).at_ j hjr hjl, H.out.2.2.2.2 j hjl⟩
        clear hx hj
        have b0 : (0 : Int) ≤ (j : Int) := by omega
        have b1 : (j : Int) < (n : Int) := by omega
        go_wp2_with (fail)
        refine (szCell_gen x s[j] r _ hr0 (by omega) HX.out.2 HX.out.1).mono ?_
        rintro e w3 ⟨r2, rfl, hr2, hb3⟩
        have HB3 : Hid (Below w.heap.size w w3) := hR.out.1.trans (hb3.mono hR.out.1.size)
        clear hb3 c0 c1 c2
        rcases hr2 with hneg | ⟨h3, h4, h5⟩
        · go_wp2
          go_returns
          exact ⟨-1, rfl, Or.inl (by omega), HB3.out⟩
        · have HS : Hid (∀ k (h : k < s.length), k < j + 1 → smC l s[k]) := fun k hk hkj => by
            rcases (by omega : k < j ∨ k = j) with e | rfl
            · exact hR.out.2 k hk e
            · exact ⟨by have := h5.nm; omega, by have := h5.bs; omega, by have := h5.ps; omega, fun i hi => by have := h5.pl i hi; unfold smP at this ⊢; omega⟩
          have h6 : ¬ r2 < 0 := by omega
          clear hR h5
          go_wp2
          go_roundw
          case rel => exact ⟨j + 1, r2, by omega, by go_num, rfl, h3, by omega, HB3.out, HS.out⟩
          case measure => simp [intOf]; omega
      · have HS : Hid (Below w.heap.size w wr ∧ ∀ k (h : k < s.length), smC l s[k]) := ⟨hR.out.1, fun k hk => hR.out.2 k hk (by rw [← H.out.2.2.2.1] at hk; omega)⟩
        clear hR
        go_wp2
        go_returns
        exact ⟨r, rfl, Or.inr ⟨hr0, hrl, HL.out, HS.out.2⟩, HS.out.1⟩

end Go.Proofs.YtafghanpfnhkpaaDoor
