/- Proved here: what a lot, a list of lots and a book are in memory; how the laws' package weighs them. No condition on the program but on its table of types. -/
import Derived.Test.YtcfjanignfbidaaQwC
import Derived.Test.YtcfjanignfbidaaQwB
namespace Go.Proofs.Ytcfjanignfbidaa
open Go.ChangeShapes Go.WideShapes Go.ChangeAt Go.RowKit Go.Joins Go.Deep
set_option linter.unusedVariables false
set_option linter.unusedSimpArgs false

/-- A lot. -/
structure Lo where
  id : Int
  pa : Int
  ws : List Int
  hd : Bool
  dn : List Int
deriving DecidableEq
/-- As it lies in memory. -/
structure Lr where
  id : Int
  pa : Int
  wa : Option Addr
  wn : Nat
  wc : Nat
  hd : Bool
  da : Option Addr
  dn : Nat
  dc : Nat
instance : Nonempty Lr := ⟨⟨0, 0, none, 0, 0, false, none, 0, 0⟩⟩
def Lr.wv (r : Lr) : Value := .slice r.wa r.wn r.wc
def Lr.dv (r : Lr) : Value := .slice r.da r.dn r.dc
def lrC (r : Lr) : List Value := [.int .i64 r.id, .int .i64 r.pa, .slice r.wa r.wn r.wc, .bool r.hd, .slice r.da r.dn r.dc]
theorem lrC_len (r : Lr) : (lrC r).length = 5 := rfl
theorem lrC_one (x : Lr) : ∀ u ∈ lrC x, u.oneCell' = true := by
  intro u hu
  simp only [lrC, List.mem_cons, List.not_mem_nil, or_false] at hu
  rcases hu with rfl | rfl | rfl | rfl | rfl <;> rfl
theorem lrC_at {w : World} {g o : Nat} {x : Lr} (h : ∀ i, i < 5 → w.cell? ⟨g, o + i, none⟩ = (lrC x)[i]?) : w.cell? ⟨g, o, none⟩ = some (.int .i64 x.id) ∧ w.cell? ⟨g, o + 1, none⟩ = some (.int .i64 x.pa) ∧ w.cell? ⟨g, o + 2, none⟩ = some (.slice x.wa x.wn x.wc) ∧ w.cell? ⟨g, o + 3, none⟩ = some (.bool x.hd) ∧ w.cell? ⟨g, o + 4, none⟩ = some (.slice x.da x.dn x.dc) :=
  ⟨h 0 (by omega), h 1 (by omega), h 2 (by omega), h 3 (by omega), h 4 (by omega)⟩
structure Lr1 (w : World) (r : Lr) (l : Lo) : Prop where
  id : r.id = l.id
  pa : r.pa = l.pa
  hd : r.hd = l.hd
  ws : RdI w (.slice r.wa r.wn r.wc) l.ws
  dn : RdI w (.slice r.da r.dn r.dc) l.dn
theorem Lr1.below {w w' : World} {r : Lr} {l : Lo} (h : Lr1 w r l) (hb : Below w.heap.size w w') : Lr1 w' r l := ⟨h.id, h.pa, h.hd, h.ws.below hb, h.dn.below hb⟩
structure RelLo (w : World) (rs : List Lr) (s : List Lo) : Prop where
  len : rs.length = s.length
  at_ : ∀ j (h : j < rs.length) (h' : j < s.length), Lr1 w rs[j] s[j]
theorem RelLo.below {w w' : World} {rs : List Lr} {s : List Lo} (h : RelLo w rs s) (hb : Below w.heap.size w w') : RelLo w' rs s := ⟨h.len, fun j h1 h2 => (h.at_ j h1 h2).below hb⟩
/-- A slice that can be read as a list of lots. -/
def RLo (w : World) (v : Value) (s : List Lo) : Prop := ∃ rs, RG 5 lrC w v rs ∧ RelLo w rs s
theorem RLo.below {w w' : World} {v : Value} {s : List Lo} (h : RLo w v s) (hb : Below w.heap.size w w') : RLo w' v s := by
  obtain ⟨rs, h1, h2⟩ := h; exact ⟨rs, h1.below hb, h2.below hb⟩
theorem RLo.len {w : World} {a : Option Addr} {n c : Nat} {s : List Lo} (h : RLo w (.slice a n c) s) : n = s.length := by
  obtain ⟨rs, h1, h2⟩ := h; exact h1.len.trans h2.len
theorem RLo.form {w : World} {v : Value} {s : List Lo} (h : RLo w v s) : ∃ a c, v = .slice a s.length c := by
  obtain ⟨rs, h1, h2⟩ := h
  obtain ⟨a, c, e⟩ := h1.form
  exact ⟨a, c, by rw [e, h2.len]⟩
/-- One lot of a list, where it lies. -/
theorem RLo.at {w : World} {v : Value} {s : List Lo} (h : RLo w v s) {j : Nat} (hj : j < s.length) : ∃ g o c, v = .slice (some ⟨g, o, none⟩) s.length c ∧ g < w.heap.size ∧ ∃ r : Lr, Lr1 w r s[j] ∧ w.cell? ⟨g, o + j * 5, none⟩ = some (.int .i64 r.id) ∧ w.cell? ⟨g, o + j * 5 + 1, none⟩ = some (.int .i64 r.pa) ∧ w.cell? ⟨g, o + j * 5 + 2, none⟩ = some (.slice r.wa r.wn r.wc) ∧ w.cell? ⟨g, o + j * 5 + 3, none⟩ = some (.bool r.hd) ∧ w.cell? ⟨g, o + j * 5 + 4, none⟩ = some (.slice r.da r.dn r.dc) := by
  obtain ⟨rs, h1, h2⟩ := h
  have hl := h2.len
  obtain ⟨g, o, c, rfl, hg, hc⟩ := h1.pos (by omega)
  exact ⟨g, o, c, by rw [hl], hg, rs[j], h2.at_ j (by omega) hj, lrC_at (hc j (by omega))⟩
/-- A book. -/
structure Bk where
  st : Int
  wn : List Wdw
  ls : List Lo
  sc : List Int
structure RdBk (w : World) (vw vl vs : Value) (b : Bk) : Prop where
  wn : RG 3 wdC w vw b.wn
  ls : RLo w vl b.ls
  sc : RdI w vs b.sc
theorem RdBk.below {w w' : World} {vw vl vs : Value} {b : Bk} (h : RdBk w vw vl vs b) (hb : Below w.heap.size w w') : RdBk w' vw vl vs b := ⟨h.wn.below hb, h.ls.below hb, h.sc.below hb⟩

/-- No list is longer than m; the parent is a number of its kind. -/
def smLo (m : Int) (l : Lo) : Prop := (l.ws.length : Int) ≤ m ∧ (l.dn.length : Int) ≤ m ∧ (Lit.int .i64 l.pa).wf = true
def okLo (l : Lo) : Prop := l.ws.length ≤ maxLen ∧ l.dn.length ≤ maxLen ∧ (Lit.int .i64 l.pa).wf = true
structure okBk (b : Bk) : Prop where
  wn : b.wn.length ≤ maxLen
  ls : b.ls.length ≤ maxLen
  sc : b.sc.length ≤ maxLen
  at_ : ∀ j (h : j < b.ls.length), okLo b.ls[j]
/-- The weight of the first n lots. -/
def tS (ls : List Lo) : Nat → Nat
  | 0 => 0
  | n + 1 => tS ls n + ((ls.getD n ⟨0, 0, [], false, []⟩).ws.length + (ls.getD n ⟨0, 0, [], false, []⟩).dn.length)
theorem tS_at {ls : List Lo} {n : Nat} (h : n < ls.length) : tS ls (n + 1) = tS ls n + (ls[n].ws.length + ls[n].dn.length) := by
  show tS ls n + _ = _
  rw [show ls.getD n ⟨0, 0, [], false, []⟩ = ls[n] from by simp [List.getD, h]]
structure smBk (m : Int) (b : Bk) : Prop where
  wn : (b.wn.length : Int) ≤ m
  ls : (b.ls.length : Int) ≤ m
  sc : (b.sc.length : Int) ≤ m
  at_ : ∀ j (h : j < b.ls.length), smLo m b.ls[j]
  tot : (tS b.ls b.ls.length : Int) ≤ m
theorem smBk.mono {m m' : Int} {b : Bk} (h : smBk m b) (hm : m ≤ m') : smBk m' b :=
  ⟨Int.le_trans h.wn hm, Int.le_trans h.ls hm, Int.le_trans h.sc hm, fun j hj => ⟨Int.le_trans (h.at_ j hj).1 hm, Int.le_trans (h.at_ j hj).2.1 hm, (h.at_ j hj).2.2⟩, Int.le_trans h.tot hm⟩

theorem szI_ex (a : Option Addr) (n c : Nat) (l : Int) (w : World) (h0 : 0 ≤ l) (h1 : l ≤ 1048576) (h2 : n ≤ maxLen) :
    Calls Try.prog 33 #[.slice a n c, .int .i64 l] w fun e w' => ∃ q, e = .returned (.int .i64 q) ∧ (q < 0 ∨ (0 ≤ q ∧ q + (n : Int) = l)) ∧ Below w.heap.size w w' := by
  unfold maxLen at h2
  have hw : IntKind.i64.wrap (l - (n : Int)) = l - (n : Int) := by rw [IntKind.wrap_i64]; omega
  by_cases hn : l - (n : Int) < 0
  · go_enter Try.func33, Try.ntmps33
    go_wp2
    go_returns
    exact ⟨-1, rfl, Or.inl (by omega), by (repeat' (first | (with_reducible exact Below.refl _ _) | (with_reducible assumption) | (with_reducible refine Below.setCell ?_ ?_ _) | (with_reducible refine Below.alloc ?_ ?_ _) | (with_reducible refine below_drewN ?_ _) | (with_reducible refine Below.drew ?_) | (with_reducible exact Nat.le_refl _) | omega | (simp; done) | (simp; omega)))⟩
  · go_enter Try.func33, Try.ntmps33
    go_wp2
    go_returns
    exact ⟨l - (n : Int), rfl, Or.inr ⟨by omega, by omega⟩, by (repeat' (first | (with_reducible exact Below.refl _ _) | (with_reducible assumption) | (with_reducible refine Below.setCell ?_ ?_ _) | (with_reducible refine Below.alloc ?_ ?_ _) | (with_reducible refine below_drewN ?_ _) | (with_reducible refine Below.drew ?_) | (with_reducible exact Nat.le_refl _) | omega | (simp; done) | (simp; omega)))⟩

set_option maxHeartbeats 800000 in
theorem szLot_gen (r : Lr) (d : Lo) (l : Int) (w : World) (h0 : 0 ≤ l) (h1 : l ≤ 1048576) (hd : okLo d) (h : Lr1 w r d) :
    Calls Try.prog 64 #[.agg #[.int .i64 r.id, .int .i64 r.pa, .slice r.wa r.wn r.wc, .bool r.hd, .slice r.da r.dn r.dc], .int .i64 l] w fun e w' => ∃ q, e = .returned (.int .i64 q) ∧ (q < 0 ∨ (0 ≤ q ∧ q + ((d.ws.length + d.dn.length : Nat) : Int) ≤ l ∧ smLo l d)) ∧ Below w.heap.size w w' := by
  have H : Hid ((r.wn ≤ maxLen ∧ r.wn = d.ws.length) ∧ (r.dn ≤ maxLen ∧ r.dn = d.dn.length) ∧ (Lit.int .i64 d.pa).wf = true) := ⟨⟨by rw [h.ws.len]; exact hd.1, h.ws.len⟩, ⟨by rw [h.dn.len]; exact hd.2.1, h.dn.len⟩, hd.2.2⟩
  clear h hd
  go_enter Try.func64, Try.ntmps64
  go_wp2_with (fail)
  refine (szI_ex r.wa r.wn r.wc l _ h0 h1 H.out.1.1).mono ?_
  rintro e w1 ⟨q1, rfl, hq1, hb1⟩
  have k0 := (hb1.block w.heap.size (by simp)).trans (heap_alloc_new w _)
  have HB1 : Hid (Below w.heap.size w w1) := (show Below w.heap.size w _ from by (repeat' (first | (with_reducible exact Below.refl _ _) | (with_reducible assumption) | (with_reducible refine Below.setCell ?_ ?_ _) | (with_reducible refine Below.alloc ?_ ?_ _) | (with_reducible refine below_drewN ?_ _) | (with_reducible refine Below.drew ?_) | (with_reducible exact Nat.le_refl _) | omega | (simp; done) | (simp; omega)))).trans (hb1.mono (by simp))
  clear hb1
  rcases hq1 with hneg | ⟨h3, h4⟩
  · clear k0
    go_wp2
    go_returns
    exact ⟨-1, rfl, Or.inl (by omega), HB1.out⟩
  have h6 : ¬ q1 < 0 := by omega
  have c4 := cellOfQ k0 4 rfl
  have l4 := ltOfQ k0
  clear k0
  go_wp2_with (fail)
  refine (szI_ex r.da r.dn r.dc q1 _ h3 (by omega) H.out.2.1.1).mono ?_
  rintro e w2 ⟨q2, rfl, hq2, hb2⟩
  have HB2 : Hid (Below w.heap.size w w2) := HB1.out.trans (hb2.mono HB1.out.size)
  clear hb2 c4 l4 HB1
  rcases hq2 with hneg | ⟨h7, h8⟩
  · go_wp2
    go_returns
    exact ⟨-1, rfl, Or.inl (by omega), HB2.out⟩
  have h10 : ¬ q2 < 0 := by omega
  have HS : Hid (smLo l d) := by unfold Hid smLo; rw [← H.out.1.2, ← H.out.2.1.2]; exact ⟨by omega, by omega, H.out.2.2⟩
  have HQ : Hid (q2 + ((d.ws.length + d.dn.length : Nat) : Int) ≤ l) := by unfold Hid; rw [← H.out.1.2, ← H.out.2.1.2]; omega
  go_wp2
  go_returns
  exact ⟨q2, rfl, Or.inr ⟨h7, HQ.out, HS.out⟩, HB2.out⟩

set_option maxHeartbeats 1600000 in
theorem szLotS_gen (a : Option Addr) (n c : Nat) (l : Int) (s : List Lo) (w : World) (h0 : 0 ≤ l) (h1 : l ≤ 1048576) (h2 : n ≤ maxLen) (h : RLo w (.slice a n c) s) (hm : ∀ j (h : j < s.length), okLo s[j]) :
    Calls Try.prog 32 #[.slice a n c, .int .i64 l] w fun e w' => ∃ r, e = .returned (.int .i64 r) ∧ (r < 0 ∨ (0 ≤ r ∧ r ≤ l ∧ (n : Int) ≤ l ∧ (∀ j (h : j < s.length), smLo l s[j]) ∧ (tS s s.length : Int) ≤ l)) ∧ Below w.heap.size w w' := by
  unfold maxLen at h2
  have H : Hid (RLo w (.slice a n c) s ∧ n = s.length ∧ ∀ j (h : j < s.length), okLo s[j]) := ⟨h, h.len, hm⟩
  clear h hm
  have hw : IntKind.i64.wrap (l - (n : Int)) = l - (n : Int) := by rw [IntKind.wrap_i64]; omega
  by_cases hn : l - (n : Int) < 0
  · go_enter Try.func32, Try.ntmps32
    go_wp2
    go_returns
    exact ⟨-1, rfl, Or.inl (by omega), by (repeat' (first | (with_reducible exact Below.refl _ _) | (with_reducible assumption) | (with_reducible refine Below.setCell ?_ ?_ _) | (with_reducible refine Below.alloc ?_ ?_ _) | (with_reducible refine below_drewN ?_ _) | (with_reducible refine Below.drew ?_) | (with_reducible exact Nat.le_refl _) | omega | (simp; done) | (simp; omega)))⟩
  · have HL : Hid ((n : Int) ≤ l) := by unfold Hid; omega
    obtain ⟨l1, hl1⟩ : ∃ l1, l1 = l - (n : Int) := ⟨_, rfl⟩
    have hl0 : 0 ≤ l1 := by omega
    have hll : l1 ≤ l := by omega
    rw [← hl1] at hw hn
    have hw2 : IntKind.i64.wrap (l - (n : Int)) = l1 := by rw [← hl1]; exact hw
    clear hl1 hw
    go_enter Try.func32, Try.ntmps32
    go_wp2
    go_loopw [1, 5] (fun q i wr => ∃ (j : Nat) (r : Int), j ≤ n ∧ i = .int .i64 j ∧ q = .int .i64 r ∧ 0 ≤ r ∧ r ≤ l ∧ Hid (Below w.heap.size w wr ∧ (∀ k (h : k < s.length), k < j → smLo l s[k]) ∧ r + (tS s j : Int) ≤ l)) (fun _ i _ => n - (intOf i).toNat)
    case atStart => exact ⟨0, l1, Nat.zero_le _, rfl, by simp [hw2], hl0, hll, Below.refl _ _, (fun k _ hk => by omega), by simpa [tS] using hll⟩
    case round =>
      obtain ⟨j, r, hjn, rfl, rfl, hr0, hrl, hR⟩ := hrel
      by_cases hlt : j < n
      · have hjl : j < s.length := by rw [← H.out.2.1]; exact hlt
        obtain ⟨g, o, c2, he, hg, x, hx, c0, c1, c2', c3, c4⟩ := (H.out.1.below hR.out.1).at hjl
        simp only [Value.slice.injEq] at he
        obtain ⟨rfl, hx1, hx2⟩ := he
        clear hx1 hx2
        have HX : Hid (Lr1 wr x s[j] ∧ okLo s[j]) := ⟨hx, H.out.2.2 j hjl⟩
        clear hx
        have b0 : (0 : Int) ≤ (j : Int) := by omega
        have b1 : (j : Int) < (n : Int) := by omega
        go_wp2_with (fail)
        refine (szLot_gen x s[j] r _ hr0 (by omega) HX.out.2 HX.out.1).mono ?_
        rintro e w3 ⟨r2, rfl, hr2, hb3⟩
        have HB3 : Hid (Below w.heap.size w w3) := hR.out.1.trans (hb3.mono hR.out.1.size)
        clear hb3 c0 c1 c2' c3 c4
        rcases hr2 with hneg | ⟨h3, h4', h5⟩
        · go_wp2
          go_returns
          exact ⟨-1, rfl, Or.inl (by omega), HB3.out⟩
        · have HS : Hid ((∀ k (h : k < s.length), k < j + 1 → smLo l s[k]) ∧ r2 + (tS s (j + 1) : Int) ≤ l) := ⟨fun k hk hkj => by
            rcases (by omega : k < j ∨ k = j) with e | rfl
            · exact hR.out.2.1 k hk e
            · exact ⟨Int.le_trans h5.1 hrl, Int.le_trans h5.2.1 hrl, h5.2.2⟩, by rw [tS_at hjl]; have := hR.out.2.2; omega⟩
          have h4 : r2 ≤ r := by omega
          have h6 : ¬ r2 < 0 := by omega
          clear hR h5
          go_wp2
          go_roundw
          case rel => exact ⟨j + 1, r2, by omega, by go_num, rfl, h3, by omega, HB3.out, HS.out⟩
          case measure => simp [intOf]; omega
      · have hjn9 : j = n := by omega
        have HS : Hid (Below w.heap.size w wr ∧ (∀ k (h : k < s.length), smLo l s[k]) ∧ (tS s s.length : Int) ≤ l) := ⟨hR.out.1, fun k hk => hR.out.2.1 k hk (by rw [← H.out.2.1] at hk; omega), by rw [← H.out.2.1, ← hjn9]; have h9 := hR.out.2.2; omega⟩
        clear hR
        go_wp2
        go_returns
        exact ⟨r, rfl, Or.inr ⟨hr0, hrl, HL.out, HS.out.2⟩, HS.out.1⟩

end Go.Proofs.Ytcfjanignfbidaa
