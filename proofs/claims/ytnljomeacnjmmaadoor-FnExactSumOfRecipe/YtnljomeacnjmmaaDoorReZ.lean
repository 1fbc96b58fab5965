/- Proved here: how the laws' package weighs recipes: what is not too great has no list or text longer than so many. -/
import Derived.Test.YtnljomeacnjmmaaDoorReT
namespace Go.Proofs.YtnljomeacnjmmaaDoor
open Go.ChangeShapes Go.WideShapes Go.ChangeAt Go.RowKit Go.Joins
set_option linter.unusedVariables false
set_option linter.unusedSimpArgs false

/-- No text is longer than m. -/
def smV (m : Int) (x : Vl) : Prop := (x.s.size : Int) ≤ m
def smPm (m : Int) (x : Pm) : Prop := (x.nm.size : Int) ≤ m
def smSe (m : Int) (x : Se) : Prop := (x.nm.size : Int) ≤ m ∧ (x.v.s.size : Int) ≤ m
theorem smV_mono {m m' : Int} {x : Vl} (h : m ≤ m') (hx : smV m x) : smV m' x := by unfold smV at hx ⊢; omega
theorem smPm_mono {m m' : Int} {x : Pm} (h : m ≤ m') (hx : smPm m x) : smPm m' x := by unfold smPm at hx ⊢; omega
theorem smSe_mono {m m' : Int} {x : Se} (h : m ≤ m') (hx : smSe m x) : smSe m' x := by unfold smSe at hx ⊢; omega
/-- The lengths are such as a machine can have. -/
def okPm (x : Pm) : Prop := x.nm.size ≤ maxLen
def okSe (x : Se) : Prop := x.nm.size ≤ maxLen ∧ x.v.s.size ≤ maxLen

set_option maxHeartbeats 800000 in
theorem szValue_gen (x : Vl) (l : Int) (w : World) (h0 : 0 ≤ l) (h1 : l ≤ 1048576) (h2 : x.s.size ≤ maxLen) :
    Calls Tryd.prog 39 #[.agg #[.int .i64 x.k, .int .i64 x.n, .string x.s], .int .i64 l] w fun e w' => ∃ r, e = .returned (.int .i64 r) ∧ (r < 0 ∨ (0 ≤ r ∧ r ≤ l ∧ smV l x)) ∧ Below w.heap.size w w' := by
  unfold maxLen at h2
  have hw : IntKind.i64.wrap (l - (x.s.size : Int)) = l - (x.s.size : Int) := by rw [IntKind.wrap_i64]; omega
  by_cases hn : l - (x.s.size : Int) < 0
  · go_enter Tryd.func39, Tryd.ntmps39
    go_wp2
    go_returns
    exact ⟨-1, rfl, Or.inl (by omega), by (repeat' (first | (with_reducible exact Below.refl _ _) | (with_reducible assumption) | (with_reducible refine Below.setCell ?_ ?_ _) | (with_reducible refine Below.alloc ?_ ?_ _) | (with_reducible refine below_drewN ?_ _) | (with_reducible refine Below.drew ?_) | (with_reducible exact Nat.le_refl _) | omega | (simp; done) | (simp; omega)))⟩
  · go_enter Tryd.func39, Tryd.ntmps39
    go_wp2
    go_returns
    exact ⟨_, rfl, Or.inr ⟨by omega, by omega, by unfold smV; omega⟩, by (repeat' (first | (with_reducible exact Below.refl _ _) | (with_reducible assumption) | (with_reducible refine Below.setCell ?_ ?_ _) | (with_reducible refine Below.alloc ?_ ?_ _) | (with_reducible refine below_drewN ?_ _) | (with_reducible refine Below.drew ?_) | (with_reducible exact Nat.le_refl _) | omega | (simp; done) | (simp; omega)))⟩

set_option maxHeartbeats 800000 in
theorem szParam_gen (x : Pm) (l : Int) (w : World) (h0 : 0 ≤ l) (h1 : l ≤ 1048576) (h2 : x.nm.size ≤ maxLen) :
    Calls Tryd.prog 20 #[.agg #[.string x.nm, .int .i64 x.lo, .int .i64 x.hi, .int .i64 x.ba], .int .i64 l] w fun e w' => ∃ r, e = .returned (.int .i64 r) ∧ (r < 0 ∨ (0 ≤ r ∧ r ≤ l ∧ smPm l x)) ∧ Below w.heap.size w w' := by
  unfold maxLen at h2
  have hw : IntKind.i64.wrap (l - (x.nm.size : Int)) = l - (x.nm.size : Int) := by rw [IntKind.wrap_i64]; omega
  by_cases hn : l - (x.nm.size : Int) < 0
  · go_enter Tryd.func20, Tryd.ntmps20
    go_wp2
    go_returns
    exact ⟨-1, rfl, Or.inl (by omega), by (repeat' (first | (with_reducible exact Below.refl _ _) | (with_reducible assumption) | (with_reducible refine Below.setCell ?_ ?_ _) | (with_reducible refine Below.alloc ?_ ?_ _) | (with_reducible refine below_drewN ?_ _) | (with_reducible refine Below.drew ?_) | (with_reducible exact Nat.le_refl _) | omega | (simp; done) | (simp; omega)))⟩
  · go_enter Tryd.func20, Tryd.ntmps20
    go_wp2
    go_returns
    exact ⟨_, rfl, Or.inr ⟨by omega, by omega, by unfold smPm; omega⟩, by (repeat' (first | (with_reducible exact Below.refl _ _) | (with_reducible assumption) | (with_reducible refine Below.setCell ?_ ?_ _) | (with_reducible refine Below.alloc ?_ ?_ _) | (with_reducible refine below_drewN ?_ _) | (with_reducible refine Below.drew ?_) | (with_reducible exact Nat.le_refl _) | omega | (simp; done) | (simp; omega)))⟩

set_option maxHeartbeats 800000 in
theorem szSetting_gen (x : Se) (l : Int) (w : World) (h0 : 0 ≤ l) (h1 : l ≤ 1048576) (h2 : okSe x) :
    Calls Tryd.prog 62 #[.agg #[.string x.nm, .int .i64 x.v.k, .int .i64 x.v.n, .string x.v.s], .int .i64 l] w fun e w' => ∃ r, e = .returned (.int .i64 r) ∧ (r < 0 ∨ (0 ≤ r ∧ r ≤ l ∧ smSe l x)) ∧ Below w.heap.size w w' := by
  have h3 := h2.1
  have H : Hid (x.v.s.size ≤ maxLen) := h2.2
  clear h2
  unfold maxLen at h3
  have hw : IntKind.i64.wrap (l - (x.nm.size : Int)) = l - (x.nm.size : Int) := by rw [IntKind.wrap_i64]; omega
  by_cases hn : l - (x.nm.size : Int) < 0
  · go_enter Tryd.func62, Tryd.ntmps62
    go_wp2
    go_returns
    exact ⟨-1, rfl, Or.inl (by omega), by (repeat' (first | (with_reducible exact Below.refl _ _) | (with_reducible assumption) | (with_reducible refine Below.setCell ?_ ?_ _) | (with_reducible refine Below.alloc ?_ ?_ _) | (with_reducible refine below_drewN ?_ _) | (with_reducible refine Below.drew ?_) | (with_reducible exact Nat.le_refl _) | omega | (simp; done) | (simp; omega)))⟩
  · have HN : Hid ((x.nm.size : Int) ≤ l) := by unfold Hid; omega
    obtain ⟨l1, hl1⟩ : ∃ l1, l1 = l - (x.nm.size : Int) := ⟨_, rfl⟩
    have hl0 : 0 ≤ l1 := by omega
    have hll : l1 ≤ l := by omega
    rw [← hl1] at hw hn
    have hw2 : IntKind.i64.wrap (l - (x.nm.size : Int)) = l1 := by rw [← hl1]; exact hw
    have hw3 : l - (x.nm.size : Int) = l1 := hl1.symm
    clear hl1 hw
    go_enter Tryd.func62, Tryd.ntmps62
    go_wp2_with (fail)
    try simp only [hw2, hw3]
    refine (szValue_gen x.v l1 _ hl0 (by omega) H.out).mono ?_
    rintro e w1 ⟨q1, rfl, hq1, hb1⟩
    have HB1 : Hid (Below w.heap.size w w1) := (show Below w.heap.size w _ from by (repeat' (first | (with_reducible exact Below.refl _ _) | (with_reducible assumption) | (with_reducible refine Below.setCell ?_ ?_ _) | (with_reducible refine Below.alloc ?_ ?_ _) | (with_reducible refine below_drewN ?_ _) | (with_reducible refine Below.drew ?_) | (with_reducible exact Nat.le_refl _) | omega | (simp; done) | (simp; omega)))).trans (hb1.mono (by simp))
    clear hb1
    rcases hq1 with hneg | ⟨h3, h4, h5⟩
    · go_wp2
      go_returns
      exact ⟨-1, rfl, Or.inl (by omega), HB1.out⟩
    have h6 : ¬ q1 < 0 := by omega
    have HS : Hid (smSe l x) := ⟨HN.out, by unfold smV at h5; omega⟩
    clear h5
    go_wp2
    go_returns
    exact ⟨q1, rfl, Or.inr ⟨h3, by omega, HS.out⟩, HB1.out⟩

set_option maxHeartbeats 1600000 in
theorem szParamS_gen (a : Option Addr) (n c : Nat) (l : Int) (s : List Pm) (w : World) (h0 : 0 ≤ l) (h1 : l ≤ 1048576) (h2 : n ≤ maxLen) (h : RG 4 pmC w (.slice a n c) s) (hm : ∀ j (h : j < s.length), okPm s[j]) :
    Calls Tryd.prog 10 #[.slice a n c, .int .i64 l] w fun e w' => ∃ r, e = .returned (.int .i64 r) ∧ (r < 0 ∨ (0 ≤ r ∧ r ≤ l ∧ (n : Int) ≤ l ∧ ∀ j (h : j < s.length), smPm l s[j])) ∧ Below w.heap.size w w' := by
  unfold maxLen at h2
  have H : Hid (RG 4 pmC w (.slice a n c) s ∧ n = s.length ∧ ∀ j (h : j < s.length), okPm s[j]) := ⟨h, h.len, hm⟩
  clear h hm
  have hw : IntKind.i64.wrap (l - (n : Int)) = l - (n : Int) := by rw [IntKind.wrap_i64]; omega
  by_cases hn : l - (n : Int) < 0
  · go_enter Tryd.func10, Tryd.ntmps10
    go_wp2
    go_returns
    exact ⟨-1, rfl, Or.inl (by omega), by (repeat' (first | (with_reducible exact Below.refl _ _) | (with_reducible assumption) | (with_reducible refine Below.setCell ?_ ?_ _) | (with_reducible refine Below.alloc ?_ ?_ _) | (with_reducible refine below_drewN ?_ _) | (with_reducible refine Below.drew ?_) | (with_reducible exact Nat.le_refl _) | omega | (simp; done) | (simp; omega)))⟩
  · have HL : Hid ((n : Int) ≤ l) := by unfold Hid; omega
    obtain ⟨l1, hl1⟩ : ∃ l1, l1 = l - (n : Int) := ⟨_, rfl⟩
    have hl0 : 0 ≤ l1 := by omega
    have hll : l1 ≤ l := by omega
    rw [← hl1] at hw hn
    have hw2 : IntKind.i64.wrap (l - (n : Int)) = l1 := by rw [← hl1]; exact hw
    clear hl1 hw
    go_enter Tryd.func10, Tryd.ntmps10
    go_wp2
    go_loopw [1, 5] (fun q i wr => ∃ (j : Nat) (r : Int), j ≤ n ∧ i = .int .i64 j ∧ q = .int .i64 r ∧ 0 ≤ r ∧ r ≤ l ∧ Hid (Below w.heap.size w wr ∧ ∀ k (h : k < s.length), k < j → smPm l s[k])) (fun _ i _ => n - (intOf i).toNat)
    case atStart => exact ⟨0, l1, Nat.zero_le _, rfl, by simp [hw2], hl0, hll, Below.refl _ _, fun k _ hk => by omega⟩
    case round =>
      obtain ⟨j, r, hjn, rfl, rfl, hr0, hrl, hR⟩ := hrel
      by_cases hlt : j < n
      · have hjl : j < s.length := by rw [← H.out.2.1]; exact hlt
        obtain ⟨g, o, c2, he, hg, hj⟩ := (H.out.1.below hR.out.1).pos (by rw [← H.out.2.1]; omega)
        simp only [Value.slice.injEq] at he
        obtain ⟨rfl, hx1, hx2⟩ := he
        clear hx1 hx2
        obtain ⟨c0, c1, c2, c3⟩ := pmC_at (hj j hjl)
        obtain ⟨x, hx⟩ : ∃ x, x = s[j] := ⟨_, rfl⟩
        rw [← hx] at c0 c1 c2 c3
        have HX : Hid (x = s[j] ∧ okPm x) := ⟨hx, by rw [hx]; exact H.out.2.2 j hjl⟩
        clear hx hj
        have b0 : (0 : Int) ≤ (j : Int) := by omega
        have b1 : (j : Int) < (n : Int) := by omega
        go_wp2_with (fail)
        refine (szParam_gen x r _ hr0 (by omega) HX.out.2).mono ?_
        rintro e w3 ⟨r2, rfl, hr2, hb3⟩
        have HB3 : Hid (Below w.heap.size w w3) := hR.out.1.trans (hb3.mono hR.out.1.size)
        clear hb3 c0 c1 c2 c3
        rcases hr2 with hneg | ⟨h3, h4, h5⟩
        · go_wp2
          go_returns
          exact ⟨-1, rfl, Or.inl (by omega), HB3.out⟩
        · have HS : Hid (∀ k (h : k < s.length), k < j + 1 → smPm l s[k]) := fun k hk hkj => by
            rcases (by omega : k < j ∨ k = j) with e | rfl
            · exact hR.out.2 k hk e
            · rw [← HX.out.1]; exact smPm_mono (by omega) h5
          have h6 : ¬ r2 < 0 := by omega
          clear hR h5
          go_wp2
          go_roundw
          case rel => exact ⟨j + 1, r2, by omega, by go_num, rfl, h3, by omega, HB3.out, HS.out⟩
          case measure => simp [intOf]; omega
      · have HS : Hid (Below w.heap.size w wr ∧ ∀ k (h : k < s.length), smPm l s[k]) := ⟨hR.out.1, fun k hk => hR.out.2 k hk (by rw [← H.out.2.1] at hk; omega)⟩
        clear hR
        go_wp2
        go_returns
        exact ⟨r, rfl, Or.inr ⟨hr0, hrl, HL.out, HS.out.2⟩, HS.out.1⟩

set_option maxHeartbeats 1600000 in
theorem szSettingS_gen (a : Option Addr) (n c : Nat) (l : Int) (s : List Se) (w : World) (h0 : 0 ≤ l) (h1 : l ≤ 1048576) (h2 : n ≤ maxLen) (h : RG 4 seC w (.slice a n c) s) (hm : ∀ j (h : j < s.length), okSe s[j]) :
    Calls Tryd.prog 40 #[.slice a n c, .int .i64 l] w fun e w' => ∃ r, e = .returned (.int .i64 r) ∧ (r < 0 ∨ (0 ≤ r ∧ r ≤ l ∧ (n : Int) ≤ l ∧ ∀ j (h : j < s.length), smSe l s[j])) ∧ Below w.heap.size w w' := by
  unfold maxLen at h2
  have H : Hid (RG 4 seC w (.slice a n c) s ∧ n = s.length ∧ ∀ j (h : j < s.length), okSe s[j]) := ⟨h, h.len, hm⟩
  clear h hm
  have hw : IntKind.i64.wrap (l - (n : Int)) = l - (n : Int) := by rw [IntKind.wrap_i64]; omega
  by_cases hn : l - (n : Int) < 0
  · go_enter Tryd.func40, Tryd.ntmps40
    go_wp2
    go_returns
    exact ⟨-1, rfl, Or.inl (by omega), by (repeat' (first | (with_reducible exact Below.refl _ _) | (with_reducible assumption) | (with_reducible refine Below.setCell ?_ ?_ _) | (with_reducible refine Below.alloc ?_ ?_ _) | (with_reducible refine below_drewN ?_ _) | (with_reducible refine Below.drew ?_) | (with_reducible exact Nat.le_refl _) | omega | (simp; done) | (simp; omega)))⟩
  · have HL : Hid ((n : Int) ≤ l) := by unfold Hid; omega
    obtain ⟨l1, hl1⟩ : ∃ l1, l1 = l - (n : Int) := ⟨_, rfl⟩
    have hl0 : 0 ≤ l1 := by omega
    have hll : l1 ≤ l := by omega
    rw [← hl1] at hw hn
    have hw2 : IntKind.i64.wrap (l - (n : Int)) = l1 := by rw [← hl1]; exact hw
    clear hl1 hw
    go_enter Tryd.func40, Tryd.ntmps40
    go_wp2
    go_loopw [1, 5] (fun q i wr => ∃ (j : Nat) (r : Int), j ≤ n ∧ i = .int .i64 j ∧ q = .int .i64 r ∧ 0 ≤ r ∧ r ≤ l ∧ Hid (Below w.heap.size w wr ∧ ∀ k (h : k < s.length), k < j → smSe l s[k])) (fun _ i _ => n - (intOf i).toNat)
    case atStart => exact ⟨0, l1, Nat.zero_le _, rfl, by simp [hw2], hl0, hll, Below.refl _ _, fun k _ hk => by omega⟩
    case round =>
      obtain ⟨j, r, hjn, rfl, rfl, hr0, hrl, hR⟩ := hrel
      by_cases hlt : j < n
      · have hjl : j < s.length := by rw [← H.out.2.1]; exact hlt
        obtain ⟨g, o, c2, he, hg, hj⟩ := (H.out.1.below hR.out.1).pos (by rw [← H.out.2.1]; omega)
        simp only [Value.slice.injEq] at he
        obtain ⟨rfl, hx1, hx2⟩ := he
        clear hx1 hx2
        obtain ⟨c0, c1, c2, c3⟩ := seC_at (hj j hjl)
        obtain ⟨x, hx⟩ : ∃ x, x = s[j] := ⟨_, rfl⟩
        rw [← hx] at c0 c1 c2 c3
        have HX : Hid (x = s[j] ∧ okSe x) := ⟨hx, by rw [hx]; exact H.out.2.2 j hjl⟩
        clear hx hj
        have b0 : (0 : Int) ≤ (j : Int) := by omega
        have b1 : (j : Int) < (n : Int) := by omega
        go_wp2_with (fail)
        refine (szSetting_gen x r _ hr0 (by omega) HX.out.2).mono ?_
        rintro e w3 ⟨r2, rfl, hr2, hb3⟩
        have HB3 : Hid (Below w.heap.size w w3) := hR.out.1.trans (hb3.mono hR.out.1.size)
        clear hb3 c0 c1 c2 c3
        rcases hr2 with hneg | ⟨h3, h4, h5⟩
        · go_wp2
          go_returns
          exact ⟨-1, rfl, Or.inl (by omega), HB3.out⟩
        · have HS : Hid (∀ k (h : k < s.length), k < j + 1 → smSe l s[k]) := fun k hk hkj => by
            rcases (by omega : k < j ∨ k = j) with e | rfl
            · exact hR.out.2 k hk e
            · rw [← HX.out.1]; exact smSe_mono (by omega) h5
          have h6 : ¬ r2 < 0 := by omega
          clear hR h5
          go_wp2
          go_roundw
          case rel => exact ⟨j + 1, r2, by omega, by go_num, rfl, h3, by omega, HB3.out, HS.out⟩
          case measure => simp [intOf]; omega
      · have HS : Hid (Below w.heap.size w wr ∧ ∀ k (h : k < s.length), smSe l s[k]) := ⟨hR.out.1, fun k hk => hR.out.2 k hk (by rw [← H.out.2.1] at hk; omega)⟩
        clear hR
        go_wp2
        go_returns
        exact ⟨r, rfl, Or.inr ⟨hr0, hrl, HL.out, HS.out.2⟩, HS.out.1⟩

/-- A step; a recipe. As they lie in memory: a step's text, its value, and where its settings lie. -/
structure Sp where
  nm : ByteArray
  t : Vl
  ss : List Se
structure Rp where
  nm : ByteArray
  ps : List Pm
  ss : List Sp
structure Rs where
  nm : ByteArray
  t : Vl
  sa : Option Addr
  sn : Nat
  sc : Nat
def rsC (x : Rs) : List Value := [.string x.nm, .int .i64 x.t.k, .int .i64 x.t.n, .string x.t.s, .slice x.sa x.sn x.sc]
theorem rsC_len (x : Rs) : (rsC x).length = 5 := rfl
theorem rsC_at {w : World} {g o : Nat} {x : Rs} (h : ∀ i, i < 5 → w.cell? ⟨g, o + i, none⟩ = (rsC x)[i]?) : w.cell? ⟨g, o, none⟩ = some (.string x.nm) ∧ w.cell? ⟨g, o + 1, none⟩ = some (.int .i64 x.t.k) ∧ w.cell? ⟨g, o + 2, none⟩ = some (.int .i64 x.t.n) ∧ w.cell? ⟨g, o + 3, none⟩ = some (.string x.t.s) ∧ w.cell? ⟨g, o + 4, none⟩ = some (.slice x.sa x.sn x.sc) :=
  ⟨h 0 (by omega), h 1 (by omega), h 2 (by omega), h 3 (by omega), h 4 (by omega)⟩
/-- What lies there is that step. -/
structure Rs1 (w : World) (x : Rs) (c : Sp) : Prop where
  nm : x.nm = c.nm
  t : x.t = c.t
  ss : RG 4 seC w (.slice x.sa x.sn x.sc) c.ss
  cp : x.sn ≤ x.sc
theorem Rs1.below {w w' : World} {x : Rs} {c : Sp} (h : Rs1 w x c) (hb : Below w.heap.size w w') : Rs1 w' x c := ⟨h.nm, h.t, h.ss.below hb, h.cp⟩
structure RelS (w : World) (rs : List Rs) (s : List Sp) : Prop where
  len : rs.length = s.length
  at_ : ∀ j (h : j < rs.length) (h' : j < s.length), Rs1 w rs[j] s[j]
theorem RelS.below {w w' : World} {rs : List Rs} {s : List Sp} (h : RelS w rs s) (hb : Below w.heap.size w w') : RelS w' rs s := ⟨h.len, fun j h1 h2 => (h.at_ j h1 h2).below hb⟩
/-- A slice that can be read as a list of steps. -/
def RKs (w : World) (v : Value) (s : List Sp) : Prop := ∃ rs, RG 5 rsC w v rs ∧ RelS w rs s
theorem RKs.below {w w' : World} {v : Value} {s : List Sp} (h : RKs w v s) (hb : Below w.heap.size w w') : RKs w' v s := by
  obtain ⟨rs, h1, h2⟩ := h; exact ⟨rs, h1.below hb, h2.below hb⟩
theorem RKs.form {w : World} {v : Value} {s : List Sp} (h : RKs w v s) : ∃ a c, v = .slice a s.length c := by
  obtain ⟨rs, h1, h2⟩ := h
  obtain ⟨a, c, rfl⟩ := h1.form
  exact ⟨a, c, by rw [h2.len]⟩
theorem RKs.len {w : World} {a : Option Addr} {n c : Nat} {s : List Sp} (h : RKs w (.slice a n c) s) : n = s.length := by
  obtain ⟨rs, h1, h2⟩ := h
  rw [h1.len, h2.len]
/-- A recipe as it lies in memory. -/
structure Rr where
  nm : ByteArray
  pa : Option Addr
  pn : Nat
  pc : Nat
  sa : Option Addr
  sn : Nat
  sc : Nat
def rrV (x : Rr) : Value := .agg #[.string x.nm, .slice x.pa x.pn x.pc, .slice x.sa x.sn x.sc]
structure Rr1 (w : World) (x : Rr) (c : Rp) : Prop where
  nm : x.nm = c.nm
  ps : RG 4 pmC w (.slice x.pa x.pn x.pc) c.ps
  ss : RKs w (.slice x.sa x.sn x.sc) c.ss
  cp : x.pn ≤ x.pc ∧ x.sn ≤ x.sc
theorem Rr1.below {w w' : World} {x : Rr} {c : Rp} (h : Rr1 w x c) (hb : Below w.heap.size w w') : Rr1 w' x c := ⟨h.nm, h.ps.below hb, h.ss.below hb, h.cp⟩

structure smSp (m : Int) (c : Sp) : Prop where
  nm : (c.nm.size : Int) ≤ m
  t : smV m c.t
  n : (c.ss.length : Int) ≤ m
  ss : ∀ j (h : j < c.ss.length), smSe m c.ss[j]
theorem smSp_mono {m m' : Int} {x : Sp} (h : m ≤ m') (hx : smSp m x) : smSp m' x :=
  ⟨by have := hx.nm; omega, smV_mono h hx.t, by have := hx.n; omega, fun j hj => smSe_mono h (hx.ss j hj)⟩
structure okSp (c : Sp) : Prop where
  nm : c.nm.size ≤ maxLen
  t : c.t.s.size ≤ maxLen
  n : c.ss.length ≤ maxLen
  ss : ∀ j (h : j < c.ss.length), okSe c.ss[j]
structure smRp (m : Int) (c : Rp) : Prop where
  nm : (c.nm.size : Int) ≤ m
  pn : (c.ps.length : Int) ≤ m
  ps : ∀ j (h : j < c.ps.length), smPm m c.ps[j]
  sn : (c.ss.length : Int) ≤ m
  ss : ∀ j (h : j < c.ss.length), smSp m c.ss[j]
structure okRp (c : Rp) : Prop where
  nm : c.nm.size ≤ maxLen
  pn : c.ps.length ≤ maxLen
  ps : ∀ j (h : j < c.ps.length), okPm c.ps[j]
  sn : c.ss.length ≤ maxLen
  ss : ∀ j (h : j < c.ss.length), okSp c.ss[j]

set_option maxHeartbeats 1600000 in
theorem szRecipeStep_gen (r : Rs) (c : Sp) (l : Int) (w : World) (h0 : 0 ≤ l) (h1 : l ≤ 1048576) (hc : okSp c) (h : Rs1 w r c) :
    Calls Tryd.prog 21 #[.agg #[.string r.nm, .int .i64 r.t.k, .int .i64 r.t.n, .string r.t.s, .slice r.sa r.sn r.sc], .int .i64 l] w fun e w' => ∃ q, e = .returned (.int .i64 q) ∧ (q < 0 ∨ (0 ≤ q ∧ q ≤ l ∧ smSp l c)) ∧ Below w.heap.size w w' := by
  have hnm : r.nm.size ≤ maxLen := by rw [h.nm]; exact hc.nm
  have hts : r.t.s.size ≤ maxLen := by rw [h.t]; exact hc.t
  have hsn : r.sn ≤ maxLen := by rw [h.ss.len]; exact hc.n
  have H : Hid (Rs1 w r c ∧ okSp c ∧ r.sn ≤ maxLen ∧ r.t.s.size ≤ maxLen) := ⟨h, hc, hsn, hts⟩
  unfold maxLen at hnm
  clear h hc hsn hts
  have hw : IntKind.i64.wrap (l - (r.nm.size : Int)) = l - (r.nm.size : Int) := by rw [IntKind.wrap_i64]; omega
  by_cases hn : l - (r.nm.size : Int) < 0
  · go_enter Tryd.func21, Tryd.ntmps21
    go_wp2
    go_returns
    exact ⟨-1, rfl, Or.inl (by omega), by (repeat' (first | (with_reducible exact Below.refl _ _) | (with_reducible assumption) | (with_reducible refine Below.setCell ?_ ?_ _) | (with_reducible refine Below.alloc ?_ ?_ _) | (with_reducible refine below_drewN ?_ _) | (with_reducible refine Below.drew ?_) | (with_reducible exact Nat.le_refl _) | omega | (simp; done) | (simp; omega)))⟩
  have HN : Hid ((c.nm.size : Int) ≤ l) := by unfold Hid; rw [← H.out.1.nm]; omega
  obtain ⟨l1, hl1⟩ : ∃ l1, l1 = l - (r.nm.size : Int) := ⟨_, rfl⟩
  have hl0 : 0 ≤ l1 := by omega
  have hll : l1 ≤ l := by omega
  rw [← hl1] at hw hn
  have hw2 : IntKind.i64.wrap (l - (r.nm.size : Int)) = l1 := by rw [← hl1]; exact hw
  have hw3 : l - (r.nm.size : Int) = l1 := hl1.symm
  clear hl1 hw
  go_enter Tryd.func21, Tryd.ntmps21
  go_wp2_with (fail)
  try simp only [hw2, hw3]
  refine (szValue_gen r.t l1 _ hl0 (by omega) H.out.2.2.2).mono ?_
  rintro e w1 ⟨q1, rfl, hq1, hb1⟩
  have g1 := (hb1.block w.heap.size (by simp)).trans (heap_alloc_new w _)
  have HB1 : Hid (Below w.heap.size w w1) := (show Below w.heap.size w _ from by (repeat' (first | (with_reducible exact Below.refl _ _) | (with_reducible assumption) | (with_reducible refine Below.setCell ?_ ?_ _) | (with_reducible refine Below.alloc ?_ ?_ _) | (with_reducible refine below_drewN ?_ _) | (with_reducible refine Below.drew ?_) | (with_reducible exact Nat.le_refl _) | omega | (simp; done) | (simp; omega)))).trans (hb1.mono (by simp))
  obtain ⟨p0, p1, p2, p3, p4, pfr, plt⟩ := five_at g1
  clear hb1 g1 pfr
  rcases hq1 with hneg | ⟨h3, h4, h5⟩
  · go_wp2
    go_returns
    exact ⟨-1, rfl, Or.inl (by omega), HB1.out⟩
  have h6 : ¬ q1 < 0 := by omega
  have HB : Hid (smV l c.t) := by unfold Hid; rw [← H.out.1.t]; exact smV_mono (by omega) h5
  clear h5
  go_wp2_with (fail)
  refine (szSettingS_gen r.sa r.sn r.sc q1 c.ss _ h3 (by omega) H.out.2.2.1 (H.out.1.ss.below HB1.out) H.out.2.1.ss).mono ?_
  rintro e w2 ⟨q2, rfl, hq2, hb2⟩
  have HB2 : Hid (Below w.heap.size w w2) := HB1.out.trans (hb2.mono HB1.out.size)
  clear hb2
  rcases hq2 with hneg | ⟨h7, h8, h9, h10⟩
  · go_wp2
    go_returns
    exact ⟨-1, rfl, Or.inl (by omega), HB2.out⟩
  have h11 : ¬ q2 < 0 := by omega
  have HS : Hid (smSp l c) := ⟨HN.out, HB.out, by rw [← H.out.1.ss.len]; omega, fun j hj => smSe_mono (by omega) (h10 j hj)⟩
  clear h10
  go_wp2
  go_returns
  exact ⟨q2, rfl, Or.inr ⟨h7, by omega, HS.out⟩, HB2.out⟩

set_option maxHeartbeats 1600000 in
theorem szRecipeStepS_gen (a : Option Addr) (n c : Nat) (l : Int) (s : List Sp) (w : World) (h0 : 0 ≤ l) (h1 : l ≤ 1048576) (h2 : n ≤ maxLen) (h : RKs w (.slice a n c) s) (hm : ∀ j (h : j < s.length), okSp s[j]) :
    Calls Tryd.prog 11 #[.slice a n c, .int .i64 l] w fun e w' => ∃ r, e = .returned (.int .i64 r) ∧ (r < 0 ∨ (0 ≤ r ∧ r ≤ l ∧ (n : Int) ≤ l ∧ ∀ j (h : j < s.length), smSp l s[j])) ∧ Below w.heap.size w w' := by
  unfold maxLen at h2
  obtain ⟨rs, hrs, hrel⟩ := h
  have hnr : n = rs.length := hrs.len
  have H : Hid (RG 5 rsC w (.slice a n c) rs ∧ RelS w rs s ∧ n = rs.length ∧ n = s.length ∧ ∀ j (h : j < s.length), okSp s[j]) := ⟨hrs, hrel, hnr, hnr.trans hrel.len, hm⟩
  clear hrs hrel hnr hm
  have hw : IntKind.i64.wrap (l - (n : Int)) = l - (n : Int) := by rw [IntKind.wrap_i64]; omega
  by_cases hn : l - (n : Int) < 0
  · go_enter Tryd.func11, Tryd.ntmps11
    go_wp2
    go_returns
    exact ⟨-1, rfl, Or.inl (by omega), by (repeat' (first | (with_reducible exact Below.refl _ _) | (with_reducible assumption) | (with_reducible refine Below.setCell ?_ ?_ _) | (with_reducible refine Below.alloc ?_ ?_ _) | (with_reducible refine below_drewN ?_ _) | (with_reducible refine Below.drew ?_) | (with_reducible exact Nat.le_refl _) | omega | (simp; done) | (simp; omega)))⟩
  · have HL : Hid ((n : Int) ≤ l) := by unfold Hid; omega
    obtain ⟨l1, hl1⟩ : ∃ l1, l1 = l - (n : Int) := ⟨_, rfl⟩
    have hl0 : 0 ≤ l1 := by omega
    have hll : l1 ≤ l := by omega
    rw [← hl1] at hw hn
    have hw2 : IntKind.i64.wrap (l - (n : Int)) = l1 := by rw [← hl1]; exact hw
    clear hl1 hw
    go_enter Tryd.func11, Tryd.ntmps11
    go_wp2
    go_loopw [1, 5] (fun q i wr => ∃ (j : Nat) (r : Int), j ≤ n ∧ i = .int .i64 j ∧ q = .int .i64 r ∧ 0 ≤ r ∧ r ≤ l ∧ Hid (Below w.heap.size w wr ∧ ∀ k (h : k < s.length), k < j → smSp l s[k])) (fun _ i _ => n - (intOf i).toNat)
    case atStart => exact ⟨0, l1, Nat.zero_le _, rfl, by simp [hw2], hl0, hll, Below.refl _ _, fun k _ hk => by omega⟩
    case round =>
      obtain ⟨j, r, hjn, rfl, rfl, hr0, hrl, hR⟩ := hrel
      by_cases hlt : j < n
      · have hjr : j < rs.length := by rw [← H.out.2.2.1]; exact hlt
        have hjl : j < s.length := by rw [← H.out.2.2.2.1]; exact hlt
        obtain ⟨g, o, c2, he, hg, hj⟩ := (H.out.1.below hR.out.1).pos (by rw [← H.out.2.2.1]; omega)
        simp only [Value.slice.injEq] at he
        obtain ⟨rfl, hx1, hx2⟩ := he
        clear hx1 hx2
        obtain ⟨c0, c1, c2, c3, c4⟩ := rsC_at (hj j hjr)
        obtain ⟨x, hx⟩ : ∃ x, x = rs[j] := ⟨_, rfl⟩
        rw [← hx] at c0 c1 c2 c3 c4
        have HX : Hid (Rs1 wr x s[j] ∧ okSp s[j]) := ⟨by rw [hx]; exact (H.out.2.1.below hR.out.1).at_ j hjr hjl, H.out.2.2.2.2 j hjl⟩
        clear hx hj
        have b0 : (0 : Int) ≤ (j : Int) := by omega
        have b1 : (j : Int) < (n : Int) := by omega
        go_wp2_with (fail)
        refine (szRecipeStep_gen x s[j] r _ hr0 (by omega) HX.out.2 HX.out.1).mono ?_
        rintro e w3 ⟨r2, rfl, hr2, hb3⟩
        have HB3 : Hid (Below w.heap.size w w3) := hR.out.1.trans (hb3.mono hR.out.1.size)
        clear hb3 c0 c1 c2 c3 c4
        rcases hr2 with hneg | ⟨h3, h4, h5⟩
        · go_wp2
          go_returns
          exact ⟨-1, rfl, Or.inl (by omega), HB3.out⟩
        · have HS : Hid (∀ k (h : k < s.length), k < j + 1 → smSp l s[k]) := fun k hk hkj => by
            rcases (by omega : k < j ∨ k = j) with e | rfl
            · exact hR.out.2 k hk e
            · exact smSp_mono (by omega) h5
          have h6 : ¬ r2 < 0 := by omega
          clear hR h5
          go_wp2
          go_roundw
          case rel => exact ⟨j + 1, r2, by omega, by go_num, rfl, h3, by omega, HB3.out, HS.out⟩
          case measure => simp [intOf]; omega
      · have HS : Hid (Below w.heap.size w wr ∧ ∀ k (h : k < s.length), smSp l s[k]) := ⟨hR.out.1, fun k hk => hR.out.2 k hk (by rw [← H.out.2.2.2.1] at hk; omega)⟩
        clear hR
        go_wp2
        go_returns
        exact ⟨r, rfl, Or.inr ⟨hr0, hrl, HL.out, HS.out.2⟩, HS.out.1⟩

set_option maxHeartbeats 1600000 in
theorem szRecipe_gen (r : Rr) (c : Rp) (l : Int) (w : World) (h0 : 0 ≤ l) (h1 : l ≤ 1048576) (hc : okRp c) (h : Rr1 w r c) :
    Calls Tryd.prog 4 #[.agg #[.string r.nm, .slice r.pa r.pn r.pc, .slice r.sa r.sn r.sc], .int .i64 l] w fun e w' => ∃ q, e = .returned (.int .i64 q) ∧ (q < 0 ∨ (0 ≤ q ∧ q ≤ l ∧ smRp l c)) ∧ Below w.heap.size w w' := by
  have hnm : r.nm.size ≤ maxLen := by rw [h.nm]; exact hc.nm
  have hpn : r.pn ≤ maxLen := by rw [h.ps.len]; exact hc.pn
  have hsn : r.sn ≤ maxLen := by rw [h.ss.len]; exact hc.sn
  have H : Hid (Rr1 w r c ∧ okRp c ∧ r.pn ≤ maxLen ∧ r.sn ≤ maxLen) := ⟨h, hc, hpn, hsn⟩
  unfold maxLen at hnm
  clear h hc hpn hsn
  have hw : IntKind.i64.wrap (l - (r.nm.size : Int)) = l - (r.nm.size : Int) := by rw [IntKind.wrap_i64]; omega
  by_cases hn : l - (r.nm.size : Int) < 0
  · go_enter Tryd.func4, Tryd.ntmps4
    go_wp2
    go_returns
    exact ⟨-1, rfl, Or.inl (by omega), by (repeat' (first | (with_reducible exact Below.refl _ _) | (with_reducible assumption) | (with_reducible refine Below.setCell ?_ ?_ _) | (with_reducible refine Below.alloc ?_ ?_ _) | (with_reducible refine below_drewN ?_ _) | (with_reducible refine Below.drew ?_) | (with_reducible exact Nat.le_refl _) | omega | (simp; done) | (simp; omega)))⟩
  have HN : Hid ((c.nm.size : Int) ≤ l) := by unfold Hid; rw [← H.out.1.nm]; omega
  obtain ⟨l1, hl1⟩ : ∃ l1, l1 = l - (r.nm.size : Int) := ⟨_, rfl⟩
  have hl0 : 0 ≤ l1 := by omega
  have hll : l1 ≤ l := by omega
  rw [← hl1] at hw hn
  have hw2 : IntKind.i64.wrap (l - (r.nm.size : Int)) = l1 := by rw [← hl1]; exact hw
  have hw3 : l - (r.nm.size : Int) = l1 := hl1.symm
  clear hl1 hw
  go_enter Tryd.func4, Tryd.ntmps4
  go_wp2_with (fail)
  try simp only [hw2, hw3]
  refine (szParamS_gen r.pa r.pn r.pc l1 c.ps _ hl0 (by omega) H.out.2.2.1 (H.out.1.ps.below (by (repeat' (first | (with_reducible exact Below.refl _ _) | (with_reducible assumption) | (with_reducible refine Below.setCell ?_ ?_ _) | (with_reducible refine Below.alloc ?_ ?_ _) | (with_reducible refine below_drewN ?_ _) | (with_reducible refine Below.drew ?_) | (with_reducible exact Nat.le_refl _) | omega | (simp; done) | (simp; omega))))) H.out.2.1.ps).mono ?_
  rintro e w1 ⟨q1, rfl, hq1, hb1⟩
  have g1 := (hb1.block w.heap.size (by simp)).trans (heap_alloc_new w _)
  have HB1 : Hid (Below w.heap.size w w1) := (show Below w.heap.size w _ from by (repeat' (first | (with_reducible exact Below.refl _ _) | (with_reducible assumption) | (with_reducible refine Below.setCell ?_ ?_ _) | (with_reducible refine Below.alloc ?_ ?_ _) | (with_reducible refine below_drewN ?_ _) | (with_reducible refine Below.drew ?_) | (with_reducible exact Nat.le_refl _) | omega | (simp; done) | (simp; omega)))).trans (hb1.mono (by simp))
  obtain ⟨p0, p1, p2, pfr, plt⟩ := three_at g1
  clear hb1 g1 pfr
  rcases hq1 with hneg | ⟨h3, h4, h5, h5'⟩
  · go_wp2
    go_returns
    exact ⟨-1, rfl, Or.inl (by omega), HB1.out⟩
  have h6 : ¬ q1 < 0 := by omega
  have HB : Hid ((c.ps.length : Int) ≤ l ∧ ∀ j (h : j < c.ps.length), smPm l c.ps[j]) := ⟨by rw [← H.out.1.ps.len]; omega, fun j hj => smPm_mono (by omega) (h5' j hj)⟩
  clear h5'
  go_wp2_with (fail)
  refine (szRecipeStepS_gen r.sa r.sn r.sc q1 c.ss _ h3 (by omega) H.out.2.2.2 (H.out.1.ss.below HB1.out) H.out.2.1.ss).mono ?_
  rintro e w2 ⟨q2, rfl, hq2, hb2⟩
  have HB2 : Hid (Below w.heap.size w w2) := HB1.out.trans (hb2.mono HB1.out.size)
  clear hb2
  rcases hq2 with hneg | ⟨h7, h8, h9, h10⟩
  · go_wp2
    go_returns
    exact ⟨-1, rfl, Or.inl (by omega), HB2.out⟩
  have h11 : ¬ q2 < 0 := by omega
  have HS : Hid (smRp l c) := ⟨HN.out, HB.out.1, HB.out.2, by rw [← H.out.1.ss.len]; omega, fun j hj => smSp_mono (by omega) (h10 j hj)⟩
  clear h10
  go_wp2
  go_returns
  exact ⟨q2, rfl, Or.inr ⟨h7, by omega, HS.out⟩, HB2.out⟩

end Go.Proofs.YtnljomeacnjmmaaDoor
