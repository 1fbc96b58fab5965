/- Proved here: the small functions by which the program reads a fraction's text: with, withDigit, take, complete, numerator, denominator. -/
import Derived.Test.YtcojhkpdlmldcaaPfM
import Derived.Test.YtcojhkpdlmldcaaFaL
namespace Go.Proofs.Ytcojhkpdlmldcaa
open Go.RowKit
set_option linter.unusedVariables false
set_option linter.unusedSimpArgs false

/-- What a text has told so far: the minus, the slash's place, the digits' counts and values. -/
structure FSc where
  m : Bool
  s : Int
  tc : Int
  tv : Int
  bc : Int
  bv : Int
def fscV (x : FSc) : Value := .agg #[.bool x.m, .int .i64 x.s, .int .i64 x.tc, .int .i64 x.tv, .int .i64 x.bc, .int .i64 x.bv]
def wiV (c v d : Int) : Int := if c + 1 ≤ 18 then v * 10 + d else v
def wdF (x : FSc) (d : Int) : FSc := if 0 < x.s then { x with bc := x.bc + 1, bv := wiV x.bc x.bv d } else { x with tc := x.tc + 1, tv := wiV x.tc x.tv d }
/-- Numbers that a text of at most 4000 letters can tell. -/
structure FOk (x : FSc) : Prop where
  s0 : 0 ≤ x.s
  s1 : x.s ≤ 5000
  tc0 : 0 ≤ x.tc
  tc1 : x.tc ≤ 5000
  bc0 : 0 ≤ x.bc
  bc1 : x.bc ≤ 5000
  tv0 : 0 ≤ x.tv
  tv1 : x.tv ≤ 1000000000000000000
  bv0 : 0 ≤ x.bv
  bv1 : x.bv ≤ 1000000000000000000
  tv2 : x.tc + 1 ≤ 18 → x.tv ≤ 100000000000000000
  bv2 : x.bc + 1 ≤ 18 → x.bv ≤ 100000000000000000

theorem pzCell {V : World} {k : Nat} {cs : Array Value} {T : TypeId} (h : V.heap[k]? = some (.cells cs T)) (i : Nat) {v : Value} (hi : cs[i]? = some v) : V.cell? ⟨k, i, none⟩ = some v := by
  simp [World.cell?, h, hi]
theorem pzFroz {V : World} {k : Nat} {cs : Array Value} {T : TypeId} (h : V.heap[k]? = some (.cells cs T)) (i : Nat) : V.frozen? ⟨k, i, none⟩ = false := by
  simp [World.frozen?, h]
theorem pzLt {V : World} {k : Nat} {o : Obj} (h : V.heap[k]? = some o) : k < V.heap.size := by
  rcases Nat.lt_or_ge k V.heap.size with h' | h'
  · exact h'
  · rw [Array.getElem?_eq_none h'] at h; cases h
/-- Two blocks made one behind the other: both stand behind a call. -/
theorem pzTwo {w w1 : World} {A B : Obj} (hb : Below ((w.alloc A).alloc B).heap.size ((w.alloc A).alloc B) w1) :
    w1.heap[w.heap.size]? = some A ∧ w1.heap[w.heap.size + 1]? = some B ∧ Below w.heap.size w w1 := by
  have e0 : ((w.alloc A).alloc B).heap[w.heap.size]? = some A := by
    show ((w.heap.push A).push B)[w.heap.size]? = _
    simp [Array.getElem?_push]
  have e1 : ((w.alloc A).alloc B).heap[w.heap.size + 1]? = some B := by
    have h : (w.heap.push A).size = w.heap.size + 1 := by simp
    show ((w.heap.push A).push B)[w.heap.size + 1]? = _
    rw [← h]; exact Array.getElem?_push_size
  exact ⟨(hb.block _ (pzLt e0)).trans e0, (hb.block _ (pzLt e1)).trans e1, (((Below.refl _ _).alloc (Nat.le_refl _) _).alloc (by simp) _).trans (hb.mono (by simp; omega))⟩

set_option maxHeartbeats 800000 in
theorem impl_with (c v d : Int) (w : World) (c0 : 0 ≤ c) (c1 : c ≤ 5000) (v0 : 0 ≤ v) (v1 : v ≤ 1000000000000000000) (v2 : c + 1 ≤ 18 → v ≤ 100000000000000000) (d0 : 0 ≤ d) (d1 : d ≤ 9) :
    Calls Try.prog 28 #[.agg #[.int .i64 c, .int .i64 v], .int .i64 d] w fun e w' => e = .returned (.agg #[.int .i64 (c + 1), .int .i64 (wiV c v d)]) ∧ Below w.heap.size w w' := by
  by_cases h : c + 1 ≤ 18
  · have hv := v2 h
    have e : wiV c v d = v * 10 + d := by unfold wiV; rw [if_pos h]
    rw [e]
    clear v2 e
    go_enter Try.func28, Try.ntmps28
    go_wp2
    go_returns
    exact ⟨rfl, by (repeat' (first | (with_reducible exact Below.refl _ _) | (with_reducible assumption) | (with_reducible refine Below.setCell ?_ ?_ _) | (with_reducible refine Below.alloc ?_ ?_ _) | (with_reducible refine below_drewN ?_ _) | (with_reducible refine Below.drew ?_) | (with_reducible exact Nat.le_refl _) | omega | (simp; done) | (simp; omega)))⟩
  · have e : wiV c v d = v := by unfold wiV; rw [if_neg h]
    rw [e]
    clear v2 e
    go_enter Try.func28, Try.ntmps28
    go_wp2
    go_returns
    exact ⟨rfl, by (repeat' (first | (with_reducible exact Below.refl _ _) | (with_reducible assumption) | (with_reducible refine Below.setCell ?_ ?_ _) | (with_reducible refine Below.alloc ?_ ?_ _) | (with_reducible refine below_drewN ?_ _) | (with_reducible refine Below.drew ?_) | (with_reducible exact Nat.le_refl _) | omega | (simp; done) | (simp; omega)))⟩

set_option maxHeartbeats 800000 in
theorem impl_complete (x : FSc) (w : World) :
    Calls Try.prog 19 #[fscV x] w fun e w' => e = .returned (.bool (decide (0 < x.tc) && (decide (x.s = 0) || decide (0 < x.bc)))) ∧ Below w.heap.size w w' := by
  obtain ⟨m, s, tc, tv, bc, bv⟩ := x
  unfold fscV
  simp only
  by_cases h1 : 0 < tc <;> by_cases h2 : s = 0 <;> by_cases h3 : 0 < bc
  all_goals
    simp only [h1, h2, h3, decide_true, decide_false, Bool.true_and, Bool.false_and, Bool.or_true, Bool.true_or, Bool.or_false, Bool.false_or]
    try subst h2
    go_enter Try.func19, Try.ntmps19
    go_wp2
    go_returns
    exact ⟨by first | (simp; done) | (simp; omega), by (repeat' (first | (with_reducible exact Below.refl _ _) | (with_reducible assumption) | (with_reducible refine Below.setCell ?_ ?_ _) | (with_reducible refine Below.alloc ?_ ?_ _) | (with_reducible refine below_drewN ?_ _) | (with_reducible refine Below.drew ?_) | (with_reducible exact Nat.le_refl _) | omega | (simp; done) | (simp; omega)))⟩

set_option maxHeartbeats 800000 in
theorem impl_numerator (x : FSc) (w : World) (h0 : 0 ≤ x.tv) (h1 : x.tv ≤ 1000000000000000000) :
    Calls Try.prog 13 #[fscV x] w fun e w' => e = .returned (.int .i64 (if x.m = true then -x.tv else x.tv)) ∧ Below w.heap.size w w' := by
  obtain ⟨m, s, tc, tv, bc, bv⟩ := x
  unfold fscV
  simp only at h0 h1 ⊢
  cases m
  all_goals
    go_enter Try.func13, Try.ntmps13
    go_wp2
    go_returns
    exact ⟨by simp, by (repeat' (first | (with_reducible exact Below.refl _ _) | (with_reducible assumption) | (with_reducible refine Below.setCell ?_ ?_ _) | (with_reducible refine Below.alloc ?_ ?_ _) | (with_reducible refine below_drewN ?_ _) | (with_reducible refine Below.drew ?_) | (with_reducible exact Nat.le_refl _) | omega | (simp; done) | (simp; omega)))⟩

set_option maxHeartbeats 800000 in
theorem impl_denominator (x : FSc) (w : World) :
    Calls Try.prog 14 #[fscV x] w fun e w' => e = .returned (.int .i64 (if x.s = 0 then 1 else x.bv)) ∧ Below w.heap.size w w' := by
  obtain ⟨m, s, tc, tv, bc, bv⟩ := x
  unfold fscV
  simp only
  by_cases h : s = 0
  · rw [if_pos h]
    subst h
    go_enter Try.func14, Try.ntmps14
    go_wp2
    go_returns
    exact ⟨by simp, by (repeat' (first | (with_reducible exact Below.refl _ _) | (with_reducible assumption) | (with_reducible refine Below.setCell ?_ ?_ _) | (with_reducible refine Below.alloc ?_ ?_ _) | (with_reducible refine below_drewN ?_ _) | (with_reducible refine Below.drew ?_) | (with_reducible exact Nat.le_refl _) | omega | (simp; done) | (simp; omega)))⟩
  · rw [if_neg h]
    go_enter Try.func14, Try.ntmps14
    go_wp2
    go_returns
    exact ⟨by simp, by (repeat' (first | (with_reducible exact Below.refl _ _) | (with_reducible assumption) | (with_reducible refine Below.setCell ?_ ?_ _) | (with_reducible refine Below.alloc ?_ ?_ _) | (with_reducible refine below_drewN ?_ _) | (with_reducible refine Below.drew ?_) | (with_reducible exact Nat.le_refl _) | omega | (simp; done) | (simp; omega)))⟩

set_option maxHeartbeats 1600000 in
theorem impl_withDigit (x : FSc) (d : Int) (w : World) (hx : FOk x) (d0 : 0 ≤ d) (d1 : d ≤ 9) :
    Calls Try.prog 25 #[fscV x, .int .i64 d] w fun e w' => e = .returned (fscV (wdF x d)) ∧ Below w.heap.size w w' := by
  obtain ⟨m, s, tc, tv, bc, bv⟩ := x
  have HT := fun w => impl_with tc tv d w hx.tc0 hx.tc1 hx.tv0 hx.tv1 hx.tv2 d0 d1
  have HB := fun w => impl_with bc bv d w hx.bc0 hx.bc1 hx.bv0 hx.bv1 hx.bv2 d0 d1
  clear hx
  unfold fscV wdF
  simp only
  by_cases h : 0 < s
  · rw [if_pos h]
    generalize wiV bc bv d = q at HB ⊢
    have H' : Hid (∀ w, Calls Try.prog 28 #[.agg #[.int .i64 bc, .int .i64 bv], .int .i64 d] w fun e w' => e = .returned (.agg #[.int .i64 (bc + 1), .int .i64 q]) ∧ Below w.heap.size w w') := HB
    clear HT HB
    go_enter Try.func25, Try.ntmps25
    go_wp2_with (fail)
    refine (H'.out _).mono ?_
    rintro e w1 ⟨rfl, hb1⟩
    obtain ⟨hk0, hk1, hB⟩ := pzTwo hb1
    have hB1 : Hid (Below w.heap.size w w1) := hB
    clear hb1 hB
    have c0 := pzCell hk0 0 rfl
    have c1 := pzCell hk0 1 rfl
    have c2 := pzCell hk0 2 rfl
    have c3 := pzCell hk0 3 rfl
    have c4 := pzCell hk0 4 rfl
    have c5 := pzCell hk0 5 rfl
    have e0 := pzCell hk1 0 rfl
    have e1 := pzCell hk1 1 rfl
    have e2 := pzCell hk1 2 rfl
    have e3 := pzCell hk1 3 rfl
    have e4 := pzCell hk1 4 rfl
    have e5 := pzCell hk1 5 rfl
    have f0 := pzFroz hk0
    have f1 := pzFroz hk1
    have l0 := pzLt hk0
    have l1 := pzLt hk1
    clear hk0 hk1
    go_wp2
    refine bodyPost_ret (by simp [results, Try.results25, go_sem, e0, e1, e2, e3, e4, e5, l0, l1]) rfl ⟨rfl, ?_⟩
    have hB : Below w.heap.size w w1 := hB1.out
    clear c0 c1 c2 c3 c4 c5 e0 e1 e2 e3 e4 e5 f0 f1 hB1
    (repeat' (first | (with_reducible exact Below.refl _ _) | (with_reducible assumption) | (with_reducible refine Below.setCell ?_ ?_ _) | (with_reducible refine Below.alloc ?_ ?_ _) | (with_reducible refine below_drewN ?_ _) | (with_reducible refine Below.drew ?_) | (with_reducible exact Nat.le_refl _) | omega | (simp; done) | (simp; omega)))
  · rw [if_neg h]
    generalize wiV tc tv d = q at HT ⊢
    have H' : Hid (∀ w, Calls Try.prog 28 #[.agg #[.int .i64 tc, .int .i64 tv], .int .i64 d] w fun e w' => e = .returned (.agg #[.int .i64 (tc + 1), .int .i64 q]) ∧ Below w.heap.size w w') := HT
    clear HT HB
    go_enter Try.func25, Try.ntmps25
    go_wp2_with (fail)
    refine (H'.out _).mono ?_
    rintro e w1 ⟨rfl, hb1⟩
    obtain ⟨hk0, hk1, hB⟩ := pzTwo hb1
    have hB1 : Hid (Below w.heap.size w w1) := hB
    clear hb1 hB
    have c0 := pzCell hk0 0 rfl
    have c1 := pzCell hk0 1 rfl
    have c2 := pzCell hk0 2 rfl
    have c3 := pzCell hk0 3 rfl
    have c4 := pzCell hk0 4 rfl
    have c5 := pzCell hk0 5 rfl
    have e0 := pzCell hk1 0 rfl
    have e1 := pzCell hk1 1 rfl
    have e2 := pzCell hk1 2 rfl
    have e3 := pzCell hk1 3 rfl
    have e4 := pzCell hk1 4 rfl
    have e5 := pzCell hk1 5 rfl
    have f0 := pzFroz hk0
    have f1 := pzFroz hk1
    have l0 := pzLt hk0
    have l1 := pzLt hk1
    clear hk0 hk1
    go_wp2
    refine bodyPost_ret (by simp [results, Try.results25, go_sem, e0, e1, e2, e3, e4, e5, l0, l1]) rfl ⟨rfl, ?_⟩
    have hB : Below w.heap.size w w1 := hB1.out
    clear c0 c1 c2 c3 c4 c5 e0 e1 e2 e3 e4 e5 f0 f1 hB1
    (repeat' (first | (with_reducible exact Below.refl _ _) | (with_reducible assumption) | (with_reducible refine Below.setCell ?_ ?_ _) | (with_reducible refine Below.alloc ?_ ?_ _) | (with_reducible refine below_drewN ?_ _) | (with_reducible refine Below.drew ?_) | (with_reducible exact Nat.le_refl _) | omega | (simp; done) | (simp; omega)))

/-- One letter: what is told behind it, and does it fit? -/
def tkF (x : FSc) (i r : Int) : FSc := if 48 ≤ r ∧ r ≤ 57 then wdF x (r - 48) else if r = 45 ∧ i = 0 then { x with m := true } else if r = 47 ∧ x.s = 0 ∧ 0 < x.tc then { x with s := i } else x
def tkB (x : FSc) (i r : Int) : Bool := decide ((48 ≤ r ∧ r ≤ 57) ∨ (r = 45 ∧ i = 0) ∨ (r = 47 ∧ x.s = 0 ∧ 0 < x.tc))
set_option maxHeartbeats 1600000 in
theorem impl_take_d (x : FSc) (i r : Int) (w : World) (hx : FOk x) (h1 : 48 ≤ r) (h2 : r ≤ 57) :
    Calls Try.prog 18 #[fscV x, .int .i64 i, .int .i32 r] w fun e w' => e = .returned (.tuple #[fscV (wdF x (r - 48)), .bool true]) ∧ Below w.heap.size w w' := by
  have HW : Hid (∀ (q : Int) w, q = r - 48 → Calls Try.prog 25 #[fscV x, .int .i64 q] w fun e w' => e = .returned (fscV (wdF x (r - 48))) ∧ Below w.heap.size w w') := fun q w hq => by
    subst hq; exact impl_withDigit x _ w hx (by omega) (by omega)
  clear hx
  generalize wdF x (r - 48) = y at HW ⊢
  obtain ⟨m, s, tc, tv, bc, bv⟩ := x
  obtain ⟨m', s', tc', tv', bc', bv'⟩ := y
  unfold fscV at HW ⊢
  simp only at HW ⊢
  go_enter Try.func18, Try.ntmps18
  go_wp2_with (fail)
  refine (HW.out _ _ (by omega)).mono ?_
  rintro e w1 ⟨rfl, hb1⟩
  obtain ⟨hk0, hk1, hB⟩ := pzTwo hb1
  have hB1 : Hid (Below w.heap.size w w1) := hB
  clear hb1 hB
  have e0 := pzCell hk1 0 rfl
  have e1 := pzCell hk1 1 rfl
  have e2 := pzCell hk1 2 rfl
  have e3 := pzCell hk1 3 rfl
  have e4 := pzCell hk1 4 rfl
  have e5 := pzCell hk1 5 rfl
  have f1 := pzFroz hk1
  have l1 := pzLt hk1
  clear hk0 hk1
  go_wp2
  refine bodyPost_ret (by simp [results, Try.results18, go_sem, e0, e1, e2, e3, e4, e5, l1]) rfl ⟨rfl, ?_⟩
  have hB : Below w.heap.size w w1 := hB1.out
  clear e0 e1 e2 e3 e4 e5 f1 hB1
  (repeat' (first | (with_reducible exact Below.refl _ _) | (with_reducible assumption) | (with_reducible refine Below.setCell ?_ ?_ _) | (with_reducible refine Below.alloc ?_ ?_ _) | (with_reducible refine below_drewN ?_ _) | (with_reducible refine Below.drew ?_) | (with_reducible exact Nat.le_refl _) | omega | (simp; done) | (simp; omega)))
set_option maxHeartbeats 1600000 in
theorem impl_take_m (x : FSc) (w : World) :
    Calls Try.prog 18 #[fscV x, .int .i64 0, .int .i32 45] w fun e w' => e = .returned (.tuple #[fscV { x with m := true }, .bool true]) ∧ Below w.heap.size w w' := by
  obtain ⟨m, s, tc, tv, bc, bv⟩ := x
  unfold fscV
  simp only
  go_enter Try.func18, Try.ntmps18
  go_wp2
  go_returns
  exact ⟨by simp, by (repeat' (first | (with_reducible exact Below.refl _ _) | (with_reducible assumption) | (with_reducible refine Below.setCell ?_ ?_ _) | (with_reducible refine Below.alloc ?_ ?_ _) | (with_reducible refine below_drewN ?_ _) | (with_reducible refine Below.drew ?_) | (with_reducible exact Nat.le_refl _) | omega | (simp; done) | (simp; omega)))⟩
set_option maxHeartbeats 1600000 in
theorem impl_take_s (x : FSc) (i : Int) (w : World) (h1 : x.s = 0) (h2 : 0 < x.tc) :
    Calls Try.prog 18 #[fscV x, .int .i64 i, .int .i32 47] w fun e w' => e = .returned (.tuple #[fscV { x with s := i }, .bool true]) ∧ Below w.heap.size w w' := by
  obtain ⟨m, s, tc, tv, bc, bv⟩ := x
  unfold fscV
  simp only at h1 h2 ⊢
  subst h1
  go_enter Try.func18, Try.ntmps18
  go_wp2
  go_returns
  exact ⟨by simp, by (repeat' (first | (with_reducible exact Below.refl _ _) | (with_reducible assumption) | (with_reducible refine Below.setCell ?_ ?_ _) | (with_reducible refine Below.alloc ?_ ?_ _) | (with_reducible refine below_drewN ?_ _) | (with_reducible refine Below.drew ?_) | (with_reducible exact Nat.le_refl _) | omega | (simp; done) | (simp; omega)))⟩
set_option maxHeartbeats 1600000 in
theorem impl_take_no (x : FSc) (i r : Int) (w : World) (h1 : ¬ (48 ≤ r ∧ r ≤ 57)) (h2 : ¬ (r = 45 ∧ i = 0)) (h3 : ¬ (r = 47 ∧ x.s = 0 ∧ 0 < x.tc)) :
    Calls Try.prog 18 #[fscV x, .int .i64 i, .int .i32 r] w fun e w' => e = .returned (.tuple #[fscV x, .bool false]) ∧ Below w.heap.size w w' := by
  obtain ⟨m, s, tc, tv, bc, bv⟩ := x
  unfold fscV
  simp only at h3 ⊢
  by_cases a : 48 ≤ r <;> by_cases b : r = 45 <;> by_cases c : r = 47 <;> by_cases d : s = 0
  all_goals try (exfalso; omega)
  all_goals
    have g1 : r ≤ 57 ∨ 57 < r := by omega
    have g2 : i = 0 ∨ ¬ i = 0 := by omega
    have g3 : 0 < tc ∨ tc ≤ 0 := by omega
    rcases g1 with g1 | g1 <;> rcases g2 with g2 | g2 <;> rcases g3 with g3 | g3
  all_goals try (exfalso; omega)
  all_goals clear h1 h2 h3
  all_goals
    try subst b
    try subst c
    try subst d
    try subst g2
    go_enter Try.func18, Try.ntmps18
    go_wp2
    go_returns
    exact ⟨by simp, by (repeat' (first | (with_reducible exact Below.refl _ _) | (with_reducible assumption) | (with_reducible refine Below.setCell ?_ ?_ _) | (with_reducible refine Below.alloc ?_ ?_ _) | (with_reducible refine below_drewN ?_ _) | (with_reducible refine Below.drew ?_) | (with_reducible exact Nat.le_refl _) | omega | (simp; done) | (simp; omega)))⟩

end Go.Proofs.Ytcojhkpdlmldcaa
