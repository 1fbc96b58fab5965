/- Proved here: what the laws' package's small functions on boxes on layers and on places do (hand one on, copy a list, compare). -/
import Derived.Test.YtafghanpfnhkpaaDoorPlBase
import Derived.Test.YtafghanpfnhkpaaDoorGen
import Derived.Test.YtafghanpfnhkpaaDoorBoxBase
import Derived.OpenShut
import Derived.Lib.SmallJoins
namespace Go.Proofs.YtafghanpfnhkpaaDoor
open Go.ChangeShapes Go.WideShapes Go.ChangeAt Go.RowKit Go.Joins
set_option linter.unusedVariables false
set_option linter.unusedSimpArgs false


theorem heap_alloc_at1 (w : World) (a b : Obj) : ((w.alloc a).alloc b).heap[w.heap.size + 1]? = some b := by have := heap_alloc_new (w.alloc a) b; simpa using this
theorem heap_alloc_at2 (w : World) (a b c : Obj) : (((w.alloc a).alloc b).alloc c).heap[w.heap.size + 2]? = some c := by have := heap_alloc_new ((w.alloc a).alloc b) c; simpa using this
theorem three_at {w : World} {k : Nat} {a b c : Value} {T : TypeId} (h : w.heap[k]? = some (.cells #[a, b, c] T)) :
    w.cell? ⟨k, 0, none⟩ = some a ∧ w.cell? ⟨k, 1, none⟩ = some b ∧ w.cell? ⟨k, 2, none⟩ = some c ∧ k < w.heap.size := by
  refine ⟨by simp [World.cell?, h], by simp [World.cell?, h], by simp [World.cell?, h], ?_⟩
  rcases Nat.lt_or_ge k w.heap.size with h' | h'
  · exact h'
  · rw [Array.getElem?_eq_none h'] at h; cases h
theorem five_at {w : World} {k : Nat} {a b c d e : Value} {T : TypeId} (h : w.heap[k]? = some (.cells #[a, b, c, d, e] T)) :
    w.cell? ⟨k, 0, none⟩ = some a ∧ w.cell? ⟨k, 1, none⟩ = some b ∧ w.cell? ⟨k, 2, none⟩ = some c ∧ w.cell? ⟨k, 3, none⟩ = some d ∧ w.cell? ⟨k, 4, none⟩ = some e ∧ (∀ i, w.frozen? ⟨k, i, none⟩ = false) ∧ k < w.heap.size := by
  refine ⟨by simp [World.cell?, h], by simp [World.cell?, h], by simp [World.cell?, h], by simp [World.cell?, h], by simp [World.cell?, h], fun i => by simp [World.frozen?, h], ?_⟩
  rcases Nat.lt_or_ge k w.heap.size with h' | h'
  · exact h'
  · rw [Array.getElem?_eq_none h'] at h; cases h

set_option maxHeartbeats 1600000 in
theorem toBox_any (x : Bx) (w : World) :
    Calls Tryd.prog 48 #[.agg #[.int .i64 x.x0, .int .i64 x.y0, .int .i64 x.x1, .int .i64 x.y1]] w fun e w' => e = .returned (.agg #[.int .i64 x.x0, .int .i64 x.y0, .int .i64 x.x1, .int .i64 x.y1]) ∧ Below w.heap.size w w' := by
  go_enter Tryd.func48, Tryd.ntmps48
  go_wp2
  go_returns
  exact ⟨rfl, by (repeat' (first | (with_reducible exact Below.refl _ _) | (with_reducible assumption) | (with_reducible refine Below.setCell ?_ ?_ _) | (with_reducible refine Below.alloc ?_ ?_ _) | (with_reducible refine below_drewN ?_ _) | (with_reducible refine Below.drew ?_) | (with_reducible exact Nat.le_refl _) | omega | (simp; done) | (simp; omega)))⟩

set_option maxHeartbeats 1600000 in
theorem eqBox_same (x : Bx) (w : World) :
    Calls Tryd.prog 55 #[.agg #[.int .i64 x.x0, .int .i64 x.y0, .int .i64 x.x1, .int .i64 x.y1], .agg #[.int .i64 x.x0, .int .i64 x.y0, .int .i64 x.x1, .int .i64 x.y1]] w fun e w' => e = .returned (.bool true) ∧ Below w.heap.size w w' := by
  go_enter Tryd.func55, Tryd.ntmps55
  go_wp2
  go_returns
  exact ⟨rfl, by (repeat' (first | (with_reducible exact Below.refl _ _) | (with_reducible assumption) | (with_reducible refine Below.setCell ?_ ?_ _) | (with_reducible refine Below.alloc ?_ ?_ _) | (with_reducible refine below_drewN ?_ _) | (with_reducible refine Below.drew ?_) | (with_reducible exact Nat.le_refl _) | omega | (simp; done) | (simp; omega)))⟩

def lbC (x : Lb) : List Value := [.int .i64 x.l, .int .i64 x.b.x0, .int .i64 x.b.y0, .int .i64 x.b.x1, .int .i64 x.b.y1]
theorem lbC_len (x : Lb) : (lbC x).length = 5 := rfl
theorem lbC_one (x : Lb) : ∀ u ∈ lbC x, u.oneCell' = true := by
  intro u hu
  simp only [lbC, List.mem_cons, List.not_mem_nil, or_false] at hu
  rcases hu with rfl | rfl | rfl | rfl | rfl <;> rfl
theorem info_LBox : (Tryd.prog.info? 42).map (fun i => (i.zero, i.size, i.bytes)) = some (some (.agg #[.int .i64 0, .int .i64 0, .int .i64 0, .int .i64 0, .int .i64 0]), 5, 40) := by kernel_rfl
/-- The cells of an element, one by one. -/
theorem lbC_at {w : World} {g o : Nat} {x : Lb} (h : ∀ i, i < 5 → w.cell? ⟨g, o + i, none⟩ = (lbC x)[i]?) : w.cell? ⟨g, o, none⟩ = some (.int .i64 x.l) ∧ w.cell? ⟨g, o + 1, none⟩ = some (.int .i64 x.b.x0) ∧ w.cell? ⟨g, o + 2, none⟩ = some (.int .i64 x.b.y0) ∧ w.cell? ⟨g, o + 3, none⟩ = some (.int .i64 x.b.x1) ∧ w.cell? ⟨g, o + 4, none⟩ = some (.int .i64 x.b.y1) :=
  ⟨h 0 (by omega), h 1 (by omega), h 2 (by omega), h 3 (by omega), h 4 (by omega)⟩

set_option maxHeartbeats 1600000 in
theorem toLBox_any (x : Lb) (w : World) :
    Calls Tryd.prog 36 #[.agg #[.int .i64 x.l, .int .i64 x.b.x0, .int .i64 x.b.y0, .int .i64 x.b.x1, .int .i64 x.b.y1]] w fun e w' => e = .returned (.agg #[.int .i64 x.l, .int .i64 x.b.x0, .int .i64 x.b.y0, .int .i64 x.b.x1, .int .i64 x.b.y1]) ∧ Below w.heap.size w w' := by
  go_enter Tryd.func36, Tryd.ntmps36
  go_wp2_with (fail)
  refine (toBox_any x.b _).mono ?_
  rintro e w1 ⟨rfl, hb1⟩
  have g1 := (hb1.block (w.heap.size + 1) (by simp)).trans ((Below.heap_alloc _ _ _ (by simp)).trans (heap_alloc_at1 w _ _))
  have g2 := (hb1.block (w.heap.size + 2) (by simp)).trans (heap_alloc_at2 w _ _ _)
  have hb : Below w.heap.size w w1 := (show Below w.heap.size w _ from by (repeat' (first | (with_reducible exact Below.refl _ _) | (with_reducible assumption) | (with_reducible refine Below.setCell ?_ ?_ _) | (with_reducible refine Below.alloc ?_ ?_ _) | (with_reducible refine below_drewN ?_ _) | (with_reducible refine Below.drew ?_) | (with_reducible exact Nat.le_refl _) | omega | (simp; done) | (simp; omega)))).trans (hb1.mono (by simp; omega))
  clear hb1
  obtain ⟨p0, p1, p2, p3, p4, pf, pl⟩ := five_at g1
  obtain ⟨q0, q1, q2, q3, q4, qf, ql⟩ := five_at g2
  have pf0 := pf 0
  have pf1 := pf 1
  have pf2 := pf 2
  have pf3 := pf 3
  have pf4 := pf 4
  have qf1 := qf 1
  have qf2 := qf 2
  have qf3 := qf 3
  have qf4 := qf 4
  clear pf qf g1 g2
  go_wp2
  refine bodyPost_ret (by simp [results, Tryd.results36, go_sem, *]) rfl ⟨rfl, by (repeat' (first | (with_reducible exact Below.refl _ _) | (with_reducible assumption) | (with_reducible refine Below.setCell ?_ ?_ _) | (with_reducible refine Below.alloc ?_ ?_ _) | (with_reducible refine below_drewN ?_ _) | (with_reducible refine Below.drew ?_) | (with_reducible exact Nat.le_refl _) | omega | (simp; done) | (simp; omega)))⟩

set_option maxHeartbeats 1600000 in
theorem eqLBox_same (x : Lb) (w : World) :
    Calls Tryd.prog 44 #[.agg #[.int .i64 x.l, .int .i64 x.b.x0, .int .i64 x.b.y0, .int .i64 x.b.x1, .int .i64 x.b.y1], .agg #[.int .i64 x.l, .int .i64 x.b.x0, .int .i64 x.b.y0, .int .i64 x.b.x1, .int .i64 x.b.y1]] w fun e w' => e = .returned (.bool true) ∧ Below w.heap.size w w' := by
  go_enter Tryd.func44, Tryd.ntmps44
  go_wp2_with (fail)
  refine (eqBox_same x.b _).mono ?_
  rintro e w1 ⟨rfl, hb1⟩
  have hb : Hid (Below w.heap.size w w1) := Below.trans (by (repeat' (first | (with_reducible exact Below.refl _ _) | (with_reducible assumption) | (with_reducible refine Below.setCell ?_ ?_ _) | (with_reducible refine Below.alloc ?_ ?_ _) | (with_reducible refine below_drewN ?_ _) | (with_reducible refine Below.drew ?_) | (with_reducible exact Nat.le_refl _) | omega | (simp; done) | (simp; omega)))) (hb1.mono (by simp; omega))
  clear hb1
  go_wp2
  go_returns
  exact ⟨rfl, hb.out⟩

def plC (x : Pl) : List Value := [.string x.c, .int .i64 x.x, .int .i64 x.y, .int .i64 x.t, .bool x.f, .int .i64 x.nx, .int .i64 x.ny, .int .i64 x.dx, .int .i64 x.dy]
theorem plC_len (x : Pl) : (plC x).length = 9 := rfl
theorem plC_one (x : Pl) : ∀ u ∈ plC x, u.oneCell' = true := by
  intro u hu
  simp only [plC, List.mem_cons, List.not_mem_nil, or_false] at hu
  rcases hu with rfl | rfl | rfl | rfl | rfl | rfl | rfl | rfl | rfl <;> rfl
theorem info_Place : (Tryd.prog.info? 45).map (fun i => (i.zero, i.size, i.bytes)) = some (some (.agg #[.string ByteArray.empty, .int .i64 0, .int .i64 0, .int .i64 0, .bool false, .int .i64 0, .int .i64 0, .int .i64 0, .int .i64 0]), 9, 80) := by kernel_rfl
/-- The cells of an element, one by one. -/
theorem plC_at {w : World} {g o : Nat} {x : Pl} (h : ∀ i, i < 9 → w.cell? ⟨g, o + i, none⟩ = (plC x)[i]?) : w.cell? ⟨g, o, none⟩ = some (.string x.c) ∧ w.cell? ⟨g, o + 1, none⟩ = some (.int .i64 x.x) ∧ w.cell? ⟨g, o + 2, none⟩ = some (.int .i64 x.y) ∧ w.cell? ⟨g, o + 3, none⟩ = some (.int .i64 x.t) ∧ w.cell? ⟨g, o + 4, none⟩ = some (.bool x.f) ∧ w.cell? ⟨g, o + 5, none⟩ = some (.int .i64 x.nx) ∧ w.cell? ⟨g, o + 6, none⟩ = some (.int .i64 x.ny) ∧ w.cell? ⟨g, o + 7, none⟩ = some (.int .i64 x.dx) ∧ w.cell? ⟨g, o + 8, none⟩ = some (.int .i64 x.dy) :=
  ⟨h 0 (by omega), h 1 (by omega), h 2 (by omega), h 3 (by omega), h 4 (by omega), h 5 (by omega), h 6 (by omega), h 7 (by omega), h 8 (by omega)⟩

set_option maxHeartbeats 1600000 in
theorem toPlace_any (x : Pl) (w : World) :
    Calls Tryd.prog 37 #[.agg #[.string x.c, .int .i64 x.x, .int .i64 x.y, .int .i64 x.t, .bool x.f, .int .i64 x.nx, .int .i64 x.ny, .int .i64 x.dx, .int .i64 x.dy]] w fun e w' => e = .returned (.agg #[.string x.c, .int .i64 x.x, .int .i64 x.y, .int .i64 x.t, .bool x.f, .int .i64 x.nx, .int .i64 x.ny, .int .i64 x.dx, .int .i64 x.dy]) ∧ Below w.heap.size w w' := by
  go_enter Tryd.func37, Tryd.ntmps37
  go_wp2
  go_returns
  exact ⟨rfl, by (repeat' (first | (with_reducible exact Below.refl _ _) | (with_reducible assumption) | (with_reducible refine Below.setCell ?_ ?_ _) | (with_reducible refine Below.alloc ?_ ?_ _) | (with_reducible refine below_drewN ?_ _) | (with_reducible refine Below.drew ?_) | (with_reducible exact Nat.le_refl _) | omega | (simp; done) | (simp; omega)))⟩

set_option maxHeartbeats 1600000 in
theorem eqPlace_same (x : Pl) (w : World) :
    Calls Tryd.prog 45 #[.agg #[.string x.c, .int .i64 x.x, .int .i64 x.y, .int .i64 x.t, .bool x.f, .int .i64 x.nx, .int .i64 x.ny, .int .i64 x.dx, .int .i64 x.dy], .agg #[.string x.c, .int .i64 x.x, .int .i64 x.y, .int .i64 x.t, .bool x.f, .int .i64 x.nx, .int .i64 x.ny, .int .i64 x.dx, .int .i64 x.dy]] w fun e w' => e = .returned (.bool true) ∧ Below w.heap.size w w' := by
  go_enter Tryd.func45, Tryd.ntmps45
  go_wp2
  go_returns
  exact ⟨rfl, by (repeat' (first | (with_reducible exact Below.refl _ _) | (with_reducible assumption) | (with_reducible refine Below.setCell ?_ ?_ _) | (with_reducible refine Below.alloc ?_ ?_ _) | (with_reducible refine below_drewN ?_ _) | (with_reducible refine Below.drew ?_) | (with_reducible exact Nat.le_refl _) | omega | (simp; done) | (simp; omega)))⟩

set_option maxRecDepth 10000 in
set_option maxHeartbeats 3200000 in
theorem toLBoxS_any {w : World} {v : Value} {s : List Lb} (hn : s.length ≤ 1048576) (h : RG 5 lbC w v s) :
    Calls Tryd.prog 23 #[v] w fun e w' => ∃ g, e = .returned (.slice (some ⟨g, 0, none⟩) s.length s.length) ∧ OG 42 5 lbC w' w.heap.size (.slice (some ⟨g, 0, none⟩) s.length s.length) s ∧ Below w.heap.size w w' := by
  obtain ⟨a, c, rfl⟩ := h.form
  have H : Hid (RG 5 lbC w (.slice a s.length c) s) := h
  clear h
  obtain ⟨i0, hi, hz0, hz1, hz2⟩ := info_parts info_LBox
  obtain ⟨n, hnn⟩ : ∃ n, n = s.length := ⟨_, rfl⟩
  have HN : Hid (n = s.length) := hnn
  rw [← hnn] at hn H ⊢
  clear hnn
  go_enter Tryd.func23, Tryd.ntmps23
  go_wp2_with (at_make; refine wpList_make_full _ rfl _ _ 35 rfl w.heap.size 42 i0 (.agg #[.int .i64 0, .int .i64 0, .int .i64 0, .int .i64 0, .int .i64 0]) 5 Tryd.underlying35 hi hz0 hz1 _ _ _ _ n rfl rfl rfl rfl (by rw [hz2]; omega) (by unfold maxLen; omega) (Nat.le_refl _) ?_; intro w2 hown2 hgrow2)
  have hb2 : Below w.heap.size w w2 := (Below.refl _ _).grown hgrow2 (Nat.le_refl _) (fun k h => by cases h)
  have HS : Hid (Fill 42 5 lbC w2 w.heap.size w.heap.size n s 0 ∧ Below w.heap.size w w2) := ⟨⟨_, hown2, fun t ht => by omega⟩, hb2⟩
  clear hown2 hgrow2 hb2
  go_loopw [4] (fun i wr => ∃ j : Nat, j ≤ n ∧ i = .int .i64 j ∧ Hid (Fill 42 5 lbC wr w.heap.size w.heap.size n s j ∧ Below w.heap.size w wr)) (fun i _ => n - (intOf i).toNat)
  case atStart => exact ⟨0, Nat.zero_le _, rfl, HS.out⟩
  case round =>
    clear HS
    obtain ⟨j, hjn, rfl, hR⟩ := hrel
    by_cases hlt : j < n
    · have hjl : j < s.length := by rw [← HN.out]; exact hlt
      obtain ⟨g, o, c2, he, hg, hj⟩ := (H.out.below hR.out.2).pos (by rw [← HN.out]; omega)
      simp only [Value.slice.injEq] at he
      obtain ⟨rfl, hx1, hx2⟩ := he
      clear hx1 hx2
      obtain ⟨c0, c1, c2, c3, c4⟩ := lbC_at (hj j hjl)
      obtain ⟨x, hx⟩ : ∃ x, x = s[j] := ⟨_, rfl⟩
      rw [← hx] at c0 c1 c2 c3 c4
      have HX : Hid (x = s[j]) := hx
      clear hx hj
      have b0 : (0 : Int) ≤ (j : Int) := by omega
      have b1 : (j : Int) < (n : Int) := by omega
      go_wp2_with (fail)
      refine (toLBox_any x _).mono ?_
      rintro e w3 ⟨rfl, hb3⟩
      have hF3 := hR.out.1.below hb3
      have hbl3 : Below w.heap.size w w3 := hR.out.2.trans (hb3.mono hR.out.2.size)
      obtain ⟨⟨u0, g0⟩, f0⟩ := hF3.there (j * 5) (by omega)
      obtain ⟨⟨u1, g1⟩, f1⟩ := hF3.there (j * 5 + 1) (by omega)
      obtain ⟨⟨u2, g2⟩, f2⟩ := hF3.there (j * 5 + 2) (by omega)
      obtain ⟨⟨u3, g3⟩, f3⟩ := hF3.there (j * 5 + 3) (by omega)
      obtain ⟨⟨u4, g4⟩, f4⟩ := hF3.there (j * 5 + 4) (by omega)
      have HP : Hid (Fill 42 5 lbC ((((((w3.setCell ⟨w.heap.size, j * 5, none⟩ (.int .i64 x.l)).setCell ⟨w.heap.size, j * 5 + 1, none⟩ (.int .i64 x.b.x0)).setCell ⟨w.heap.size, j * 5 + 2, none⟩ (.int .i64 x.b.y0)).setCell ⟨w.heap.size, j * 5 + 3, none⟩ (.int .i64 x.b.x1)).setCell ⟨w.heap.size, j * 5 + 4, none⟩ (.int .i64 x.b.y1))) w.heap.size w.heap.size n s (j + 1) ∧ Below w.heap.size w ((((((w3.setCell ⟨w.heap.size, j * 5, none⟩ (.int .i64 x.l)).setCell ⟨w.heap.size, j * 5 + 1, none⟩ (.int .i64 x.b.x0)).setCell ⟨w.heap.size, j * 5 + 2, none⟩ (.int .i64 x.b.y0)).setCell ⟨w.heap.size, j * 5 + 3, none⟩ (.int .i64 x.b.x1)).setCell ⟨w.heap.size, j * 5 + 4, none⟩ (.int .i64 x.b.y1)))) := by
        have h1 := hF3.put lbC_len HN.out hjl
        rw [← HX.out] at h1
        exact ⟨h1, puts_below hbl3 (Nat.le_refl _) (lbC x) 0⟩
      clear hF3 hbl3 hb3 hR c0 c1 c2 c3 c4
      go_wp2
      go_roundw
      case rel => exact ⟨j + 1, by omega, by go_num, HP.out⟩
      case measure => simp [intOf]; omega
    · have HD : Hid (OG 42 5 lbC wr w.heap.size (.slice (some ⟨w.heap.size, 0, none⟩) n n) s ∧ Below w.heap.size w wr) := ⟨hR.out.1.done lbC_len HN.out (by rw [← HN.out]; omega), hR.out.2⟩
      clear hR
      go_wp2
      go_returns
      exact ⟨w.heap.size, rfl, HD.out.1, HD.out.2⟩

set_option maxHeartbeats 1600000 in
theorem eqLBoxS_same {w : World} {va vb : Value} {s : List Lb} (hn : s.length ≤ 1099511627776) (ha : RG 5 lbC w va s) (hb : RG 5 lbC w vb s) :
    Calls Tryd.prog 28 #[va, vb] w fun e w' => e = .returned (.bool true) ∧ Below w.heap.size w w' := by
  obtain ⟨a1, c1', rfl⟩ := ha.form
  obtain ⟨a2, c2', rfl⟩ := hb.form
  obtain ⟨n, hnn⟩ : ∃ n, n = s.length := ⟨_, rfl⟩
  rw [← hnn] at hn ha hb ⊢
  have H : Hid (RG 5 lbC w (.slice a1 n c1') s ∧ RG 5 lbC w (.slice a2 n c2') s ∧ n = s.length) := ⟨ha, hb, hnn⟩
  clear ha hb hnn
  go_enter Tryd.func28, Tryd.ntmps28
  go_wp2
  go_loopw [5] (fun i wr => ∃ j : Nat, j ≤ n ∧ i = .int .i64 j ∧ Hid (Below w.heap.size w wr)) (fun i _ => n - (intOf i).toNat)
  case atStart => exact ⟨0, Nat.zero_le _, rfl, Below.refl _ _⟩
  case round =>
    obtain ⟨j, hjn, rfl, hR⟩ := hrel
    by_cases hlt : j < n
    · have hjl : j < s.length := by rw [← H.out.2.2]; exact hlt
      obtain ⟨g, o, d1, he, hg, hj⟩ := (H.out.1.below hR.out).pos (by rw [← H.out.2.2]; omega)
      simp only [Value.slice.injEq] at he
      obtain ⟨rfl, hx1, hx2⟩ := he
      obtain ⟨g', o', d2, he', hg', hj'⟩ := (H.out.2.1.below hR.out).pos (by rw [← H.out.2.2]; omega)
      simp only [Value.slice.injEq] at he'
      obtain ⟨rfl, hx3, hx4⟩ := he'
      clear hx1 hx2 hx3 hx4
      obtain ⟨c0, c1, c2, c3, c4⟩ := lbC_at (hj j hjl)
      obtain ⟨e0, e1, e2, e3, e4⟩ := lbC_at (hj' j hjl)
      obtain ⟨x, hx⟩ : ∃ x, x = s[j] := ⟨_, rfl⟩
      rw [← hx] at c0 c1 c2 c3 c4 e0 e1 e2 e3 e4
      have hcall : Hid (∀ W, Calls Tryd.prog 44 #[.agg #[.int .i64 x.l, .int .i64 x.b.x0, .int .i64 x.b.y0, .int .i64 x.b.x1, .int .i64 x.b.y1], .agg #[.int .i64 x.l, .int .i64 x.b.x0, .int .i64 x.b.y0, .int .i64 x.b.x1, .int .i64 x.b.y1]] W fun e w' => e = .returned (.bool true) ∧ Below W.heap.size W w') := eqLBox_same x
      clear hx hj hj'
      have b0 : (0 : Int) ≤ (j : Int) := by omega
      have b1 : (j : Int) < (n : Int) := by omega
      go_wp2_with (fail)
      (refine wp_region_und (by kernel_rfl) (by kernel_rfl) (fun hund => ?_); (repeat (go_big_quiet_step (first | (go_at_call 44; with_reducible refine und_call ?_ (hcall.out _); exact Nat.le_refl _)))); with_reducible refine wpQuiet_nil ?_; clear hund; intro W1 hb1; obtain ⟨hc1, hf1⟩ := undcell hb1)
      have HB : Hid (Below w.heap.size w W1) := hR.out.trans (hb1.mono hR.out.size)
      clear hb1 hc1 hf1
      go_wp2
      go_roundw
      case rel => exact ⟨j + 1, by omega, by go_num, HB.out⟩
      case measure => simp [intOf]; omega
    · go_wp2
      go_returns
      exact ⟨rfl, hR.out⟩

set_option maxRecDepth 10000 in
set_option maxHeartbeats 3200000 in
theorem toPlaceS_any {w : World} {v : Value} {s : List Pl} (hn : s.length ≤ 1048576) (h : RG 9 plC w v s) :
    Calls Tryd.prog 24 #[v] w fun e w' => ∃ g, e = .returned (.slice (some ⟨g, 0, none⟩) s.length s.length) ∧ OG 45 9 plC w' w.heap.size (.slice (some ⟨g, 0, none⟩) s.length s.length) s ∧ Below w.heap.size w w' := by
  obtain ⟨a, c, rfl⟩ := h.form
  have H : Hid (RG 9 plC w (.slice a s.length c) s) := h
  clear h
  obtain ⟨i0, hi, hz0, hz1, hz2⟩ := info_parts info_Place
  obtain ⟨n, hnn⟩ : ∃ n, n = s.length := ⟨_, rfl⟩
  have HN : Hid (n = s.length) := hnn
  rw [← hnn] at hn H ⊢
  clear hnn
  go_enter Tryd.func24, Tryd.ntmps24
  go_wp2_with (at_make; refine wpList_make_full _ rfl _ _ 36 rfl w.heap.size 45 i0 (.agg #[.string ByteArray.empty, .int .i64 0, .int .i64 0, .int .i64 0, .bool false, .int .i64 0, .int .i64 0, .int .i64 0, .int .i64 0]) 9 Tryd.underlying36 hi hz0 hz1 _ _ _ _ n rfl rfl rfl rfl (by rw [hz2]; omega) (by unfold maxLen; omega) (Nat.le_refl _) ?_; intro w2 hown2 hgrow2)
  have hb2 : Below w.heap.size w w2 := (Below.refl _ _).grown hgrow2 (Nat.le_refl _) (fun k h => by cases h)
  have HS : Hid (Fill 45 9 plC w2 w.heap.size w.heap.size n s 0 ∧ Below w.heap.size w w2) := ⟨⟨_, hown2, fun t ht => by omega⟩, hb2⟩
  clear hown2 hgrow2 hb2
  go_loopw [4] (fun i wr => ∃ j : Nat, j ≤ n ∧ i = .int .i64 j ∧ Hid (Fill 45 9 plC wr w.heap.size w.heap.size n s j ∧ Below w.heap.size w wr)) (fun i _ => n - (intOf i).toNat)
  case atStart => exact ⟨0, Nat.zero_le _, rfl, HS.out⟩
  case round =>
    clear HS
    obtain ⟨j, hjn, rfl, hR⟩ := hrel
    by_cases hlt : j < n
    · have hjl : j < s.length := by rw [← HN.out]; exact hlt
      obtain ⟨g, o, c2, he, hg, hj⟩ := (H.out.below hR.out.2).pos (by rw [← HN.out]; omega)
      simp only [Value.slice.injEq] at he
      obtain ⟨rfl, hx1, hx2⟩ := he
      clear hx1 hx2
      obtain ⟨c0, c1, c2, c3, c4, c5, c6, c7, c8⟩ := plC_at (hj j hjl)
      obtain ⟨x, hx⟩ : ∃ x, x = s[j] := ⟨_, rfl⟩
      rw [← hx] at c0 c1 c2 c3 c4 c5 c6 c7 c8
      have HX : Hid (x = s[j]) := hx
      clear hx hj
      have b0 : (0 : Int) ≤ (j : Int) := by omega
      have b1 : (j : Int) < (n : Int) := by omega
      go_wp2_with (fail)
      refine (toPlace_any x _).mono ?_
      rintro e w3 ⟨rfl, hb3⟩
      have hF3 := hR.out.1.below hb3
      have hbl3 : Below w.heap.size w w3 := hR.out.2.trans (hb3.mono hR.out.2.size)
      obtain ⟨⟨u0, g0⟩, f0⟩ := hF3.there (j * 9) (by omega)
      obtain ⟨⟨u1, g1⟩, f1⟩ := hF3.there (j * 9 + 1) (by omega)
      obtain ⟨⟨u2, g2⟩, f2⟩ := hF3.there (j * 9 + 2) (by omega)
      obtain ⟨⟨u3, g3⟩, f3⟩ := hF3.there (j * 9 + 3) (by omega)
      obtain ⟨⟨u4, g4⟩, f4⟩ := hF3.there (j * 9 + 4) (by omega)
      obtain ⟨⟨u5, g5⟩, f5⟩ := hF3.there (j * 9 + 5) (by omega)
      obtain ⟨⟨u6, g6⟩, f6⟩ := hF3.there (j * 9 + 6) (by omega)
      obtain ⟨⟨u7, g7⟩, f7⟩ := hF3.there (j * 9 + 7) (by omega)
      obtain ⟨⟨u8, g8⟩, f8⟩ := hF3.there (j * 9 + 8) (by omega)
      have HP : Hid (Fill 45 9 plC ((((((((((w3.setCell ⟨w.heap.size, j * 9, none⟩ (.string x.c)).setCell ⟨w.heap.size, j * 9 + 1, none⟩ (.int .i64 x.x)).setCell ⟨w.heap.size, j * 9 + 2, none⟩ (.int .i64 x.y)).setCell ⟨w.heap.size, j * 9 + 3, none⟩ (.int .i64 x.t)).setCell ⟨w.heap.size, j * 9 + 4, none⟩ (.bool x.f)).setCell ⟨w.heap.size, j * 9 + 5, none⟩ (.int .i64 x.nx)).setCell ⟨w.heap.size, j * 9 + 6, none⟩ (.int .i64 x.ny)).setCell ⟨w.heap.size, j * 9 + 7, none⟩ (.int .i64 x.dx)).setCell ⟨w.heap.size, j * 9 + 8, none⟩ (.int .i64 x.dy))) w.heap.size w.heap.size n s (j + 1) ∧ Below w.heap.size w ((((((((((w3.setCell ⟨w.heap.size, j * 9, none⟩ (.string x.c)).setCell ⟨w.heap.size, j * 9 + 1, none⟩ (.int .i64 x.x)).setCell ⟨w.heap.size, j * 9 + 2, none⟩ (.int .i64 x.y)).setCell ⟨w.heap.size, j * 9 + 3, none⟩ (.int .i64 x.t)).setCell ⟨w.heap.size, j * 9 + 4, none⟩ (.bool x.f)).setCell ⟨w.heap.size, j * 9 + 5, none⟩ (.int .i64 x.nx)).setCell ⟨w.heap.size, j * 9 + 6, none⟩ (.int .i64 x.ny)).setCell ⟨w.heap.size, j * 9 + 7, none⟩ (.int .i64 x.dx)).setCell ⟨w.heap.size, j * 9 + 8, none⟩ (.int .i64 x.dy)))) := by
        have h1 := hF3.put plC_len HN.out hjl
        rw [← HX.out] at h1
        exact ⟨h1, puts_below hbl3 (Nat.le_refl _) (plC x) 0⟩
      clear hF3 hbl3 hb3 hR c0 c1 c2 c3 c4 c5 c6 c7 c8
      go_wp2
      go_roundw
      case rel => exact ⟨j + 1, by omega, by go_num, HP.out⟩
      case measure => simp [intOf]; omega
    · have HD : Hid (OG 45 9 plC wr w.heap.size (.slice (some ⟨w.heap.size, 0, none⟩) n n) s ∧ Below w.heap.size w wr) := ⟨hR.out.1.done plC_len HN.out (by rw [← HN.out]; omega), hR.out.2⟩
      clear hR
      go_wp2
      go_returns
      exact ⟨w.heap.size, rfl, HD.out.1, HD.out.2⟩

set_option maxHeartbeats 1600000 in
theorem eqPlaceS_same {w : World} {va vb : Value} {s : List Pl} (hn : s.length ≤ 1099511627776) (ha : RG 9 plC w va s) (hb : RG 9 plC w vb s) :
    Calls Tryd.prog 29 #[va, vb] w fun e w' => e = .returned (.bool true) ∧ Below w.heap.size w w' := by
  obtain ⟨a1, c1', rfl⟩ := ha.form
  obtain ⟨a2, c2', rfl⟩ := hb.form
  obtain ⟨n, hnn⟩ : ∃ n, n = s.length := ⟨_, rfl⟩
  rw [← hnn] at hn ha hb ⊢
  have H : Hid (RG 9 plC w (.slice a1 n c1') s ∧ RG 9 plC w (.slice a2 n c2') s ∧ n = s.length) := ⟨ha, hb, hnn⟩
  clear ha hb hnn
  go_enter Tryd.func29, Tryd.ntmps29
  go_wp2
  go_loopw [5] (fun i wr => ∃ j : Nat, j ≤ n ∧ i = .int .i64 j ∧ Hid (Below w.heap.size w wr)) (fun i _ => n - (intOf i).toNat)
  case atStart => exact ⟨0, Nat.zero_le _, rfl, Below.refl _ _⟩
  case round =>
    obtain ⟨j, hjn, rfl, hR⟩ := hrel
    by_cases hlt : j < n
    · have hjl : j < s.length := by rw [← H.out.2.2]; exact hlt
      obtain ⟨g, o, d1, he, hg, hj⟩ := (H.out.1.below hR.out).pos (by rw [← H.out.2.2]; omega)
      simp only [Value.slice.injEq] at he
      obtain ⟨rfl, hx1, hx2⟩ := he
      obtain ⟨g', o', d2, he', hg', hj'⟩ := (H.out.2.1.below hR.out).pos (by rw [← H.out.2.2]; omega)
      simp only [Value.slice.injEq] at he'
      obtain ⟨rfl, hx3, hx4⟩ := he'
      clear hx1 hx2 hx3 hx4
      obtain ⟨c0, c1, c2, c3, c4, c5, c6, c7, c8⟩ := plC_at (hj j hjl)
      obtain ⟨e0, e1, e2, e3, e4, e5, e6, e7, e8⟩ := plC_at (hj' j hjl)
      obtain ⟨x, hx⟩ : ∃ x, x = s[j] := ⟨_, rfl⟩
      rw [← hx] at c0 c1 c2 c3 c4 c5 c6 c7 c8 e0 e1 e2 e3 e4 e5 e6 e7 e8
      have hcall : Hid (∀ W, Calls Tryd.prog 45 #[.agg #[.string x.c, .int .i64 x.x, .int .i64 x.y, .int .i64 x.t, .bool x.f, .int .i64 x.nx, .int .i64 x.ny, .int .i64 x.dx, .int .i64 x.dy], .agg #[.string x.c, .int .i64 x.x, .int .i64 x.y, .int .i64 x.t, .bool x.f, .int .i64 x.nx, .int .i64 x.ny, .int .i64 x.dx, .int .i64 x.dy]] W fun e w' => e = .returned (.bool true) ∧ Below W.heap.size W w') := eqPlace_same x
      clear hx hj hj'
      have b0 : (0 : Int) ≤ (j : Int) := by omega
      have b1 : (j : Int) < (n : Int) := by omega
      go_wp2_with (fail)
      (refine wp_region_und (by kernel_rfl) (by kernel_rfl) (fun hund => ?_); (repeat (go_big_quiet_step (first | (go_at_call 45; with_reducible refine und_call ?_ (hcall.out _); exact Nat.le_refl _)))); with_reducible refine wpQuiet_nil ?_; clear hund; intro W1 hb1; obtain ⟨hc1, hf1⟩ := undcell hb1)
      have HB : Hid (Below w.heap.size w W1) := hR.out.trans (hb1.mono hR.out.size)
      clear hb1 hc1 hf1
      go_wp2
      go_roundw
      case rel => exact ⟨j + 1, by omega, by go_num, HB.out⟩
      case measure => simp [intOf]; omega
    · go_wp2
      go_returns
      exact ⟨rfl, hR.out⟩

end Go.Proofs.YtafghanpfnhkpaaDoor
