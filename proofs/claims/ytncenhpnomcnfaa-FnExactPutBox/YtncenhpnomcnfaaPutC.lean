/- Proved here: PutBox of model and program: one box, at every place, column, row and box, modulo 2^64. -/
import Derived.Test.YtncenhpnomcnfaaPutB
namespace Go.Proofs.Ytncenhpnomcnfaa
open Go.RowKit
set_option linter.unusedVariables false
set_option linter.unusedSimpArgs false

/-- A place. -/
structure Pl where
  c : ByteArray
  x : Int
  y : Int
  t : Int
  f : Bool
  nx : Int
  ny : Int
  dx : Int
  dy : Int
/-- A box in a column and a row of a place. -/
def putK (p : Pl) (i j : Int) (b : Bx) : Bx :=
  movB (turnsB (p.t % 4).toNat (if p.f then flipB b else b)) (wrap64 (p.x + wrap64 (i * p.dx))) (wrap64 (p.y + wrap64 (j * p.dy)))

theorem place_at {w : World} {k : Nat} {p : Pl} {f : Bool} {T : TypeId} (h : w.heap[k]? = some (.cells #[.string p.c, .int .i64 p.x, .int .i64 p.y, .int .i64 p.t, .bool f, .int .i64 p.nx, .int .i64 p.ny, .int .i64 p.dx, .int .i64 p.dy] T)) :
    w.cell? ⟨k, 1, none⟩ = some (.int .i64 p.x) ∧ w.cell? ⟨k, 2, none⟩ = some (.int .i64 p.y) ∧ w.cell? ⟨k, 3, none⟩ = some (.int .i64 p.t) ∧ w.cell? ⟨k, 7, none⟩ = some (.int .i64 p.dx) ∧ w.cell? ⟨k, 8, none⟩ = some (.int .i64 p.dy) ∧ k < w.heap.size := by
  refine ⟨by simp [World.cell?, h], by simp [World.cell?, h], by simp [World.cell?, h], by simp [World.cell?, h], by simp [World.cell?, h], ?_⟩
  rcases Nat.lt_or_ge k w.heap.size with h' | h'
  · exact h'
  · rw [Array.getElem?_eq_none h'] at h; cases h
theorem three_new (w : World) (a b c : Obj) : (((w.alloc a).alloc b).alloc c).heap[w.heap.size]? = some a ∧ (((w.alloc a).alloc b).alloc c).heap[w.heap.size + 1]? = some b ∧ (((w.alloc a).alloc b).alloc c).heap[w.heap.size + 2]? = some c :=
  ⟨(Below.heap_alloc _ _ _ (by simp; omega)).trans (two_new w a b).1, (Below.heap_alloc _ _ _ (by simp)).trans (two_new w a b).2, by have := heap_alloc_new ((w.alloc a).alloc b) c; simpa using this⟩

/-- What stands while the box is turned. -/
structure PW (w wr : World) (p : Pl) (f : Bool) (c : Bx) : Prop where
  p : wr.heap[w.heap.size]? = some (.cells #[.string p.c, .int .i64 p.x, .int .i64 p.y, .int .i64 p.t, .bool f, .int .i64 p.nx, .int .i64 p.ny, .int .i64 p.dx, .int .i64 p.dy] 47)
  b : wr.heap[w.heap.size + 1]? = some (.cells #[.int .i64 c.x0, .int .i64 c.y0, .int .i64 c.x1, .int .i64 c.y1] 45)
  r : wr.heap[w.heap.size + 2]? = some (.cells #[.int .i64 0, .int .i64 0, .int .i64 0, .int .i64 0] 45)
  bl : Below w.heap.size w wr
theorem PW.below {w wr w1 : World} {p : Pl} {f : Bool} {c : Bx} (h : PW w wr p f c) (hb : Below wr.heap.size wr w1) : PW w w1 p f c := by
  have h1 := (box_at h.b).2.2.2.2.2
  have h2 := (box_at h.r).2.2.2.2.2
  exact ⟨(hb.block _ (by omega)).trans h.p, (hb.block _ (by omega)).trans h.b, (hb.block _ (by omega)).trans h.r, h.bl.trans (hb.mono (by omega))⟩
theorem PW.set {w wr : World} {p : Pl} {f : Bool} {c : Bx} (h : PW w wr p f c) (d : Bx) :
    PW w ((((wr.setCell ⟨w.heap.size + 1, 0, none⟩ (.int .i64 d.x0)).setCell ⟨w.heap.size + 1, 1, none⟩ (.int .i64 d.y0)).setCell ⟨w.heap.size + 1, 2, none⟩ (.int .i64 d.x1)).setCell ⟨w.heap.size + 1, 3, none⟩ (.int .i64 d.y1)) p f d := by
  have hb := h.bl
  refine ⟨?_, box_set h.b _ _ _ _, ?_, by (repeat' (first | (with_reducible exact Below.refl _ _) | (with_reducible assumption) | (with_reducible refine Below.setCell ?_ ?_ _) | (with_reducible refine Below.alloc ?_ ?_ _) | (with_reducible refine below_drewN ?_ _) | (with_reducible refine Below.drew ?_) | (with_reducible exact Nat.le_refl _) | omega | (simp; done) | (simp; omega)))⟩
  · exact (heap_setCell_other _ _ _ _ (by simp)).trans ((heap_setCell_other _ _ _ _ (by simp)).trans ((heap_setCell_other _ _ _ _ (by simp)).trans ((heap_setCell_other _ _ _ _ (by simp)).trans h.p)))
  · exact (heap_setCell_other _ _ _ _ (by simp)).trans ((heap_setCell_other _ _ _ _ (by simp)).trans ((heap_setCell_other _ _ _ _ (by simp)).trans ((heap_setCell_other _ _ _ _ (by simp)).trans h.r)))

set_option maxRecDepth 10000 in
set_option maxHeartbeats 3200000 in
theorem spec_putBox_false (p : Pl) (i j : Int) (b : Bx) (w : World) (h1 : -9223372036854775808 ≤ p.t) (h2 : p.t ≤ 9223372036854775807) :
    Calls Try.prog 27 #[.agg #[.string p.c, .int .i64 p.x, .int .i64 p.y, .int .i64 p.t, .bool false, .int .i64 p.nx, .int .i64 p.ny, .int .i64 p.dx, .int .i64 p.dy], .int .i64 i, .int .i64 j, .agg #[.int .i64 b.x0, .int .i64 b.y0, .int .i64 b.x1, .int .i64 b.y1]] w fun e w' => e = .returned (.agg #[.int .i64 (movB (turnsB (p.t % 4).toNat b) (wrap64 (p.x + wrap64 (i * p.dx))) (wrap64 (p.y + wrap64 (j * p.dy)))).x0, .int .i64 (movB (turnsB (p.t % 4).toNat b) (wrap64 (p.x + wrap64 (i * p.dx))) (wrap64 (p.y + wrap64 (j * p.dy)))).y0, .int .i64 (movB (turnsB (p.t % 4).toNat b) (wrap64 (p.x + wrap64 (i * p.dx))) (wrap64 (p.y + wrap64 (j * p.dy)))).x1, .int .i64 (movB (turnsB (p.t % 4).toNat b) (wrap64 (p.x + wrap64 (i * p.dx))) (wrap64 (p.y + wrap64 (j * p.dy)))).y1]) ∧ Below w.heap.size w w' := by
  obtain ⟨R, hR⟩ : ∃ R, R = movB (turnsB (p.t % 4).toNat b) (wrap64 (p.x + wrap64 (i * p.dx))) (wrap64 (p.y + wrap64 (j * p.dy))) := ⟨_, rfl⟩
  rw [← hR]
  obtain ⟨m, hm⟩ : ∃ m, m = (p.t % 4).toNat := ⟨_, rfl⟩
  have hm2 : p.t % 4 = (m : Int) := by omega
  rw [← hm] at hR
  have HR : Hid _ := hR
  have hcq : Hid (∀ w, Calls Try.prog 49 #[.int .i64 p.t] w fun e w' => e = .returned (.int .i64 (m : Int)) ∧ w' = w) := fun w => by
    have := spec_quarters p.t w h1 h2
    rw [hm2] at this
    exact this
  have hm4 : m ≤ 3 := by omega
  clear hR hm hm2
  go_enter Try.func27, Try.ntmps27
  go_wp2_with (fail)
  refine (hcq.out _).mono ?_
  rintro e w1 ⟨rfl, rfl⟩
  clear hcq
  go_wp2
  go_loopw [9] (fun v wr => ∃ k : Nat, k ≤ m ∧ v = .int .i64 k ∧ Hid (PW w wr p false (turnsB (m - k) b))) (fun v _ => (intOf v).toNat)
  case atStart =>
    refine ⟨m, Nat.le_refl _, rfl, ?_⟩
    unfold Hid
    rw [Nat.sub_self]
    exact ⟨(three_new w _ _ _).1, (three_new w _ _ _).2.1, (three_new w _ _ _).2.2, by (repeat' (first | (with_reducible exact Below.refl _ _) | (with_reducible assumption) | (with_reducible refine Below.setCell ?_ ?_ _) | (with_reducible refine Below.alloc ?_ ?_ _) | (with_reducible refine below_drewN ?_ _) | (with_reducible refine Below.drew ?_) | (with_reducible exact Nat.le_refl _) | omega | (simp; done) | (simp; omega)))⟩
  case round =>
    obtain ⟨k, hk, rfl, hP⟩ := hrel
    have hp := hP.out
    obtain ⟨c0, c1, c2, c3, cf, cl⟩ := box_at hp.b
    obtain ⟨p1, p2, p3, p7, p8, pl⟩ := place_at hp.p
    have f0 := cf 0
    have f1 := cf 1
    have f2 := cf 2
    have f3 := cf 3
    by_cases hlt : 0 < k
    · obtain ⟨c, hc⟩ : ∃ c, c = turnsB (m - k) b := ⟨_, rfl⟩
      rw [← hc] at c0 c1 c2 c3 hp
      have HC : Hid (turnsB (m - (k - 1)) b = turnB c) := by unfold Hid; rw [show m - (k - 1) = (m - k) + 1 by omega, turnsB, hc]
      have HP : Hid _ := hp
      clear hc hp hP cf p1 p2 p3 p7 p8 f0 f1 f2 f3
      have bk : (0 : Int) < (k : Int) := by omega
      go_wp2_with (fail)
      refine (spec_turn c _).mono ?_
      rintro e w1 ⟨rfl, hb1⟩
      have h9 := HP.out.below hb1
      obtain ⟨c0, c1, c2, c3, cf, cl⟩ := box_at h9.b
      have f0 := cf 0
      have f1 := cf 1
      have f2 := cf 2
      have f3 := cf 3
      have HS : Hid _ := h9.set (turnB c)
      clear h9 cf hb1
      go_wp2
      go_roundw
      case rel =>
        refine ⟨k - 1, by omega, by go_num, ?_⟩
        unfold Hid
        rw [HC.out]
        exact HS.out
      case measure => simp [intOf]; omega
    · obtain rfl : k = 0 := by omega
      obtain ⟨d0, d1, d2, d3, df, dl⟩ := box_at hp.r
      have g0 := df 0
      have g1 := df 1
      have g2 := df 2
      have g3 := df 3
      obtain ⟨c, hc⟩ : ∃ c, c = turnsB (m - 0) b := ⟨_, rfl⟩
      rw [← hc] at c0 c1 c2 c3 hp
      have hRc : R = movB c (wrap64 (p.x + wrap64 (i * p.dx))) (wrap64 (p.y + wrap64 (j * p.dy))) := by rw [HR.out, hc]; rfl
      have hset := box_set hp.r R.x0 R.y0 R.x1 R.y1
      obtain ⟨W, hW⟩ : ∃ W, W = (((wr.setCell ⟨w.heap.size + 2, 0, none⟩ (.int .i64 R.x0)).setCell ⟨w.heap.size + 2, 1, none⟩ (.int .i64 R.y0)).setCell ⟨w.heap.size + 2, 2, none⟩ (.int .i64 R.x1)).setCell ⟨w.heap.size + 2, 3, none⟩ (.int .i64 R.y1) := ⟨_, rfl⟩
      have hb := hp.bl
      have HB : Hid (Below w.heap.size w W) := by unfold Hid; rw [hW]; (repeat' (first | (with_reducible exact Below.refl _ _) | (with_reducible assumption) | (with_reducible refine Below.setCell ?_ ?_ _) | (with_reducible refine Below.alloc ?_ ?_ _) | (with_reducible refine below_drewN ?_ _) | (with_reducible refine Below.drew ?_) | (with_reducible exact Nat.le_refl _) | omega | (simp; done) | (simp; omega)))
      rw [← hW] at hset
      rw [hRc] at hW
      have HW : Hid _ := hW
      clear hb hp hP cf df hW HR hc
      go_wp2
      have HW2 := HW.out
      simp only [movB] at HW2
      rw [← HW2]
      obtain ⟨e0, e1, e2, e3, ef, el⟩ := box_at hset
      clear hset HW HW2
      refine bodyPost_ret (by simp [results, Try.results27, go_sem, e0, e1, e2, e3]) rfl ⟨rfl, HB.out⟩

set_option maxRecDepth 10000 in
set_option maxHeartbeats 3200000 in
theorem spec_putBox_true (p : Pl) (i j : Int) (b : Bx) (w : World) (h1 : -9223372036854775808 ≤ p.t) (h2 : p.t ≤ 9223372036854775807) :
    Calls Try.prog 27 #[.agg #[.string p.c, .int .i64 p.x, .int .i64 p.y, .int .i64 p.t, .bool true, .int .i64 p.nx, .int .i64 p.ny, .int .i64 p.dx, .int .i64 p.dy], .int .i64 i, .int .i64 j, .agg #[.int .i64 b.x0, .int .i64 b.y0, .int .i64 b.x1, .int .i64 b.y1]] w fun e w' => e = .returned (.agg #[.int .i64 (movB (turnsB (p.t % 4).toNat (flipB b)) (wrap64 (p.x + wrap64 (i * p.dx))) (wrap64 (p.y + wrap64 (j * p.dy)))).x0, .int .i64 (movB (turnsB (p.t % 4).toNat (flipB b)) (wrap64 (p.x + wrap64 (i * p.dx))) (wrap64 (p.y + wrap64 (j * p.dy)))).y0, .int .i64 (movB (turnsB (p.t % 4).toNat (flipB b)) (wrap64 (p.x + wrap64 (i * p.dx))) (wrap64 (p.y + wrap64 (j * p.dy)))).x1, .int .i64 (movB (turnsB (p.t % 4).toNat (flipB b)) (wrap64 (p.x + wrap64 (i * p.dx))) (wrap64 (p.y + wrap64 (j * p.dy)))).y1]) ∧ Below w.heap.size w w' := by
  obtain ⟨R, hR⟩ : ∃ R, R = movB (turnsB (p.t % 4).toNat (flipB b)) (wrap64 (p.x + wrap64 (i * p.dx))) (wrap64 (p.y + wrap64 (j * p.dy))) := ⟨_, rfl⟩
  rw [← hR]
  obtain ⟨m, hm⟩ : ∃ m, m = (p.t % 4).toNat := ⟨_, rfl⟩
  have hm2 : p.t % 4 = (m : Int) := by omega
  rw [← hm] at hR
  have HR : Hid _ := hR
  have hcq : Hid (∀ w, Calls Try.prog 49 #[.int .i64 p.t] w fun e w' => e = .returned (.int .i64 (m : Int)) ∧ w' = w) := fun w => by
    have := spec_quarters p.t w h1 h2
    rw [hm2] at this
    exact this
  have hm4 : m ≤ 3 := by omega
  clear hR hm hm2
  go_enter Try.func27, Try.ntmps27
  go_wp2_with (fail)
  refine (hcq.out _).mono ?_
  rintro e w1 ⟨rfl, rfl⟩
  clear hcq
  go_wp2
  go_loopw [9] (fun v wr => ∃ k : Nat, k ≤ m ∧ v = .int .i64 k ∧ Hid (PW w wr p true (turnsB (m - k) (flipB b)))) (fun v _ => (intOf v).toNat)
  case atStart =>
    refine ⟨m, Nat.le_refl _, rfl, ?_⟩
    unfold Hid
    rw [Nat.sub_self]
    exact ⟨(three_new w _ _ _).1, (three_new w _ _ _).2.1, (three_new w _ _ _).2.2, by (repeat' (first | (with_reducible exact Below.refl _ _) | (with_reducible assumption) | (with_reducible refine Below.setCell ?_ ?_ _) | (with_reducible refine Below.alloc ?_ ?_ _) | (with_reducible refine below_drewN ?_ _) | (with_reducible refine Below.drew ?_) | (with_reducible exact Nat.le_refl _) | omega | (simp; done) | (simp; omega)))⟩
  case round =>
    obtain ⟨k, hk, rfl, hP⟩ := hrel
    have hp := hP.out
    obtain ⟨c0, c1, c2, c3, cf, cl⟩ := box_at hp.b
    obtain ⟨p1, p2, p3, p7, p8, pl⟩ := place_at hp.p
    have f0 := cf 0
    have f1 := cf 1
    have f2 := cf 2
    have f3 := cf 3
    by_cases hlt : 0 < k
    · obtain ⟨c, hc⟩ : ∃ c, c = turnsB (m - k) (flipB b) := ⟨_, rfl⟩
      rw [← hc] at c0 c1 c2 c3 hp
      have HC : Hid (turnsB (m - (k - 1)) (flipB b) = turnB c) := by unfold Hid; rw [show m - (k - 1) = (m - k) + 1 by omega, turnsB, hc]
      have HP : Hid _ := hp
      clear hc hp hP cf p1 p2 p3 p7 p8 f0 f1 f2 f3
      have bk : (0 : Int) < (k : Int) := by omega
      go_wp2_with (fail)
      refine (spec_turn c _).mono ?_
      rintro e w1 ⟨rfl, hb1⟩
      have h9 := HP.out.below hb1
      obtain ⟨c0, c1, c2, c3, cf, cl⟩ := box_at h9.b
      have f0 := cf 0
      have f1 := cf 1
      have f2 := cf 2
      have f3 := cf 3
      have HS : Hid _ := h9.set (turnB c)
      clear h9 cf hb1
      go_wp2
      go_roundw
      case rel =>
        refine ⟨k - 1, by omega, by go_num, ?_⟩
        unfold Hid
        rw [HC.out]
        exact HS.out
      case measure => simp [intOf]; omega
    · obtain rfl : k = 0 := by omega
      obtain ⟨d0, d1, d2, d3, df, dl⟩ := box_at hp.r
      have g0 := df 0
      have g1 := df 1
      have g2 := df 2
      have g3 := df 3
      obtain ⟨c, hc⟩ : ∃ c, c = turnsB (m - 0) (flipB b) := ⟨_, rfl⟩
      rw [← hc] at c0 c1 c2 c3 hp
      have hRc : R = movB c (wrap64 (p.x + wrap64 (i * p.dx))) (wrap64 (p.y + wrap64 (j * p.dy))) := by rw [HR.out, hc]; rfl
      have hset := box_set hp.r R.x0 R.y0 R.x1 R.y1
      obtain ⟨W, hW⟩ : ∃ W, W = (((wr.setCell ⟨w.heap.size + 2, 0, none⟩ (.int .i64 R.x0)).setCell ⟨w.heap.size + 2, 1, none⟩ (.int .i64 R.y0)).setCell ⟨w.heap.size + 2, 2, none⟩ (.int .i64 R.x1)).setCell ⟨w.heap.size + 2, 3, none⟩ (.int .i64 R.y1) := ⟨_, rfl⟩
      have hb := hp.bl
      have HB : Hid (Below w.heap.size w W) := by unfold Hid; rw [hW]; (repeat' (first | (with_reducible exact Below.refl _ _) | (with_reducible assumption) | (with_reducible refine Below.setCell ?_ ?_ _) | (with_reducible refine Below.alloc ?_ ?_ _) | (with_reducible refine below_drewN ?_ _) | (with_reducible refine Below.drew ?_) | (with_reducible exact Nat.le_refl _) | omega | (simp; done) | (simp; omega)))
      rw [← hW] at hset
      rw [hRc] at hW
      have HW : Hid _ := hW
      clear hb hp hP cf df hW HR hc
      go_wp2
      have HW2 := HW.out
      simp only [movB] at HW2
      rw [← HW2]
      obtain ⟨e0, e1, e2, e3, ef, el⟩ := box_at hset
      clear hset HW HW2
      refine bodyPost_ret (by simp [results, Try.results27, go_sem, e0, e1, e2, e3]) rfl ⟨rfl, HB.out⟩

theorem spec_putBox (p : Pl) (i j : Int) (b : Bx) (w : World) (h1 : -9223372036854775808 ≤ p.t) (h2 : p.t ≤ 9223372036854775807) :
    Calls Try.prog 27 #[.agg #[.string p.c, .int .i64 p.x, .int .i64 p.y, .int .i64 p.t, .bool p.f, .int .i64 p.nx, .int .i64 p.ny, .int .i64 p.dx, .int .i64 p.dy], .int .i64 i, .int .i64 j, .agg #[.int .i64 b.x0, .int .i64 b.y0, .int .i64 b.x1, .int .i64 b.y1]] w fun e w' => e = .returned (.agg #[.int .i64 (putK p i j b).x0, .int .i64 (putK p i j b).y0, .int .i64 (putK p i j b).x1, .int .i64 (putK p i j b).y1]) ∧ Below w.heap.size w w' := by
  cases hf : p.f with
  | false =>
    have e : putK p i j b = movB (turnsB (p.t % 4).toNat b) (wrap64 (p.x + wrap64 (i * p.dx))) (wrap64 (p.y + wrap64 (j * p.dy))) := by simp [putK, hf]
    rw [e]
    exact spec_putBox_false p i j b w h1 h2
  | true =>
    have e : putK p i j b = movB (turnsB (p.t % 4).toNat (flipB b)) (wrap64 (p.x + wrap64 (i * p.dx))) (wrap64 (p.y + wrap64 (j * p.dy))) := by simp [putK, hf]
    rw [e]
    exact spec_putBox_true p i j b w h1 h2

end Go.Proofs.Ytncenhpnomcnfaa
