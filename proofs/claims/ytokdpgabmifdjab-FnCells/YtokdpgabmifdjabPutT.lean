/- Proved here: a box that is turned, modulo 2^64: l2Turn of the model; turned of the program. -/
import Derived.Test.YtokdpgabmifdjabBoxBase
namespace Go.Proofs.Ytokdpgabmifdjab
open Go.RowKit
set_option linter.unusedVariables false
set_option linter.unusedSimpArgs false

/-- A quarter; so many; mirrored; further; all modulo 2^64. -/
def turnB (b : Bx) : Bx := ⟨wrap64 (-b.y1), b.x0, wrap64 (-b.y0), b.x1⟩
def turnsB : Nat → Bx → Bx
  | 0, b => b
  | n + 1, b => turnB (turnsB n b)
def flipB (b : Bx) : Bx := ⟨wrap64 (-b.x1), b.y0, wrap64 (-b.x0), b.y1⟩
def movB (b : Bx) (x y : Int) : Bx := ⟨wrap64 (b.x0 + x), wrap64 (b.y0 + y), wrap64 (b.x1 + x), wrap64 (b.y1 + y)⟩

theorem and_three (q : Int) : bits .and .i64 q 3 = q % 4 := by
  have e : (BitVec.ofInt 64 3).toNat = 2 ^ 2 - 1 := by decide
  show IntKind.i64.wrap (((BitVec.ofInt 64 q &&& BitVec.ofInt 64 3).toNat : Nat) : Int) = _
  rw [BitVec.toNat_and, e, Nat.and_two_pow_sub_one_eq_mod, BitVec.toNat_ofInt, IntKind.wrap_i64]
  omega

theorem tmod_four (q : Int) : (0 ≤ q → q.tmod 4 = q % 4) ∧ (q < 0 → q.tmod 4 = -((-q) % 4)) := by
  refine ⟨fun h => Int.tmod_eq_emod_of_nonneg h, fun h => ?_⟩
  have := Int.neg_tmod (-q) 4
  rw [Int.neg_neg] at this
  rw [this, Int.tmod_eq_emod_of_nonneg (by omega)]

set_option maxHeartbeats 800000 in
theorem spec_turn (b : Bx) (w : World) :
    Calls Try.prog 82 #[.agg #[.int .i64 b.x0, .int .i64 b.y0, .int .i64 b.x1, .int .i64 b.y1]] w fun e w' => e = .returned (.agg #[.int .i64 (turnB b).x0, .int .i64 (turnB b).y0, .int .i64 (turnB b).x1, .int .i64 (turnB b).y1]) ∧ Below w.heap.size w w' := by
  go_enter Try.func82, Try.ntmps82
  go_wp2
  go_returns
  exact ⟨rfl, by (repeat' (first | (with_reducible exact Below.refl _ _) | (with_reducible assumption) | (with_reducible refine Below.setCell ?_ ?_ _) | (with_reducible refine Below.alloc ?_ ?_ _) | (with_reducible refine below_drewN ?_ _) | (with_reducible refine Below.drew ?_) | (with_reducible exact Nat.le_refl _) | omega | (simp; done) | (simp; omega)))⟩
/-- A box of the call's own in a block. -/
theorem box_atT {w : World} {k : Nat} {a b c d : Int} (h : w.heap[k]? = some (.cells #[.int .i64 a, .int .i64 b, .int .i64 c, .int .i64 d] 49)) :
    w.cell? ⟨k, 0, none⟩ = some (.int .i64 a) ∧ w.cell? ⟨k, 1, none⟩ = some (.int .i64 b) ∧ w.cell? ⟨k, 2, none⟩ = some (.int .i64 c) ∧ w.cell? ⟨k, 3, none⟩ = some (.int .i64 d) ∧
    (∀ i, w.frozen? ⟨k, i, none⟩ = false) ∧ k < w.heap.size := by
  refine ⟨by simp [World.cell?, h], by simp [World.cell?, h], by simp [World.cell?, h], by simp [World.cell?, h], fun i => by simp [World.frozen?, h], ?_⟩
  rcases Nat.lt_or_ge k w.heap.size with h' | h'
  · exact h'
  · rw [Array.getElem?_eq_none h'] at h; cases h
theorem box_setT {w : World} {k : Nat} {a b c d : Int} (h : w.heap[k]? = some (.cells #[.int .i64 a, .int .i64 b, .int .i64 c, .int .i64 d] 49)) (a' b' c' d' : Int) :
    ((((w.setCell ⟨k, 0, none⟩ (.int .i64 a')).setCell ⟨k, 1, none⟩ (.int .i64 b')).setCell ⟨k, 2, none⟩ (.int .i64 c')).setCell ⟨k, 3, none⟩ (.int .i64 d')).heap[k]? = some (.cells #[.int .i64 a', .int .i64 b', .int .i64 c', .int .i64 d'] 49) := by
  have k0 := heap_setCell_same w k 0 _ _ (.int .i64 a') h
  have k1 := heap_setCell_same _ k 1 _ _ (.int .i64 b') k0
  have k2 := heap_setCell_same _ k 2 _ _ (.int .i64 c') k1
  have k3 := heap_setCell_same _ k 3 _ _ (.int .i64 d') k2
  simpa using k3

theorem two_new (w : World) (a b : Obj) : ((w.alloc a).alloc b).heap[w.heap.size]? = some a ∧ ((w.alloc a).alloc b).heap[w.heap.size + 1]? = some b :=
  ⟨(Below.heap_alloc _ _ _ (by simp)).trans (heap_alloc_new w a), by have := heap_alloc_new (w.alloc a) b; simpa using this⟩

set_option maxRecDepth 10000 in
set_option maxHeartbeats 1600000 in
theorem impl_turned (b : Bx) (q : Int) (w : World) :
    Calls Try.prog 83 #[.agg #[.int .i64 b.x0, .int .i64 b.y0, .int .i64 b.x1, .int .i64 b.y1], .int .i64 q] w fun e w' => e = .returned (.agg #[.int .i64 (turnsB (q % 4).toNat b).x0, .int .i64 (turnsB (q % 4).toNat b).y0, .int .i64 (turnsB (q % 4).toNat b).x1, .int .i64 (turnsB (q % 4).toNat b).y1]) ∧ Below w.heap.size w w' := by
  obtain ⟨m, hm⟩ : ∃ m, m = (q % 4).toNat := ⟨_, rfl⟩
  have hq : bits .and .i64 q 3 = (m : Int) := by rw [and_three, hm]; omega
  have hm4 : m ≤ 3 := by omega
  rw [← hm]
  clear hm
  go_enter Try.func83, Try.ntmps83
  go_wp2
  go_loopw [7] (fun i wr => ∃ k : Nat, k ≤ m ∧ i = .int .i64 k ∧ Hid (wr.heap[w.heap.size]? = some (.cells #[.int .i64 (turnsB k b).x0, .int .i64 (turnsB k b).y0, .int .i64 (turnsB k b).x1, .int .i64 (turnsB k b).y1] 49) ∧ wr.heap[w.heap.size + 1]? = some (.cells #[.int .i64 0, .int .i64 0, .int .i64 0, .int .i64 0] 49) ∧ Below w.heap.size w wr)) (fun i _ => m - (intOf i).toNat)
  case atStart =>
    exact ⟨0, Nat.zero_le _, rfl, (two_new w _ _).1, (two_new w _ _).2, by (repeat' (first | (with_reducible exact Below.refl _ _) | (with_reducible assumption) | (with_reducible refine Below.setCell ?_ ?_ _) | (with_reducible refine Below.alloc ?_ ?_ _) | (with_reducible refine below_drewN ?_ _) | (with_reducible refine Below.drew ?_) | (with_reducible exact Nat.le_refl _) | omega | (simp; done) | (simp; omega)))⟩
  case round =>
    obtain ⟨k, hk, rfl, hR⟩ := hrel
    obtain ⟨h0, h1, hb⟩ := hR.out
    obtain ⟨c0, c1, c2, c3, cf, cl⟩ := box_atT h0
    have f0 := cf 0
    have f1 := cf 1
    have f2 := cf 2
    have f3 := cf 3
    by_cases hlt : k < m
    · have hset := box_setT h0 (turnB (turnsB k b)).x0 (turnB (turnsB k b)).y0 (turnB (turnsB k b)).x1 (turnB (turnsB k b)).y1
      have HS : Hid _ := And.intro hset (And.intro h1 hb)
      clear hset h1 hb h0 hR cf
      obtain ⟨c, hc⟩ : ∃ c, c = turnsB k b := ⟨_, rfl⟩
      rw [← hc] at c0 c1 c2 c3 HS
      have HC : Hid (turnsB (k + 1) b = turnB c) := by unfold Hid; rw [turnsB, hc]
      clear hc
      go_wp2
      go_roundw
      case rel =>
        refine ⟨k + 1, by omega, by go_num, ?_⟩
        unfold Hid
        rw [HC.out]
        have hb := HS.out.2.2
        refine ⟨HS.out.1, ?_, by (repeat' (first | (with_reducible exact Below.refl _ _) | (with_reducible assumption) | (with_reducible refine Below.setCell ?_ ?_ _) | (with_reducible refine Below.alloc ?_ ?_ _) | (with_reducible refine below_drewN ?_ _) | (with_reducible refine Below.drew ?_) | (with_reducible exact Nat.le_refl _) | omega | (simp; done) | (simp; omega)))⟩
        refine (heap_setCell_other _ _ _ _ (by simp)).trans ((heap_setCell_other _ _ _ _ (by simp)).trans ((heap_setCell_other _ _ _ _ (by simp)).trans ((heap_setCell_other _ _ _ _ (by simp)).trans HS.out.2.1)))
      case measure => simp [intOf]; omega
    · obtain rfl : k = m := by omega
      obtain ⟨d0, d1, d2, d3, df, dl⟩ := box_atT h1
      have g0 := df 0
      have g1 := df 1
      have g2 := df 2
      have g3 := df 3
      have hset := box_setT h1 (turnsB k b).x0 (turnsB k b).y0 (turnsB k b).x1 (turnsB k b).y1
      obtain ⟨W, hW⟩ : ∃ W, W = (((wr.setCell ⟨w.heap.size + 1, 0, none⟩ (.int .i64 (turnsB k b).x0)).setCell ⟨w.heap.size + 1, 1, none⟩ (.int .i64 (turnsB k b).y0)).setCell ⟨w.heap.size + 1, 2, none⟩ (.int .i64 (turnsB k b).x1)).setCell ⟨w.heap.size + 1, 3, none⟩ (.int .i64 (turnsB k b).y1) := ⟨_, rfl⟩
      have HB : Hid (Below w.heap.size w W) := by unfold Hid; rw [hW]; (repeat' (first | (with_reducible exact Below.refl _ _) | (with_reducible assumption) | (with_reducible refine Below.setCell ?_ ?_ _) | (with_reducible refine Below.alloc ?_ ?_ _) | (with_reducible refine below_drewN ?_ _) | (with_reducible refine Below.drew ?_) | (with_reducible exact Nat.le_refl _) | omega | (simp; done) | (simp; omega)))
      rw [← hW] at hset
      have HW : Hid _ := hW
      clear hb h0 h1 hR cf df hW
      go_wp2
      rw [← HW.out]
      obtain ⟨e0, e1, e2, e3, ef, el⟩ := box_atT hset
      clear hset HW
      refine bodyPost_ret (by simp [results, Try.results83, go_sem, e0, e1, e2, e3]) rfl ⟨rfl, HB.out⟩

end Go.Proofs.Ytokdpgabmifdjab
