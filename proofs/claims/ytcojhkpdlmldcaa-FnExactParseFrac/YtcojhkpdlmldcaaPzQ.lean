/- Proved here: ParseFrac of the program: pfQ, of texts that fit. -/
import Derived.Test.YtcojhkpdlmldcaaPzP
namespace Go.Proofs.Ytcojhkpdlmldcaa
open Go.RowKit
set_option linter.unusedVariables false
set_option linter.unusedSimpArgs false

set_option maxHeartbeats 1600000 in
theorem pfi_r1 (s : ByteArray) (w : World) (hs : s.size ≤ 4000) (m : Bool) (sl tc tv bc bv : Int) (H : Hid (SCa s (.tuple #[.agg #[.bool m, .int .i64 sl, .int .i64 tc, .int .i64 tv, .int .i64 bc, .int .i64 bv], .int .i64 0, .bool true]))) (h : 18 < tc) : PFi s ⟨3, 0, 0, 0⟩ w := by
  unfold PFi
  simp only
  have g : ¬ (4000 : Int) < (s.size : Int) := by omega
  go_enter Try.func5, Try.ntmps5
  go_wp2_with (fail)
  refine (H.out _).mono ?_
  rintro e w1 ⟨rfl, hb1⟩
  have j1 := (hb1.block w.heap.size (by simp)).trans (heap_alloc_new w (.cells #[.int .i64 0, .int .i64 0, .int .i64 0, .int .i64 0] 25))
  have hL1 : Hid (Below w.heap.size w w1) := (show Below w.heap.size w _ from by (repeat' (first | (with_reducible exact Below.refl _ _) | (with_reducible assumption) | (with_reducible refine Below.setCell ?_ ?_ _) | (with_reducible refine Below.alloc ?_ ?_ _) | (with_reducible refine below_drewN ?_ _) | (with_reducible refine Below.drew ?_) | (with_reducible exact Nat.le_refl _) | omega | (simp; done) | (simp; omega)))).trans (hb1.mono (by simp))
  have HA : Hid (w1.heap[w.heap.size]? = _) := j1
  clear hb1 j1
  go_upto_region 6 with fail
  have hA2 := (Below.heap_alloc w1 (.cells #[.bool m, .int .i64 sl, .int .i64 tc, .int .i64 tv, .int .i64 bc, .int .i64 bv] 36) _ (pzLt HA.out)).trans HA.out
  have hL2 := hL1.out.alloc hL1.out.size (.cells #[.bool m, .int .i64 sl, .int .i64 tc, .int .i64 tv, .int .i64 bc, .int .i64 bv] 36)
  have hS2 := heap_alloc_new w1 (.cells #[.bool m, .int .i64 sl, .int .i64 tc, .int .i64 tv, .int .i64 bc, .int .i64 bv] 36)
  have hKl : w.heap.size < w1.heap.size := pzLt HA.out
  obtain ⟨W2, hW2⟩ : ∃ W2, W2 = w1.alloc (.cells #[.bool m, .int .i64 sl, .int .i64 tc, .int .i64 tv, .int .i64 bc, .int .i64 bv] 36) := ⟨_, rfl⟩
  rw [← hW2] at hA2 hL2 hS2 ⊢
  generalize w1.heap.size = K at *
  have HA2 : Hid (W2.heap[w.heap.size]? = _) := hA2
  have HL2 : Hid (Below w.heap.size w W2) := hL2
  clear hW2 HA hL1 hL2
  have a0 := pzCell hA2 0 rfl
  have a1 := pzCell hA2 1 rfl
  have a2 := pzCell hA2 2 rfl
  have a3 := pzCell hA2 3 rfl
  have c0 := pzCell hS2 0 rfl
  have c1 := pzCell hS2 1 rfl
  have c2 := pzCell hS2 2 rfl
  have c3 := pzCell hS2 3 rfl
  have c4 := pzCell hS2 4 rfl
  have c5 := pzCell hS2 5 rfl
  have q3 := pzFroz hA2
  have q4 := pzLt hA2
  have q5 := pzLt hS2
  clear hA2 hS2
  go_wp2
  clear a0 a1 a2 a3 q3 c0 c1 c2 c3 c4 c5
  have hz := pz4 (b0 := (.int .i64 3)) (b1 := (.int .i64 0)) (b2 := (.int .i64 0)) (b3 := (.int .i64 0)) HA2.out
  have hzl : Below w.heap.size w ((((W2.setCell ⟨w.heap.size, 0, none⟩ (.int .i64 3)).setCell ⟨w.heap.size, 1, none⟩ (.int .i64 0)).setCell ⟨w.heap.size, 2, none⟩ (.int .i64 0)).setCell ⟨w.heap.size, 3, none⟩ (.int .i64 0)) := (((HL2.out.setCell (Nat.le_refl _) _).setCell (Nat.le_refl _) _).setCell (Nat.le_refl _) _).setCell (Nat.le_refl _) _
  obtain ⟨W3, hW3⟩ : ∃ W3, W3 = ((((W2.setCell ⟨w.heap.size, 0, none⟩ (.int .i64 3)).setCell ⟨w.heap.size, 1, none⟩ (.int .i64 0)).setCell ⟨w.heap.size, 2, none⟩ (.int .i64 0)).setCell ⟨w.heap.size, 3, none⟩ (.int .i64 0)) := ⟨_, rfl⟩
  rw [← hW3] at hz hzl ⊢
  clear hW3
  have d0 := pzCell hz 0 rfl
  have d1 := pzCell hz 1 rfl
  have d2 := pzCell hz 2 rfl
  have d3 := pzCell hz 3 rfl
  have dl := pzLt hz
  refine bodyPost_ret (by simp [results, Try.results5, go_sem, d0, d1, d2, d3, dl]) rfl ⟨rfl, hzl⟩
set_option maxHeartbeats 1600000 in
theorem pfi_r2 (s : ByteArray) (w : World) (hs : s.size ≤ 4000) (m : Bool) (sl tc tv bc bv : Int) (H : Hid (SCa s (.tuple #[.agg #[.bool m, .int .i64 sl, .int .i64 tc, .int .i64 tv, .int .i64 bc, .int .i64 bv], .int .i64 0, .bool true]))) (h0 : ¬ 18 < tc) (h : 18 < bc) : PFi s ⟨3, 0, 0, 0⟩ w := by
  unfold PFi
  simp only
  have g : ¬ (4000 : Int) < (s.size : Int) := by omega
  go_enter Try.func5, Try.ntmps5
  go_wp2_with (fail)
  refine (H.out _).mono ?_
  rintro e w1 ⟨rfl, hb1⟩
  have j1 := (hb1.block w.heap.size (by simp)).trans (heap_alloc_new w (.cells #[.int .i64 0, .int .i64 0, .int .i64 0, .int .i64 0] 25))
  have hL1 : Hid (Below w.heap.size w w1) := (show Below w.heap.size w _ from by (repeat' (first | (with_reducible exact Below.refl _ _) | (with_reducible assumption) | (with_reducible refine Below.setCell ?_ ?_ _) | (with_reducible refine Below.alloc ?_ ?_ _) | (with_reducible refine below_drewN ?_ _) | (with_reducible refine Below.drew ?_) | (with_reducible exact Nat.le_refl _) | omega | (simp; done) | (simp; omega)))).trans (hb1.mono (by simp))
  have HA : Hid (w1.heap[w.heap.size]? = _) := j1
  clear hb1 j1
  go_upto_region 6 with fail
  have hA2 := (Below.heap_alloc w1 (.cells #[.bool m, .int .i64 sl, .int .i64 tc, .int .i64 tv, .int .i64 bc, .int .i64 bv] 36) _ (pzLt HA.out)).trans HA.out
  have hL2 := hL1.out.alloc hL1.out.size (.cells #[.bool m, .int .i64 sl, .int .i64 tc, .int .i64 tv, .int .i64 bc, .int .i64 bv] 36)
  have hS2 := heap_alloc_new w1 (.cells #[.bool m, .int .i64 sl, .int .i64 tc, .int .i64 tv, .int .i64 bc, .int .i64 bv] 36)
  have hKl : w.heap.size < w1.heap.size := pzLt HA.out
  obtain ⟨W2, hW2⟩ : ∃ W2, W2 = w1.alloc (.cells #[.bool m, .int .i64 sl, .int .i64 tc, .int .i64 tv, .int .i64 bc, .int .i64 bv] 36) := ⟨_, rfl⟩
  rw [← hW2] at hA2 hL2 hS2 ⊢
  generalize w1.heap.size = K at *
  have HA2 : Hid (W2.heap[w.heap.size]? = _) := hA2
  have HL2 : Hid (Below w.heap.size w W2) := hL2
  clear hW2 HA hL1 hL2
  have a0 := pzCell hA2 0 rfl
  have a1 := pzCell hA2 1 rfl
  have a2 := pzCell hA2 2 rfl
  have a3 := pzCell hA2 3 rfl
  have c0 := pzCell hS2 0 rfl
  have c1 := pzCell hS2 1 rfl
  have c2 := pzCell hS2 2 rfl
  have c3 := pzCell hS2 3 rfl
  have c4 := pzCell hS2 4 rfl
  have c5 := pzCell hS2 5 rfl
  have q3 := pzFroz hA2
  have q4 := pzLt hA2
  have q5 := pzLt hS2
  clear hA2 hS2
  go_wp2
  clear a0 a1 a2 a3 q3 c0 c1 c2 c3 c4 c5
  have hz := pz4 (b0 := (.int .i64 3)) (b1 := (.int .i64 0)) (b2 := (.int .i64 0)) (b3 := (.int .i64 0)) HA2.out
  have hzl : Below w.heap.size w ((((W2.setCell ⟨w.heap.size, 0, none⟩ (.int .i64 3)).setCell ⟨w.heap.size, 1, none⟩ (.int .i64 0)).setCell ⟨w.heap.size, 2, none⟩ (.int .i64 0)).setCell ⟨w.heap.size, 3, none⟩ (.int .i64 0)) := (((HL2.out.setCell (Nat.le_refl _) _).setCell (Nat.le_refl _) _).setCell (Nat.le_refl _) _).setCell (Nat.le_refl _) _
  obtain ⟨W3, hW3⟩ : ∃ W3, W3 = ((((W2.setCell ⟨w.heap.size, 0, none⟩ (.int .i64 3)).setCell ⟨w.heap.size, 1, none⟩ (.int .i64 0)).setCell ⟨w.heap.size, 2, none⟩ (.int .i64 0)).setCell ⟨w.heap.size, 3, none⟩ (.int .i64 0)) := ⟨_, rfl⟩
  rw [← hW3] at hz hzl ⊢
  clear hW3
  have d0 := pzCell hz 0 rfl
  have d1 := pzCell hz 1 rfl
  have d2 := pzCell hz 2 rfl
  have d3 := pzCell hz 3 rfl
  have dl := pzLt hz
  refine bodyPost_ret (by simp [results, Try.results5, go_sem, d0, d1, d2, d3, dl]) rfl ⟨rfl, hzl⟩
set_option maxHeartbeats 1600000 in
theorem pfi_z (s : ByteArray) (w : World) (hs : s.size ≤ 4000) (m : Bool) (sl tc tv bc bv : Int) (H : Hid (SCa s (.tuple #[.agg #[.bool m, .int .i64 sl, .int .i64 tc, .int .i64 tv, .int .i64 bc, .int .i64 bv], .int .i64 0, .bool true]))) (h0 : ¬ 18 < tc) (h1 : ¬ 18 < bc) (h2 : 0 < sl) (h3 : bv = 0) : PFi s ⟨6, sl, 0, 0⟩ w := by
  subst h3
  unfold PFi
  simp only
  have g : ¬ (4000 : Int) < (s.size : Int) := by omega
  go_enter Try.func5, Try.ntmps5
  go_wp2_with (fail)
  refine (H.out _).mono ?_
  rintro e w1 ⟨rfl, hb1⟩
  have j1 := (hb1.block w.heap.size (by simp)).trans (heap_alloc_new w (.cells #[.int .i64 0, .int .i64 0, .int .i64 0, .int .i64 0] 25))
  have hL1 : Hid (Below w.heap.size w w1) := (show Below w.heap.size w _ from by (repeat' (first | (with_reducible exact Below.refl _ _) | (with_reducible assumption) | (with_reducible refine Below.setCell ?_ ?_ _) | (with_reducible refine Below.alloc ?_ ?_ _) | (with_reducible refine below_drewN ?_ _) | (with_reducible refine Below.drew ?_) | (with_reducible exact Nat.le_refl _) | omega | (simp; done) | (simp; omega)))).trans (hb1.mono (by simp))
  have HA : Hid (w1.heap[w.heap.size]? = _) := j1
  clear hb1 j1
  go_upto_region 6 with fail
  have hA2 := (Below.heap_alloc w1 (.cells #[.bool m, .int .i64 sl, .int .i64 tc, .int .i64 tv, .int .i64 bc, .int .i64 0] 36) _ (pzLt HA.out)).trans HA.out
  have hL2 := hL1.out.alloc hL1.out.size (.cells #[.bool m, .int .i64 sl, .int .i64 tc, .int .i64 tv, .int .i64 bc, .int .i64 0] 36)
  have hS2 := heap_alloc_new w1 (.cells #[.bool m, .int .i64 sl, .int .i64 tc, .int .i64 tv, .int .i64 bc, .int .i64 0] 36)
  have hKl : w.heap.size < w1.heap.size := pzLt HA.out
  obtain ⟨W2, hW2⟩ : ∃ W2, W2 = w1.alloc (.cells #[.bool m, .int .i64 sl, .int .i64 tc, .int .i64 tv, .int .i64 bc, .int .i64 0] 36) := ⟨_, rfl⟩
  rw [← hW2] at hA2 hL2 hS2 ⊢
  generalize w1.heap.size = K at *
  have HA2 : Hid (W2.heap[w.heap.size]? = _) := hA2
  have HL2 : Hid (Below w.heap.size w W2) := hL2
  clear hW2 HA hL1 hL2
  have a0 := pzCell hA2 0 rfl
  have a1 := pzCell hA2 1 rfl
  have a2 := pzCell hA2 2 rfl
  have a3 := pzCell hA2 3 rfl
  have c0 := pzCell hS2 0 rfl
  have c1 := pzCell hS2 1 rfl
  have c2 := pzCell hS2 2 rfl
  have c3 := pzCell hS2 3 rfl
  have c4 := pzCell hS2 4 rfl
  have c5 := pzCell hS2 5 rfl
  have q3 := pzFroz hA2
  have q4 := pzLt hA2
  have q5 := pzLt hS2
  clear hA2 hS2
  go_wp2
  clear a0 a1 a2 a3 q3 c0 c1 c2 c3 c4 c5
  have hz := pz4 (b0 := (.int .i64 6)) (b1 := (.int .i64 sl)) (b2 := (.int .i64 0)) (b3 := (.int .i64 0)) HA2.out
  have hzl : Below w.heap.size w ((((W2.setCell ⟨w.heap.size, 0, none⟩ (.int .i64 6)).setCell ⟨w.heap.size, 1, none⟩ (.int .i64 sl)).setCell ⟨w.heap.size, 2, none⟩ (.int .i64 0)).setCell ⟨w.heap.size, 3, none⟩ (.int .i64 0)) := (((HL2.out.setCell (Nat.le_refl _) _).setCell (Nat.le_refl _) _).setCell (Nat.le_refl _) _).setCell (Nat.le_refl _) _
  obtain ⟨W3, hW3⟩ : ∃ W3, W3 = ((((W2.setCell ⟨w.heap.size, 0, none⟩ (.int .i64 6)).setCell ⟨w.heap.size, 1, none⟩ (.int .i64 sl)).setCell ⟨w.heap.size, 2, none⟩ (.int .i64 0)).setCell ⟨w.heap.size, 3, none⟩ (.int .i64 0)) := ⟨_, rfl⟩
  rw [← hW3] at hz hzl ⊢
  clear hW3
  have d0 := pzCell hz 0 rfl
  have d1 := pzCell hz 1 rfl
  have d2 := pzCell hz 2 rfl
  have d3 := pzCell hz 3 rfl
  have dl := pzLt hz
  refine bodyPost_ret (by simp [results, Try.results5, go_sem, d0, d1, d2, d3, dl]) rfl ⟨rfl, hzl⟩
end Go.Proofs.Ytcojhkpdlmldcaa
