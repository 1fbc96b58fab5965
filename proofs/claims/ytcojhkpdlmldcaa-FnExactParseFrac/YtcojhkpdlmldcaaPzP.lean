/- Proved here: ParseFrac of the program: pfQ. -/
import Derived.Test.YtcojhkpdlmldcaaPzK
import Derived.Test.YtcojhkpdlmldcaaFloat
namespace Go.Proofs.Ytcojhkpdlmldcaa
open Go.RowKit
set_option linter.unusedVariables false
set_option linter.unusedSimpArgs false

def SCa (s : ByteArray) (v : Value) : Prop := ∀ w, Calls Try.prog 11 #[.string s] w fun e w' => e = .returned v ∧ Below w.heap.size w w'
theorem scan_bad {s : ByteArray} (hs : s.size ≤ 4000) {k : Nat} (hk : k < s.size) (h1 : ∀ j, j < k → ftB s j = true) (h2 : ftB s k = false) : SCa s (.tuple #[.agg #[.bool false, .int .i64 0, .int .i64 0, .int .i64 0, .int .i64 0, .int .i64 0], .int .i64 (k : Int), .bool false]) := fun w => by
  refine (impl_scan s w hs).mono ?_
  rintro e w1 ⟨⟨v, rfl, h⟩, hB⟩
  refine ⟨?_, hB⟩
  rcases h with ⟨k', hk', a1, a2, rfl⟩ | ⟨a1, a2, rfl⟩ | ⟨a1, a2, rfl⟩
  · obtain rfl := one_end (ftB s) a1 a2 h1 h2
    rfl
  · rw [a1 k hk] at h2; cases h2
  · rw [a1 k hk] at h2; cases h2
theorem scan_cut {s : ByteArray} (hs : s.size ≤ 4000) (h1 : ∀ j, j < s.size → ftB s j = true) (h2 : cmB (stF s s.size) = false) : SCa s (.tuple #[.agg #[.bool false, .int .i64 0, .int .i64 0, .int .i64 0, .int .i64 0, .int .i64 0], .int .i64 (s.size : Int), .bool false]) := fun w => by
  refine (impl_scan s w hs).mono ?_
  rintro e w1 ⟨⟨v, rfl, h⟩, hB⟩
  refine ⟨?_, hB⟩
  rcases h with ⟨k', hk', a1, a2, rfl⟩ | ⟨a1, a2, rfl⟩ | ⟨a1, a2, rfl⟩
  · rw [h1 k' hk'] at a2; cases a2
  · rfl
  · rw [a2] at h2; cases h2
theorem scan_good {s : ByteArray} (hs : s.size ≤ 4000) (h1 : ∀ j, j < s.size → ftB s j = true) (h2 : cmB (stF s s.size) = true) : SCa s (.tuple #[fscV (stF s s.size), .int .i64 0, .bool true]) := fun w => by
  refine (impl_scan s w hs).mono ?_
  rintro e w1 ⟨⟨v, rfl, h⟩, hB⟩
  refine ⟨?_, hB⟩
  rcases h with ⟨k', hk', a1, a2, rfl⟩ | ⟨a1, a2, rfl⟩ | ⟨a1, a2, rfl⟩
  · rw [h1 k' hk'] at a2; cases a2
  · rw [a2] at h2; cases h2
  · rfl

def PFi (s : ByteArray) (Q : Q4) (w : World) : Prop := Calls Try.prog 5 #[.string s] w fun e w' => e = .returned (.agg #[.int .i64 Q.c, .int .i64 Q.p, .int .i64 Q.n, .int .i64 Q.d]) ∧ Below w.heap.size w w'
set_option maxHeartbeats 1600000 in
theorem pfi_many (s : ByteArray) (w : World) (h : 4000 < s.size) (h2 : s.size ≤ 1048576) : PFi s ⟨2, 0, 0, 0⟩ w := by
  unfold PFi
  have g : (4000 : Int) < (s.size : Int) := by omega
  go_enter Try.func5, Try.ntmps5
  go_wp2
  go_returns
  exact ⟨rfl, by (repeat' (first | (with_reducible exact Below.refl _ _) | (with_reducible assumption) | (with_reducible refine Below.setCell ?_ ?_ _) | (with_reducible refine Below.alloc ?_ ?_ _) | (with_reducible refine below_drewN ?_ _) | (with_reducible refine Below.drew ?_) | (with_reducible exact Nat.le_refl _) | omega | (simp; done) | (simp; omega)))⟩
theorem pz4 {w : World} {k : Nat} {a0 a1 a2 a3 b0 b1 b2 b3 : Value} {T : TypeId} (h : w.heap[k]? = some (.cells #[a0, a1, a2, a3] T)) :
    ((((w.setCell ⟨k, 0, none⟩ b0).setCell ⟨k, 1, none⟩ b1).setCell ⟨k, 2, none⟩ b2).setCell ⟨k, 3, none⟩ b3).heap[k]? = some (.cells #[b0, b1, b2, b3] T) := by
  have h0 := heap_setCell_same w k 0 _ _ b0 h
  have h1 := heap_setCell_same _ k 1 _ _ b1 h0
  have h2 := heap_setCell_same _ k 2 _ _ b2 h1
  exact heap_setCell_same _ k 3 _ _ b3 h2
set_option maxHeartbeats 1600000 in
theorem pfi_bad (s : ByteArray) (w : World) (hs : s.size ≤ 4000) (k : Nat) (H : Hid (SCa s (.tuple #[.agg #[.bool false, .int .i64 0, .int .i64 0, .int .i64 0, .int .i64 0, .int .i64 0], .int .i64 (k : Int), .bool false]))) : PFi s ⟨5, (k : Int), 0, 0⟩ w := by
  unfold PFi
  simp only
  have g : ¬ (4000 : Int) < (s.size : Int) := by omega
  go_enter Try.func5, Try.ntmps5
  go_wp2_with (fail)
  refine (H.out _).mono ?_
  rintro e w1 ⟨rfl, hb1⟩
  have j1 := (hb1.block w.heap.size (by simp)).trans (heap_alloc_new w (.cells #[.int .i64 0, .int .i64 0, .int .i64 0, .int .i64 0] 25))
  have hL1 : Hid (Below w.heap.size w w1) := (show Below w.heap.size w _ from by (repeat' (first | (with_reducible exact Below.refl _ _) | (with_reducible assumption) | (with_reducible refine Below.setCell ?_ ?_ _) | (with_reducible refine Below.alloc ?_ ?_ _) | (with_reducible refine below_drewN ?_ _) | (with_reducible refine Below.drew ?_) | (with_reducible exact Nat.le_refl _) | omega | (simp; done) | (simp; omega)))).trans (hb1.mono (by simp))
  have HA : Hid (w1.heap[w.heap.size]? = _) := j1
  clear hb1 j1
  go_upto_region 5 with fail
  have hA2 := (Below.heap_alloc w1 (.cells #[.bool false, .int .i64 0, .int .i64 0, .int .i64 0, .int .i64 0, .int .i64 0] 36) _ (pzLt HA.out)).trans HA.out
  have hL2 := hL1.out.alloc hL1.out.size (.cells #[.bool false, .int .i64 0, .int .i64 0, .int .i64 0, .int .i64 0, .int .i64 0] 36)
  obtain ⟨W2, hW2⟩ : ∃ W2, W2 = w1.alloc (.cells #[.bool false, .int .i64 0, .int .i64 0, .int .i64 0, .int .i64 0, .int .i64 0] 36) := ⟨_, rfl⟩
  rw [← hW2] at hA2 hL2 ⊢
  have HA2 : Hid (W2.heap[w.heap.size]? = _) := hA2
  have HL2 : Hid (Below w.heap.size w W2) := hL2
  clear hW2 HA hL1 hL2
  have a0 := pzCell hA2 0 rfl
  have a1 := pzCell hA2 1 rfl
  have a2 := pzCell hA2 2 rfl
  have a3 := pzCell hA2 3 rfl
  have q3 := pzFroz hA2
  have q4 := pzLt hA2
  clear hA2
  go_wp2
  clear a0 a1 a2 a3 q3
  have hz := pz4 (b0 := .int .i64 5) (b1 := .int .i64 (k : Int)) (b2 := .int .i64 0) (b3 := .int .i64 0) HA2.out
  have hzl : Below w.heap.size w ((((W2.setCell ⟨w.heap.size, 0, none⟩ (.int .i64 5)).setCell ⟨w.heap.size, 1, none⟩ (.int .i64 (k : Int))).setCell ⟨w.heap.size, 2, none⟩ (.int .i64 0)).setCell ⟨w.heap.size, 3, none⟩ (.int .i64 0)) := (((HL2.out.setCell (Nat.le_refl _) _).setCell (Nat.le_refl _) _).setCell (Nat.le_refl _) _).setCell (Nat.le_refl _) _
  obtain ⟨W3, hW3⟩ : ∃ W3, W3 = ((((W2.setCell ⟨w.heap.size, 0, none⟩ (.int .i64 5)).setCell ⟨w.heap.size, 1, none⟩ (.int .i64 (k : Int))).setCell ⟨w.heap.size, 2, none⟩ (.int .i64 0)).setCell ⟨w.heap.size, 3, none⟩ (.int .i64 0)) := ⟨_, rfl⟩
  rw [← hW3] at hz hzl ⊢
  clear hW3
  have d0 := pzCell hz 0 rfl
  have d1 := pzCell hz 1 rfl
  have d2 := pzCell hz 2 rfl
  have d3 := pzCell hz 3 rfl
  have dl := pzLt hz
  refine bodyPost_ret (by simp [results, Try.results5, go_sem, d0, d1, d2, d3, dl]) rfl ⟨rfl, hzl⟩
end Go.Proofs.Ytcojhkpdlmldcaa
