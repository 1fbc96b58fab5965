/- Proved here: isOpen and left of a window of the program. -/
import Derived.Test.YtbkklnbcoegamaaQbM
import Derived.Test.YtbkklnbcoegamaaKept
import Derived.Test.YtbkklnbcoegamaaFloat
namespace Go.Proofs.Ytbkklnbcoegamaa
open Go.RowKit Go.Maps
set_option linter.unusedVariables false
set_option linter.unusedSimpArgs false

/-- Is a window open behind n steps? -/
def wdO (n : Nat) (x : Wdw) : Prop := x.f + 1 ≤ (n : Int) ∧ (n : Int) ≤ x.t
instance (n : Nat) (x : Wdw) : Decidable (wdO n x) := by unfold wdO; exact inferInstance
/-- How much is left. -/
def wdL (d : List Int) (now : Int) (x : Wdw) : Int := x.m - (now - d.getD x.f.toNat 0)

set_option maxHeartbeats 1600000 in
theorem impl_iso {w : World} {a : Option Addr} {n c : Nat} (x : Wdw) (q : Bool) (hq : q = decide (wdO n x)) (hf : 0 ≤ x.f ∧ x.f ≤ 1000) :
    Calls Try.prog 48 #[.agg #[.int .i64 x.f, .int .i64 x.t, .int .i64 x.m], .slice a n c] w fun e w' => e = .returned (.bool q) ∧ Below w.heap.size w w' := by
  have HI : Hid (∀ W, Calls Try.prog 38 #[.int .i64 (n : Int), .int .i64 (x.f + 1), .int .i64 x.t] W fun e w' => e = .returned (.bool q) ∧ w' = W) := fun W => impl_insC (n : Int) (x.f + 1) x.t q hq W
  obtain ⟨f, t, m⟩ := x
  simp only at HI hf ⊢
  have k1 : IntKind.i64.wrap (f + 1) = f + 1 := by rw [IntKind.wrap_i64]; omega
  clear hq
  go_enter Try.func48, Try.ntmps48
  go_wp2_with (fail)
  refine (HI.out _).mono ?_
  rintro e w1 ⟨rfl, hw1⟩
  subst w1
  go_wp2
  go_returns
  exact ⟨rfl, by (repeat' (first | (with_reducible exact Below.refl _ _) | (with_reducible assumption) | (with_reducible refine Below.setCell ?_ ?_ _) | (with_reducible refine Below.alloc ?_ ?_ _) | (with_reducible refine below_drewN ?_ _) | (with_reducible refine Below.drew ?_) | (with_reducible exact Nat.le_refl _) | omega | (simp; done) | (simp; omega)))⟩

set_option maxRecDepth 20000 in
set_option maxHeartbeats 1600000 in
theorem impl_left {w : World} {a : Option Addr} {n c : Nat} {d : List Int} (x : Wdw) (now : Int) (hf : 0 ≤ x.f ∧ x.f < (n : Int)) (hm : 0 ≤ x.m ∧ x.m ≤ 1000000000) (hn : 0 ≤ now ∧ now ≤ 1000000000) (hd : 0 ≤ d.getD x.f.toNat 0 ∧ d.getD x.f.toNat 0 ≤ 1000000000) (h : RdI w (.slice a n c) d) :
    Calls Try.prog 39 #[.agg #[.int .i64 x.f, .int .i64 x.t, .int .i64 x.m], .slice a n c, .int .i64 now] w fun e w' => e = .returned (.int .i64 (wdL d now x)) ∧ Below w.heap.size w w' := by
  obtain ⟨f, t, m⟩ := x
  unfold wdL
  simp only at hf hm hd ⊢
  obtain ⟨k, rfl⟩ : ∃ k : Nat, f = (k : Int) := ⟨f.toNat, by omega⟩
  simp only [Int.toNat_natCast] at hd ⊢
  obtain ⟨y, hy⟩ : ∃ y, y = d.getD k 0 := ⟨_, rfl⟩
  rw [← hy] at hd ⊢
  obtain ⟨g, o, rfl, hg, hc⟩ := rd_at h (show k < n by omega)
  rw [← hy] at hc
  obtain ⟨W, hW⟩ : ∃ W, W = w.alloc (.cells #[.int .i64 (k : Int), .int .i64 t, .int .i64 m] 62) := ⟨_, rfl⟩
  have HW : Hid (Below w.heap.size w W) := by unfold Hid; rw [hW]; (repeat' (first | (with_reducible exact Below.refl _ _) | (with_reducible assumption) | (with_reducible refine Below.setCell ?_ ?_ _) | (with_reducible refine Below.alloc ?_ ?_ _) | (with_reducible refine below_drewN ?_ _) | (with_reducible refine Below.drew ?_) | (with_reducible exact Nat.le_refl _) | omega | (simp; done) | (simp; omega)))
  have hx : W.heap[w.heap.size]? = some (.cells #[.int .i64 (k : Int), .int .i64 t, .int .i64 m] 62) := by rw [hW]; exact heap_alloc_new _ _
  have q0 := cellOfQ hx 0 rfl
  have q2 := cellOfQ hx 2 rfl
  have ql := ltOfQ hx
  have hc' : W.cell? ⟨g, o + k, none⟩ = some (.int .i64 y) := (HW.out.cell (p := ⟨g, o + k, none⟩) hg).trans hc
  have hgl : g < W.heap.size := Nat.lt_of_lt_of_le hg HW.out.size
  have k1 : IntKind.i64.wrap (now - y) = now - y := by rw [IntKind.wrap_i64]; omega
  have k2 : IntKind.i64.wrap (m - (now - y)) = m - (now - y) := by rw [IntKind.wrap_i64]; omega
  have b0 : (0 : Int) ≤ (k : Int) := by omega
  have b1 : (k : Int) < (n : Int) := by omega
  clear h hx hy hc hg hm hn hd hf
  go_enter Try.func39, Try.ntmps39
  go_wp2
  rw [← hW]
  clear hW
  refine wp_region_float (by kernel_rfl) (fun hS => ?_)
  refine fl_take (i := 0) (d := 7) (v := .pointer (some ⟨w.heap.size, 2, none⟩)) rfl rfl rfl (by kernel_rfl) (by kernel_rfl) (by kernel_rfl) hS ?_ ?_
  · intro w' hk; go_simp
  simp only [Act.put, List.setIfInBounds_toArray, List.set_cons_zero, List.set_cons_succ]
  refine fl_take (i := 1) (d := 8) (v := .int .i64 m) rfl rfl rfl (by kernel_rfl) (by kernel_rfl) (by kernel_rfl) hS ?_ ?_
  · intro w' hk; go_simp
  simp only [Act.put, List.setIfInBounds_toArray, List.set_cons_zero, List.set_cons_succ]
  refine fl_take (i := 2) (d := 9) (v := .int .i64 now) rfl rfl rfl (by kernel_rfl) (by kernel_rfl) (by kernel_rfl) hS ?_ ?_
  · intro w' hk; go_simp
  simp only [Act.put, List.setIfInBounds_toArray, List.set_cons_zero, List.set_cons_succ]
  refine fl_take (i := 3) (d := 10) (v := .slice (some ⟨g, o, none⟩) n c) rfl rfl rfl (by kernel_rfl) (by kernel_rfl) (by kernel_rfl) hS ?_ ?_
  · intro w' hk; go_simp
  simp only [Act.put, List.setIfInBounds_toArray, List.set_cons_zero, List.set_cons_succ]
  refine fl_take (i := 4) (d := 11) (v := .pointer (some ⟨w.heap.size, 0, none⟩)) rfl rfl rfl (by kernel_rfl) (by kernel_rfl) (by kernel_rfl) hS ?_ ?_
  · intro w' hk; go_simp
  simp only [Act.put, List.setIfInBounds_toArray, List.set_cons_zero, List.set_cons_succ]
  refine fl_take (i := 5) (d := 12) (v := .int .i64 (k : Int)) rfl rfl rfl (by kernel_rfl) (by kernel_rfl) (by kernel_rfl) hS ?_ ?_
  · intro w' hk; go_simp
  simp only [Act.put, List.setIfInBounds_toArray, List.set_cons_zero, List.set_cons_succ]
  refine fl_take (i := 6) (d := 13) (v := .pointer (some ⟨g, o + k, none⟩)) rfl rfl rfl (by kernel_rfl) (by kernel_rfl) (by kernel_rfl) hS ?_ ?_
  · intro w' hk; go_simp
  simp only [Act.put, List.setIfInBounds_toArray, List.set_cons_zero, List.set_cons_succ]
  refine fl_take (i := 7) (d := 14) (v := .int .i64 y) rfl rfl rfl (by kernel_rfl) (by kernel_rfl) (by kernel_rfl) hS ?_ ?_
  · intro w' hk; go_simp
  simp only [Act.put, List.setIfInBounds_toArray, List.set_cons_zero, List.set_cons_succ]
  refine fl_take (i := 8) (d := 15) (v := .int .i64 (now - y)) rfl rfl rfl (by kernel_rfl) (by kernel_rfl) (by kernel_rfl) hS ?_ ?_
  · intro w' hk; go_simp
  simp only [Act.put, List.setIfInBounds_toArray, List.set_cons_zero, List.set_cons_succ]
  refine fl_take (i := 9) (d := 16) (v := .int .i64 (m - (now - y))) rfl rfl rfl (by kernel_rfl) (by kernel_rfl) (by kernel_rfl) hS ?_ ?_
  · intro w' hk; go_simp
  simp only [Act.put, List.setIfInBounds_toArray, List.set_cons_zero, List.set_cons_succ]
  refine fl_take (i := 10) (d := 6) (v := .int .i64 (m - (now - y))) rfl rfl rfl (by kernel_rfl) (by kernel_rfl) (by kernel_rfl) hS ?_ ?_
  · intro w' hk; go_simp
  simp only [Act.put, List.setIfInBounds_toArray, List.set_cons_zero, List.set_cons_succ]
  refine wpAnyH_done (by kernel_rfl) (NoPanic.normal ?_) _
  go_wp2
  go_returns
  exact ⟨rfl, HW.out.trans (hS.2.mono HW.out.size)⟩

end Go.Proofs.Ytbkklnbcoegamaa
