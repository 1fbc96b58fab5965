/- Proved here: copies of a profile and what is answered, of the program. -/
import Derived.Test.YtfjfogiohijkkabPfW
import Derived.Test.YtfjfogiohijkkabPfI
import Derived.Test.YtfjfogiohijkkabCpR
import Derived.Test.YtfjfogiohijkkabReg
namespace Go.Proofs.Ytfjfogiohijkkab
open Go.RowKit
set_option linter.unusedVariables false
set_option linter.unusedSimpArgs false

set_option maxRecDepth 10000 in
set_option maxHeartbeats 3200000 in
theorem impl_cpd (o : Int) {W : World} {v : Value} {s : List Int} (hp : 0 < s.length) (hn : s.length ≤ 1048576) (h : RdI W v s) :
    Calls Try.prog 28 #[.agg #[v, .int .i64 o]] W fun e w' => ∃ g c, e = .returned (.agg #[.slice (some ⟨g, 0, none⟩) s.length c, .int .i64 o]) ∧ IS w' W.heap.size (.slice (some ⟨g, 0, none⟩) s.length c) s ∧ Below W.heap.size W w' := by
  obtain ⟨ua, uc, rfl⟩ := h.form
  obtain ⟨n, hnn⟩ : ∃ n, n = s.length := ⟨_, rfl⟩
  rw [← hnn] at h hn hp ⊢
  have HN : Hid (n = s.length) := hnn
  have H : Hid (RdI W (.slice ua n uc) s) := h
  obtain ⟨k0, hk0⟩ : ∃ k, k = W.heap.size := ⟨_, rfl⟩
  obtain ⟨V, hV⟩ : ∃ V, V = (W.alloc (.cells #[.slice ua n uc, .int .i64 o] 29)).alloc (.cells #[.slice none 0 0, .int .i64 0] 29) := ⟨_, rfl⟩
  have HB : Hid (Below k0 W V ∧ V.heap.size = k0 + 2 ∧ k0 = W.heap.size) := ⟨by rw [hV, hk0]; (repeat' (first | (with_reducible exact Below.refl _ _) | (with_reducible assumption) | (with_reducible refine Below.setCell ?_ ?_ _) | (with_reducible refine Below.alloc ?_ ?_ _) | (with_reducible refine below_drewN ?_ _) | (with_reducible refine Below.drew ?_) | (with_reducible exact Nat.le_refl _) | omega | (simp; done) | (simp; omega))), by rw [hV, hk0]; simp, hk0⟩
  have HK0 : Hid (V.heap[k0]? = some (.cells #[.slice ua n uc, .int .i64 o] 29)) := by
    unfold Hid; rw [hV, hk0]; exact (Below.heap_alloc _ _ _ (by simp)).trans (heap_alloc_new W _)
  have HK1 : Hid (V.heap[k0 + 1]? = some (.cells #[.slice none 0 0, .int .i64 0] 29)) := by
    unfold Hid; rw [hV, hk0]; have := heap_alloc_new (W.alloc (.cells #[.slice ua n uc, .int .i64 o] 29)) (.cells #[.slice none 0 0, .int .i64 0] 29); simpa using this
  clear hnn h
  go_enter Try.func28, Try.ntmps28
  go_wp2_with (fail)
  rw [← hV, ← hk0]
  clear hV hk0
  have hD : Below V.heap.size V V.drew := (Below.refl _ _).drew
  have HDs : Hid (V.drew.heap.size = V.heap.size) := by unfold Hid; simp
  have hS0 : V.drew.heap[k0]? = some (.cells #[.slice ua n uc, .int .i64 o] 29) := (hD.block _ (ltOf HK0.out)).trans HK0.out
  refine wp_region_holdsA (S := fun w' => w'.heap[k0]? = some (.cells #[.slice ua n uc, .int .i64 o] 29)) (by kernel_rfl) hS0 (fun hS => ?_)
  refine fl_takeA (i := 0) (d := 3) (v := .pointer (some ⟨k0, 0, none⟩)) rfl rfl rfl (by kernel_rfl) (by kernel_rfl) (by kernel_rfl) hS ?_ ?_
  · intro w' hk; have x0 := cellOf hk 0 rfl; have x1 := cellOf hk 1 rfl; have x2 := ltOf hk; go_simp
  simp only [Act.put, List.setIfInBounds_toArray, List.set_cons_zero, List.set_cons_succ]
  refine fl_takeA (i := 1) (d := 4) (v := .slice ua n uc) rfl rfl rfl (by kernel_rfl) (by kernel_rfl) (by kernel_rfl) hS ?_ ?_
  · intro w' hk; have x0 := cellOf hk 0 rfl; have x1 := cellOf hk 1 rfl; have x2 := ltOf hk; go_simp
  simp only [Act.put, List.setIfInBounds_toArray, List.set_cons_zero, List.set_cons_succ]
  refine fl_takeA (i := 3) (d := 6) (v := .pointer (some ⟨k0, 1, none⟩)) rfl rfl rfl (by kernel_rfl) (by kernel_rfl) (by kernel_rfl) hS ?_ ?_
  · intro w' hk; have x0 := cellOf hk 0 rfl; have x1 := cellOf hk 1 rfl; have x2 := ltOf hk; go_simp
  simp only [Act.put, List.setIfInBounds_toArray, List.set_cons_zero, List.set_cons_succ]
  refine fl_takeA (i := 4) (d := 7) (v := .int .i64 o) rfl rfl rfl (by kernel_rfl) (by kernel_rfl) (by kernel_rfl) hS ?_ ?_
  · intro w' hk; have x0 := cellOf hk 0 rfl; have x1 := cellOf hk 1 rfl; have x2 := ltOf hk; go_simp
  simp only [Act.put, List.setIfInBounds_toArray, List.set_cons_zero, List.set_cons_succ]
  refine wpAnyH_all (rs := [2]) (by kernel_rfl) (by simp) ?_
  intro iz hi
  obtain rfl : iz = 2 := by simpa using hi
  clear hi
  refine op_call (d := 5) rfl rfl rfl (by go_simp) ((cl_row (by rw [← HN.out]; exact hp) (by rw [← HN.out]; exact hn) ((H.out.below (by rw [← HB.out.2.2]; exact HB.out.1)).below hD)).mono ?_)
  rintro e y ⟨v1, rfl, hi1, hb1⟩
  have hy : Below V.heap.size V y := hD.trans (hb1.mono (by simp))
  have hSy : y.heap[k0]? = some (.cells #[.slice ua n uc, .int .i64 o] 29) := (hy.block _ (ltOf HK0.out)).trans HK0.out
  refine ⟨_, rfl, hSy, ?_⟩
  simp only [Act.put, List.setIfInBounds_toArray, List.set_cons_zero, List.set_cons_succ]
  obtain ⟨gg, cap, e1, hB1, hl1, _⟩ := hi1.pos (by rw [← HN.out]; exact hp)
  rw [← HN.out] at e1
  subst e1
  have hlt : k0 + 2 ≤ gg := by have := HB.out; have h9 := HDs.out; omega
  have q1 : y.heap[k0 + 1]? = some (.cells #[.slice none 0 0, .int .i64 0] 29) := (hy.block _ (by have := HB.out; omega)).trans HK1.out
  have t0 := cellOf q1 0 rfl
  have t1 := cellOf q1 1 rfl
  have f0 := frozOf q1 0
  have f1 := frozOf q1 1
  have tl := ltOf q1
  refine wpAnyH_all (rs := [5]) (by kernel_rfl) (by simp) ?_
  intro iz hi
  obtain rfl : iz = 5 := by simpa using hi
  clear hi
  refine op_val (d := 8) (v := .agg #[.slice (some ⟨gg, 0, none⟩) n cap, .int .i64 o]) (w' := y) rfl rfl rfl (by go_simp; try rfl) ?_
  simp only [Act.put, List.setIfInBounds_toArray, List.set_cons_zero, List.set_cons_succ]
  refine ⟨hSy, ?_⟩
  obtain ⟨W2, hW2⟩ : ∃ W2, W2 = (y.setCell ⟨k0 + 1, 0, none⟩ (.slice (some ⟨gg, 0, none⟩) n cap)).setCell ⟨k0 + 1, 1, none⟩ (.int .i64 o) := ⟨_, rfl⟩
  have e1 : W2.heap[k0 + 1]? = some (.cells #[.slice (some ⟨gg, 0, none⟩) n cap, .int .i64 o] 29) := by
    have s0 := heap_setCell_same _ _ 0 _ _ (.slice (some ⟨gg, 0, none⟩) n cap) q1
    have s1 := heap_setCell_same _ _ 1 _ _ (.int .i64 o) s0
    rw [hW2]
    simpa using s1
  have ho : ∀ q, q ≠ k0 + 1 → W2.heap[q]? = y.heap[q]? := fun q hq => by rw [hW2, heap_setCell_other _ _ _ _ (by simpa using hq), heap_setCell_other _ _ _ _ (by simpa using hq)]
  have HF : Hid (IS W2 W.heap.size (.slice (some ⟨gg, 0, none⟩) n cap) s ∧ Below W.heap.size W W2) := by
    refine ⟨(hi1.keepE (ho gg (by omega))).low (by have := HB.out; have h9 := HDs.out; omega), ?_⟩
    have h1 : Below k0 W y := HB.out.1.trans (hy.mono (by have := HB.out; omega))
    rw [← HB.out.2.2, hW2]
    exact (h1.setCell (p := ⟨k0 + 1, 0, none⟩) (by simp) _).setCell (p := ⟨k0 + 1, 1, none⟩) (by simp) _
  refine wpAnyH_all (rs := [6]) (by kernel_rfl) (by simp) ?_
  intro iz hi
  obtain rfl : iz = 6 := by simpa using hi
  clear hi
  refine op_skipN (w' := (y.setCell ⟨k0 + 1, 0, none⟩ (.slice (some ⟨gg, 0, none⟩) n cap)).setCell ⟨k0 + 1, 1, none⟩ (.int .i64 o)) rfl rfl (by go_simp; try rfl) ?_
  rw [← hW2]
  have u0 := cellOf e1 0 rfl
  have u1 := cellOf e1 1 rfl
  refine ⟨(ho k0 (by omega)).trans hSy, wpAnyH_done (by kernel_rfl) (NoPanic.normal ?_) _⟩
  go_wp2
  refine bodyPost_ret (by simp [results, Try.results28, go_sem, u0, u1]) rfl ⟨gg, cap, rfl, HF.out⟩

set_option maxRecDepth 10000 in
set_option maxHeartbeats 3200000 in
theorem impl_ans_ok {o : Int} {W : World} {ua : Option Addr} {n uc : Nat} {s : List Int} (hC : pfC s o = 0) (h : RdI W (.slice ua n uc) s) :
    Calls Try.prog 29 #[.agg #[.slice ua n uc, .int .i64 o]] W fun e w' => e = .returned (.agg #[.int .i64 0, .slice ua n uc, .int .i64 o]) ∧ Below W.heap.size W w' := by
  have hl := (pfC_ok hC).len
  have HC : Hid (∀ V, Below W.heap.size W V → Calls Try.prog 21 #[.agg #[.slice ua n uc, .int .i64 o]] V fun e w' => e = .returned (.int .i64 0) ∧ Below V.heap.size V w') := fun V hV => by
    have := impl_pf o (by omega) (h.below hV)
    rwa [hC] at this
  clear h hC hl
  go_enter Try.func29, Try.ntmps29
  go_wp2_with (fail)
  refine (HC.out _ (by (repeat' (first | (with_reducible exact Below.refl _ _) | (with_reducible assumption) | (with_reducible refine Below.setCell ?_ ?_ _) | (with_reducible refine Below.alloc ?_ ?_ _) | (with_reducible refine below_drewN ?_ _) | (with_reducible refine Below.drew ?_) | (with_reducible exact Nat.le_refl _) | omega | (simp; done) | (simp; omega))))).mono ?_
  rintro e w1 ⟨rfl, hb1⟩
  obtain ⟨k0, hk0⟩ : ∃ k, k = W.heap.size := ⟨_, rfl⟩
  have HB : Hid (Below W.heap.size W w1) := (show Below W.heap.size W _ from by (repeat' (first | (with_reducible exact Below.refl _ _) | (with_reducible assumption) | (with_reducible refine Below.setCell ?_ ?_ _) | (with_reducible refine Below.alloc ?_ ?_ _) | (with_reducible refine below_drewN ?_ _) | (with_reducible refine Below.drew ?_) | (with_reducible exact Nat.le_refl _) | omega | (simp; done) | (simp; omega)))).trans (hb1.mono (by simp; omega))
  have q0 := (hb1.block W.heap.size (by simp; omega)).trans ((Below.heap_alloc _ _ _ (by simp)).trans (heap_alloc_new W _))
  have q1 : w1.heap[W.heap.size + 1]? = some (.cells #[.int .i64 0, .slice none 0 0, .int .i64 0] 35) := (hb1.block (W.heap.size + 1) (by simp)).trans (by have := heap_alloc_new (W.alloc (.cells #[.slice ua n uc, .int .i64 o] 29)) (.cells #[.int .i64 0, .slice none 0 0, .int .i64 0] 35); simpa using this)
  have a0 := cellOf q0 0 rfl
  have a1 := cellOf q0 1 rfl
  have al := ltOf q0
  have t0 := cellOf q1 0 rfl
  have t1 := cellOf q1 1 rfl
  have t2 := cellOf q1 2 rfl
  have f0 := frozOf q1 0
  have f1 := frozOf q1 1
  have f2 := frozOf q1 2
  have tl := ltOf q1
  obtain ⟨W2, hW2⟩ : ∃ W2, W2 = ((w1.setCell ⟨W.heap.size + 1, 0, none⟩ (.int .i64 0)).setCell ⟨W.heap.size + 1, 1, none⟩ (.slice ua n uc)).setCell ⟨W.heap.size + 1, 2, none⟩ (.int .i64 o) := ⟨_, rfl⟩
  have e1 : W2.heap[W.heap.size + 1]? = some (.cells #[.int .i64 0, .slice ua n uc, .int .i64 o] 35) := by
    have s0 := heap_setCell_same _ _ 0 _ _ (.int .i64 0) q1
    have s1 := heap_setCell_same _ _ 1 _ _ (.slice ua n uc) s0
    have s2 := heap_setCell_same _ _ 2 _ _ (.int .i64 o) s1
    rw [hW2]
    simpa using s2
  have u0 := cellOf e1 0 rfl
  have u1 := cellOf e1 1 rfl
  have u2 := cellOf e1 2 rfl
  have HF : Hid (Below W.heap.size W W2) := by
    unfold Hid
    rw [hW2]
    exact ((HB.out.setCell (p := ⟨W.heap.size + 1, 0, none⟩) (by simp) _).setCell (p := ⟨W.heap.size + 1, 1, none⟩) (by simp) _).setCell (p := ⟨W.heap.size + 1, 2, none⟩) (by simp) _
  have HW2 : Hid (W2 = ((w1.setCell ⟨W.heap.size + 1, 0, none⟩ (.int .i64 0)).setCell ⟨W.heap.size + 1, 1, none⟩ (.slice ua n uc)).setCell ⟨W.heap.size + 1, 2, none⟩ (.int .i64 o)) := hW2
  clear hW2 q0 q1 e1 hb1 hk0
  go_wp2
  rw [← HW2.out]
  refine bodyPost_ret (by simp [results, Try.results29, go_sem, u0, u1, u2]) rfl ⟨rfl, HF.out⟩

set_option maxRecDepth 10000 in
set_option maxHeartbeats 3200000 in
theorem impl_ans_bad {o : Int} {W : World} {ua : Option Addr} {n uc : Nat} {s : List Int} (hn : s.length ≤ 1048576) (hC : pfC s o ≠ 0) (h : RdI W (.slice ua n uc) s) :
    Calls Try.prog 29 #[.agg #[.slice ua n uc, .int .i64 o]] W fun e w' => e = .returned (.agg #[.int .i64 (pfC s o), .slice none 0 0, .int .i64 0]) ∧ Below W.heap.size W w' := by
  obtain ⟨C, hCC⟩ : ∃ C, C = pfC s o := ⟨_, rfl⟩
  have HC : Hid (∀ V, Below W.heap.size W V → Calls Try.prog 21 #[.agg #[.slice ua n uc, .int .i64 o]] V fun e w' => e = .returned (.int .i64 C) ∧ Below V.heap.size V w') := fun V hV => by
    have := impl_pf o hn (h.below hV)
    rwa [← hCC] at this
  rw [← hCC] at hC ⊢
  have hC2 : (C != 0) = true := by simpa using hC
  clear h hCC
  go_enter Try.func29, Try.ntmps29
  go_wp2_with (fail)
  refine (HC.out _ (by (repeat' (first | (with_reducible exact Below.refl _ _) | (with_reducible assumption) | (with_reducible refine Below.setCell ?_ ?_ _) | (with_reducible refine Below.alloc ?_ ?_ _) | (with_reducible refine below_drewN ?_ _) | (with_reducible refine Below.drew ?_) | (with_reducible exact Nat.le_refl _) | omega | (simp; done) | (simp; omega))))).mono ?_
  rintro e w1 ⟨rfl, hb1⟩
  have HB : Hid (Below W.heap.size W w1) := (show Below W.heap.size W _ from by (repeat' (first | (with_reducible exact Below.refl _ _) | (with_reducible assumption) | (with_reducible refine Below.setCell ?_ ?_ _) | (with_reducible refine Below.alloc ?_ ?_ _) | (with_reducible refine below_drewN ?_ _) | (with_reducible refine Below.drew ?_) | (with_reducible exact Nat.le_refl _) | omega | (simp; done) | (simp; omega)))).trans (hb1.mono (by simp; omega))
  have q1 : w1.heap[W.heap.size + 1]? = some (.cells #[.int .i64 0, .slice none 0 0, .int .i64 0] 35) := (hb1.block (W.heap.size + 1) (by simp)).trans (by have := heap_alloc_new (W.alloc (.cells #[.slice ua n uc, .int .i64 o] 29)) (.cells #[.int .i64 0, .slice none 0 0, .int .i64 0] 35); simpa using this)
  have t0 := cellOf q1 0 rfl
  have t1 := cellOf q1 1 rfl
  have t2 := cellOf q1 2 rfl
  have f0 := frozOf q1 0
  have f1 := frozOf q1 1
  have f2 := frozOf q1 2
  have tl := ltOf q1
  obtain ⟨W2, hW2⟩ : ∃ W2, W2 = ((w1.setCell ⟨W.heap.size + 1, 0, none⟩ (.int .i64 C)).setCell ⟨W.heap.size + 1, 1, none⟩ (.slice none 0 0)).setCell ⟨W.heap.size + 1, 2, none⟩ (.int .i64 0) := ⟨_, rfl⟩
  have e1 : W2.heap[W.heap.size + 1]? = some (.cells #[.int .i64 C, .slice none 0 0, .int .i64 0] 35) := by
    have s0 := heap_setCell_same _ _ 0 _ _ (.int .i64 C) q1
    have s1 := heap_setCell_same _ _ 1 _ _ (.slice none 0 0) s0
    have s2 := heap_setCell_same _ _ 2 _ _ (.int .i64 0) s1
    rw [hW2]
    simpa using s2
  have u0 := cellOf e1 0 rfl
  have u1 := cellOf e1 1 rfl
  have u2 := cellOf e1 2 rfl
  have HF : Hid (Below W.heap.size W W2) := by
    unfold Hid
    rw [hW2]
    exact ((HB.out.setCell (p := ⟨W.heap.size + 1, 0, none⟩) (by simp) _).setCell (p := ⟨W.heap.size + 1, 1, none⟩) (by simp) _).setCell (p := ⟨W.heap.size + 1, 2, none⟩) (by simp) _
  have HW2 : Hid (W2 = ((w1.setCell ⟨W.heap.size + 1, 0, none⟩ (.int .i64 C)).setCell ⟨W.heap.size + 1, 1, none⟩ (.slice none 0 0)).setCell ⟨W.heap.size + 1, 2, none⟩ (.int .i64 0)) := hW2
  clear hW2 q1 e1 hb1
  go_wp2
  rw [← HW2.out]
  refine bodyPost_ret (by simp [results, Try.results29, go_sem, u0, u1, u2]) rfl ⟨rfl, HF.out⟩

end Go.Proofs.Ytfjfogiohijkkab
