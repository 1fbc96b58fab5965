/- Proved here: PutBox of the program (a place that is embedded, its column and row beside it): putK. -/
import Derived.Test.YtncenhpnomcnfaaPutC
import Derived.Test.YtncenhpnomcnfaaSRuns
namespace Go.Proofs.Ytncenhpnomcnfaa
open Go.RowKit
set_option linter.unusedVariables false
set_option linter.unusedSimpArgs false

theorem put_skip {P : Program} {ops : Array Oper} {Q : Exit → Act → World → Prop} {i : Nat} {o : Oper} {a : Act} {w w' : World} {K : Act → World → Prop} (ho : ops[i]? = some o) (hg : o.guard = none)
    (hrun : (execOp a.eval o).run P w = .ok .skip w') (h : K (a.put o.dst undef) w') : wpOp P ops Q i K a w := by
  unfold wpOp
  simp only [ho, wanted_none hg, if_true]
  refine Or.inl ?_
  unfold Oper.wp
  rw [hrun]
  exact h

theorem stand_at {w : World} {k : Nat} {p : Pl} {i j : Int} {f : Bool} {T : TypeId} (h : w.heap[k]? = some (.cells #[.string p.c, .int .i64 p.x, .int .i64 p.y, .int .i64 p.t, .bool f, .int .i64 p.nx, .int .i64 p.ny, .int .i64 p.dx, .int .i64 p.dy, .int .i64 i, .int .i64 j] T)) :
    w.cell? ⟨k, 1, none⟩ = some (.int .i64 p.x) ∧ w.cell? ⟨k, 2, none⟩ = some (.int .i64 p.y) ∧ w.cell? ⟨k, 3, none⟩ = some (.int .i64 p.t) ∧ w.cell? ⟨k, 7, none⟩ = some (.int .i64 p.dx) ∧ w.cell? ⟨k, 8, none⟩ = some (.int .i64 p.dy) ∧ w.cell? ⟨k, 9, none⟩ = some (.int .i64 i) ∧ w.cell? ⟨k, 10, none⟩ = some (.int .i64 j) ∧ k < w.heap.size := by
  refine ⟨by simp [World.cell?, h], by simp [World.cell?, h], by simp [World.cell?, h], by simp [World.cell?, h], by simp [World.cell?, h], by simp [World.cell?, h], by simp [World.cell?, h], ?_⟩
  rcases Nat.lt_or_ge k w.heap.size with h' | h'
  · exact h'
  · rw [Array.getElem?_eq_none h'] at h; cases h
theorem box_set2 {w : World} {k : Nat} {a b c d : Int} (h : w.heap[k]? = some (.cells #[.int .i64 a, .int .i64 b, .int .i64 c, .int .i64 d] 45)) (a' c' : Int) :
    ((w.setCell ⟨k, 0, none⟩ (.int .i64 a')).setCell ⟨k, 2, none⟩ (.int .i64 c')).heap[k]? = some (.cells #[.int .i64 a', .int .i64 b, .int .i64 c', .int .i64 d] 45) := by
  have k0 := heap_setCell_same w k 0 _ _ (.int .i64 a') h
  have k2 := heap_setCell_same _ k 2 _ _ (.int .i64 c') k0
  simpa using k2

set_option maxRecDepth 20000 in
set_option maxHeartbeats 4000000 in
theorem impl_put_false (p : Pl) (i j : Int) (b : Bx) (w : World) :
    Calls Try.prog 55 #[.agg #[.string p.c, .int .i64 p.x, .int .i64 p.y, .int .i64 p.t, .bool false, .int .i64 p.nx, .int .i64 p.ny, .int .i64 p.dx, .int .i64 p.dy, .int .i64 i, .int .i64 j], .agg #[.int .i64 b.x0, .int .i64 b.y0, .int .i64 b.x1, .int .i64 b.y1]] w fun e w' => e = .returned (.agg #[.int .i64 (movB (turnsB (p.t % 4).toNat b) (wrap64 (p.x + wrap64 (i * p.dx))) (wrap64 (p.y + wrap64 (j * p.dy)))).x0, .int .i64 (movB (turnsB (p.t % 4).toNat b) (wrap64 (p.x + wrap64 (i * p.dx))) (wrap64 (p.y + wrap64 (j * p.dy)))).y0, .int .i64 (movB (turnsB (p.t % 4).toNat b) (wrap64 (p.x + wrap64 (i * p.dx))) (wrap64 (p.y + wrap64 (j * p.dy)))).x1, .int .i64 (movB (turnsB (p.t % 4).toNat b) (wrap64 (p.x + wrap64 (i * p.dx))) (wrap64 (p.y + wrap64 (j * p.dy)))).y1]) ∧ Below w.heap.size w w' := by
  obtain ⟨R, hR⟩ : ∃ R, R = movB (turnsB (p.t % 4).toNat b) (wrap64 (p.x + wrap64 (i * p.dx))) (wrap64 (p.y + wrap64 (j * p.dy))) := ⟨_, rfl⟩
  rw [← hR]
  obtain ⟨c, hc⟩ : ∃ c, c = b := ⟨_, rfl⟩
  rw [← hc] at hR
  obtain ⟨wr, hwr⟩ : ∃ wr, wr = ((w.alloc (.cells #[.string p.c, .int .i64 p.x, .int .i64 p.y, .int .i64 p.t, .bool false, .int .i64 p.nx, .int .i64 p.ny, .int .i64 p.dx, .int .i64 p.dy, .int .i64 i, .int .i64 j] 67)).alloc (.cells #[.int .i64 b.x0, .int .i64 b.y0, .int .i64 b.x1, .int .i64 b.y1] 45)).alloc (.cells #[.int .i64 0, .int .i64 0, .int .i64 0, .int .i64 0] 45) := ⟨_, rfl⟩
  have g0 : wr.heap[w.heap.size]? = some (.cells #[.string p.c, .int .i64 p.x, .int .i64 p.y, .int .i64 p.t, .bool false, .int .i64 p.nx, .int .i64 p.ny, .int .i64 p.dx, .int .i64 p.dy, .int .i64 i, .int .i64 j] 67) := by
    rw [hwr]
    exact (three_new w _ _ _).1
  have g1 : wr.heap[w.heap.size + 1]? = some (.cells #[.int .i64 c.x0, .int .i64 c.y0, .int .i64 c.x1, .int .i64 c.y1] 45) := by
    rw [hwr, hc]
    exact (three_new w _ _ _).2.1
  have g2 : wr.heap[w.heap.size + 2]? = some (.cells #[.int .i64 0, .int .i64 0, .int .i64 0, .int .i64 0] 45) := by
    rw [hwr]
    exact (three_new w _ _ _).2.2
  have hbw : Below w.heap.size w wr := by rw [hwr]; (repeat' (first | (with_reducible exact Below.refl _ _) | (with_reducible assumption) | (with_reducible refine Below.setCell ?_ ?_ _) | (with_reducible refine Below.alloc ?_ ?_ _) | (with_reducible refine below_drewN ?_ _) | (with_reducible refine Below.drew ?_) | (with_reducible exact Nat.le_refl _) | omega | (simp; done) | (simp; omega)))
  have HWR : Hid (wr = ((w.alloc (.cells #[.string p.c, .int .i64 p.x, .int .i64 p.y, .int .i64 p.t, .bool false, .int .i64 p.nx, .int .i64 p.ny, .int .i64 p.dx, .int .i64 p.dy, .int .i64 i, .int .i64 j] 67)).alloc (.cells #[.int .i64 b.x0, .int .i64 b.y0, .int .i64 b.x1, .int .i64 b.y1] 45)).alloc (.cells #[.int .i64 0, .int .i64 0, .int .i64 0, .int .i64 0] 45)) := hwr
  have HR : Hid _ := hR
  have HBW : Hid _ := hbw
  clear hwr hR hbw hc
  obtain ⟨p1, p2, p3, p7, p8, p9, p10, pl⟩ := stand_at g0
  obtain ⟨c0, c1, c2, c3, cf, cl⟩ := box_at g1
  obtain ⟨_, _, _, _, df, dl⟩ := box_at g2
  have G2 : Hid _ := g2
  clear g0 g1 g2 cf
  go_enter Try.func55, Try.ntmps55
  go_wp2_with (fail)
  have HW2 := HWR.out
  rw [← HW2]
  clear HW2 HWR
  have hS0 := KB.start wr (some (w.heap.size + 2))
  refine wp_region_holds (S := KB wr (some (w.heap.size + 2))) (by kernel_rfl) hS0 (fun hS => ?_)
  refine fl_takeS (i := 0) (d := 16) (v := .agg #[.int .i64 c.x0, .int .i64 c.y0, .int .i64 c.x1, .int .i64 c.y1]) rfl rfl rfl (by kernel_rfl) (by kernel_rfl) (by kernel_rfl) hS ?_ ?_
  · intro w' hk; unfold KB at hk; go_simp
  simp only [Act.put, List.setIfInBounds_toArray, List.set_cons_zero, List.set_cons_succ]
  refine fl_takeS (i := 1) (d := 17) (v := .pointer (some ⟨w.heap.size, 0, none⟩)) rfl rfl rfl (by kernel_rfl) (by kernel_rfl) (by kernel_rfl) hS ?_ ?_
  · intro w' hk; unfold KB at hk; go_simp
  simp only [Act.put, List.setIfInBounds_toArray, List.set_cons_zero, List.set_cons_succ]
  refine fl_takeS (i := 2) (d := 18) (v := .pointer (some ⟨w.heap.size, 3, none⟩)) rfl rfl rfl (by kernel_rfl) (by kernel_rfl) (by kernel_rfl) hS ?_ ?_
  · intro w' hk; unfold KB at hk; go_simp
  simp only [Act.put, List.setIfInBounds_toArray, List.set_cons_zero, List.set_cons_succ]
  refine fl_takeS (i := 3) (d := 19) (v := .int .i64 p.t) rfl rfl rfl (by kernel_rfl) (by kernel_rfl) (by kernel_rfl) hS ?_ ?_
  · intro w' hk; unfold KB at hk; go_simp
  simp only [Act.put, List.setIfInBounds_toArray, List.set_cons_zero, List.set_cons_succ]
  refine fl_takeS (i := 5) (d := 21) (v := .pointer (some ⟨w.heap.size, 0, none⟩)) rfl rfl rfl (by kernel_rfl) (by kernel_rfl) (by kernel_rfl) hS ?_ ?_
  · intro w' hk; unfold KB at hk; go_simp
  simp only [Act.put, List.setIfInBounds_toArray, List.set_cons_zero, List.set_cons_succ]
  refine fl_takeS (i := 6) (d := 22) (v := .pointer (some ⟨w.heap.size, 1, none⟩)) rfl rfl rfl (by kernel_rfl) (by kernel_rfl) (by kernel_rfl) hS ?_ ?_
  · intro w' hk; unfold KB at hk; go_simp
  simp only [Act.put, List.setIfInBounds_toArray, List.set_cons_zero, List.set_cons_succ]
  refine fl_takeS (i := 7) (d := 23) (v := .int .i64 p.x) rfl rfl rfl (by kernel_rfl) (by kernel_rfl) (by kernel_rfl) hS ?_ ?_
  · intro w' hk; unfold KB at hk; go_simp
  simp only [Act.put, List.setIfInBounds_toArray, List.set_cons_zero, List.set_cons_succ]
  refine fl_takeS (i := 8) (d := 24) (v := .pointer (some ⟨w.heap.size, 9, none⟩)) rfl rfl rfl (by kernel_rfl) (by kernel_rfl) (by kernel_rfl) hS ?_ ?_
  · intro w' hk; unfold KB at hk; go_simp
  simp only [Act.put, List.setIfInBounds_toArray, List.set_cons_zero, List.set_cons_succ]
  refine fl_takeS (i := 9) (d := 25) (v := .int .i64 i) rfl rfl rfl (by kernel_rfl) (by kernel_rfl) (by kernel_rfl) hS ?_ ?_
  · intro w' hk; unfold KB at hk; go_simp
  simp only [Act.put, List.setIfInBounds_toArray, List.set_cons_zero, List.set_cons_succ]
  refine fl_takeS (i := 10) (d := 26) (v := .pointer (some ⟨w.heap.size, 0, none⟩)) rfl rfl rfl (by kernel_rfl) (by kernel_rfl) (by kernel_rfl) hS ?_ ?_
  · intro w' hk; unfold KB at hk; go_simp
  simp only [Act.put, List.setIfInBounds_toArray, List.set_cons_zero, List.set_cons_succ]
  refine fl_takeS (i := 11) (d := 27) (v := .pointer (some ⟨w.heap.size, 7, none⟩)) rfl rfl rfl (by kernel_rfl) (by kernel_rfl) (by kernel_rfl) hS ?_ ?_
  · intro w' hk; unfold KB at hk; go_simp
  simp only [Act.put, List.setIfInBounds_toArray, List.set_cons_zero, List.set_cons_succ]
  refine fl_takeS (i := 12) (d := 28) (v := .int .i64 p.dx) rfl rfl rfl (by kernel_rfl) (by kernel_rfl) (by kernel_rfl) hS ?_ ?_
  · intro w' hk; unfold KB at hk; go_simp
  simp only [Act.put, List.setIfInBounds_toArray, List.set_cons_zero, List.set_cons_succ]
  refine fl_takeS (i := 13) (d := 29) (v := .int .i64 (wrap64 (i * p.dx))) rfl rfl rfl (by kernel_rfl) (by kernel_rfl) (by kernel_rfl) hS ?_ ?_
  · intro w' hk; go_simp; simp only [IntKind.wrap_i64, wrap64]
  simp only [Act.put, List.setIfInBounds_toArray, List.set_cons_zero, List.set_cons_succ]
  refine fl_takeS (i := 14) (d := 30) (v := .int .i64 (wrap64 (p.x + wrap64 (i * p.dx)))) rfl rfl rfl (by kernel_rfl) (by kernel_rfl) (by kernel_rfl) hS ?_ ?_
  · intro w' hk; go_simp; simp only [IntKind.wrap_i64, wrap64]
  simp only [Act.put, List.setIfInBounds_toArray, List.set_cons_zero, List.set_cons_succ]
  refine fl_takeS (i := 15) (d := 31) (v := .pointer (some ⟨w.heap.size, 0, none⟩)) rfl rfl rfl (by kernel_rfl) (by kernel_rfl) (by kernel_rfl) hS ?_ ?_
  · intro w' hk; unfold KB at hk; go_simp
  simp only [Act.put, List.setIfInBounds_toArray, List.set_cons_zero, List.set_cons_succ]
  refine fl_takeS (i := 16) (d := 32) (v := .pointer (some ⟨w.heap.size, 2, none⟩)) rfl rfl rfl (by kernel_rfl) (by kernel_rfl) (by kernel_rfl) hS ?_ ?_
  · intro w' hk; unfold KB at hk; go_simp
  simp only [Act.put, List.setIfInBounds_toArray, List.set_cons_zero, List.set_cons_succ]
  refine fl_takeS (i := 17) (d := 33) (v := .int .i64 p.y) rfl rfl rfl (by kernel_rfl) (by kernel_rfl) (by kernel_rfl) hS ?_ ?_
  · intro w' hk; unfold KB at hk; go_simp
  simp only [Act.put, List.setIfInBounds_toArray, List.set_cons_zero, List.set_cons_succ]
  refine fl_takeS (i := 18) (d := 34) (v := .pointer (some ⟨w.heap.size, 10, none⟩)) rfl rfl rfl (by kernel_rfl) (by kernel_rfl) (by kernel_rfl) hS ?_ ?_
  · intro w' hk; unfold KB at hk; go_simp
  simp only [Act.put, List.setIfInBounds_toArray, List.set_cons_zero, List.set_cons_succ]
  refine fl_takeS (i := 19) (d := 35) (v := .int .i64 j) rfl rfl rfl (by kernel_rfl) (by kernel_rfl) (by kernel_rfl) hS ?_ ?_
  · intro w' hk; unfold KB at hk; go_simp
  simp only [Act.put, List.setIfInBounds_toArray, List.set_cons_zero, List.set_cons_succ]
  refine fl_takeS (i := 20) (d := 36) (v := .pointer (some ⟨w.heap.size, 0, none⟩)) rfl rfl rfl (by kernel_rfl) (by kernel_rfl) (by kernel_rfl) hS ?_ ?_
  · intro w' hk; unfold KB at hk; go_simp
  simp only [Act.put, List.setIfInBounds_toArray, List.set_cons_zero, List.set_cons_succ]
  refine fl_takeS (i := 21) (d := 37) (v := .pointer (some ⟨w.heap.size, 8, none⟩)) rfl rfl rfl (by kernel_rfl) (by kernel_rfl) (by kernel_rfl) hS ?_ ?_
  · intro w' hk; unfold KB at hk; go_simp
  simp only [Act.put, List.setIfInBounds_toArray, List.set_cons_zero, List.set_cons_succ]
  refine fl_takeS (i := 22) (d := 38) (v := .int .i64 p.dy) rfl rfl rfl (by kernel_rfl) (by kernel_rfl) (by kernel_rfl) hS ?_ ?_
  · intro w' hk; unfold KB at hk; go_simp
  simp only [Act.put, List.setIfInBounds_toArray, List.set_cons_zero, List.set_cons_succ]
  refine fl_takeS (i := 23) (d := 39) (v := .int .i64 (wrap64 (j * p.dy))) rfl rfl rfl (by kernel_rfl) (by kernel_rfl) (by kernel_rfl) hS ?_ ?_
  · intro w' hk; go_simp; simp only [IntKind.wrap_i64, wrap64]
  simp only [Act.put, List.setIfInBounds_toArray, List.set_cons_zero, List.set_cons_succ]
  refine fl_takeS (i := 24) (d := 40) (v := .int .i64 (wrap64 (p.y + wrap64 (j * p.dy)))) rfl rfl rfl (by kernel_rfl) (by kernel_rfl) (by kernel_rfl) hS ?_ ?_
  · intro w' hk; go_simp; simp only [IntKind.wrap_i64, wrap64]
  simp only [Act.put, List.setIfInBounds_toArray, List.set_cons_zero, List.set_cons_succ]
  refine wpAnyH_all (rs := [4]) (by kernel_rfl) (by simp) ?_
  intro i4 hi4
  obtain rfl : i4 = 4 := by simpa using hi4
  refine op_call (d := 20) rfl rfl rfl (by go_simp; try rfl) ((impl_turned c p.t _).mono ?_)
  rintro e w1 ⟨rfl, hb1⟩
  refine ⟨_, rfl, ?_⟩
  simp only [Act.put, List.setIfInBounds_toArray, List.set_cons_zero, List.set_cons_succ]
  have hk1 : KB wr (some (w.heap.size + 2)) w1 := KB.of fun b hb _ => hb1.block b (by simpa using hb)
  refine ⟨hk1, wpAnyH_all (rs := [25]) (by kernel_rfl) (by simp) ?_⟩
  intro i5 hi5
  obtain rfl : i5 = 25 := by simpa using hi5
  refine op_call (d := 41) rfl rfl rfl (by go_simp; try rfl) ((impl_movB (turnsB (p.t % 4).toNat c) (wrap64 (p.x + wrap64 (i * p.dx))) (wrap64 (p.y + wrap64 (j * p.dy))) _).mono ?_)
  rintro e w2 ⟨rfl, hb2⟩
  refine ⟨_, rfl, ?_⟩
  simp only [Act.put, List.setIfInBounds_toArray, List.set_cons_zero, List.set_cons_succ]
  rw [← HR.out]
  have hb3 : Below wr.heap.size wr w2 := ((Below.refl _ wr).drew).trans (hb1.trans (hb2.mono hb1.size))
  have g3 : w2.heap[w.heap.size + 2]? = some (.cells #[.int .i64 0, .int .i64 0, .int .i64 0, .int .i64 0] 45) := (hb3.block _ dl).trans G2.out
  obtain ⟨d0, d1, d2, d3, df, dl2⟩ := box_at g3
  have hset := box_set g3 R.x0 R.y0 R.x1 R.y1
  have f0 := df 0
  have f1 := df 1
  have f2 := df 2
  have f3 := df 3
  have hk2 : KB wr (some (w.heap.size + 2)) w2 := KB.of fun b hb _ => hb3.block b hb
  obtain ⟨W, hW⟩ : ∃ W, W = (((w2.setCell ⟨w.heap.size + 2, 0, none⟩ (.int .i64 R.x0)).setCell ⟨w.heap.size + 2, 1, none⟩ (.int .i64 R.y0)).setCell ⟨w.heap.size + 2, 2, none⟩ (.int .i64 R.x1)).setCell ⟨w.heap.size + 2, 3, none⟩ (.int .i64 R.y1) := ⟨_, rfl⟩
  have hk3 : KB wr (some (w.heap.size + 2)) W := KB.of fun b hb hr => by
    have hne : ¬ b = w.heap.size + 2 := fun e => hr (by rw [e])
    rw [hW]
    exact (heap_setCell_other _ _ _ _ (by simpa using hne)).trans ((heap_setCell_other _ _ _ _ (by simpa using hne)).trans ((heap_setCell_other _ _ _ _ (by simpa using hne)).trans ((heap_setCell_other _ _ _ _ (by simpa using hne)).trans (hb3.block b hb))))
  have hb := HBW.out.trans (hb3.mono HBW.out.size)
  have HB : Hid (Below w.heap.size w W) := by unfold Hid; rw [hW]; (repeat' (first | (with_reducible exact Below.refl _ _) | (with_reducible assumption) | (with_reducible refine Below.setCell ?_ ?_ _) | (with_reducible refine Below.alloc ?_ ?_ _) | (with_reducible refine below_drewN ?_ _) | (with_reducible refine Below.drew ?_) | (with_reducible exact Nat.le_refl _) | omega | (simp; done) | (simp; omega)))
  rw [← hW] at hset
  refine ⟨hk2, wpAnyH_all (rs := [26]) (by kernel_rfl) (by simp) ?_⟩
  intro i6 hi6
  obtain rfl : i6 = 26 := by simpa using hi6
  refine put_skip (w' := W) rfl rfl (by rw [hW]; go_simp; try rfl) ?_
  simp only [Act.put]
  refine ⟨hk3, wpAnyH_done (by kernel_rfl) (NoPanic.normal ?_) _⟩
  obtain ⟨e0, e1, e2, e3, ef, el⟩ := box_at hset
  clear hset hW hk3 hk2 hS hS0 hb1 hb2 hb3 d0 d1 d2 d3 df f0 f1 f2 f3
  go_wp2
  refine bodyPost_ret (by simp [results, Try.results55, go_sem, e0, e1, e2, e3]) rfl ⟨rfl, HB.out⟩

end Go.Proofs.Ytncenhpnomcnfaa
