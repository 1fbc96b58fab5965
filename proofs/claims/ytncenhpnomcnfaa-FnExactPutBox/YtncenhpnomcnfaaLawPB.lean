/- Proved here: 'the program's PutBox answers as the model's', for every place, column, row and box, without a condition. -/
import Derived.Test.YtncenhpnomcnfaaPutE
import Derived.Test.YtncenhpnomcnfaaAggOpen
import Derived.Test.YtncenhpnomcnfaaOpenBx
import Derived.Test.YtncenhpnomcnfaaRows
namespace Go.Proofs.Ytncenhpnomcnfaa
open Go.ChangeShapes Go.WideShapes Go.ChangeAt Go.RowKit Go.Joins Go.Deep
set_option linter.unusedVariables false
set_option linter.unusedSimpArgs false

set_option maxRecDepth 100000 in
theorem place_open {H : Type} {enc : TypeId × Value → H} {W : World} {base : Nat} {v : Value} {d : DataW H} {p : List MemPlace}
    (hv : Value.okWide Try.prog W .any base 41 v) (h : DataW.Trod enc Try.prog W 0 (fun _ => true) true 41 v d p) :
    ∃ q : Pl, v = .agg #[.string q.c, .int .i64 q.x, .int .i64 q.y, .int .i64 q.t, .bool q.f, .int .i64 q.nx, .int .i64 q.ny, .int .i64 q.dx, .int .i64 q.dy] ∧ q.c.size ≤ maxLen ∧ (Lit.int .i64 q.t).wf = true := by
  obtain ⟨l, n, rfl, hl, hf⟩ := agg_open Try.underlying41 (by kernel_rfl) (by kernel_rfl) hv h
  obtain ⟨c0, c1, c2, c3, c4, c5, c6, c7, c8, rfl⟩ := list9 hl
  obtain ⟨_, y0, e0, t0⟩ := hf 0 _ rfl
  obtain ⟨_, y1, e1, t1⟩ := hf 1 _ rfl
  obtain ⟨_, y2, e2, t2⟩ := hf 2 _ rfl
  obtain ⟨_, y3, e3, t3⟩ := hf 3 _ rfl
  obtain ⟨_, y4, e4, t4⟩ := hf 4 _ rfl
  obtain ⟨_, y5, e5, t5⟩ := hf 5 _ rfl
  obtain ⟨_, y6, e6, t6⟩ := hf 6 _ rfl
  obtain ⟨_, y7, e7, t7⟩ := hf 7 _ rfl
  obtain ⟨_, y8, e8, t8⟩ := hf 8 _ rfl
  obtain ⟨s, k0, _, hs⟩ := DataW.trod_string Try.underlying9 t0
  obtain ⟨n1, k1, _, _⟩ := DataW.trod_int Try.underlying2 t1
  obtain ⟨n2, k2, _, _⟩ := DataW.trod_int Try.underlying2 t2
  obtain ⟨n3, k3, _, w3⟩ := DataW.trod_int Try.underlying2 t3
  obtain ⟨n4, k4, _⟩ := DataW.trod_bool Try.underlying4 t4
  obtain ⟨n5, k5, _, _⟩ := DataW.trod_int Try.underlying2 t5
  obtain ⟨n6, k6, _, _⟩ := DataW.trod_int Try.underlying2 t6
  obtain ⟨n7, k7, _, _⟩ := DataW.trod_int Try.underlying2 t7
  obtain ⟨n8, k8, _, _⟩ := DataW.trod_int Try.underlying2 t8
  simp at e0 e1 e2 e3 e4 e5 e6 e7 e8 k0 k1 k2 k3 k4 k5 k6 k7 k8
  subst e0 e1 e2 e3 e4 e5 e6 e7 e8
  subst k0 k1 k2 k3 k4 k5 k6 k7 k8
  exact ⟨⟨s, n1, n2, n3, n4, n5, n6, n7, n8⟩, rfl, hs, w3⟩

set_option maxHeartbeats 800000 in
theorem szPlace_few (p : Pl) (w : World) (h : (p.c.size : Int) ≤ 1048576) :
    Calls Try.prog 26 #[.agg #[.string p.c, .int .i64 p.x, .int .i64 p.y, .int .i64 p.t, .bool p.f, .int .i64 p.nx, .int .i64 p.ny, .int .i64 p.dx, .int .i64 p.dy], .int .i64 1048576] w fun e w' => e = .returned (.int .i64 (1048576 - p.c.size)) ∧ Below w.heap.size w w' := by
  have hw : IntKind.i64.wrap (1048576 - (p.c.size : Int)) = 1048576 - (p.c.size : Int) := by rw [IntKind.wrap_i64]; omega
  have hn : ¬ 1048576 - (p.c.size : Int) < 0 := by omega
  go_enter Try.func26, Try.ntmps26
  go_wp2
  go_returns
  exact ⟨rfl, by (repeat' (first | (with_reducible exact Below.refl _ _) | (with_reducible assumption) | (with_reducible refine Below.setCell ?_ ?_ _) | (with_reducible refine Below.alloc ?_ ?_ _) | (with_reducible refine below_drewN ?_ _) | (with_reducible refine Below.drew ?_) | (with_reducible exact Nat.le_refl _) | omega | (simp; done) | (simp; omega)))⟩
set_option maxHeartbeats 800000 in
theorem szPlace_many (p : Pl) (w : World) (h : (1048576 : Int) < (p.c.size : Int)) (h2 : (p.c.size : Int) ≤ 9223372036854775807) :
    Calls Try.prog 26 #[.agg #[.string p.c, .int .i64 p.x, .int .i64 p.y, .int .i64 p.t, .bool p.f, .int .i64 p.nx, .int .i64 p.ny, .int .i64 p.dx, .int .i64 p.dy], .int .i64 1048576] w fun e w' => e = .returned (.int .i64 (-1)) ∧ Below w.heap.size w w' := by
  have hw : IntKind.i64.wrap (1048576 - (p.c.size : Int)) = 1048576 - (p.c.size : Int) := by rw [IntKind.wrap_i64]; omega
  have hn : 1048576 - (p.c.size : Int) < 0 := by omega
  go_enter Try.func26, Try.ntmps26
  go_wp2
  go_returns
  exact ⟨rfl, by (repeat' (first | (with_reducible exact Below.refl _ _) | (with_reducible assumption) | (with_reducible refine Below.setCell ?_ ?_ _) | (with_reducible refine Below.alloc ?_ ?_ _) | (with_reducible refine below_drewN ?_ _) | (with_reducible refine Below.drew ?_) | (with_reducible exact Nat.le_refl _) | omega | (simp; done) | (simp; omega)))⟩
set_option maxHeartbeats 1600000 in
theorem toPlace_any (p : Pl) (w : World) :
    Calls Try.prog 28 #[.agg #[.string p.c, .int .i64 p.x, .int .i64 p.y, .int .i64 p.t, .bool p.f, .int .i64 p.nx, .int .i64 p.ny, .int .i64 p.dx, .int .i64 p.dy]] w fun e w' => e = .returned (.agg #[.string p.c, .int .i64 p.x, .int .i64 p.y, .int .i64 p.t, .bool p.f, .int .i64 p.nx, .int .i64 p.ny, .int .i64 p.dx, .int .i64 p.dy]) ∧ Below w.heap.size w w' := by
  go_enter Try.func28, Try.ntmps28
  go_wp2
  go_returns
  exact ⟨rfl, by (repeat' (first | (with_reducible exact Below.refl _ _) | (with_reducible assumption) | (with_reducible refine Below.setCell ?_ ?_ _) | (with_reducible refine Below.alloc ?_ ?_ _) | (with_reducible refine below_drewN ?_ _) | (with_reducible refine Below.drew ?_) | (with_reducible exact Nat.le_refl _) | omega | (simp; done) | (simp; omega)))⟩

theorem place_all {w : World} {k : Nat} {p : Pl} {f : Bool} {T : TypeId} (h : w.heap[k]? = some (.cells #[.string p.c, .int .i64 p.x, .int .i64 p.y, .int .i64 p.t, .bool f, .int .i64 p.nx, .int .i64 p.ny, .int .i64 p.dx, .int .i64 p.dy] T)) :
    w.cell? ⟨k, 0, none⟩ = some (.string p.c) ∧ w.cell? ⟨k, 1, none⟩ = some (.int .i64 p.x) ∧ w.cell? ⟨k, 2, none⟩ = some (.int .i64 p.y) ∧ w.cell? ⟨k, 3, none⟩ = some (.int .i64 p.t) ∧ w.cell? ⟨k, 4, none⟩ = some (.bool f) ∧ w.cell? ⟨k, 5, none⟩ = some (.int .i64 p.nx) ∧ w.cell? ⟨k, 6, none⟩ = some (.int .i64 p.ny) ∧ w.cell? ⟨k, 7, none⟩ = some (.int .i64 p.dx) ∧ w.cell? ⟨k, 8, none⟩ = some (.int .i64 p.dy) ∧ k < w.heap.size := by
  refine ⟨by simp [World.cell?, h], by simp [World.cell?, h], by simp [World.cell?, h], by simp [World.cell?, h], by simp [World.cell?, h], by simp [World.cell?, h], by simp [World.cell?, h], by simp [World.cell?, h], by simp [World.cell?, h], ?_⟩
  rcases Nat.lt_or_ge k w.heap.size with h' | h'
  · exact h'
  · rw [Array.getElem?_eq_none h'] at h; cases h

theorem box_atT {w : World} {k : Nat} {a b c d : Int} {T : TypeId} (h : w.heap[k]? = some (.cells #[.int .i64 a, .int .i64 b, .int .i64 c, .int .i64 d] T)) :
    w.cell? ⟨k, 0, none⟩ = some (.int .i64 a) ∧ w.cell? ⟨k, 1, none⟩ = some (.int .i64 b) ∧ w.cell? ⟨k, 2, none⟩ = some (.int .i64 c) ∧ w.cell? ⟨k, 3, none⟩ = some (.int .i64 d) ∧ k < w.heap.size := by
  refine ⟨by simp [World.cell?, h], by simp [World.cell?, h], by simp [World.cell?, h], by simp [World.cell?, h], ?_⟩
  rcases Nat.lt_or_ge k w.heap.size with h' | h'
  · exact h'
  · rw [Array.getElem?_eq_none h'] at h; cases h

set_option maxRecDepth 20000 in
set_option maxHeartbeats 4000000 in
theorem law_pb (p : Pl) (hm : p.c.size ≤ maxLen) (wt : (Lit.int .i64 p.t).wf = true) (i j : Int) (b : Bx) (w : World) :
    Calls Try.prog 8 #[.agg #[.string p.c, .int .i64 p.x, .int .i64 p.y, .int .i64 p.t, .bool p.f, .int .i64 p.nx, .int .i64 p.ny, .int .i64 p.dx, .int .i64 p.dy], .int .i64 i, .int .i64 j, .agg #[.int .i64 b.x0, .int .i64 b.y0, .int .i64 b.x1, .int .i64 b.y1]] w fun e w' => e = .returned (.bool true) ∧ Below w.heap.size w w' := by
  have ht : -9223372036854775808 ≤ p.t ∧ p.t ≤ 9223372036854775807 := by
    simpa [Lit.wf, IntKind.min, IntKind.max, IntKind.signed, IntKind.bits] using wt
  obtain ⟨R, hR⟩ : ∃ R, R = putK p i j b := ⟨_, rfl⟩
  have hs := fun w => spec_putBox p i j b w ht.1 ht.2
  have hi := fun w => impl_putBox p i j b w
  rw [← hR] at hs hi
  have Hs : Hid _ := hs
  have Hi : Hid _ := hi
  clear hs hi hR wt ht
  unfold maxLen at hm
  by_cases hbig : (p.c.size : Int) ≤ 1048576
  case neg =>
    have hgt : (1048576 : Int) < (p.c.size : Int) := by omega
    go_enter Try.func8, Try.ntmps8
    go_wp2_with (fail)
    refine (szPlace_many p _ hgt (by omega)).mono ?_
    rintro e w0 ⟨rfl, hb0⟩
    have hB : Hid (Below w.heap.size w w0) := (show Below w.heap.size w _ from by (repeat' (first | (with_reducible exact Below.refl _ _) | (with_reducible assumption) | (with_reducible refine Below.setCell ?_ ?_ _) | (with_reducible refine Below.alloc ?_ ?_ _) | (with_reducible refine below_drewN ?_ _) | (with_reducible refine Below.drew ?_) | (with_reducible exact Nat.le_refl _) | omega | (simp; done) | (simp; omega)))).trans (hb0.mono (by simp; omega))
    clear hb0
    go_wp2
    go_returns
    exact ⟨rfl, hB.out⟩
  have hneg : ¬ 1048576 - (p.c.size : Int) < 0 := by omega
  go_enter Try.func8, Try.ntmps8
  go_wp2_with (fail)
  refine (szPlace_few p _ hbig).mono ?_
  rintro e w0 ⟨rfl, hb0⟩
  have hB0 : Hid (Below w.heap.size w w0) := (show Below w.heap.size w _ from by (repeat' (first | (with_reducible exact Below.refl _ _) | (with_reducible assumption) | (with_reducible refine Below.setCell ?_ ?_ _) | (with_reducible refine Below.alloc ?_ ?_ _) | (with_reducible refine below_drewN ?_ _) | (with_reducible refine Below.drew ?_) | (with_reducible exact Nat.le_refl _) | omega | (simp; done) | (simp; omega)))).trans (hb0.mono (by simp; omega))
  have g0 := (hb0.block w.heap.size (by simp; omega)).trans (two_new w _ _).1
  have g1 := (hb0.block (w.heap.size + 1) (by simp)).trans (two_new w _ _).2
  obtain ⟨p0, p1, p2, p3, p4, p5, p6, p7, p8, pl⟩ := place_all g0
  obtain ⟨b0, b1, b2, b3, bl⟩ := box_atT g1
  clear hb0 g0 g1
  go_wp2_with (fail)
  refine wp_region_float (by kernel_rfl) (fun hS => ?_)
  refine fl_take (i := 0) (d := 17) (v := .agg #[.string p.c, .int .i64 p.x, .int .i64 p.y, .int .i64 p.t, .bool p.f, .int .i64 p.nx, .int .i64 p.ny, .int .i64 p.dx, .int .i64 p.dy]) rfl rfl rfl (by kernel_rfl) (by kernel_rfl) (by kernel_rfl) hS ?_ ?_
  · intro w' hk; go_simp
  simp only [Act.put, List.setIfInBounds_toArray, List.set_cons_zero, List.set_cons_succ]
  refine fl_take (i := 2) (d := 19) (v := .int .i64 i) rfl rfl rfl (by kernel_rfl) (by kernel_rfl) (by kernel_rfl) hS ?_ ?_
  · intro w' hk; go_simp
  simp only [Act.put, List.setIfInBounds_toArray, List.set_cons_zero, List.set_cons_succ]
  refine fl_take (i := 3) (d := 20) (v := .int .i64 j) rfl rfl rfl (by kernel_rfl) (by kernel_rfl) (by kernel_rfl) hS ?_ ?_
  · intro w' hk; go_simp
  simp only [Act.put, List.setIfInBounds_toArray, List.set_cons_zero, List.set_cons_succ]
  refine fl_take (i := 4) (d := 21) (v := .agg #[.int .i64 b.x0, .int .i64 b.y0, .int .i64 b.x1, .int .i64 b.y1]) rfl rfl rfl (by kernel_rfl) (by kernel_rfl) (by kernel_rfl) hS ?_ ?_
  · intro w' hk; go_simp
  simp only [Act.put, List.setIfInBounds_toArray, List.set_cons_zero, List.set_cons_succ]
  refine float_pend (z := #[.int .i64 0, .int .i64 0, .int .i64 0, .int .i64 0]) (T := 45) (ja := 7) (js := 8) rfl rfl rfl rfl rfl (fun a w => by go_simp) [1, 5, 6] _ _ _ (fun _ => False) (by kernel_rfl) (by kernel_rfl) ?_ (Nat.le_refl _) (fun _ h => h.elim) hS
  intro W1 hW1
  refine ⟨_, 18, _, _, rfl, rfl, by go_simp, (toPlace_any p _).mono ?_⟩
  rintro e w1 ⟨rfl, hb1⟩
  refine ⟨_, rfl, hb1, ?_⟩
  simp only [Act.put, List.setIfInBounds_toArray, List.set_cons_zero, List.set_cons_succ]
  intro W2 hW2
  refine ⟨_, 22, _, _, rfl, rfl, by go_simp, (toBox_any b _).mono ?_⟩
  rintro e w2 ⟨rfl, hb2⟩
  refine ⟨_, rfl, hb2, ?_⟩
  simp only [Act.put, List.setIfInBounds_toArray, List.set_cons_zero, List.set_cons_succ]
  intro W3 hW3
  refine ⟨_, 23, _, _, rfl, rfl, by go_simp, (Hs.out _).mono ?_⟩
  rintro e w3 ⟨rfl, hb3⟩
  refine ⟨_, rfl, hb3, ?_⟩
  simp only [Act.put, List.setIfInBounds_toArray, List.set_cons_zero, List.set_cons_succ]
  unfold Fl
  refine after_store ?_ _ _ _ #[.int .i64 R.x0, .int .i64 R.y0, .int .i64 R.x1, .int .i64 R.y1] (by rfl) (by rfl) (fun _ => by rfl) (fun _ => by rfl) (by simp) (by kernel_rfl) (by simp [Value.oneCell']) ?_
  · exact Nat.le_refl _
  intro k1 V1 hK hk1 hk2 hF hoth hsz hcell
  simp only [Act.put, List.setIfInBounds_toArray, List.set_cons_zero, List.set_cons_succ]
  refine NoPanic.normal ?_
  clear hF hoth hsz hW1 hb1 hW2 hb2 hW3 hb3 hS w1 w2 w3 W1 W2 W3
  have P0 : V1.cell? ⟨w.heap.size, 0, none⟩ = some (.string p.c) := (hK.1 _ _ pl).trans p0
  have P1 : V1.cell? ⟨w.heap.size, 1, none⟩ = some (.int .i64 p.x) := (hK.1 _ _ pl).trans p1
  have P2 : V1.cell? ⟨w.heap.size, 2, none⟩ = some (.int .i64 p.y) := (hK.1 _ _ pl).trans p2
  have P3 : V1.cell? ⟨w.heap.size, 3, none⟩ = some (.int .i64 p.t) := (hK.1 _ _ pl).trans p3
  have P4 : V1.cell? ⟨w.heap.size, 4, none⟩ = some (.bool p.f) := (hK.1 _ _ pl).trans p4
  have P5 : V1.cell? ⟨w.heap.size, 5, none⟩ = some (.int .i64 p.nx) := (hK.1 _ _ pl).trans p5
  have P6 : V1.cell? ⟨w.heap.size, 6, none⟩ = some (.int .i64 p.ny) := (hK.1 _ _ pl).trans p6
  have P7 : V1.cell? ⟨w.heap.size, 7, none⟩ = some (.int .i64 p.dx) := (hK.1 _ _ pl).trans p7
  have P8 : V1.cell? ⟨w.heap.size, 8, none⟩ = some (.int .i64 p.dy) := (hK.1 _ _ pl).trans p8
  have B0 : V1.cell? ⟨w.heap.size + 1, 0, none⟩ = some (.int .i64 b.x0) := (hK.1 _ _ bl).trans b0
  have B1 : V1.cell? ⟨w.heap.size + 1, 1, none⟩ = some (.int .i64 b.y0) := (hK.1 _ _ bl).trans b1
  have B2 : V1.cell? ⟨w.heap.size + 1, 2, none⟩ = some (.int .i64 b.x1) := (hK.1 _ _ bl).trans b2
  have B3 : V1.cell? ⟨w.heap.size + 1, 3, none⟩ = some (.int .i64 b.y1) := (hK.1 _ _ bl).trans b3
  have r0 : V1.cell? ⟨k1, 0, none⟩ = some (.int .i64 R.x0) := hcell 0 _ rfl
  have r1 : V1.cell? ⟨k1, 1, none⟩ = some (.int .i64 R.y0) := hcell 1 _ rfl
  have r2 : V1.cell? ⟨k1, 2, none⟩ = some (.int .i64 R.x1) := hcell 2 _ rfl
  have r3 : V1.cell? ⟨k1, 3, none⟩ = some (.int .i64 R.y1) := hcell 3 _ rfl
  have HB1 : Hid (Below w.heap.size w V1) := hB0.out.trans (hK.2.mono hB0.out.size)
  have l0 : w.heap.size < V1.heap.size := by have := hK.2.size; omega
  have l1 : w.heap.size + 1 < V1.heap.size := by have := hK.2.size; omega
  have l2 : k1 < V1.heap.size := hk2
  clear hcell hK hk1 hk2 p0 p1 p2 p3 p4 p5 p6 p7 p8 b0 b1 b2 b3
  go_wp2_with (fail)
  refine wp_region_float (by kernel_rfl) (fun hS => ?_)
  refine fl_take (i := 0) (d := 24) (v := .agg #[.string p.c, .int .i64 p.x, .int .i64 p.y, .int .i64 p.t, .bool p.f, .int .i64 p.nx, .int .i64 p.ny, .int .i64 p.dx, .int .i64 p.dy]) rfl rfl rfl (by kernel_rfl) (by kernel_rfl) (by kernel_rfl) hS ?_ ?_
  · intro w' hk; go_simp
  simp only [Act.put, List.setIfInBounds_toArray, List.set_cons_zero, List.set_cons_succ]
  refine fl_take (i := 2) (d := 26) (v := .int .i64 i) rfl rfl rfl (by kernel_rfl) (by kernel_rfl) (by kernel_rfl) hS ?_ ?_
  · intro w' hk; go_simp
  simp only [Act.put, List.setIfInBounds_toArray, List.set_cons_zero, List.set_cons_succ]
  refine fl_take (i := 3) (d := 27) (v := .int .i64 j) rfl rfl rfl (by kernel_rfl) (by kernel_rfl) (by kernel_rfl) hS ?_ ?_
  · intro w' hk; go_simp
  simp only [Act.put, List.setIfInBounds_toArray, List.set_cons_zero, List.set_cons_succ]
  refine fl_take (i := 4) (d := 28) (v := .agg #[.int .i64 b.x0, .int .i64 b.y0, .int .i64 b.x1, .int .i64 b.y1]) rfl rfl rfl (by kernel_rfl) (by kernel_rfl) (by kernel_rfl) hS ?_ ?_
  · intro w' hk; go_simp
  simp only [Act.put, List.setIfInBounds_toArray, List.set_cons_zero, List.set_cons_succ]
  refine float_pend (z := #[.int .i64 0, .int .i64 0, .int .i64 0, .int .i64 0]) (T := 45) (ja := 7) (js := 8) rfl rfl rfl rfl rfl (fun a w => by go_simp) [1, 5, 6] _ _ _ (fun _ => False) (by kernel_rfl) (by kernel_rfl) ?_ (Nat.le_refl _) (fun _ h => h.elim) hS
  intro W1 hW1
  refine ⟨_, 25, _, _, rfl, rfl, by go_simp, (toPlace_any p _).mono ?_⟩
  rintro e w1 ⟨rfl, hb1⟩
  refine ⟨_, rfl, hb1, ?_⟩
  simp only [Act.put, List.setIfInBounds_toArray, List.set_cons_zero, List.set_cons_succ]
  intro W2 hW2
  refine ⟨_, 29, _, _, rfl, rfl, by go_simp, (toBox_any b _).mono ?_⟩
  rintro e w2 ⟨rfl, hb2⟩
  refine ⟨_, rfl, hb2, ?_⟩
  simp only [Act.put, List.setIfInBounds_toArray, List.set_cons_zero, List.set_cons_succ]
  intro W3 hW3
  refine ⟨_, 30, _, _, rfl, rfl, by go_simp, (Hi.out _).mono ?_⟩
  rintro e w3 ⟨rfl, hb3⟩
  refine ⟨_, rfl, hb3, ?_⟩
  simp only [Act.put, List.setIfInBounds_toArray, List.set_cons_zero, List.set_cons_succ]
  unfold Fl
  refine after_store ?_ _ _ _ #[.int .i64 R.x0, .int .i64 R.y0, .int .i64 R.x1, .int .i64 R.y1] (by rfl) (by rfl) (fun _ => by rfl) (fun _ => by rfl) (by simp) (by kernel_rfl) (by simp [Value.oneCell']) ?_
  · exact Nat.le_refl _
  intro k2 V2 hK hk1 hk2 hF hoth hsz hcell
  simp only [Act.put, List.setIfInBounds_toArray, List.set_cons_zero, List.set_cons_succ]
  refine NoPanic.normal ?_
  clear hF hoth hsz hW1 hb1 hW2 hb2 hW3 hb3 hS w1 w2 w3 W1 W2 W3
  have q0 : V2.cell? ⟨k1, 0, none⟩ = some (.int .i64 R.x0) := (hK.1 _ _ l2).trans r0
  have q1 : V2.cell? ⟨k1, 1, none⟩ = some (.int .i64 R.y0) := (hK.1 _ _ l2).trans r1
  have q2 : V2.cell? ⟨k1, 2, none⟩ = some (.int .i64 R.x1) := (hK.1 _ _ l2).trans r2
  have q3 : V2.cell? ⟨k1, 3, none⟩ = some (.int .i64 R.y1) := (hK.1 _ _ l2).trans r3
  have s0 : V2.cell? ⟨k2, 0, none⟩ = some (.int .i64 R.x0) := hcell 0 _ rfl
  have s1 : V2.cell? ⟨k2, 1, none⟩ = some (.int .i64 R.y0) := hcell 1 _ rfl
  have s2 : V2.cell? ⟨k2, 2, none⟩ = some (.int .i64 R.x1) := hcell 2 _ rfl
  have s3 : V2.cell? ⟨k2, 3, none⟩ = some (.int .i64 R.y1) := hcell 3 _ rfl
  have HB2 : Hid (Below w.heap.size w V2) := HB1.out.trans (hK.2.mono HB1.out.size)
  clear hcell hK hk1 hk2 P0 P1 P2 P3 P4 P5 P6 P7 P8 B0 B1 B2 B3 r0 r1 r2 r3
  go_wp2_with (fail)
  refine (eqBox_same R _).mono ?_
  rintro e w3 ⟨rfl, hb3⟩
  go_wp2
  go_returns
  exact ⟨rfl, HB2.out.trans (hb3.mono HB2.out.size)⟩

set_option maxRecDepth 100000 in
theorem pb_lifted (os : Os) (started : os.Started) (H : Type) (enc : TypeId × Value → H) :
    ReturnsInHanded {} Try.checked os 8 .any (Rows.fnExactPutBoxSpec.pre6 enc Try.prog Try.f8 Rows.fnExactPutBoxRow.domain false) (Rows.fnExactPutBoxSpec.post enc Try.prog Try.f8 false true false false) := by
  refine returnsInHanded_of_change (C := Try.checked) own started (by kernel_rfl) Try.func8
    (ChangeSpec.witness6 (enc := enc) (C := Try.checked) false ⟨#[], #[.agg #[.string ByteArray.empty, .int .i64 0, .int .i64 0, .int .i64 0, .bool false, .int .i64 0, .int .i64 0, .int .i64 0, .int .i64 0], .int .i64 0, .int .i64 0, .agg #[.int .i64 0, .int .i64 0, .int .i64 0, .int .i64 0]], []⟩ 8 (by kernel_rfl) (by kernel_rfl) (by kernel_rfl) (by kernel_rfl)) ?_
  intro W base args ds gs before hval0 hW hcnd _
  have hval : ∀ (j : Nat) t v, Try.f8.params[j]? = some t → args[j]? = some v → Value.okWide Try.prog W .any base t v := hval0
  have hW' := hW
  obtain ⟨p, q, hA0, hV, rfl, hfz, hnd⟩ := hW
  have hA : DataW.TrodAll enc Try.prog W 0 (fun _ => true) true Try.f8.params.toList args.toList ds p := hA0
  rw [Try.params8] at hA hval
  obtain ⟨v0, vs0, d0, ds0, p0, q0, hargs, rfl, rfl, h0, r0⟩ := trodAll_cons hA
  obtain ⟨v1, vs1, d1, ds1, p1, q1, rfl, rfl, rfl, h1, r1⟩ := trodAll_cons r0
  obtain ⟨v2, vs2, d2, ds2, p2, q2, rfl, rfl, rfl, h2, r2⟩ := trodAll_cons r1
  obtain ⟨v3, vs3, d3, ds3, p3, q3, rfl, rfl, rfl, h3, r3⟩ := trodAll_cons r2
  obtain ⟨rfl, rfl, rfl⟩ := trodAll_nil r3
  obtain rfl : args = #[v0, v1, v2, v3] := by cases args; simp_all
  obtain ⟨rfl, rfl⟩ := trodVars_none hV
  have k0 := h0
  have lt0 : ∀ x ∈ p0, x.block < W.heap.size := by obtain ⟨m, hm⟩ := k0; exact DataW.trod_lt m _ _ _ hm
  obtain ⟨q0, rfl, qs0, qt0⟩ := place_open (hval 0 41 v0 rfl rfl) h0
  obtain ⟨n1, rfl, rfl, rfl, wn1⟩ := open_int Try.underlying2 (hval 1 2 v1 rfl rfl) h1
  obtain ⟨n2, rfl, rfl, rfl, wn2⟩ := open_int Try.underlying2 (hval 2 2 v2 rfl rfl) h2
  obtain ⟨b3, rfl, rfl, rfl, wa3, wb3, wc3, wd3⟩ := box_open (hval 3 43 v3 rfl rfl) h3
  clear hA0 hval0
  refine (law_pb q0 qs0 qt0 n1 n2 b3 W).mono fun e W' ⟨he, hg⟩ => ?_
  subst he
  exact ⟨_, rfl, _, _, _, [], _, [], hW', trodAll_mk1 (shut_bool Try.underlying4 _), (trodAll_cons_mk (Below.trod laidOut (by kernel_rfl) (of_decide_eq_true (by kernel_rfl)) k0 hg lt0) (trodAll_cons_mk (shut_int Try.underlying2 wn1) (trodAll_cons_mk (shut_int Try.underlying2 wn2) (trodAll_cons_mk (box_shut wa3 wb3 wc3 wd3) trodAll_mk0)))), rfl, hg.frame _, fun h => by cases h⟩

theorem pb_over : Rows.fnExactPutBoxRow.holds Try.pinned (OpenSpec.ofChange Rows.fnExactPutBoxSpec) :=
  OpenClaim.holds_of_wide 8 Try.f8 rfl rfl rfl rfl rfl rfl rfl ⟨rfl, rfl, rfl, rfl, rfl⟩ rfl rfl rfl rfl rfl (by kernel_rfl) Try.func8 (by kernel_rfl)
    (of_decide_eq_true (by kernel_rfl)) (by unfold Func.isWrapper; first | (rw [if_pos (by decide +kernel)]; kernel_rfl) | (rw [if_neg (by decide +kernel)]; exact ⟨rfl, rfl⟩))
    (fun os started H enc _ => pb_lifted os started H enc)

theorem pb_proved : Rows.FnExactPutBoxSaid :=
  pb_over
#print axioms pb_proved

end Go.Proofs.Ytncenhpnomcnfaa
