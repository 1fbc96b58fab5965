/- Proved here: the fault of a model, of the program: mdF. -/
import Derived.Test.YtdidmjgilnhncabMaC
import Derived.Test.YtdidmjgilnhncabOrC
import Derived.Test.YtdidmjgilnhncabFault
import Derived.Deep.DeepCutAuto
namespace Go.Proofs.Ytdidmjgilnhncab
open Go.RowKit
set_option linter.unusedVariables false
set_option linter.unusedSimpArgs false

theorem orL_mdF (m : Mdl) : orL [codeF m.sx.n m.sx.d, codeF m.sy.n m.sy.d, codeF m.k.n m.k.d, codeF m.r.n m.r.d] = mdF m := by
  unfold mdF okM okR codeF
  cases okF m.sx.n m.sx.d <;> cases okF m.sy.n m.sy.d <;> cases okF m.k.n m.k.d <;> cases okF m.r.n m.r.d <;> rfl

set_option maxRecDepth 10000 in
set_option maxHeartbeats 6400000 in
theorem impl_mdF (m : Mdl) (w : World) :
    Calls Try.prog 85 #[.agg #[.int .i64 m.sx.n, .int .i64 m.sx.d, .int .i64 m.sy.n, .int .i64 m.sy.d, .int .i64 m.k.n, .int .i64 m.k.d, .int .i64 m.r.n, .int .i64 m.r.d]] w fun e w' => e = .returned (.int .i64 (mdF m)) ∧ Below w.heap.size w w' := by
  rw [← orL_mdF]
  obtain ⟨f1, h1⟩ : ∃ f, f = codeF m.sx.n m.sx.d := ⟨_, rfl⟩
  obtain ⟨f2, h2⟩ : ∃ f, f = codeF m.sy.n m.sy.d := ⟨_, rfl⟩
  obtain ⟨f3, h3⟩ : ∃ f, f = codeF m.k.n m.k.d := ⟨_, rfl⟩
  obtain ⟨f4, h4⟩ : ∃ f, f = codeF m.r.n m.r.d := ⟨_, rfl⟩
  rw [← h1, ← h2, ← h3, ← h4]
  obtain ⟨G, hG⟩ : ∃ G, G = orL [f1, f2, f3, f4] := ⟨_, rfl⟩
  rw [← hG]
  have HG : Hid (G = orL [f1, f2, f3, f4]) := hG
  clear hG
  obtain ⟨⟨a, b⟩, ⟨c, d⟩, ⟨e, f⟩, ⟨g, h⟩⟩ := m
  have H1 : Hid (∀ W, Calls Try.prog 90 #[.agg #[.int .i64 a, .int .i64 b]] W fun e w' => e = .returned (.int .i64 f1) ∧ Below W.heap.size W w') := fun W => by rw [h1]; exact impl_fault a b W
  have H2 : Hid (∀ W, Calls Try.prog 90 #[.agg #[.int .i64 c, .int .i64 d]] W fun e w' => e = .returned (.int .i64 f2) ∧ Below W.heap.size W w') := fun W => by rw [h2]; exact impl_fault c d W
  have H3 : Hid (∀ W, Calls Try.prog 90 #[.agg #[.int .i64 e, .int .i64 f]] W fun e w' => e = .returned (.int .i64 f3) ∧ Below W.heap.size W w') := fun W => by rw [h3]; exact impl_fault e f W
  have H4 : Hid (∀ W, Calls Try.prog 90 #[.agg #[.int .i64 g, .int .i64 h]] W fun e w' => e = .returned (.int .i64 f4) ∧ Below W.heap.size W w') := fun W => by rw [h4]; exact impl_fault g h W
  clear h1 h2 h3 h4
  obtain ⟨V, hV⟩ : ∃ V, V = w.alloc (.cells #[.int .i64 a, .int .i64 b, .int .i64 c, .int .i64 d, .int .i64 e, .int .i64 f, .int .i64 g, .int .i64 h] 33) := ⟨_, rfl⟩
  have k0 : V.heap[w.heap.size]? = some (.cells #[.int .i64 a, .int .i64 b, .int .i64 c, .int .i64 d, .int .i64 e, .int .i64 f, .int .i64 g, .int .i64 h] 33) := by rw [hV]; exact heap_alloc_new w _
  have HB : Hid (Below w.heap.size w V) := by rw [hV]; unfold Hid; (repeat' (first | (with_reducible exact Below.refl _ _) | (with_reducible assumption) | (with_reducible refine Below.setCell ?_ ?_ _) | (with_reducible refine Below.alloc ?_ ?_ _) | (with_reducible refine below_drewN ?_ _) | (with_reducible refine Below.drew ?_) | (with_reducible exact Nat.le_refl _) | omega | (simp; done) | (simp; omega)))
  have p0 := cellOf k0 0 rfl
  have p1 := cellOf k0 1 rfl
  have p2 := cellOf k0 2 rfl
  have p3 := cellOf k0 3 rfl
  have p4 := cellOf k0 4 rfl
  have p5 := cellOf k0 5 rfl
  have p6 := cellOf k0 6 rfl
  have p7 := cellOf k0 7 rfl
  have pl := ltOf k0
  clear k0
  go_enter Try.func85, Try.ntmps85
  go_upto_region 1 with fail
  rw [← hV]
  clear hV
  refine wp_region_float (by kernel_rfl) (fun hS => ?_)
  refine fl_take (i := 0) (d := 3) (v := .pointer (some ⟨w.heap.size, 0, none⟩)) rfl rfl rfl (by kernel_rfl) (by kernel_rfl) (by kernel_rfl) hS ?_ ?_
  · intro w' hk; go_simp
  simp only [Act.put, List.setIfInBounds_toArray, List.set_cons_zero, List.set_cons_succ]
  refine fl_take (i := 1) (d := 4) (v := .agg #[.int .i64 a, .int .i64 b]) rfl rfl rfl (by kernel_rfl) (by kernel_rfl) (by kernel_rfl) hS ?_ ?_
  · intro w' hk; go_simp
  simp only [Act.put, List.setIfInBounds_toArray, List.set_cons_zero, List.set_cons_succ]
  refine fl_take (i := 3) (d := 6) (v := .pointer (some ⟨w.heap.size, 2, none⟩)) rfl rfl rfl (by kernel_rfl) (by kernel_rfl) (by kernel_rfl) hS ?_ ?_
  · intro w' hk; go_simp
  simp only [Act.put, List.setIfInBounds_toArray, List.set_cons_zero, List.set_cons_succ]
  refine fl_take (i := 4) (d := 7) (v := .agg #[.int .i64 c, .int .i64 d]) rfl rfl rfl (by kernel_rfl) (by kernel_rfl) (by kernel_rfl) hS ?_ ?_
  · intro w' hk; go_simp
  simp only [Act.put, List.setIfInBounds_toArray, List.set_cons_zero, List.set_cons_succ]
  refine fl_take (i := 6) (d := 9) (v := .pointer (some ⟨w.heap.size, 4, none⟩)) rfl rfl rfl (by kernel_rfl) (by kernel_rfl) (by kernel_rfl) hS ?_ ?_
  · intro w' hk; go_simp
  simp only [Act.put, List.setIfInBounds_toArray, List.set_cons_zero, List.set_cons_succ]
  refine fl_take (i := 7) (d := 10) (v := .agg #[.int .i64 e, .int .i64 f]) rfl rfl rfl (by kernel_rfl) (by kernel_rfl) (by kernel_rfl) hS ?_ ?_
  · intro w' hk; go_simp
  simp only [Act.put, List.setIfInBounds_toArray, List.set_cons_zero, List.set_cons_succ]
  refine fl_take (i := 9) (d := 12) (v := .pointer (some ⟨w.heap.size, 6, none⟩)) rfl rfl rfl (by kernel_rfl) (by kernel_rfl) (by kernel_rfl) hS ?_ ?_
  · intro w' hk; go_simp
  simp only [Act.put, List.setIfInBounds_toArray, List.set_cons_zero, List.set_cons_succ]
  refine fl_take (i := 10) (d := 13) (v := .agg #[.int .i64 g, .int .i64 h]) rfl rfl rfl (by kernel_rfl) (by kernel_rfl) (by kernel_rfl) hS ?_ ?_
  · intro w' hk; go_simp
  simp only [Act.put, List.setIfInBounds_toArray, List.set_cons_zero, List.set_cons_succ]
  refine wpAnyH_all (rs := [2]) (by kernel_rfl) (by simp) ?_
  intro i hi
  obtain rfl : i = 2 := by simpa using hi
  refine op_call (d := 5) rfl rfl rfl (by go_simp) ((H1.out _).mono ?_)
  rintro e y1 ⟨rfl, hb1⟩
  have hK1 := hS.call hb1
  refine ⟨_, rfl, hK1, ?_⟩
  simp only [Act.put, List.setIfInBounds_toArray, List.set_cons_zero, List.set_cons_succ]
  refine wpAnyH_all (rs := [5]) (by kernel_rfl) (by simp) ?_
  intro i hi
  obtain rfl : i = 5 := by simpa using hi
  refine op_call (d := 8) rfl rfl rfl (by go_simp) ((H2.out _).mono ?_)
  rintro e y2 ⟨rfl, hb2⟩
  have hK2 := hK1.call hb2
  refine ⟨_, rfl, hK2, ?_⟩
  simp only [Act.put, List.setIfInBounds_toArray, List.set_cons_zero, List.set_cons_succ]
  refine wpAnyH_all (rs := [8]) (by kernel_rfl) (by simp) ?_
  intro i hi
  obtain rfl : i = 8 := by simpa using hi
  refine op_call (d := 11) rfl rfl rfl (by go_simp) ((H3.out _).mono ?_)
  rintro e y3 ⟨rfl, hb3⟩
  have hK3 := hK2.call hb3
  refine ⟨_, rfl, hK3, ?_⟩
  simp only [Act.put, List.setIfInBounds_toArray, List.set_cons_zero, List.set_cons_succ]
  refine wpAnyH_all (rs := [11]) (by kernel_rfl) (by simp) ?_
  intro i hi
  obtain rfl : i = 11 := by simpa using hi
  refine op_call (d := 14) rfl rfl rfl (by go_simp) ((H4.out _).mono ?_)
  rintro e y4 ⟨rfl, hb4⟩
  have hK4 := hK3.call hb4
  refine ⟨_, rfl, hK4, ?_⟩
  simp only [Act.put, List.setIfInBounds_toArray, List.set_cons_zero, List.set_cons_succ]
  refine wpAnyH_all (rs := [12]) (by kernel_rfl) (by simp) ?_
  intro i hi
  obtain rfl : i = 12 := by simpa using hi
  refine op_val (d := 15) (v := .slice (some ⟨y4.heap.size, 0, none⟩) 4 4) (w' := y4.alloc (.cells #[.int .i64 f1, .int .i64 f2, .int .i64 f3, .int .i64 f4] 2)) rfl rfl rfl (by go_simp; try rfl) ?_
  simp only [Act.put, List.setIfInBounds_toArray, List.set_cons_zero, List.set_cons_succ]
  have hk := heap_alloc_new y4 (.cells #[.int .i64 f1, .int .i64 f2, .int .i64 f3, .int .i64 f4] 2)
  have hK5 : KS V (y4.alloc (.cells #[.int .i64 f1, .int .i64 f2, .int .i64 f3, .int .i64 f4] 2)) := hK4.alloc _
  obtain ⟨K, hKK⟩ : ∃ K, K = y4.heap.size := ⟨_, rfl⟩
  rw [← hKK] at hk ⊢
  generalize y4.alloc (.cells #[.int .i64 f1, .int .i64 f2, .int .i64 f3, .int .i64 f4] 2) = y5 at hk hK5 ⊢
  refine ⟨hK5, ?_⟩
  have HO : Hid (Calls Try.prog 68 #[.slice (some ⟨K, 0, none⟩) 4 4] y5 fun e w' => e = .returned (.int .i64 G) ∧ w' = y5) := by
    rw [HG.out]
    exact impl_or (by omega) rfl (fun j hj => by
    have hj4 : j < 4 := hj
    rcases (by omega : j = 0 ∨ j = 1 ∨ j = 2 ∨ j = 3) with rfl | rfl | rfl | rfl
    · exact cellOf hk 0 rfl
    · exact cellOf hk 1 rfl
    · exact cellOf hk 2 rfl
    · exact cellOf hk 3 rfl)
  clear hk hKK HG
  refine wpAnyH_all (rs := [13]) (by kernel_rfl) (by simp) ?_
  intro i hi
  obtain rfl : i = 13 := by simpa using hi
  refine op_call (d := 16) rfl rfl rfl (by go_simp) ((HO.out).mono ?_)
  rintro e y6 ⟨rfl, rfl⟩
  have hK6 := hK5
  refine ⟨_, rfl, hK6, ?_⟩
  simp only [Act.put, List.setIfInBounds_toArray, List.set_cons_zero, List.set_cons_succ]
  refine wpAnyH_all (rs := [14]) (by kernel_rfl) (by simp) ?_
  intro i hi
  obtain rfl : i = 14 := by simpa using hi
  refine op_val (d := 2) (v := .int .i64 G) (w' := y6) rfl rfl rfl (by go_simp; try rfl) ?_
  simp only [Act.put, List.setIfInBounds_toArray, List.set_cons_zero, List.set_cons_succ]
  refine ⟨hK6, wpAnyH_done (by kernel_rfl) (NoPanic.normal ?_) _⟩
  have HB2 : Hid (Below w.heap.size w y6) := HB.out.trans (hK6.2.mono HB.out.size)
  clear HO hK6 hK5 hK4 hK3 hK2 hK1 hb1 hb2 hb3 hb4 hS H1 H2 H3 H4 p0 p1 p2 p3 p4 p5 p6 p7 pl
  go_wp2
  go_returns
  exact ⟨rfl, HB2.out⟩

end Go.Proofs.Ytdidmjgilnhncab
