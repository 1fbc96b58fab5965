/- Proved here: MulZ of the model, and the program's number, zOf, product and MulZ: what comes out, by value. No condition. -/
import Derived.Test.YtcjednfcfobblaaZB
import Derived.Test.YtcjednfcfobblaaReg
namespace Go.Proofs.Ytcjednfcfobblaa
open Go.ChangeShapes Go.WideShapes Go.ChangeAt Go.RowKit Go.Joins
set_option linter.unusedVariables false
set_option linter.unusedSimpArgs false

/-- A complex number by value. -/
structure Zv where
  re : Option Nat
  im : Option Nat
def Zf.v (z : Zf) : Zv := ⟨fv z.re, fv z.im⟩
/-- The product by value. -/
def mulV (a b : Zv) : Zv := ⟨fop .sub (fop .mul a.re b.re) (fop .mul a.im b.im), fop .add (fop .mul a.re b.im) (fop .mul a.im b.re)⟩
def addV (a b : Zv) : Zv := ⟨fop .add a.re b.re, fop .add a.im b.im⟩

theorem zret {e : Ending} {x y : Nat} {R : Zf → Prop} (h : e = .returned (.agg #[.float .f64 x, .float .f64 y])) (hR : R ⟨x, y⟩) : ∃ z : Zf, e = .returned (.agg #[.float .f64 z.re, .float .f64 z.im]) ∧ R z := ⟨⟨x, y⟩, h, hR⟩
theorem cret {e : Ending} {x y : Nat} {R : Zf → Prop} (h : e = .returned (.complex .f64 x y)) (hR : R ⟨x, y⟩) : ∃ z : Zf, e = .returned (.complex .f64 z.re z.im) ∧ R z := ⟨⟨x, y⟩, h, hR⟩

set_option maxHeartbeats 1600000 in
theorem spec_mul (a b : Zf) (w : World) :
    Calls Try.prog 11 #[.agg #[.float .f64 a.re, .float .f64 a.im], .agg #[.float .f64 b.re, .float .f64 b.im]] w fun e w' => ∃ z : Zf, e = .returned (.agg #[.float .f64 z.re, .float .f64 z.im]) ∧ z.v = mulV a.v b.v ∧ Below w.heap.size w w' := by
  go_enter Try.func11, Try.ntmps11
  go_wp2
  go_returns
  refine zret rfl ⟨?_, by (repeat' (first | (with_reducible exact Below.refl _ _) | (with_reducible assumption) | (with_reducible refine Below.setCell ?_ ?_ _) | (with_reducible refine Below.alloc ?_ ?_ _) | (with_reducible refine below_drewN ?_ _) | (with_reducible refine Below.drew ?_) | (with_reducible exact Nat.le_refl _) | omega | (simp; done) | (simp; omega)))⟩
  simp only [Zf.v, mulV, fv_fres]

set_option maxHeartbeats 800000 in
theorem number_any (a : Zf) (w : World) :
    Calls Try.prog 36 #[.agg #[.float .f64 a.re, .float .f64 a.im]] w fun e w' => e = .returned (.complex .f64 a.re a.im) ∧ Below w.heap.size w w' := by
  go_enter Try.func36, Try.ntmps36
  go_wp2
  go_returns
  exact ⟨rfl, by (repeat' (first | (with_reducible exact Below.refl _ _) | (with_reducible assumption) | (with_reducible refine Below.setCell ?_ ?_ _) | (with_reducible refine Below.alloc ?_ ?_ _) | (with_reducible refine below_drewN ?_ _) | (with_reducible refine Below.drew ?_) | (with_reducible exact Nat.le_refl _) | omega | (simp; done) | (simp; omega)))⟩

set_option maxHeartbeats 800000 in
theorem zOf_any (a : Zf) (w : World) :
    Calls Try.prog 34 #[.complex .f64 a.re a.im] w fun e w' => e = .returned (.agg #[.float .f64 a.re, .float .f64 a.im]) ∧ Below w.heap.size w w' := by
  go_enter Try.func34, Try.ntmps34
  go_wp2
  go_returns
  exact ⟨rfl, by (repeat' (first | (with_reducible exact Below.refl _ _) | (with_reducible assumption) | (with_reducible refine Below.setCell ?_ ?_ _) | (with_reducible refine Below.alloc ?_ ?_ _) | (with_reducible refine below_drewN ?_ _) | (with_reducible refine Below.drew ?_) | (with_reducible exact Nat.le_refl _) | omega | (simp; done) | (simp; omega)))⟩

set_option maxHeartbeats 1600000 in
theorem product_any (a b : Zf) (w : World) :
    Calls Try.prog 35 #[.complex .f64 a.re a.im, .complex .f64 b.re b.im] w fun e w' => ∃ z : Zf, e = .returned (.complex .f64 z.re z.im) ∧ z.v = mulV a.v b.v ∧ ∃ n, w' = w.drewN n := by
  go_enter Try.func35, Try.ntmps35
  go_wp2
  go_returns
  refine cret rfl ⟨?_, _, rfl⟩
  simp only [Zf.v, mulV, fv_fres]

set_option maxHeartbeats 3200000 in
theorem impl_mul (a b : Zf) (w : World) :
    Calls Try.prog 12 #[.agg #[.float .f64 a.re, .float .f64 a.im], .agg #[.float .f64 b.re, .float .f64 b.im]] w fun e w' => ∃ z : Zf, e = .returned (.agg #[.float .f64 z.re, .float .f64 z.im]) ∧ z.v = mulV a.v b.v ∧ Below w.heap.size w w' := by
  have hz : w.heap.size < w.heap.size + 1 + 1 := by omega
  go_enter Try.func12, Try.ntmps12
  go_wp2_with (fail)
  obtain ⟨V, hV⟩ : ∃ V, V = ((w.alloc (Obj.cells #[.float .f64 a.re, .float .f64 a.im] 26)).alloc (Obj.cells #[.float .f64 b.re, .float .f64 b.im] 26)).alloc (Obj.cells #[.float .f64 0, .float .f64 0] 26) := ⟨_, rfl⟩
  rw [← hV]
  have g0 : V.heap[w.heap.size]? = some (.cells #[.float .f64 a.re, .float .f64 a.im] 26) := by rw [hV]; exact (Below.heap_alloc _ _ _ (by simp; omega)).trans ((Below.heap_alloc _ _ _ (by simp)).trans (heap_alloc_new w _))
  have g1 : V.heap[w.heap.size + 1]? = some (.cells #[.float .f64 b.re, .float .f64 b.im] 26) := by rw [hV]; exact (Below.heap_alloc _ _ _ (by simp)).trans (z_at1 w _ _)
  have g2 : V.heap[w.heap.size + 2]? = some (.cells #[.float .f64 0, .float .f64 0] 26) := by rw [hV]; have := heap_alloc_new ((w.alloc (Obj.cells #[.float .f64 a.re, .float .f64 a.im] 26)).alloc (Obj.cells #[.float .f64 b.re, .float .f64 b.im] 26)) (Obj.cells #[.float .f64 0, .float .f64 0] 26); simpa using this
  have gB : Hid (Below w.heap.size w V ∧ V.heap.size = w.heap.size + 3) := ⟨by rw [hV]; (repeat' (first | (with_reducible exact Below.refl _ _) | (with_reducible assumption) | (with_reducible refine Below.setCell ?_ ?_ _) | (with_reducible refine Below.alloc ?_ ?_ _) | (with_reducible refine below_drewN ?_ _) | (with_reducible refine Below.drew ?_) | (with_reducible exact Nat.le_refl _) | omega | (simp; done) | (simp; omega))), by rw [hV]; simp⟩
  clear hV
  obtain ⟨p0, p1, pf, pl⟩ := z_two g0
  obtain ⟨q0, q1, qf, ql⟩ := z_two g1
  refine wp_region_holdsA (S := KA (w.heap.size + 2) V) (by kernel_rfl) (KA.of ((Below.refl _ _).drew)) (fun hS => ?_)
  refine fl_takeA (i := 0) (d := 5) (v := .agg #[.float .f64 a.re, .float .f64 a.im]) rfl rfl rfl (by kernel_rfl) (by kernel_rfl) (by kernel_rfl) hS ?_ ?_
  · intro w' hk; unfold KA at hk; go_simp
  simp only [Act.put, List.setIfInBounds_toArray, List.set_cons_zero, List.set_cons_succ]
  refine fl_takeA (i := 2) (d := 7) (v := .agg #[.float .f64 b.re, .float .f64 b.im]) rfl rfl rfl (by kernel_rfl) (by kernel_rfl) (by kernel_rfl) hS ?_ ?_
  · intro w' hk; unfold KA at hk; go_simp
  simp only [Act.put, List.setIfInBounds_toArray, List.set_cons_zero, List.set_cons_succ]
  refine wpAnyH_all (rs := [1]) (by kernel_rfl) (by simp) ?_
  intro i hi; obtain rfl := List.mem_singleton.1 hi; clear hi
  refine op_call (d := 6) rfl rfl rfl (by go_simp) ((number_any a _).mono ?_)
  rintro e w1 ⟨rfl, hb1⟩
  have B1 := hS.2.trans (hb1.mono (by have := gB.out.2; simp; omega))
  refine ⟨_, rfl, KA.of B1, ?_⟩
  simp only [Act.put, List.setIfInBounds_toArray, List.set_cons_zero, List.set_cons_succ]
  refine wpAnyH_all (rs := [3]) (by kernel_rfl) (by simp) ?_
  intro i hi; obtain rfl := List.mem_singleton.1 hi; clear hi
  refine op_call (d := 8) rfl rfl rfl (by go_simp) ((number_any b _).mono ?_)
  rintro e w2 ⟨rfl, hb2⟩
  have hsz1 : w.heap.size + 3 ≤ w1.heap.size := by have h1 := hb1.size; have h2 := gB.out.2; simp at h1; omega
  have B2 := B1.trans (hb2.mono (by omega))
  have hsz2 : w.heap.size + 3 ≤ w2.heap.size := by have h1 := hb2.size; omega
  refine ⟨_, rfl, KA.of B2, ?_⟩
  simp only [Act.put, List.setIfInBounds_toArray, List.set_cons_zero, List.set_cons_succ]
  refine wpAnyH_all (rs := [4]) (by kernel_rfl) (by simp) ?_
  intro i hi; obtain rfl := List.mem_singleton.1 hi; clear hi
  refine op_call (d := 9) rfl rfl rfl (by go_simp) ((product_any a b _).mono ?_)
  rintro e w3 ⟨z, rfl, hz3, n3, rfl⟩
  have B3 := below_drewN B2 n3
  refine ⟨_, rfl, KA.of B3, ?_⟩
  simp only [Act.put, List.setIfInBounds_toArray, List.set_cons_zero, List.set_cons_succ]
  refine wpAnyH_all (rs := [5]) (by kernel_rfl) (by simp) ?_
  intro i hi; obtain rfl := List.mem_singleton.1 hi; clear hi
  refine op_call (d := 10) rfl rfl rfl (by go_simp) ((zOf_any z _).mono ?_)
  rintro e w4 ⟨rfl, hb4⟩
  have B4 := B3.trans (hb4.mono (by simp; omega))
  have hsz4 : w.heap.size + 3 ≤ w4.heap.size := by have h1 := hb4.size; simp at h1; omega
  refine ⟨_, rfl, KA.of B4, ?_⟩
  simp only [Act.put, List.setIfInBounds_toArray, List.set_cons_zero, List.set_cons_succ]
  have g4 : w4.heap[w.heap.size + 2]? = some (.cells #[.float .f64 0, .float .f64 0] 26) := by
    rw [hb4.block _ (by simp; omega)]
    show w2.heap[w.heap.size + 2]? = _
    rw [hb2.block _ (by omega), hb1.block _ (by have := gB.out.2; simp; omega)]
    exact g2
  refine wpAnyH_all (rs := [6]) (by kernel_rfl) (by simp) ?_
  intro i hi; obtain rfl := List.mem_singleton.1 hi; clear hi
  refine op_store rfl rfl rfl 26 _ _ rfl (w.heap.size + 2) #[.float .f64 z.re, .float .f64 z.im] (by go_simp) (by go_simp) (there_two g4) (by kernel_rfl) (by simp [Value.oneCell']) ?_
  have B5 := below_setCells (w.heap.size + 2) (Nat.le_refl _) [.float .f64 z.re, .float .f64 z.im] 0 _ B4
  refine ⟨KA.of B5, wpAnyH_done (by kernel_rfl) (NoPanic.normal ?_) _⟩
  have s0 := heap_setCell_same _ _ 0 _ _ (.float .f64 z.re) g4
  have s1 := heap_setCell_same _ _ 1 _ _ (.float .f64 z.im) s0
  have s2 : (w4.setCells (w.heap.size + 2) 0 [.float .f64 z.re, .float .f64 z.im]).heap[w.heap.size + 2]? = some (.cells #[.float .f64 z.re, .float .f64 z.im] 26) := by simpa [World.setCells] using s1
  have HB : Hid (Below w.heap.size w (w4.setCells (w.heap.size + 2) 0 [.float .f64 z.re, .float .f64 z.im])) := gB.out.1.trans (B5.mono (by omega))
  generalize w4.setCells (w.heap.size + 2) 0 [.float .f64 z.re, .float .f64 z.im] = w5 at s2 HB
  obtain ⟨r0, r1, rf, rl⟩ := z_two s2
  clear s0 s1 s2 B1 B2 B3 B4 B5 g0 g1 g2 g4 hb1 hb2 hb4 hS p0 p1 pf pl q0 q1 qf ql gB hz
  go_wp2
  refine bodyPost_ret (by simp [results, Try.results12, go_sem, r0, r1]; try rfl) rfl ?_
  exact ⟨z, rfl, hz3, HB.out⟩

end Go.Proofs.Ytcjednfcfobblaa
