/- Proved here: the closure of sortedBy at each list of orders of jobs. -/
import Derived.Test.YtjbghflphngnkaaSoF
import Derived.Test.YtjbghflphngnkaaDjI
import Derived.Deep.Cut
namespace Go.Proofs.Ytjbghflphngnkaa
open Go.RowKit
set_option linter.unusedVariables false
set_option linter.unusedSimpArgs false


/-- The first order that tells two apart. -/
def lexC (c1 c2 : Jb → Jb → Int) (x y : Jb) : Int := if c1 x y = 0 then c2 x y else c1 x y
def idC (x y : Jb) : Int := cmpI x.id y.id
def coC (x y : Jb) : Int := cmpI x.co y.co
def duC (x y : Jb) : Int := cmpI x.du y.du
def tiC (x y : Jb) : Int := cmpI x.ti y.ti
def fsC (x y : Jb) : Int := cmpI y.se x.se

set_option maxRecDepth 10000 in
set_option maxHeartbeats 3200000 in
theorem clo_id {W : World} {lo p q : Nat} (hp : W.cell? ⟨p, 0, none⟩ = some (.slice (some ⟨q, 0, none⟩) 1 1)) (hpl : p < lo) (hql : q < lo) (hq0 : W.cell? ⟨q, 0, none⟩ = some (.func (Fn.func 57) #[] #[])) (hlo : lo ≤ W.heap.size) : Cmp W lo p idC := by
  intro x y X hX
  have p0 : X.cell? ⟨p, 0, none⟩ = some (.slice (some ⟨q, 0, none⟩) 1 1) := (hX.cell (p := ⟨p, 0, none⟩) hpl).trans hp
  have q0 : X.cell? ⟨q, 0, none⟩ = some (.func (Fn.func 57) #[] #[]) := (hX.cell (p := ⟨q, 0, none⟩) hql).trans hq0
  have hs := hX.size
  have pl : p < X.heap.size := by omega
  have ql : q < X.heap.size := by omega
  obtain ⟨V, hV⟩ : ∃ V, V = (X.alloc (.cells #[.int .i64 x.id, .int .i64 x.co, .int .i64 x.ti, .int .i64 x.se, .int .i64 x.du, .int .i64 x.we, .int .i64 x.ki] 51)).alloc (.cells #[.int .i64 y.id, .int .i64 y.co, .int .i64 y.ti, .int .i64 y.se, .int .i64 y.du, .int .i64 y.we, .int .i64 y.ki] 51) := ⟨_, rfl⟩
  have HV : Hid (Below X.heap.size X V ∧ V.heap[X.heap.size]? = some (.cells #[.int .i64 x.id, .int .i64 x.co, .int .i64 x.ti, .int .i64 x.se, .int .i64 x.du, .int .i64 x.we, .int .i64 x.ki] 51) ∧ V.heap[X.heap.size + 1]? = some (.cells #[.int .i64 y.id, .int .i64 y.co, .int .i64 y.ti, .int .i64 y.se, .int .i64 y.du, .int .i64 y.we, .int .i64 y.ki] 51) ∧ V.heap.size = X.heap.size + 2) := by
    rw [hV]
    refine ⟨by (repeat' (first | (with_reducible exact Below.refl _ _) | (with_reducible assumption) | (with_reducible refine Below.setCell ?_ ?_ _) | (with_reducible refine Below.alloc ?_ ?_ _) | (with_reducible refine below_drewN ?_ _) | (with_reducible refine Below.drew ?_) | (with_reducible exact Nat.le_refl _) | omega | (simp; done) | (simp; omega))), (heap_alloc_old _ _ (by simp)).trans (heap_alloc_new _ _), ?_, by simp⟩
    have := heap_alloc_new (X.alloc (.cells #[.int .i64 x.id, .int .i64 x.co, .int .i64 x.ti, .int .i64 x.se, .int .i64 x.du, .int .i64 x.we, .int .i64 x.ki] 51)) (.cells #[.int .i64 y.id, .int .i64 y.co, .int .i64 y.ti, .int .i64 y.se, .int .i64 y.du, .int .i64 y.we, .int .i64 y.ki] 51); simpa using this
  have HC0 : Hid (∀ Y, Calls Try.prog 57 #[.agg #[.int .i64 x.id, .int .i64 x.co, .int .i64 x.ti, .int .i64 x.se, .int .i64 x.du, .int .i64 x.we, .int .i64 x.ki], .agg #[.int .i64 y.id, .int .i64 y.co, .int .i64 y.ti, .int .i64 y.se, .int .i64 y.du, .int .i64 y.we, .int .i64 y.ki]] Y fun e w' => e = .returned (.int .i64 (idC x y)) ∧ Below Y.heap.size Y w') := fun Y => by_id x y Y
  obtain ⟨r0, hr0⟩ : ∃ r, r = idC x y := ⟨_, rfl⟩
  rw [← hr0] at HC0
  obtain ⟨R, hR⟩ : ∃ R, R = idC x y := ⟨_, rfl⟩
  have HR : Hid (R = r0) := by unfold Hid; rw [hR, hr0]
  rw [← hR]
  clear hR hr0 hp hq0
  go_enter Try.func81, Try.ntmps81
  go_upto_region 1 with fail
  rw [← hV]
  clear hV
  obtain ⟨x0, x1, x2, x3, x4, x5, x6, xl⟩ := jb_cells HV.out.2.1
  obtain ⟨y0, y1, y2, y3, y4, y5, y6, yl⟩ := jb_cells HV.out.2.2.1
  have hb := HV.out.1
  have p0' : V.cell? ⟨p, 0, none⟩ = some (.slice (some ⟨q, 0, none⟩) 1 1) := (hb.cell (p := ⟨p, 0, none⟩) pl).trans p0
  have q0' : V.cell? ⟨q, 0, none⟩ = some (.func (Fn.func 57) #[] #[]) := (hb.cell (p := ⟨q, 0, none⟩) ql).trans q0
  have pl' : p < V.heap.size := Nat.lt_of_lt_of_le pl hb.size
  have ql' : q < V.heap.size := Nat.lt_of_lt_of_le ql hb.size
  clear hb
  go_wp2
  refine wp_loop_rounds 2 ?_
  rw [rounds_succ]
  go_wp2_with (fail)
  refine (HC0.out V).mono ?_
  rintro e w1 ⟨rfl, hb1⟩
  have HB : Hid (Below X.heap.size X w1 ∧ w1.heap[X.heap.size]? = some (.cells #[.int .i64 x.id, .int .i64 x.co, .int .i64 x.ti, .int .i64 x.se, .int .i64 x.du, .int .i64 x.we, .int .i64 x.ki] 51) ∧ w1.heap[X.heap.size + 1]? = some (.cells #[.int .i64 y.id, .int .i64 y.co, .int .i64 y.ti, .int .i64 y.se, .int .i64 y.du, .int .i64 y.we, .int .i64 y.ki] 51)) := ⟨HV.out.1.trans (hb1.mono HV.out.1.size), (hb1.block _ (ltOfQ HV.out.2.1)).trans HV.out.2.1, (hb1.block _ (ltOfQ HV.out.2.2.1)).trans HV.out.2.2.1⟩
  clear hb1 HV HC0 x0 x1 x2 x3 x4 x5 x6 xl y0 y1 y2 y3 y4 y5 y6 yl p0' pl' ql' q0'
  by_cases h0 : r0 = 0
  case neg =>
    have HE : Hid (R = r0) := by unfold Hid; rw [HR.out]
    have h1 : (r0 != 0) = true := by simpa using h0
    clear HR
    go_wp2
    go_returns
    exact ⟨by rw [HE.out]; rfl, HB.out.1⟩
  subst h0
  go_wp2
  rw [rounds_succ]
  go_wp2
  go_returns
  exact ⟨by rw [HR.out]; rfl, HB.out.1⟩

set_option maxRecDepth 10000 in
set_option maxHeartbeats 3200000 in
theorem clo_co_id {W : World} {lo p q : Nat} (hp : W.cell? ⟨p, 0, none⟩ = some (.slice (some ⟨q, 0, none⟩) 2 2)) (hpl : p < lo) (hql : q < lo) (hq0 : W.cell? ⟨q, 0, none⟩ = some (.func (Fn.func 39) #[] #[])) (hq1 : W.cell? ⟨q, 1, none⟩ = some (.func (Fn.func 57) #[] #[])) (hlo : lo ≤ W.heap.size) : Cmp W lo p (lexC coC idC) := by
  intro x y X hX
  have p0 : X.cell? ⟨p, 0, none⟩ = some (.slice (some ⟨q, 0, none⟩) 2 2) := (hX.cell (p := ⟨p, 0, none⟩) hpl).trans hp
  have q0 : X.cell? ⟨q, 0, none⟩ = some (.func (Fn.func 39) #[] #[]) := (hX.cell (p := ⟨q, 0, none⟩) hql).trans hq0
  have q1 : X.cell? ⟨q, 1, none⟩ = some (.func (Fn.func 57) #[] #[]) := (hX.cell (p := ⟨q, 1, none⟩) hql).trans hq1
  have hs := hX.size
  have pl : p < X.heap.size := by omega
  have ql : q < X.heap.size := by omega
  obtain ⟨V, hV⟩ : ∃ V, V = (X.alloc (.cells #[.int .i64 x.id, .int .i64 x.co, .int .i64 x.ti, .int .i64 x.se, .int .i64 x.du, .int .i64 x.we, .int .i64 x.ki] 51)).alloc (.cells #[.int .i64 y.id, .int .i64 y.co, .int .i64 y.ti, .int .i64 y.se, .int .i64 y.du, .int .i64 y.we, .int .i64 y.ki] 51) := ⟨_, rfl⟩
  have HV : Hid (Below X.heap.size X V ∧ V.heap[X.heap.size]? = some (.cells #[.int .i64 x.id, .int .i64 x.co, .int .i64 x.ti, .int .i64 x.se, .int .i64 x.du, .int .i64 x.we, .int .i64 x.ki] 51) ∧ V.heap[X.heap.size + 1]? = some (.cells #[.int .i64 y.id, .int .i64 y.co, .int .i64 y.ti, .int .i64 y.se, .int .i64 y.du, .int .i64 y.we, .int .i64 y.ki] 51) ∧ V.heap.size = X.heap.size + 2) := by
    rw [hV]
    refine ⟨by (repeat' (first | (with_reducible exact Below.refl _ _) | (with_reducible assumption) | (with_reducible refine Below.setCell ?_ ?_ _) | (with_reducible refine Below.alloc ?_ ?_ _) | (with_reducible refine below_drewN ?_ _) | (with_reducible refine Below.drew ?_) | (with_reducible exact Nat.le_refl _) | omega | (simp; done) | (simp; omega))), (heap_alloc_old _ _ (by simp)).trans (heap_alloc_new _ _), ?_, by simp⟩
    have := heap_alloc_new (X.alloc (.cells #[.int .i64 x.id, .int .i64 x.co, .int .i64 x.ti, .int .i64 x.se, .int .i64 x.du, .int .i64 x.we, .int .i64 x.ki] 51)) (.cells #[.int .i64 y.id, .int .i64 y.co, .int .i64 y.ti, .int .i64 y.se, .int .i64 y.du, .int .i64 y.we, .int .i64 y.ki] 51); simpa using this
  have HC0 : Hid (∀ Y, Calls Try.prog 39 #[.agg #[.int .i64 x.id, .int .i64 x.co, .int .i64 x.ti, .int .i64 x.se, .int .i64 x.du, .int .i64 x.we, .int .i64 x.ki], .agg #[.int .i64 y.id, .int .i64 y.co, .int .i64 y.ti, .int .i64 y.se, .int .i64 y.du, .int .i64 y.we, .int .i64 y.ki]] Y fun e w' => e = .returned (.int .i64 (coC x y)) ∧ Below Y.heap.size Y w') := fun Y => by_co x y Y
  obtain ⟨r0, hr0⟩ : ∃ r, r = coC x y := ⟨_, rfl⟩
  rw [← hr0] at HC0
  have HC1 : Hid (∀ Y, Calls Try.prog 57 #[.agg #[.int .i64 x.id, .int .i64 x.co, .int .i64 x.ti, .int .i64 x.se, .int .i64 x.du, .int .i64 x.we, .int .i64 x.ki], .agg #[.int .i64 y.id, .int .i64 y.co, .int .i64 y.ti, .int .i64 y.se, .int .i64 y.du, .int .i64 y.we, .int .i64 y.ki]] Y fun e w' => e = .returned (.int .i64 (idC x y)) ∧ Below Y.heap.size Y w') := fun Y => by_id x y Y
  obtain ⟨r1, hr1⟩ : ∃ r, r = idC x y := ⟨_, rfl⟩
  rw [← hr1] at HC1
  obtain ⟨R, hR⟩ : ∃ R, R = (lexC coC idC) x y := ⟨_, rfl⟩
  have HR : Hid (R = if r0 = 0 then r1 else r0) := by unfold Hid; rw [hR, lexC, hr0, hr1]
  rw [← hR]
  clear hR hr0 hr1 hp hq0 hq1
  go_enter Try.func81, Try.ntmps81
  go_upto_region 1 with fail
  rw [← hV]
  clear hV
  obtain ⟨x0, x1, x2, x3, x4, x5, x6, xl⟩ := jb_cells HV.out.2.1
  obtain ⟨y0, y1, y2, y3, y4, y5, y6, yl⟩ := jb_cells HV.out.2.2.1
  have hb := HV.out.1
  have p0' : V.cell? ⟨p, 0, none⟩ = some (.slice (some ⟨q, 0, none⟩) 2 2) := (hb.cell (p := ⟨p, 0, none⟩) pl).trans p0
  have q0' : V.cell? ⟨q, 0, none⟩ = some (.func (Fn.func 39) #[] #[]) := (hb.cell (p := ⟨q, 0, none⟩) ql).trans q0
  have q1' : V.cell? ⟨q, 1, none⟩ = some (.func (Fn.func 57) #[] #[]) := (hb.cell (p := ⟨q, 1, none⟩) ql).trans q1
  have pl' : p < V.heap.size := Nat.lt_of_lt_of_le pl hb.size
  have ql' : q < V.heap.size := Nat.lt_of_lt_of_le ql hb.size
  clear hb
  go_wp2
  refine wp_loop_rounds 3 ?_
  rw [rounds_succ]
  go_wp2_with (fail)
  refine (HC0.out V).mono ?_
  rintro e w1 ⟨rfl, hb1⟩
  have HB : Hid (Below X.heap.size X w1 ∧ w1.heap[X.heap.size]? = some (.cells #[.int .i64 x.id, .int .i64 x.co, .int .i64 x.ti, .int .i64 x.se, .int .i64 x.du, .int .i64 x.we, .int .i64 x.ki] 51) ∧ w1.heap[X.heap.size + 1]? = some (.cells #[.int .i64 y.id, .int .i64 y.co, .int .i64 y.ti, .int .i64 y.se, .int .i64 y.du, .int .i64 y.we, .int .i64 y.ki] 51)) := ⟨HV.out.1.trans (hb1.mono HV.out.1.size), (hb1.block _ (ltOfQ HV.out.2.1)).trans HV.out.2.1, (hb1.block _ (ltOfQ HV.out.2.2.1)).trans HV.out.2.2.1⟩
  clear hb1 HV HC0 x0 x1 x2 x3 x4 x5 x6 xl y0 y1 y2 y3 y4 y5 y6 yl p0' pl' ql' q0' q1'
  by_cases h0 : r0 = 0
  case neg =>
    have HE : Hid (R = r0) := by unfold Hid; rw [HR.out]; rw [if_neg h0]
    have h1 : (r0 != 0) = true := by simpa using h0
    clear HR
    go_wp2
    go_returns
    exact ⟨by rw [HE.out]; rfl, HB.out.1⟩
  subst h0
  have HE : Hid (R = r1) := by unfold Hid; rw [HR.out, if_pos rfl]
  clear HR
  obtain ⟨x0, x1, x2, x3, x4, x5, x6, xl⟩ := jb_cells HB.out.2.1
  obtain ⟨y0, y1, y2, y3, y4, y5, y6, yl⟩ := jb_cells HB.out.2.2
  have hb := HB.out.1
  have p0' : w1.cell? ⟨p, 0, none⟩ = some (.slice (some ⟨q, 0, none⟩) 2 2) := (hb.cell (p := ⟨p, 0, none⟩) pl).trans p0
  have q0' : w1.cell? ⟨q, 0, none⟩ = some (.func (Fn.func 39) #[] #[]) := (hb.cell (p := ⟨q, 0, none⟩) ql).trans q0
  have q1' : w1.cell? ⟨q, 1, none⟩ = some (.func (Fn.func 57) #[] #[]) := (hb.cell (p := ⟨q, 1, none⟩) ql).trans q1
  have pl' : p < w1.heap.size := Nat.lt_of_lt_of_le pl hb.size
  have ql' : q < w1.heap.size := Nat.lt_of_lt_of_le ql hb.size
  clear hb
  go_wp2
  rw [rounds_succ]
  go_wp2_with (fail)
  refine (HC1.out w1).mono ?_
  rintro e w2 ⟨rfl, hb2⟩
  have HB2 : Hid (Below X.heap.size X w2) := HB.out.1.trans (hb2.mono HB.out.1.size)
  clear hb2 HB HC1 x0 x1 x2 x3 x4 x5 x6 xl y0 y1 y2 y3 y4 y5 y6 yl p0' pl' ql' q0' q1'
  by_cases h1 : r1 = 0
  case neg =>
    have h2 : (r1 != 0) = true := by simpa using h1
    go_wp2
    go_returns
    exact ⟨by rw [HE.out]; rfl, HB2.out⟩
  subst h1
  go_wp2
  rw [rounds_succ]
  go_wp2
  go_returns
  exact ⟨by rw [HE.out]; rfl, HB2.out⟩

set_option maxRecDepth 10000 in
set_option maxHeartbeats 3200000 in
theorem clo_du_id {W : World} {lo p q : Nat} (hp : W.cell? ⟨p, 0, none⟩ = some (.slice (some ⟨q, 0, none⟩) 2 2)) (hpl : p < lo) (hql : q < lo) (hq0 : W.cell? ⟨q, 0, none⟩ = some (.func (Fn.func 87) #[] #[])) (hq1 : W.cell? ⟨q, 1, none⟩ = some (.func (Fn.func 57) #[] #[])) (hlo : lo ≤ W.heap.size) : Cmp W lo p (lexC duC idC) := by
  intro x y X hX
  have p0 : X.cell? ⟨p, 0, none⟩ = some (.slice (some ⟨q, 0, none⟩) 2 2) := (hX.cell (p := ⟨p, 0, none⟩) hpl).trans hp
  have q0 : X.cell? ⟨q, 0, none⟩ = some (.func (Fn.func 87) #[] #[]) := (hX.cell (p := ⟨q, 0, none⟩) hql).trans hq0
  have q1 : X.cell? ⟨q, 1, none⟩ = some (.func (Fn.func 57) #[] #[]) := (hX.cell (p := ⟨q, 1, none⟩) hql).trans hq1
  have hs := hX.size
  have pl : p < X.heap.size := by omega
  have ql : q < X.heap.size := by omega
  obtain ⟨V, hV⟩ : ∃ V, V = (X.alloc (.cells #[.int .i64 x.id, .int .i64 x.co, .int .i64 x.ti, .int .i64 x.se, .int .i64 x.du, .int .i64 x.we, .int .i64 x.ki] 51)).alloc (.cells #[.int .i64 y.id, .int .i64 y.co, .int .i64 y.ti, .int .i64 y.se, .int .i64 y.du, .int .i64 y.we, .int .i64 y.ki] 51) := ⟨_, rfl⟩
  have HV : Hid (Below X.heap.size X V ∧ V.heap[X.heap.size]? = some (.cells #[.int .i64 x.id, .int .i64 x.co, .int .i64 x.ti, .int .i64 x.se, .int .i64 x.du, .int .i64 x.we, .int .i64 x.ki] 51) ∧ V.heap[X.heap.size + 1]? = some (.cells #[.int .i64 y.id, .int .i64 y.co, .int .i64 y.ti, .int .i64 y.se, .int .i64 y.du, .int .i64 y.we, .int .i64 y.ki] 51) ∧ V.heap.size = X.heap.size + 2) := by
    rw [hV]
    refine ⟨by (repeat' (first | (with_reducible exact Below.refl _ _) | (with_reducible assumption) | (with_reducible refine Below.setCell ?_ ?_ _) | (with_reducible refine Below.alloc ?_ ?_ _) | (with_reducible refine below_drewN ?_ _) | (with_reducible refine Below.drew ?_) | (with_reducible exact Nat.le_refl _) | omega | (simp; done) | (simp; omega))), (heap_alloc_old _ _ (by simp)).trans (heap_alloc_new _ _), ?_, by simp⟩
    have := heap_alloc_new (X.alloc (.cells #[.int .i64 x.id, .int .i64 x.co, .int .i64 x.ti, .int .i64 x.se, .int .i64 x.du, .int .i64 x.we, .int .i64 x.ki] 51)) (.cells #[.int .i64 y.id, .int .i64 y.co, .int .i64 y.ti, .int .i64 y.se, .int .i64 y.du, .int .i64 y.we, .int .i64 y.ki] 51); simpa using this
  have HC0 : Hid (∀ Y, Calls Try.prog 87 #[.agg #[.int .i64 x.id, .int .i64 x.co, .int .i64 x.ti, .int .i64 x.se, .int .i64 x.du, .int .i64 x.we, .int .i64 x.ki], .agg #[.int .i64 y.id, .int .i64 y.co, .int .i64 y.ti, .int .i64 y.se, .int .i64 y.du, .int .i64 y.we, .int .i64 y.ki]] Y fun e w' => e = .returned (.int .i64 (duC x y)) ∧ Below Y.heap.size Y w') := fun Y => by_du x y Y
  obtain ⟨r0, hr0⟩ : ∃ r, r = duC x y := ⟨_, rfl⟩
  rw [← hr0] at HC0
  have HC1 : Hid (∀ Y, Calls Try.prog 57 #[.agg #[.int .i64 x.id, .int .i64 x.co, .int .i64 x.ti, .int .i64 x.se, .int .i64 x.du, .int .i64 x.we, .int .i64 x.ki], .agg #[.int .i64 y.id, .int .i64 y.co, .int .i64 y.ti, .int .i64 y.se, .int .i64 y.du, .int .i64 y.we, .int .i64 y.ki]] Y fun e w' => e = .returned (.int .i64 (idC x y)) ∧ Below Y.heap.size Y w') := fun Y => by_id x y Y
  obtain ⟨r1, hr1⟩ : ∃ r, r = idC x y := ⟨_, rfl⟩
  rw [← hr1] at HC1
  obtain ⟨R, hR⟩ : ∃ R, R = (lexC duC idC) x y := ⟨_, rfl⟩
  have HR : Hid (R = if r0 = 0 then r1 else r0) := by unfold Hid; rw [hR, lexC, hr0, hr1]
  rw [← hR]
  clear hR hr0 hr1 hp hq0 hq1
  go_enter Try.func81, Try.ntmps81
  go_upto_region 1 with fail
  rw [← hV]
  clear hV
  obtain ⟨x0, x1, x2, x3, x4, x5, x6, xl⟩ := jb_cells HV.out.2.1
  obtain ⟨y0, y1, y2, y3, y4, y5, y6, yl⟩ := jb_cells HV.out.2.2.1
  have hb := HV.out.1
  have p0' : V.cell? ⟨p, 0, none⟩ = some (.slice (some ⟨q, 0, none⟩) 2 2) := (hb.cell (p := ⟨p, 0, none⟩) pl).trans p0
  have q0' : V.cell? ⟨q, 0, none⟩ = some (.func (Fn.func 87) #[] #[]) := (hb.cell (p := ⟨q, 0, none⟩) ql).trans q0
  have q1' : V.cell? ⟨q, 1, none⟩ = some (.func (Fn.func 57) #[] #[]) := (hb.cell (p := ⟨q, 1, none⟩) ql).trans q1
  have pl' : p < V.heap.size := Nat.lt_of_lt_of_le pl hb.size
  have ql' : q < V.heap.size := Nat.lt_of_lt_of_le ql hb.size
  clear hb
  go_wp2
  refine wp_loop_rounds 3 ?_
  rw [rounds_succ]
  go_wp2_with (fail)
  refine (HC0.out V).mono ?_
  rintro e w1 ⟨rfl, hb1⟩
  have HB : Hid (Below X.heap.size X w1 ∧ w1.heap[X.heap.size]? = some (.cells #[.int .i64 x.id, .int .i64 x.co, .int .i64 x.ti, .int .i64 x.se, .int .i64 x.du, .int .i64 x.we, .int .i64 x.ki] 51) ∧ w1.heap[X.heap.size + 1]? = some (.cells #[.int .i64 y.id, .int .i64 y.co, .int .i64 y.ti, .int .i64 y.se, .int .i64 y.du, .int .i64 y.we, .int .i64 y.ki] 51)) := ⟨HV.out.1.trans (hb1.mono HV.out.1.size), (hb1.block _ (ltOfQ HV.out.2.1)).trans HV.out.2.1, (hb1.block _ (ltOfQ HV.out.2.2.1)).trans HV.out.2.2.1⟩
  clear hb1 HV HC0 x0 x1 x2 x3 x4 x5 x6 xl y0 y1 y2 y3 y4 y5 y6 yl p0' pl' ql' q0' q1'
  by_cases h0 : r0 = 0
  case neg =>
    have HE : Hid (R = r0) := by unfold Hid; rw [HR.out]; rw [if_neg h0]
    have h1 : (r0 != 0) = true := by simpa using h0
    clear HR
    go_wp2
    go_returns
    exact ⟨by rw [HE.out]; rfl, HB.out.1⟩
  subst h0
  have HE : Hid (R = r1) := by unfold Hid; rw [HR.out, if_pos rfl]
  clear HR
  obtain ⟨x0, x1, x2, x3, x4, x5, x6, xl⟩ := jb_cells HB.out.2.1
  obtain ⟨y0, y1, y2, y3, y4, y5, y6, yl⟩ := jb_cells HB.out.2.2
  have hb := HB.out.1
  have p0' : w1.cell? ⟨p, 0, none⟩ = some (.slice (some ⟨q, 0, none⟩) 2 2) := (hb.cell (p := ⟨p, 0, none⟩) pl).trans p0
  have q0' : w1.cell? ⟨q, 0, none⟩ = some (.func (Fn.func 87) #[] #[]) := (hb.cell (p := ⟨q, 0, none⟩) ql).trans q0
  have q1' : w1.cell? ⟨q, 1, none⟩ = some (.func (Fn.func 57) #[] #[]) := (hb.cell (p := ⟨q, 1, none⟩) ql).trans q1
  have pl' : p < w1.heap.size := Nat.lt_of_lt_of_le pl hb.size
  have ql' : q < w1.heap.size := Nat.lt_of_lt_of_le ql hb.size
  clear hb
  go_wp2
  rw [rounds_succ]
  go_wp2_with (fail)
  refine (HC1.out w1).mono ?_
  rintro e w2 ⟨rfl, hb2⟩
  have HB2 : Hid (Below X.heap.size X w2) := HB.out.1.trans (hb2.mono HB.out.1.size)
  clear hb2 HB HC1 x0 x1 x2 x3 x4 x5 x6 xl y0 y1 y2 y3 y4 y5 y6 yl p0' pl' ql' q0' q1'
  by_cases h1 : r1 = 0
  case neg =>
    have h2 : (r1 != 0) = true := by simpa using h1
    go_wp2
    go_returns
    exact ⟨by rw [HE.out]; rfl, HB2.out⟩
  subst h1
  go_wp2
  rw [rounds_succ]
  go_wp2
  go_returns
  exact ⟨by rw [HE.out]; rfl, HB2.out⟩

set_option maxRecDepth 10000 in
set_option maxHeartbeats 3200000 in
theorem clo_ti_id {W : World} {lo p q : Nat} (hp : W.cell? ⟨p, 0, none⟩ = some (.slice (some ⟨q, 0, none⟩) 2 2)) (hpl : p < lo) (hql : q < lo) (hq0 : W.cell? ⟨q, 0, none⟩ = some (.func (Fn.func 56) #[] #[])) (hq1 : W.cell? ⟨q, 1, none⟩ = some (.func (Fn.func 57) #[] #[])) (hlo : lo ≤ W.heap.size) : Cmp W lo p (lexC tiC idC) := by
  intro x y X hX
  have p0 : X.cell? ⟨p, 0, none⟩ = some (.slice (some ⟨q, 0, none⟩) 2 2) := (hX.cell (p := ⟨p, 0, none⟩) hpl).trans hp
  have q0 : X.cell? ⟨q, 0, none⟩ = some (.func (Fn.func 56) #[] #[]) := (hX.cell (p := ⟨q, 0, none⟩) hql).trans hq0
  have q1 : X.cell? ⟨q, 1, none⟩ = some (.func (Fn.func 57) #[] #[]) := (hX.cell (p := ⟨q, 1, none⟩) hql).trans hq1
  have hs := hX.size
  have pl : p < X.heap.size := by omega
  have ql : q < X.heap.size := by omega
  obtain ⟨V, hV⟩ : ∃ V, V = (X.alloc (.cells #[.int .i64 x.id, .int .i64 x.co, .int .i64 x.ti, .int .i64 x.se, .int .i64 x.du, .int .i64 x.we, .int .i64 x.ki] 51)).alloc (.cells #[.int .i64 y.id, .int .i64 y.co, .int .i64 y.ti, .int .i64 y.se, .int .i64 y.du, .int .i64 y.we, .int .i64 y.ki] 51) := ⟨_, rfl⟩
  have HV : Hid (Below X.heap.size X V ∧ V.heap[X.heap.size]? = some (.cells #[.int .i64 x.id, .int .i64 x.co, .int .i64 x.ti, .int .i64 x.se, .int .i64 x.du, .int .i64 x.we, .int .i64 x.ki] 51) ∧ V.heap[X.heap.size + 1]? = some (.cells #[.int .i64 y.id, .int .i64 y.co, .int .i64 y.ti, .int .i64 y.se, .int .i64 y.du, .int .i64 y.we, .int .i64 y.ki] 51) ∧ V.heap.size = X.heap.size + 2) := by
    rw [hV]
    refine ⟨by (repeat' (first | (with_reducible exact Below.refl _ _) | (with_reducible assumption) | (with_reducible refine Below.setCell ?_ ?_ _) | (with_reducible refine Below.alloc ?_ ?_ _) | (with_reducible refine below_drewN ?_ _) | (with_reducible refine Below.drew ?_) | (with_reducible exact Nat.le_refl _) | omega | (simp; done) | (simp; omega))), (heap_alloc_old _ _ (by simp)).trans (heap_alloc_new _ _), ?_, by simp⟩
    have := heap_alloc_new (X.alloc (.cells #[.int .i64 x.id, .int .i64 x.co, .int .i64 x.ti, .int .i64 x.se, .int .i64 x.du, .int .i64 x.we, .int .i64 x.ki] 51)) (.cells #[.int .i64 y.id, .int .i64 y.co, .int .i64 y.ti, .int .i64 y.se, .int .i64 y.du, .int .i64 y.we, .int .i64 y.ki] 51); simpa using this
  have HC0 : Hid (∀ Y, Calls Try.prog 56 #[.agg #[.int .i64 x.id, .int .i64 x.co, .int .i64 x.ti, .int .i64 x.se, .int .i64 x.du, .int .i64 x.we, .int .i64 x.ki], .agg #[.int .i64 y.id, .int .i64 y.co, .int .i64 y.ti, .int .i64 y.se, .int .i64 y.du, .int .i64 y.we, .int .i64 y.ki]] Y fun e w' => e = .returned (.int .i64 (tiC x y)) ∧ Below Y.heap.size Y w') := fun Y => by_ti x y Y
  obtain ⟨r0, hr0⟩ : ∃ r, r = tiC x y := ⟨_, rfl⟩
  rw [← hr0] at HC0
  have HC1 : Hid (∀ Y, Calls Try.prog 57 #[.agg #[.int .i64 x.id, .int .i64 x.co, .int .i64 x.ti, .int .i64 x.se, .int .i64 x.du, .int .i64 x.we, .int .i64 x.ki], .agg #[.int .i64 y.id, .int .i64 y.co, .int .i64 y.ti, .int .i64 y.se, .int .i64 y.du, .int .i64 y.we, .int .i64 y.ki]] Y fun e w' => e = .returned (.int .i64 (idC x y)) ∧ Below Y.heap.size Y w') := fun Y => by_id x y Y
  obtain ⟨r1, hr1⟩ : ∃ r, r = idC x y := ⟨_, rfl⟩
  rw [← hr1] at HC1
  obtain ⟨R, hR⟩ : ∃ R, R = (lexC tiC idC) x y := ⟨_, rfl⟩
  have HR : Hid (R = if r0 = 0 then r1 else r0) := by unfold Hid; rw [hR, lexC, hr0, hr1]
  rw [← hR]
  clear hR hr0 hr1 hp hq0 hq1
  go_enter Try.func81, Try.ntmps81
  go_upto_region 1 with fail
  rw [← hV]
  clear hV
  obtain ⟨x0, x1, x2, x3, x4, x5, x6, xl⟩ := jb_cells HV.out.2.1
  obtain ⟨y0, y1, y2, y3, y4, y5, y6, yl⟩ := jb_cells HV.out.2.2.1
  have hb := HV.out.1
  have p0' : V.cell? ⟨p, 0, none⟩ = some (.slice (some ⟨q, 0, none⟩) 2 2) := (hb.cell (p := ⟨p, 0, none⟩) pl).trans p0
  have q0' : V.cell? ⟨q, 0, none⟩ = some (.func (Fn.func 56) #[] #[]) := (hb.cell (p := ⟨q, 0, none⟩) ql).trans q0
  have q1' : V.cell? ⟨q, 1, none⟩ = some (.func (Fn.func 57) #[] #[]) := (hb.cell (p := ⟨q, 1, none⟩) ql).trans q1
  have pl' : p < V.heap.size := Nat.lt_of_lt_of_le pl hb.size
  have ql' : q < V.heap.size := Nat.lt_of_lt_of_le ql hb.size
  clear hb
  go_wp2
  refine wp_loop_rounds 3 ?_
  rw [rounds_succ]
  go_wp2_with (fail)
  refine (HC0.out V).mono ?_
  rintro e w1 ⟨rfl, hb1⟩
  have HB : Hid (Below X.heap.size X w1 ∧ w1.heap[X.heap.size]? = some (.cells #[.int .i64 x.id, .int .i64 x.co, .int .i64 x.ti, .int .i64 x.se, .int .i64 x.du, .int .i64 x.we, .int .i64 x.ki] 51) ∧ w1.heap[X.heap.size + 1]? = some (.cells #[.int .i64 y.id, .int .i64 y.co, .int .i64 y.ti, .int .i64 y.se, .int .i64 y.du, .int .i64 y.we, .int .i64 y.ki] 51)) := ⟨HV.out.1.trans (hb1.mono HV.out.1.size), (hb1.block _ (ltOfQ HV.out.2.1)).trans HV.out.2.1, (hb1.block _ (ltOfQ HV.out.2.2.1)).trans HV.out.2.2.1⟩
  clear hb1 HV HC0 x0 x1 x2 x3 x4 x5 x6 xl y0 y1 y2 y3 y4 y5 y6 yl p0' pl' ql' q0' q1'
  by_cases h0 : r0 = 0
  case neg =>
    have HE : Hid (R = r0) := by unfold Hid; rw [HR.out]; rw [if_neg h0]
    have h1 : (r0 != 0) = true := by simpa using h0
    clear HR
    go_wp2
    go_returns
    exact ⟨by rw [HE.out]; rfl, HB.out.1⟩
  subst h0
  have HE : Hid (R = r1) := by unfold Hid; rw [HR.out, if_pos rfl]
  clear HR
  obtain ⟨x0, x1, x2, x3, x4, x5, x6, xl⟩ := jb_cells HB.out.2.1
  obtain ⟨y0, y1, y2, y3, y4, y5, y6, yl⟩ := jb_cells HB.out.2.2
  have hb := HB.out.1
  have p0' : w1.cell? ⟨p, 0, none⟩ = some (.slice (some ⟨q, 0, none⟩) 2 2) := (hb.cell (p := ⟨p, 0, none⟩) pl).trans p0
  have q0' : w1.cell? ⟨q, 0, none⟩ = some (.func (Fn.func 56) #[] #[]) := (hb.cell (p := ⟨q, 0, none⟩) ql).trans q0
  have q1' : w1.cell? ⟨q, 1, none⟩ = some (.func (Fn.func 57) #[] #[]) := (hb.cell (p := ⟨q, 1, none⟩) ql).trans q1
  have pl' : p < w1.heap.size := Nat.lt_of_lt_of_le pl hb.size
  have ql' : q < w1.heap.size := Nat.lt_of_lt_of_le ql hb.size
  clear hb
  go_wp2
  rw [rounds_succ]
  go_wp2_with (fail)
  refine (HC1.out w1).mono ?_
  rintro e w2 ⟨rfl, hb2⟩
  have HB2 : Hid (Below X.heap.size X w2) := HB.out.1.trans (hb2.mono HB.out.1.size)
  clear hb2 HB HC1 x0 x1 x2 x3 x4 x5 x6 xl y0 y1 y2 y3 y4 y5 y6 yl p0' pl' ql' q0' q1'
  by_cases h1 : r1 = 0
  case neg =>
    have h2 : (r1 != 0) = true := by simpa using h1
    go_wp2
    go_returns
    exact ⟨by rw [HE.out]; rfl, HB2.out⟩
  subst h1
  go_wp2
  rw [rounds_succ]
  go_wp2
  go_returns
  exact ⟨by rw [HE.out]; rfl, HB2.out⟩

set_option maxRecDepth 10000 in
set_option maxHeartbeats 3200000 in
theorem clo_fs_id {W : World} {lo p q : Nat} (hp : W.cell? ⟨p, 0, none⟩ = some (.slice (some ⟨q, 0, none⟩) 2 2)) (hpl : p < lo) (hql : q < lo) (hq0 : W.cell? ⟨q, 0, none⟩ = some (.func (Fn.func 58) #[] #[])) (hq1 : W.cell? ⟨q, 1, none⟩ = some (.func (Fn.func 57) #[] #[])) (hlo : lo ≤ W.heap.size) : Cmp W lo p (lexC fsC idC) := by
  intro x y X hX
  have p0 : X.cell? ⟨p, 0, none⟩ = some (.slice (some ⟨q, 0, none⟩) 2 2) := (hX.cell (p := ⟨p, 0, none⟩) hpl).trans hp
  have q0 : X.cell? ⟨q, 0, none⟩ = some (.func (Fn.func 58) #[] #[]) := (hX.cell (p := ⟨q, 0, none⟩) hql).trans hq0
  have q1 : X.cell? ⟨q, 1, none⟩ = some (.func (Fn.func 57) #[] #[]) := (hX.cell (p := ⟨q, 1, none⟩) hql).trans hq1
  have hs := hX.size
  have pl : p < X.heap.size := by omega
  have ql : q < X.heap.size := by omega
  obtain ⟨V, hV⟩ : ∃ V, V = (X.alloc (.cells #[.int .i64 x.id, .int .i64 x.co, .int .i64 x.ti, .int .i64 x.se, .int .i64 x.du, .int .i64 x.we, .int .i64 x.ki] 51)).alloc (.cells #[.int .i64 y.id, .int .i64 y.co, .int .i64 y.ti, .int .i64 y.se, .int .i64 y.du, .int .i64 y.we, .int .i64 y.ki] 51) := ⟨_, rfl⟩
  have HV : Hid (Below X.heap.size X V ∧ V.heap[X.heap.size]? = some (.cells #[.int .i64 x.id, .int .i64 x.co, .int .i64 x.ti, .int .i64 x.se, .int .i64 x.du, .int .i64 x.we, .int .i64 x.ki] 51) ∧ V.heap[X.heap.size + 1]? = some (.cells #[.int .i64 y.id, .int .i64 y.co, .int .i64 y.ti, .int .i64 y.se, .int .i64 y.du, .int .i64 y.we, .int .i64 y.ki] 51) ∧ V.heap.size = X.heap.size + 2) := by
    rw [hV]
    refine ⟨by (repeat' (first | (with_reducible exact Below.refl _ _) | (with_reducible assumption) | (with_reducible refine Below.setCell ?_ ?_ _) | (with_reducible refine Below.alloc ?_ ?_ _) | (with_reducible refine below_drewN ?_ _) | (with_reducible refine Below.drew ?_) | (with_reducible exact Nat.le_refl _) | omega | (simp; done) | (simp; omega))), (heap_alloc_old _ _ (by simp)).trans (heap_alloc_new _ _), ?_, by simp⟩
    have := heap_alloc_new (X.alloc (.cells #[.int .i64 x.id, .int .i64 x.co, .int .i64 x.ti, .int .i64 x.se, .int .i64 x.du, .int .i64 x.we, .int .i64 x.ki] 51)) (.cells #[.int .i64 y.id, .int .i64 y.co, .int .i64 y.ti, .int .i64 y.se, .int .i64 y.du, .int .i64 y.we, .int .i64 y.ki] 51); simpa using this
  have HC0 : Hid (∀ Y, Calls Try.prog 58 #[.agg #[.int .i64 x.id, .int .i64 x.co, .int .i64 x.ti, .int .i64 x.se, .int .i64 x.du, .int .i64 x.we, .int .i64 x.ki], .agg #[.int .i64 y.id, .int .i64 y.co, .int .i64 y.ti, .int .i64 y.se, .int .i64 y.du, .int .i64 y.we, .int .i64 y.ki]] Y fun e w' => e = .returned (.int .i64 (fsC x y)) ∧ Below Y.heap.size Y w') := fun Y => by_fs x y Y
  obtain ⟨r0, hr0⟩ : ∃ r, r = fsC x y := ⟨_, rfl⟩
  rw [← hr0] at HC0
  have HC1 : Hid (∀ Y, Calls Try.prog 57 #[.agg #[.int .i64 x.id, .int .i64 x.co, .int .i64 x.ti, .int .i64 x.se, .int .i64 x.du, .int .i64 x.we, .int .i64 x.ki], .agg #[.int .i64 y.id, .int .i64 y.co, .int .i64 y.ti, .int .i64 y.se, .int .i64 y.du, .int .i64 y.we, .int .i64 y.ki]] Y fun e w' => e = .returned (.int .i64 (idC x y)) ∧ Below Y.heap.size Y w') := fun Y => by_id x y Y
  obtain ⟨r1, hr1⟩ : ∃ r, r = idC x y := ⟨_, rfl⟩
  rw [← hr1] at HC1
  obtain ⟨R, hR⟩ : ∃ R, R = (lexC fsC idC) x y := ⟨_, rfl⟩
  have HR : Hid (R = if r0 = 0 then r1 else r0) := by unfold Hid; rw [hR, lexC, hr0, hr1]
  rw [← hR]
  clear hR hr0 hr1 hp hq0 hq1
  go_enter Try.func81, Try.ntmps81
  go_upto_region 1 with fail
  rw [← hV]
  clear hV
  obtain ⟨x0, x1, x2, x3, x4, x5, x6, xl⟩ := jb_cells HV.out.2.1
  obtain ⟨y0, y1, y2, y3, y4, y5, y6, yl⟩ := jb_cells HV.out.2.2.1
  have hb := HV.out.1
  have p0' : V.cell? ⟨p, 0, none⟩ = some (.slice (some ⟨q, 0, none⟩) 2 2) := (hb.cell (p := ⟨p, 0, none⟩) pl).trans p0
  have q0' : V.cell? ⟨q, 0, none⟩ = some (.func (Fn.func 58) #[] #[]) := (hb.cell (p := ⟨q, 0, none⟩) ql).trans q0
  have q1' : V.cell? ⟨q, 1, none⟩ = some (.func (Fn.func 57) #[] #[]) := (hb.cell (p := ⟨q, 1, none⟩) ql).trans q1
  have pl' : p < V.heap.size := Nat.lt_of_lt_of_le pl hb.size
  have ql' : q < V.heap.size := Nat.lt_of_lt_of_le ql hb.size
  clear hb
  go_wp2
  refine wp_loop_rounds 3 ?_
  rw [rounds_succ]
  go_wp2_with (fail)
  refine (HC0.out V).mono ?_
  rintro e w1 ⟨rfl, hb1⟩
  have HB : Hid (Below X.heap.size X w1 ∧ w1.heap[X.heap.size]? = some (.cells #[.int .i64 x.id, .int .i64 x.co, .int .i64 x.ti, .int .i64 x.se, .int .i64 x.du, .int .i64 x.we, .int .i64 x.ki] 51) ∧ w1.heap[X.heap.size + 1]? = some (.cells #[.int .i64 y.id, .int .i64 y.co, .int .i64 y.ti, .int .i64 y.se, .int .i64 y.du, .int .i64 y.we, .int .i64 y.ki] 51)) := ⟨HV.out.1.trans (hb1.mono HV.out.1.size), (hb1.block _ (ltOfQ HV.out.2.1)).trans HV.out.2.1, (hb1.block _ (ltOfQ HV.out.2.2.1)).trans HV.out.2.2.1⟩
  clear hb1 HV HC0 x0 x1 x2 x3 x4 x5 x6 xl y0 y1 y2 y3 y4 y5 y6 yl p0' pl' ql' q0' q1'
  by_cases h0 : r0 = 0
  case neg =>
    have HE : Hid (R = r0) := by unfold Hid; rw [HR.out]; rw [if_neg h0]
    have h1 : (r0 != 0) = true := by simpa using h0
    clear HR
    go_wp2
    go_returns
    exact ⟨by rw [HE.out]; rfl, HB.out.1⟩
  subst h0
  have HE : Hid (R = r1) := by unfold Hid; rw [HR.out, if_pos rfl]
  clear HR
  obtain ⟨x0, x1, x2, x3, x4, x5, x6, xl⟩ := jb_cells HB.out.2.1
  obtain ⟨y0, y1, y2, y3, y4, y5, y6, yl⟩ := jb_cells HB.out.2.2
  have hb := HB.out.1
  have p0' : w1.cell? ⟨p, 0, none⟩ = some (.slice (some ⟨q, 0, none⟩) 2 2) := (hb.cell (p := ⟨p, 0, none⟩) pl).trans p0
  have q0' : w1.cell? ⟨q, 0, none⟩ = some (.func (Fn.func 58) #[] #[]) := (hb.cell (p := ⟨q, 0, none⟩) ql).trans q0
  have q1' : w1.cell? ⟨q, 1, none⟩ = some (.func (Fn.func 57) #[] #[]) := (hb.cell (p := ⟨q, 1, none⟩) ql).trans q1
  have pl' : p < w1.heap.size := Nat.lt_of_lt_of_le pl hb.size
  have ql' : q < w1.heap.size := Nat.lt_of_lt_of_le ql hb.size
  clear hb
  go_wp2
  rw [rounds_succ]
  go_wp2_with (fail)
  refine (HC1.out w1).mono ?_
  rintro e w2 ⟨rfl, hb2⟩
  have HB2 : Hid (Below X.heap.size X w2) := HB.out.1.trans (hb2.mono HB.out.1.size)
  clear hb2 HB HC1 x0 x1 x2 x3 x4 x5 x6 xl y0 y1 y2 y3 y4 y5 y6 yl p0' pl' ql' q0' q1'
  by_cases h1 : r1 = 0
  case neg =>
    have h2 : (r1 != 0) = true := by simpa using h1
    go_wp2
    go_returns
    exact ⟨by rw [HE.out]; rfl, HB2.out⟩
  subst h1
  go_wp2
  rw [rounds_succ]
  go_wp2
  go_returns
  exact ⟨by rw [HE.out]; rfl, HB2.out⟩

set_option maxRecDepth 10000 in
set_option maxHeartbeats 3200000 in
theorem clo_ra_id {W : World} {lo p q k : Nat} (now : Int) (hp : W.cell? ⟨p, 0, none⟩ = some (.slice (some ⟨q, 0, none⟩) 2 2)) (hpl : p < lo) (hql : q < lo) (hk : W.cell? ⟨k, 0, none⟩ = some (.int .i64 now)) (hkl : k < lo) (hq0 : W.cell? ⟨q, 0, none⟩ = some (.func (Fn.func 92) #[] #[.pointer (some ⟨k, 0, none⟩)])) (hq1 : W.cell? ⟨q, 1, none⟩ = some (.func (Fn.func 57) #[] #[])) (hlo : lo ≤ W.heap.size) : Cmp W lo p (lexC (raC now) idC) := by
  intro x y X hX
  have p0 : X.cell? ⟨p, 0, none⟩ = some (.slice (some ⟨q, 0, none⟩) 2 2) := (hX.cell (p := ⟨p, 0, none⟩) hpl).trans hp
  have q0 : X.cell? ⟨q, 0, none⟩ = some (.func (Fn.func 92) #[] #[.pointer (some ⟨k, 0, none⟩)]) := (hX.cell (p := ⟨q, 0, none⟩) hql).trans hq0
  have q1 : X.cell? ⟨q, 1, none⟩ = some (.func (Fn.func 57) #[] #[]) := (hX.cell (p := ⟨q, 1, none⟩) hql).trans hq1
  have hs := hX.size
  have pl : p < X.heap.size := by omega
  have ql : q < X.heap.size := by omega
  have k0 : X.cell? ⟨k, 0, none⟩ = some (.int .i64 now) := (hX.cell (p := ⟨k, 0, none⟩) hkl).trans hk
  have kl : k < X.heap.size := by omega
  obtain ⟨V, hV⟩ : ∃ V, V = (X.alloc (.cells #[.int .i64 x.id, .int .i64 x.co, .int .i64 x.ti, .int .i64 x.se, .int .i64 x.du, .int .i64 x.we, .int .i64 x.ki] 51)).alloc (.cells #[.int .i64 y.id, .int .i64 y.co, .int .i64 y.ti, .int .i64 y.se, .int .i64 y.du, .int .i64 y.we, .int .i64 y.ki] 51) := ⟨_, rfl⟩
  have HV : Hid (Below X.heap.size X V ∧ V.heap[X.heap.size]? = some (.cells #[.int .i64 x.id, .int .i64 x.co, .int .i64 x.ti, .int .i64 x.se, .int .i64 x.du, .int .i64 x.we, .int .i64 x.ki] 51) ∧ V.heap[X.heap.size + 1]? = some (.cells #[.int .i64 y.id, .int .i64 y.co, .int .i64 y.ti, .int .i64 y.se, .int .i64 y.du, .int .i64 y.we, .int .i64 y.ki] 51) ∧ V.heap.size = X.heap.size + 2) := by
    rw [hV]
    refine ⟨by (repeat' (first | (with_reducible exact Below.refl _ _) | (with_reducible assumption) | (with_reducible refine Below.setCell ?_ ?_ _) | (with_reducible refine Below.alloc ?_ ?_ _) | (with_reducible refine below_drewN ?_ _) | (with_reducible refine Below.drew ?_) | (with_reducible exact Nat.le_refl _) | omega | (simp; done) | (simp; omega))), (heap_alloc_old _ _ (by simp)).trans (heap_alloc_new _ _), ?_, by simp⟩
    have := heap_alloc_new (X.alloc (.cells #[.int .i64 x.id, .int .i64 x.co, .int .i64 x.ti, .int .i64 x.se, .int .i64 x.du, .int .i64 x.we, .int .i64 x.ki] 51)) (.cells #[.int .i64 y.id, .int .i64 y.co, .int .i64 y.ti, .int .i64 y.se, .int .i64 y.du, .int .i64 y.we, .int .i64 y.ki] 51); simpa using this
  have HC0 : Hid (∀ Y, Below X.heap.size X Y → Calls Try.prog 92 #[.agg #[.int .i64 x.id, .int .i64 x.co, .int .i64 x.ti, .int .i64 x.se, .int .i64 x.du, .int .i64 x.we, .int .i64 x.ki], .agg #[.int .i64 y.id, .int .i64 y.co, .int .i64 y.ti, .int .i64 y.se, .int .i64 y.du, .int .i64 y.we, .int .i64 y.ki], .pointer (some ⟨k, 0, none⟩)] Y fun e w' => e = .returned (.int .i64 (raC now x y)) ∧ Below Y.heap.size Y w') := fun Y hY => by_ra now x y ((hY.cell (p := ⟨k, 0, none⟩) kl).trans k0) (Nat.lt_of_lt_of_le kl hY.size)
  obtain ⟨r0, hr0⟩ : ∃ r, r = (raC now) x y := ⟨_, rfl⟩
  rw [← hr0] at HC0
  have HC1 : Hid (∀ Y, Calls Try.prog 57 #[.agg #[.int .i64 x.id, .int .i64 x.co, .int .i64 x.ti, .int .i64 x.se, .int .i64 x.du, .int .i64 x.we, .int .i64 x.ki], .agg #[.int .i64 y.id, .int .i64 y.co, .int .i64 y.ti, .int .i64 y.se, .int .i64 y.du, .int .i64 y.we, .int .i64 y.ki]] Y fun e w' => e = .returned (.int .i64 (idC x y)) ∧ Below Y.heap.size Y w') := fun Y => by_id x y Y
  obtain ⟨r1, hr1⟩ : ∃ r, r = idC x y := ⟨_, rfl⟩
  rw [← hr1] at HC1
  obtain ⟨R, hR⟩ : ∃ R, R = (lexC (raC now) idC) x y := ⟨_, rfl⟩
  have HR : Hid (R = if r0 = 0 then r1 else r0) := by unfold Hid; rw [hR, lexC, hr0, hr1]
  rw [← hR]
  clear hR hr0 hr1 hp hq0 hq1 hk
  go_enter Try.func81, Try.ntmps81
  go_upto_region 1 with fail
  rw [← hV]
  clear hV
  obtain ⟨x0, x1, x2, x3, x4, x5, x6, xl⟩ := jb_cells HV.out.2.1
  obtain ⟨y0, y1, y2, y3, y4, y5, y6, yl⟩ := jb_cells HV.out.2.2.1
  have hb := HV.out.1
  have p0' : V.cell? ⟨p, 0, none⟩ = some (.slice (some ⟨q, 0, none⟩) 2 2) := (hb.cell (p := ⟨p, 0, none⟩) pl).trans p0
  have q0' : V.cell? ⟨q, 0, none⟩ = some (.func (Fn.func 92) #[] #[.pointer (some ⟨k, 0, none⟩)]) := (hb.cell (p := ⟨q, 0, none⟩) ql).trans q0
  have q1' : V.cell? ⟨q, 1, none⟩ = some (.func (Fn.func 57) #[] #[]) := (hb.cell (p := ⟨q, 1, none⟩) ql).trans q1
  have pl' : p < V.heap.size := Nat.lt_of_lt_of_le pl hb.size
  have ql' : q < V.heap.size := Nat.lt_of_lt_of_le ql hb.size
  clear hb
  go_wp2
  refine wp_loop_rounds 3 ?_
  rw [rounds_succ]
  go_wp2_with (fail)
  refine (HC0.out V HV.out.1).mono ?_
  rintro e w1 ⟨rfl, hb1⟩
  have HB : Hid (Below X.heap.size X w1 ∧ w1.heap[X.heap.size]? = some (.cells #[.int .i64 x.id, .int .i64 x.co, .int .i64 x.ti, .int .i64 x.se, .int .i64 x.du, .int .i64 x.we, .int .i64 x.ki] 51) ∧ w1.heap[X.heap.size + 1]? = some (.cells #[.int .i64 y.id, .int .i64 y.co, .int .i64 y.ti, .int .i64 y.se, .int .i64 y.du, .int .i64 y.we, .int .i64 y.ki] 51)) := ⟨HV.out.1.trans (hb1.mono HV.out.1.size), (hb1.block _ (ltOfQ HV.out.2.1)).trans HV.out.2.1, (hb1.block _ (ltOfQ HV.out.2.2.1)).trans HV.out.2.2.1⟩
  clear hb1 HV HC0 x0 x1 x2 x3 x4 x5 x6 xl y0 y1 y2 y3 y4 y5 y6 yl p0' pl' ql' q0' q1'
  by_cases h0 : r0 = 0
  case neg =>
    have HE : Hid (R = r0) := by unfold Hid; rw [HR.out]; rw [if_neg h0]
    have h1 : (r0 != 0) = true := by simpa using h0
    clear HR
    go_wp2
    go_returns
    exact ⟨by rw [HE.out]; rfl, HB.out.1⟩
  subst h0
  have HE : Hid (R = r1) := by unfold Hid; rw [HR.out, if_pos rfl]
  clear HR
  obtain ⟨x0, x1, x2, x3, x4, x5, x6, xl⟩ := jb_cells HB.out.2.1
  obtain ⟨y0, y1, y2, y3, y4, y5, y6, yl⟩ := jb_cells HB.out.2.2
  have hb := HB.out.1
  have p0' : w1.cell? ⟨p, 0, none⟩ = some (.slice (some ⟨q, 0, none⟩) 2 2) := (hb.cell (p := ⟨p, 0, none⟩) pl).trans p0
  have q0' : w1.cell? ⟨q, 0, none⟩ = some (.func (Fn.func 92) #[] #[.pointer (some ⟨k, 0, none⟩)]) := (hb.cell (p := ⟨q, 0, none⟩) ql).trans q0
  have q1' : w1.cell? ⟨q, 1, none⟩ = some (.func (Fn.func 57) #[] #[]) := (hb.cell (p := ⟨q, 1, none⟩) ql).trans q1
  have pl' : p < w1.heap.size := Nat.lt_of_lt_of_le pl hb.size
  have ql' : q < w1.heap.size := Nat.lt_of_lt_of_le ql hb.size
  clear hb
  go_wp2
  rw [rounds_succ]
  go_wp2_with (fail)
  refine (HC1.out w1).mono ?_
  rintro e w2 ⟨rfl, hb2⟩
  have HB2 : Hid (Below X.heap.size X w2) := HB.out.1.trans (hb2.mono HB.out.1.size)
  clear hb2 HB HC1 x0 x1 x2 x3 x4 x5 x6 xl y0 y1 y2 y3 y4 y5 y6 yl p0' pl' ql' q0' q1'
  by_cases h1 : r1 = 0
  case neg =>
    have h2 : (r1 != 0) = true := by simpa using h1
    go_wp2
    go_returns
    exact ⟨by rw [HE.out]; rfl, HB2.out⟩
  subst h1
  go_wp2
  rw [rounds_succ]
  go_wp2
  go_returns
  exact ⟨by rw [HE.out]; rfl, HB2.out⟩

end Go.Proofs.Ytjbghflphngnkaa
