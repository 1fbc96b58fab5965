/- Proved here: windows that came in: how they are read and copied. -/
import Derived.Test.YthmddnachancfabWnE
import Derived.OpenShut
import Derived.Lib.SmallJoins
namespace Go.Proofs.Ythmddnachancfab
open Go.ChangeShapes Go.WideShapes Go.ChangeAt Go.RowKit Go.Joins Go.Deep
set_option linter.unusedVariables false
set_option linter.unusedSimpArgs false

set_option maxHeartbeats 1600000 in
theorem toBox10 (a b c d : Int) (w : World) : Calls Try.prog 17 #[.agg #[.int .i64 a, .int .i64 b, .int .i64 c, .int .i64 d]] w fun e w' => e = .returned (.agg #[.int .i64 a, .int .i64 b, .int .i64 c, .int .i64 d]) ∧ Below w.heap.size w w' := by
  go_enter Try.func17, Try.ntmps17
  go_wp21
  go_returns
  exact ⟨rfl, by (repeat' (first | (with_reducible exact Below.refl _ _) | (with_reducible assumption) | (with_reducible refine Below.setCell ?_ ?_ _) | (with_reducible refine Below.alloc ?_ ?_ _) | (with_reducible refine below_drewN ?_ _) | (with_reducible refine Below.drew ?_) | (with_reducible exact Nat.le_refl _) | omega | (simp; done) | (simp; omega)))⟩
set_option maxRecDepth 10000 in
set_option maxHeartbeats 3200000 in
theorem toWindowResult_is (C A a b c d : Int) (w : World) : Calls Try.prog 6 #[.agg #[.int .i64 C, .int .i64 A, .int .i64 a, .int .i64 b, .int .i64 c, .int .i64 d]] w fun e w' => e = .returned (.agg #[.int .i64 C, .int .i64 A, .int .i64 a, .int .i64 b, .int .i64 c, .int .i64 d]) ∧ Below w.heap.size w w' := by
  have HB : Hid (∀ V, Calls Try.prog 17 #[.agg #[.int .i64 a, .int .i64 b, .int .i64 c, .int .i64 d]] V fun e w' => e = .returned (.agg #[.int .i64 a, .int .i64 b, .int .i64 c, .int .i64 d]) ∧ Below V.heap.size V w') := fun V => toBox10 a b c d V
  go_enter Try.func6, Try.ntmps6
  go_wp2_with (fail)
  obtain ⟨V, hV⟩ : ∃ V, V = ((w.alloc (.cells #[.int .i64 C, .int .i64 A, .int .i64 a, .int .i64 b, .int .i64 c, .int .i64 d] 25)).alloc (.cells #[.int .i64 0, .int .i64 0, .int .i64 0, .int .i64 0, .int .i64 0, .int .i64 0] 33)).alloc (.cells #[.int .i64 C, .int .i64 A, .int .i64 0, .int .i64 0, .int .i64 0, .int .i64 0] 33) := ⟨_, rfl⟩
  rw [← hV]
  obtain ⟨k0, k1, k2, hb, hs⟩ := al3 hV
  clear hV
  refine (HB.out _).mono ?_
  rintro e w1 ⟨rfl, hb1⟩
  have HB1 : Hid (Below w.heap.size w w1) := hb.trans (hb1.mono hb.size)
  have j1 := (hb1.block _ (ltOf k1)).trans k1
  have j2 := (hb1.block _ (ltOf k2)).trans k2
  obtain ⟨p0, p1, p2, p3, p4, p5, pf, pl⟩ := sixS j1
  obtain ⟨q0, q1, q2, q3, q4, q5, qf, ql⟩ := sixS j2
  have g0 := pf 0
  have g1 := pf 1
  have g2 := pf 2
  have g3 := pf 3
  have g4 := pf 4
  have g5 := pf 5
  have f2 := qf 2
  have f3 := qf 3
  have f4 := qf 4
  have f5 := qf 5
  clear k0 k1 k2 hb hs hb1 j1 j2 pf qf HB
  go_wp2
  try simp only [Exit.inBlock, Exit.then]
  refine bodyPost_ret (by simp [results, Try.results6, go_sem, p0, p1, p2, p3, p4, p5, pl]; try rfl) rfl ⟨rfl, ?_⟩
  have hb := HB1.out
  (repeat' (first | (with_reducible exact Below.refl _ _) | (with_reducible assumption) | (with_reducible refine Below.setCell ?_ ?_ _) | (with_reducible refine Below.alloc ?_ ?_ _) | (with_reducible refine below_drewN ?_ _) | (with_reducible refine Below.drew ?_) | (with_reducible exact Nat.le_refl _) | omega | (simp; done) | (simp; omega)))

set_option maxRecDepth 100000 in
theorem window_open {H : Type} {enc : TypeId × Value → H} {W : World} {base : Nat} {v : Value} {d : DataW H} {p : List MemPlace}
    (hv : Value.okWide Try.prog W .any base 25 v) (h : DataW.Trod enc Try.prog W 0 (fun _ => true) true 25 v d p) :
    ∃ C A a b c e : Int, v = .agg #[.int .i64 C, .int .i64 A, .int .i64 a, .int .i64 b, .int .i64 c, .int .i64 e] := by
  obtain ⟨cs, rfl, hsz⟩ := okWide_struct Try.underlying25 hv
  have k6 : Try.prog.cellsOf 25 = 6 := by kernel_rfl
  have k1 : Try.prog.cellsOf 2 = 1 := by kernel_rfl
  have k4 : Try.prog.cellsOf 23 = 4 := by kernel_rfl
  rw [k6] at hsz
  obtain ⟨l⟩ := cs
  obtain ⟨c0, c1, c2, c3, c4, c5, rfl⟩ : ∃ c0 c1 c2 c3 c4 c5, l = [c0, c1, c2, c3, c4, c5] := by
    match l, hsz with
    | [c0, c1, c2, c3, c4, c5], _ => exact ⟨c0, c1, c2, c3, c4, c5, rfl⟩
  obtain ⟨fuel, hf⟩ := h
  obtain ⟨y0, y1, y2, n, hx, hl, h0, h1, h2⟩ := trod_struct3 Try.underlying25 hf
  obtain ⟨n0, e0, _, _⟩ := DataW.trod_int Try.underlying2 h0
  obtain ⟨n1, e1, _, _⟩ := DataW.trod_int Try.underlying2 h1
  obtain ⟨z0, z1, z2, z3, n2, hx2, hl2, q0, q1, q2, q3⟩ := trod_struct4 Try.underlying23 h2
  obtain ⟨m0, f0, _, _⟩ := DataW.trod_int Try.underlying2 q0
  obtain ⟨m1, f1, _, _⟩ := DataW.trod_int Try.underlying2 q1
  obtain ⟨m2, f2, _, _⟩ := DataW.trod_int Try.underlying2 q2
  obtain ⟨m3, f3, _, _⟩ := DataW.trod_int Try.underlying2 q3
  simp [Value.cells, k1, k4] at e0 e1 f0 f1 f2 f3
  subst e0 e1 f0 f1 f2 f3
  exact ⟨n0, n1, m0, m1, m2, m3, rfl⟩

end Go.Proofs.Ythmddnachancfab
