/- Proved here: 'the program's LoopFault answers as the model's; it writes into no argument', without a condition. -/
import Derived.Test.YtiipepddlbgodaaLpI
import Derived.Test.YtiipepddlbgodaaLpS
import Derived.Test.YtiipepddlbgodaaLpO
import Derived.Test.YtiipepddlbgodaaLwS
import Derived.Test.YtiipepddlbgodaaRows
import Derived.Deep.DeepCutAuto
namespace Go.Proofs.Ytiipepddlbgodaa
open Go.ChangeShapes Go.WideShapes Go.ChangeAt Go.RowKit Go.Joins
set_option linter.unusedVariables false
set_option linter.unusedSimpArgs false

theorem own : ownKnob Try.prog.godebug = none := by kernel_rfl
theorem laidOut : laidOutB Try.prog = true := by kernel_rfl

set_option maxRecDepth 10000 in
set_option maxHeartbeats 25600000 in
theorem law_lp16 {w : World} (da_0 db_0 dc_0 dd_0 : Int) :
    Calls Try.prog 6 #[.agg #[.int .i64 da_0, .int .i64 db_0, .int .i64 dc_0, .int .i64 dd_0]] w fun e w' => e = .returned (.bool true) ∧ Below w.heap.size w w' := by
  obtain ⟨BX0, hBX0⟩ : ∃ BX, BX = Obj.cells #[.int .i64 da_0, .int .i64 db_0, .int .i64 dc_0, .int .i64 dd_0] 42 := ⟨_, rfl⟩
  have Z0 : Hid (LS w [(w.heap.size, w.heap.size + 1, fun V : World => V.heap[w.heap.size]? = some BX0)] (w.alloc (Obj.cells #[.int .i64 da_0, .int .i64 db_0, .int .i64 dc_0, .int .i64 dd_0] 42))) := by
    have p0 := LS.start w
    have p1 := LS.push (V' := (w.alloc (Obj.cells #[.int .i64 da_0, .int .i64 db_0, .int .i64 dc_0, .int .i64 dd_0] 42))) p0 (by (repeat' (first | (with_reducible exact Below.refl _ _) | (with_reducible assumption) | (with_reducible refine Below.setCell ?_ ?_ _) | (with_reducible refine Below.alloc ?_ ?_ _) | (with_reducible refine below_drewN ?_ _) | (with_reducible refine Below.drew ?_) | (with_reducible exact Nat.le_refl _) | omega | (simp; done) | (simp; omega)))) (Ow.block (k := w.heap.size) (o := BX0) (by rw [hBX0]; have := heap_alloc_new w (Obj.cells #[.int .i64 da_0, .int .i64 db_0, .int .i64 dc_0, .int .i64 dd_0] 42); simpa using this)) (by simp)
    exact p1
  have TB0 : Hid (BX0 = Obj.cells #[.int .i64 da_0, .int .i64 db_0, .int .i64 dc_0, .int .i64 dd_0] 42) := hBX0
  clear hBX0
  go_enter Try.func6, Try.ntmps6
  go_upto_region 1 with fail
  obtain ⟨W0, hW0⟩ : ∃ V, V = (w.alloc (Obj.cells #[.int .i64 da_0, .int .i64 db_0, .int .i64 dc_0, .int .i64 dd_0] 42)) := ⟨_, rfl⟩
  rw [← hW0] at Z0 ⊢
  clear hW0
  obtain ⟨C, hC⟩ : ∃ X, X = loF da_0 db_0 dc_0 dd_0 := ⟨_, rfl⟩
  have HSP : Hid (∀ (W : World) ,  Calls Try.prog 24 #[.agg #[.int .i64 da_0, .int .i64 db_0, .int .i64 dc_0, .int .i64 dd_0]] W fun e w' => e = .returned (.int .i64 C) ∧ Below W.heap.size W w') := fun W   => by
    rw [hC]
    exact spec_lo da_0 db_0 dc_0 dd_0 W
  have HIM : Hid (∀ (W : World) ,  Calls Try.prog 26 #[.agg #[.int .i64 da_0, .int .i64 db_0, .int .i64 dc_0, .int .i64 dd_0]] W fun e w' => e = .returned (.int .i64 C) ∧ Below W.heap.size W w') := fun W   => by
    rw [hC]
    exact impl_lo da_0 db_0 dc_0 dd_0 W
  clear hC 
  have kp0 := Z0.out.get 0 rfl
  rw [TB0.out] at kp0
  have cp0_0 : W0.cell? ⟨w.heap.size, 0, none⟩ = some (.int .i64 da_0) := cellOf kp0 0 rfl
  have cp0_1 : W0.cell? ⟨w.heap.size, 1, none⟩ = some (.int .i64 db_0) := cellOf kp0 1 rfl
  have cp0_2 : W0.cell? ⟨w.heap.size, 2, none⟩ = some (.int .i64 dc_0) := cellOf kp0 2 rfl
  have cp0_3 : W0.cell? ⟨w.heap.size, 3, none⟩ = some (.int .i64 dd_0) := cellOf kp0 3 rfl
  have lp0 : w.heap.size < W0.heap.size := ltOf kp0
  clear kp0
  go_wp2_with (fail)
  clear cp0_0 cp0_1 cp0_2 cp0_3 lp0
  refine (toLoop_is da_0 db_0 dc_0 dd_0 _).mono ?_
  rintro e w1 ⟨rfl, hb⟩
  have Z1 : Hid (LS w [(w.heap.size, w.heap.size + 1, fun V : World => V.heap[w.heap.size]? = some BX0)] w1) := Z0.out.next hb
  clear Z0 hb
  go_wp2_with (fail)
  refine (HSP.out w1  ).mono ?_
  rintro e w2 ⟨rfl, hb⟩
  have Z2 : Hid (LS w [(w.heap.size, w.heap.size + 1, fun V : World => V.heap[w.heap.size]? = some BX0)] w2) := Z1.out.next hb
  clear Z1 hb
  have kp0 := Z2.out.get 0 rfl
  rw [TB0.out] at kp0
  have cp0_0 : w2.cell? ⟨w.heap.size, 0, none⟩ = some (.int .i64 da_0) := cellOf kp0 0 rfl
  have cp0_1 : w2.cell? ⟨w.heap.size, 1, none⟩ = some (.int .i64 db_0) := cellOf kp0 1 rfl
  have cp0_2 : w2.cell? ⟨w.heap.size, 2, none⟩ = some (.int .i64 dc_0) := cellOf kp0 2 rfl
  have cp0_3 : w2.cell? ⟨w.heap.size, 3, none⟩ = some (.int .i64 dd_0) := cellOf kp0 3 rfl
  have lp0 : w.heap.size < w2.heap.size := ltOf kp0
  clear kp0
  go_wp2_with (fail)
  clear cp0_0 cp0_1 cp0_2 cp0_3 lp0
  refine (toLoop_is da_0 db_0 dc_0 dd_0 _).mono ?_
  rintro e w3 ⟨rfl, hb⟩
  have Z3 : Hid (LS w [(w.heap.size, w.heap.size + 1, fun V : World => V.heap[w.heap.size]? = some BX0)] w3) := Z2.out.next hb
  clear Z2 hb
  go_wp2_with (fail)
  refine (HIM.out w3  ).mono ?_
  rintro e w4 ⟨rfl, hb⟩
  have Z4 : Hid (LS w [(w.heap.size, w.heap.size + 1, fun V : World => V.heap[w.heap.size]? = some BX0)] w4) := Z3.out.next hb
  clear Z3 hb
  go_wp2
  go_returns
  exact ⟨rfl, Z4.out.bl⟩

set_option maxRecDepth 100000 in
theorem lp16_lifted (os : Os) (started : os.Started) (H : Type) (enc : TypeId × Value → H) :
    ReturnsInHanded {} Try.checked os 6 .any (Rows.fnExactLoopFaultSpec.pre6 enc Try.prog Try.f6 Rows.fnExactLoopFaultRow.domain false) (Rows.fnExactLoopFaultSpec.post enc Try.prog Try.f6 false true false false) := by
  refine returnsInHanded_of_change (C := Try.checked) own started (by kernel_rfl) Try.func6
    (ChangeSpec.witness6 (enc := enc) (C := Try.checked) false ⟨#[], #[.agg #[.int .i64 0, .int .i64 0, .int .i64 0, .int .i64 0]], []⟩ 8 (by kernel_rfl) (by kernel_rfl) (by kernel_rfl) (by kernel_rfl)) ?_
  intro W base args ds gs before hval0 hW hcnd _
  have hval : ∀ (j : Nat) t v, Try.f6.params[j]? = some t → args[j]? = some v → Value.okWide Try.prog W .any base t v := hval0
  have hW' := hW
  obtain ⟨p, q, hA0, hV, rfl, hfz, hnd⟩ := hW
  have hA : DataW.TrodAll enc Try.prog W 0 (fun _ => true) true Try.f6.params.toList args.toList ds p := hA0
  rw [Try.params6] at hA hval
  obtain ⟨v0, vs0, d0, ds0, p0, q0, hargs, rfl, rfl, h0, r0⟩ := trodAll_cons hA
  obtain ⟨rfl, rfl, rfl⟩ := trodAll_nil r0
  obtain rfl : args = #[v0] := by cases args; simp_all
  obtain ⟨rfl, rfl⟩ := trodVars_none hV
  have k0 := h0
  have lt0 : ∀ x ∈ p0, x.block < W.heap.size := by obtain ⟨m, hm⟩ := k0; exact DataW.trod_lt m _ _ _ hm
  obtain ⟨da0, db0, dc0, dd0, rfl⟩ := loop_open (hval 0 42 v0 rfl rfl) h0
  clear hA0 hval0
  refine (law_lp16 da0 db0 dc0 dd0).mono fun e W' ⟨he, hg⟩ => ?_
  subst he
  exact ⟨_, rfl, _, _, _, [], _, [], hW', trodAll_mk1 (shut_bool Try.underlying4 _), (trodAll_cons_mk (Below.trod laidOut (by kernel_rfl) (of_decide_eq_true (by kernel_rfl)) k0 hg lt0) trodAll_mk0), rfl, hg.frame _, fun h => by cases h⟩

theorem lp16_over : Rows.fnExactLoopFaultRow.holds Try.pinned (OpenSpec.ofChange Rows.fnExactLoopFaultSpec) :=
  OpenClaim.holds_of_wide 6 Try.f6 rfl rfl rfl rfl rfl rfl rfl ⟨rfl, rfl, rfl, rfl, rfl⟩ rfl rfl rfl rfl rfl (by kernel_rfl) Try.func6 (by kernel_rfl)
    (of_decide_eq_true (by kernel_rfl)) (by unfold Func.isWrapper; first | (rw [if_pos (by decide +kernel)]; kernel_rfl) | (rw [if_neg (by decide +kernel)]; exact ⟨rfl, rfl⟩))
    (fun os started H enc _ => lp16_lifted os started H enc)

theorem lp16_proved : Rows.FnExactLoopFaultSaid :=
  lp16_over
#print axioms lp16_proved

end Go.Proofs.Ytiipepddlbgodaa
