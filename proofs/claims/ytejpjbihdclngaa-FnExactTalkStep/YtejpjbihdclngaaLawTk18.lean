/- Proved here: 'the program's TalkStep answers as the model's; it writes into no argument', without a condition. -/
import Derived.Test.YtejpjbihdclngaaTkI
import Derived.Test.YtejpjbihdclngaaTkS
import Derived.Test.YtejpjbihdclngaaTkO
import Derived.Test.YtejpjbihdclngaaLwS
import Derived.Test.YtejpjbihdclngaaRows
import Derived.Deep.DeepCutAuto
namespace Go.Proofs.Ytejpjbihdclngaa
open Go.ChangeShapes Go.WideShapes Go.ChangeAt Go.RowKit Go.Joins
set_option linter.unusedVariables false
set_option linter.unusedSimpArgs false

theorem own : ownKnob Try.prog.godebug = none := by kernel_rfl
theorem laidOut : laidOutB Try.prog = true := by kernel_rfl

set_option maxRecDepth 10000 in
set_option maxHeartbeats 25600000 in
theorem law_tk18 {w : World}  (da_0 db_0 dc_0 : Int) (wb_0 : -9223372036854775808 ≤ db_0) (wc_0 : -9223372036854775808 ≤ dc_0) (n1 : Int) :
    Calls Try.prog 7 #[.agg #[.int .i64 da_0, .int .i64 db_0, .int .i64 dc_0], .int .i64 n1] w fun e w' => e = .returned (.bool true) ∧ Below w.heap.size w w' := by
  obtain ⟨BX0, hBX0⟩ : ∃ BX, BX = Obj.cells #[.int .i64 da_0, .int .i64 db_0, .int .i64 dc_0] 57 := ⟨_, rfl⟩
  have Z0 : Hid (LS w [(w.heap.size, w.heap.size + 1, fun V : World => V.heap[w.heap.size]? = some BX0)] (w.alloc (Obj.cells #[.int .i64 da_0, .int .i64 db_0, .int .i64 dc_0] 57))) := by
    have p0 := LS.start w
    have p1 := LS.push (V' := (w.alloc (Obj.cells #[.int .i64 da_0, .int .i64 db_0, .int .i64 dc_0] 57))) p0 (by (repeat' (first | (with_reducible exact Below.refl _ _) | (with_reducible assumption) | (with_reducible refine Below.setCell ?_ ?_ _) | (with_reducible refine Below.alloc ?_ ?_ _) | (with_reducible refine below_drewN ?_ _) | (with_reducible refine Below.drew ?_) | (with_reducible exact Nat.le_refl _) | omega | (simp; done) | (simp; omega)))) (Ow.block (k := w.heap.size) (o := BX0) (by rw [hBX0]; have := heap_alloc_new w (Obj.cells #[.int .i64 da_0, .int .i64 db_0, .int .i64 dc_0] 57); simpa using this)) (by simp)
    exact p1
  have TB0 : Hid (BX0 = Obj.cells #[.int .i64 da_0, .int .i64 db_0, .int .i64 dc_0] 57) := hBX0
  clear hBX0
  go_enter Try.func7, Try.ntmps7
  go_upto_region 1 with fail
  obtain ⟨W0, hW0⟩ : ∃ V, V = (w.alloc (Obj.cells #[.int .i64 da_0, .int .i64 db_0, .int .i64 dc_0] 57)) := ⟨_, rfl⟩
  rw [← hW0] at Z0 ⊢
  clear hW0
  obtain ⟨C0, hC0⟩ : ∃ X, X = (tkN ⟨da_0, db_0, dc_0⟩ n1).1.p := ⟨_, rfl⟩
  obtain ⟨C1, hC1⟩ : ∃ X, X = (tkN ⟨da_0, db_0, dc_0⟩ n1).1.t := ⟨_, rfl⟩
  obtain ⟨C2, hC2⟩ : ∃ X, X = (tkN ⟨da_0, db_0, dc_0⟩ n1).1.w := ⟨_, rfl⟩
  obtain ⟨C3, hC3⟩ : ∃ X, X = (tkN ⟨da_0, db_0, dc_0⟩ n1).2 := ⟨_, rfl⟩
  have HSP : Hid (∀ (W : World) ,  Calls Try.prog 33 #[.agg #[.int .i64 da_0, .int .i64 db_0, .int .i64 dc_0], .int .i64 n1] W fun e w' => e = .returned (.agg #[.int .i64 C0, .int .i64 C1, .int .i64 C2, .bool C3]) ∧ Below W.heap.size W w') := fun W   => by
    rw [hC3, hC2, hC1, hC0]
    exact spec_tk da_0 db_0 dc_0 n1 wb_0 wc_0 W
  have HIM : Hid (∀ (W : World) ,  Calls Try.prog 35 #[.agg #[.int .i64 da_0, .int .i64 db_0, .int .i64 dc_0], .int .i64 n1] W fun e w' => e = .returned (.agg #[.int .i64 C0, .int .i64 C1, .int .i64 C2, .bool C3]) ∧ Below W.heap.size W w') := fun W   => by
    rw [hC3, hC2, hC1, hC0]
    exact impl_tk da_0 db_0 dc_0 n1 wb_0 wc_0 W
  clear hC0 hC1 hC2 hC3 
  have kp0 := Z0.out.get 0 rfl
  rw [TB0.out] at kp0
  have cp0_0 : W0.cell? ⟨w.heap.size, 0, none⟩ = some (.int .i64 da_0) := cellOf kp0 0 rfl
  have cp0_1 : W0.cell? ⟨w.heap.size, 1, none⟩ = some (.int .i64 db_0) := cellOf kp0 1 rfl
  have cp0_2 : W0.cell? ⟨w.heap.size, 2, none⟩ = some (.int .i64 dc_0) := cellOf kp0 2 rfl
  have lp0 : w.heap.size < W0.heap.size := ltOf kp0
  clear kp0
  go_wp2_with (fail)
  clear cp0_0 cp0_1 cp0_2 lp0
  refine (toTalk_is da_0 db_0 dc_0 _).mono ?_
  rintro e w1 ⟨rfl, hb⟩
  have Z1 : Hid (LS w [(w.heap.size, w.heap.size + 1, fun V : World => V.heap[w.heap.size]? = some BX0)] w1) := Z0.out.next hb
  clear Z0 hb
  go_wp2_with (fail)
  refine (HSP.out w1  ).mono ?_
  rintro e w2 ⟨rfl, hb⟩
  have Z2 : Hid (LS w [(w.heap.size, w.heap.size + 1, fun V : World => V.heap[w.heap.size]? = some BX0)] w2) := Z1.out.next hb
  clear Z1 hb
  have kp0 := Z2.out.get 0 rfl
  rw [TB0.out] at kp0
  have cp0_0 : w2.cell? ⟨w.heap.size, 0, none⟩ = some (.int .i64 da_0) := cellOf kp0 0 rfl
  have cp0_1 : w2.cell? ⟨w.heap.size, 1, none⟩ = some (.int .i64 db_0) := cellOf kp0 1 rfl
  have cp0_2 : w2.cell? ⟨w.heap.size, 2, none⟩ = some (.int .i64 dc_0) := cellOf kp0 2 rfl
  have lp0 : w.heap.size < w2.heap.size := ltOf kp0
  clear kp0
  have Z3 : Hid (LS w [(w.heap.size, w.heap.size + 1, fun V : World => V.heap[w.heap.size]? = some BX0), (w2.heap.size, w2.heap.size + 1, fun V : World => V.heap[w2.heap.size]? = some (Obj.cells #[.int .i64 C0, .int .i64 C1, .int .i64 C2, .bool C3] 59))] (w2.alloc (Obj.cells #[.int .i64 C0, .int .i64 C1, .int .i64 C2, .bool C3] 59))) := Z2.out.push (by (repeat' (first | (with_reducible exact Below.refl _ _) | (with_reducible assumption) | (with_reducible refine Below.setCell ?_ ?_ _) | (with_reducible refine Below.alloc ?_ ?_ _) | (with_reducible refine below_drewN ?_ _) | (with_reducible refine Below.drew ?_) | (with_reducible exact Nat.le_refl _) | omega | (simp; done) | (simp; omega)))) (Ow.block (heap_alloc_new _ _)) (Nat.le_refl _)
  clear Z2
  go_wp2_with (fail)
  obtain ⟨Va, hV⟩ : ∃ V, V = w2.alloc (Obj.cells #[.int .i64 C0, .int .i64 C1, .int .i64 C2, .bool C3] 59) := ⟨_, rfl⟩
  rw [← hV] at Z3 ⊢
  obtain ⟨Ka, hK⟩ : ∃ K, K = w2.heap.size := ⟨_, rfl⟩
  rw [← hK] at Z3  ⊢
  clear hV hK
  clear cp0_0 cp0_1 cp0_2 lp0
  refine (toTalk_is da_0 db_0 dc_0 _).mono ?_
  rintro e w3 ⟨rfl, hb⟩
  have Z4 : Hid (LS w [(w.heap.size, w.heap.size + 1, fun V : World => V.heap[w.heap.size]? = some BX0), (Ka, Ka + 1, fun V : World => V.heap[Ka]? = some (Obj.cells #[.int .i64 C0, .int .i64 C1, .int .i64 C2, .bool C3] 59))] w3) := Z3.out.next hb
  clear Z3 hb
  go_wp2_with (fail)
  refine (HIM.out w3  ).mono ?_
  rintro e w4 ⟨rfl, hb⟩
  have Z5 : Hid (LS w [(w.heap.size, w.heap.size + 1, fun V : World => V.heap[w.heap.size]? = some BX0), (Ka, Ka + 1, fun V : World => V.heap[Ka]? = some (Obj.cells #[.int .i64 C0, .int .i64 C1, .int .i64 C2, .bool C3] 59))] w4) := Z4.out.next hb
  clear Z4 hb
  have kva := Z5.out.get 1 rfl
  have cva_0 : w4.cell? ⟨Ka, 0, none⟩ = some (.int .i64 C0) := cellOf kva 0 rfl
  have cva_1 : w4.cell? ⟨Ka, 1, none⟩ = some (.int .i64 C1) := cellOf kva 1 rfl
  have cva_2 : w4.cell? ⟨Ka, 2, none⟩ = some (.int .i64 C2) := cellOf kva 2 rfl
  have cva_3 : w4.cell? ⟨Ka, 3, none⟩ = some (.bool C3) := cellOf kva 3 rfl
  have lva : Ka < w4.heap.size := ltOf kva
  clear kva
  have Z6 : Hid (LS w [(w.heap.size, w.heap.size + 1, fun V : World => V.heap[w.heap.size]? = some BX0), (Ka, Ka + 1, fun V : World => V.heap[Ka]? = some (Obj.cells #[.int .i64 C0, .int .i64 C1, .int .i64 C2, .bool C3] 59)), (w4.heap.size, w4.heap.size + 1, fun V : World => V.heap[w4.heap.size]? = some (Obj.cells #[.int .i64 C0, .int .i64 C1, .int .i64 C2, .bool C3] 59))] (w4.alloc (Obj.cells #[.int .i64 C0, .int .i64 C1, .int .i64 C2, .bool C3] 59))) := Z5.out.push (by (repeat' (first | (with_reducible exact Below.refl _ _) | (with_reducible assumption) | (with_reducible refine Below.setCell ?_ ?_ _) | (with_reducible refine Below.alloc ?_ ?_ _) | (with_reducible refine below_drewN ?_ _) | (with_reducible refine Below.drew ?_) | (with_reducible exact Nat.le_refl _) | omega | (simp; done) | (simp; omega)))) (Ow.block (heap_alloc_new _ _)) (Nat.le_refl _)
  clear Z5
  go_wp2_with (fail)
  obtain ⟨Vg, hV⟩ : ∃ V, V = w4.alloc (Obj.cells #[.int .i64 C0, .int .i64 C1, .int .i64 C2, .bool C3] 59) := ⟨_, rfl⟩
  rw [← hV] at Z6 ⊢
  obtain ⟨Kg, hK⟩ : ∃ K, K = w4.heap.size := ⟨_, rfl⟩
  rw [← hK] at Z6  ⊢
  clear hV hK
  clear cva_0 cva_1 cva_2 cva_3 lva
  refine (eqTalkResult_to C0 C1 C2 C3 _).mono ?_
  rintro e w5 ⟨rfl, hb⟩
  have Z7 : Hid (LS w [(w.heap.size, w.heap.size + 1, fun V : World => V.heap[w.heap.size]? = some BX0), (Ka, Ka + 1, fun V : World => V.heap[Ka]? = some (Obj.cells #[.int .i64 C0, .int .i64 C1, .int .i64 C2, .bool C3] 59)), (Kg, Kg + 1, fun V : World => V.heap[Kg]? = some (Obj.cells #[.int .i64 C0, .int .i64 C1, .int .i64 C2, .bool C3] 59))] w5) := Z6.out.next hb
  clear Z6 hb
  go_wp2
  go_returns
  exact ⟨rfl, Z7.out.bl⟩

set_option maxRecDepth 100000 in
theorem tk18_lifted (os : Os) (started : os.Started) (H : Type) (enc : TypeId × Value → H) :
    ReturnsInHanded {} Try.checked os 7 .any (Rows.fnExactTalkStepSpec.pre6 enc Try.prog Try.f7 Rows.fnExactTalkStepRow.domain false) (Rows.fnExactTalkStepSpec.post enc Try.prog Try.f7 false true false false) := by
  refine returnsInHanded_of_change (C := Try.checked) own started (by kernel_rfl) Try.func7
    (ChangeSpec.witness6 (enc := enc) (C := Try.checked) false ⟨#[], #[.agg #[.int .i64 0, .int .i64 0, .int .i64 0], .int .i64 0], []⟩ 8 (by kernel_rfl) (by kernel_rfl) (by kernel_rfl) (by kernel_rfl)) ?_
  intro W base args ds gs before hval0 hW hcnd _
  have hval : ∀ (j : Nat) t v, Try.f7.params[j]? = some t → args[j]? = some v → Value.okWide Try.prog W .any base t v := hval0
  have hW' := hW
  obtain ⟨p, q, hA0, hV, rfl, hfz, hnd⟩ := hW
  have hA : DataW.TrodAll enc Try.prog W 0 (fun _ => true) true Try.f7.params.toList args.toList ds p := hA0
  rw [Try.params7] at hA hval
  obtain ⟨v0, vs0, d0, ds0, p0, q0, hargs, rfl, rfl, h0, r0⟩ := trodAll_cons hA
  obtain ⟨v1, vs1, d1, ds1, p1, q1, rfl, rfl, rfl, h1, r1⟩ := trodAll_cons r0
  obtain ⟨rfl, rfl, rfl⟩ := trodAll_nil r1
  obtain rfl : args = #[v0, v1] := by cases args; simp_all
  obtain ⟨rfl, rfl⟩ := trodVars_none hV
  have k0 := h0
  have lt0 : ∀ x ∈ p0, x.block < W.heap.size := by obtain ⟨m, hm⟩ := k0; exact DataW.trod_lt m _ _ _ hm
  obtain ⟨da0, db0, dc0, rfl, wb0, wc0⟩ := talk_open (hval 0 57 v0 rfl rfl) h0
  obtain ⟨n1, rfl, rfl, rfl, wn1⟩ := open_int Try.underlying2 (hval 1 2 v1 rfl rfl) h1
  clear hA0 hval0
  refine (law_tk18 da0 db0 dc0 wb0 wc0 n1).mono fun e W' ⟨he, hg⟩ => ?_
  subst he
  exact ⟨_, rfl, _, _, _, [], _, [], hW', trodAll_mk1 (shut_bool Try.underlying4 _), (trodAll_cons_mk (Below.trod laidOut (by kernel_rfl) (of_decide_eq_true (by kernel_rfl)) k0 hg lt0) (trodAll_cons_mk (shut_int Try.underlying2 wn1) trodAll_mk0)), rfl, hg.frame _, fun h => by cases h⟩

theorem tk18_over : Rows.fnExactTalkStepRow.holds Try.pinned (OpenSpec.ofChange Rows.fnExactTalkStepSpec) :=
  OpenClaim.holds_of_wide 7 Try.f7 rfl rfl rfl rfl rfl rfl rfl ⟨rfl, rfl, rfl, rfl, rfl⟩ rfl rfl rfl rfl rfl (by kernel_rfl) Try.func7 (by kernel_rfl)
    (of_decide_eq_true (by kernel_rfl)) (by unfold Func.isWrapper; first | (rw [if_pos (by decide +kernel)]; kernel_rfl) | (rw [if_neg (by decide +kernel)]; exact ⟨rfl, rfl⟩))
    (fun os started H enc _ => tk18_lifted os started H enc)

theorem tk18_proved : Rows.FnExactTalkStepSaid :=
  tk18_over
#print axioms tk18_proved

end Go.Proofs.Ytejpjbihdclngaa
