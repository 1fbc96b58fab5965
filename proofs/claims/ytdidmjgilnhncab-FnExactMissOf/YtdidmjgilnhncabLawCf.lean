/- Proved here: 'the program's CheckFit answers as the model's; it writes into no argument', without a condition. -/
import Derived.Test.YtdidmjgilnhncabCfP
import Derived.Test.YtdidmjgilnhncabCfS
import Derived.Test.YtdidmjgilnhncabMaB
import Derived.Test.YtdidmjgilnhncabMoL
import Derived.Test.YtdidmjgilnhncabLwS
import Derived.Test.YtdidmjgilnhncabRows
namespace Go.Proofs.Ytdidmjgilnhncab
open Go.ChangeShapes Go.WideShapes Go.ChangeAt Go.RowKit Go.Joins
set_option linter.unusedVariables false
set_option linter.unusedSimpArgs false

theorem own : ownKnob Try.prog.godebug = none := by kernel_rfl
theorem laidOut : laidOutB Try.prog = true := by kernel_rfl

set_option maxRecDepth 10000 in
set_option maxHeartbeats 25600000 in
theorem law_cf11 {w : World} {sa0 : Option Addr} {sn0 sc0 : Nat} (s0 : List Mrk) (hm0 : s0.length ≤ maxLen) (hr0 : RG 4 maC w (.slice sa0 sn0 sc0) s0) (va_1 vb_1 vc_1 vd_1 ve_1 vf_1 vg_1 vh_1 : Int) :
    Calls Try.prog 3 #[.slice sa0 sn0 sc0, .agg #[.int .i64 va_1, .int .i64 vb_1, .int .i64 vc_1, .int .i64 vd_1, .int .i64 ve_1, .int .i64 vf_1, .int .i64 vg_1, .int .i64 vh_1]] w fun e w' => e = .returned (.bool true) ∧ Below w.heap.size w w' := by
  have HM0 : Hid (sn0 ≤ maxLen) := by unfold Hid; rw [hr0.len]; exact hm0
  have HR0 : Hid (RG 4 maC w (.slice sa0 sn0 sc0) s0) := hr0
  have HE0 : Hid (sn0 = s0.length) := hr0.len
  clear hm0 hr0
  obtain ⟨BX1, hBX1⟩ : ∃ BX, BX = Obj.cells #[.int .i64 va_1, .int .i64 vb_1, .int .i64 vc_1, .int .i64 vd_1, .int .i64 ve_1, .int .i64 vf_1, .int .i64 vg_1, .int .i64 vh_1] 26 := ⟨_, rfl⟩
  have Z0 : Hid (LS w [(w.heap.size, w.heap.size + 1, fun V : World => V.heap[w.heap.size]? = some BX1)] (w.alloc (Obj.cells #[.int .i64 va_1, .int .i64 vb_1, .int .i64 vc_1, .int .i64 vd_1, .int .i64 ve_1, .int .i64 vf_1, .int .i64 vg_1, .int .i64 vh_1] 26))) := by
    have p0 := LS.start w
    have p1 := LS.push (V' := (w.alloc (Obj.cells #[.int .i64 va_1, .int .i64 vb_1, .int .i64 vc_1, .int .i64 vd_1, .int .i64 ve_1, .int .i64 vf_1, .int .i64 vg_1, .int .i64 vh_1] 26))) p0 (by (repeat' (first | (with_reducible exact Below.refl _ _) | (with_reducible assumption) | (with_reducible refine Below.setCell ?_ ?_ _) | (with_reducible refine Below.alloc ?_ ?_ _) | (with_reducible refine below_drewN ?_ _) | (with_reducible refine Below.drew ?_) | (with_reducible exact Nat.le_refl _) | omega | (simp; done) | (simp; omega)))) (Ow.block (k := w.heap.size) (o := BX1) (by rw [hBX1]; have := heap_alloc_new w (Obj.cells #[.int .i64 va_1, .int .i64 vb_1, .int .i64 vc_1, .int .i64 vd_1, .int .i64 ve_1, .int .i64 vf_1, .int .i64 vg_1, .int .i64 vh_1] 26); simpa using this)) (by simp)
    exact p1
  have TB1 : Hid (BX1 = Obj.cells #[.int .i64 va_1, .int .i64 vb_1, .int .i64 vc_1, .int .i64 vd_1, .int .i64 ve_1, .int .i64 vf_1, .int .i64 vg_1, .int .i64 vh_1] 26) := hBX1
  clear hBX1
  go_enter Try.func3, Try.ntmps3
  go_wp2_with (fail)
  obtain ⟨W0, hW0⟩ : ∃ V, V = (w.alloc (Obj.cells #[.int .i64 va_1, .int .i64 vb_1, .int .i64 vc_1, .int .i64 vd_1, .int .i64 ve_1, .int .i64 vf_1, .int .i64 vg_1, .int .i64 vh_1] 26)) := ⟨_, rfl⟩
  rw [← hW0] at Z0 ⊢
  clear hW0
  refine (szMarkS_gen sa0 sn0 sc0 1048576 _ (by omega) (by omega) HM0.out).mono ?_
  rintro e w1 ⟨r0, rfl, hq0, hb⟩
  have Z1 : Hid (LS w [(w.heap.size, w.heap.size + 1, fun V : World => V.heap[w.heap.size]? = some BX1)] w1) := Z0.out.next hb
  clear Z0 hb
  rcases hq0 with hneg | ⟨u0, v0, tt0⟩
  · go_wp2
    go_returns
    exact ⟨rfl, Z1.out.bl⟩
  have hl0 : ¬ r0 < 0 := by omega
  have HL0 : Hid (s0.length ≤ 1048576) := by unfold Hid; rw [← HE0.out]; omega
  obtain ⟨C, hC⟩ : ∃ X, X = cfB s0 ⟨⟨va_1, vb_1⟩, ⟨vc_1, vd_1⟩, ⟨ve_1, vf_1⟩, ⟨vg_1, vh_1⟩⟩ := ⟨_, rfl⟩
  have HSP : Hid (∀ (W : World) (g0 : Nat), (RG 4 maC W (.slice (some ⟨g0, 0, none⟩) s0.length s0.length) s0) → Calls Try.prog 8 #[.slice (some ⟨g0, 0, none⟩) s0.length s0.length, .agg #[.int .i64 va_1, .int .i64 vb_1, .int .i64 vc_1, .int .i64 vd_1, .int .i64 ve_1, .int .i64 vf_1, .int .i64 vg_1, .int .i64 vh_1]] W fun e w' => e = .returned (.bool C) ∧ Below W.heap.size W w') := fun W g0 h0 => by
    rw [hC]
    exact spec_cf ⟨⟨va_1, vb_1⟩, ⟨vc_1, vd_1⟩, ⟨ve_1, vf_1⟩, ⟨vg_1, vh_1⟩⟩ HL0.out h0
  have HIM : Hid (∀ (W : World) (g0 : Nat), (RG 4 maC W (.slice (some ⟨g0, 0, none⟩) s0.length s0.length) s0) → Calls Try.prog 11 #[.slice (some ⟨g0, 0, none⟩) s0.length s0.length, .agg #[.int .i64 va_1, .int .i64 vb_1, .int .i64 vc_1, .int .i64 vd_1, .int .i64 ve_1, .int .i64 vf_1, .int .i64 vg_1, .int .i64 vh_1]] W fun e w' => e = .returned (.bool C) ∧ Below W.heap.size W w') := fun W g0 h0 => by
    rw [hC]
    exact impl_cf ⟨⟨va_1, vb_1⟩, ⟨vc_1, vd_1⟩, ⟨ve_1, vf_1⟩, ⟨vg_1, vh_1⟩⟩ HL0.out h0
  clear hC u0 v0 tt0
  have kp1 := Z1.out.get 0 rfl
  rw [TB1.out] at kp1
  have cp1_0 : w1.cell? ⟨w.heap.size, 0, none⟩ = some (.int .i64 va_1) := cellOf kp1 0 rfl
  have cp1_1 : w1.cell? ⟨w.heap.size, 1, none⟩ = some (.int .i64 vb_1) := cellOf kp1 1 rfl
  have cp1_2 : w1.cell? ⟨w.heap.size, 2, none⟩ = some (.int .i64 vc_1) := cellOf kp1 2 rfl
  have cp1_3 : w1.cell? ⟨w.heap.size, 3, none⟩ = some (.int .i64 vd_1) := cellOf kp1 3 rfl
  have cp1_4 : w1.cell? ⟨w.heap.size, 4, none⟩ = some (.int .i64 ve_1) := cellOf kp1 4 rfl
  have cp1_5 : w1.cell? ⟨w.heap.size, 5, none⟩ = some (.int .i64 vf_1) := cellOf kp1 5 rfl
  have cp1_6 : w1.cell? ⟨w.heap.size, 6, none⟩ = some (.int .i64 vg_1) := cellOf kp1 6 rfl
  have cp1_7 : w1.cell? ⟨w.heap.size, 7, none⟩ = some (.int .i64 vh_1) := cellOf kp1 7 rfl
  have lp1 : w.heap.size < w1.heap.size := ltOf kp1
  clear kp1
  go_wp2_with (fail)
  have HWB : Below w.heap.size w w1 := Z1.out.bl
  refine wp_region_float (by kernel_rfl) (fun hS => ?_)
  refine fl_take (i := 0) (d := 14) (v := .slice sa0 sn0 sc0) rfl rfl rfl (by kernel_rfl) (by kernel_rfl) (by kernel_rfl) hS ?_ ?_
  · intro w' hk; go_simp
  simp only [Act.put, List.setIfInBounds_toArray, List.set_cons_zero, List.set_cons_succ]
  refine fl_take (i := 2) (d := 16) (v := .agg #[.int .i64 va_1, .int .i64 vb_1, .int .i64 vc_1, .int .i64 vd_1, .int .i64 ve_1, .int .i64 vf_1, .int .i64 vg_1, .int .i64 vh_1]) rfl rfl rfl (by kernel_rfl) (by kernel_rfl) (by kernel_rfl) hS ?_ ?_
  · intro w' hk; go_simp
  simp only [Act.put, List.setIfInBounds_toArray, List.set_cons_zero, List.set_cons_succ]
  refine wpAnyH_all (rs := [1]) (by kernel_rfl) (by simp) ?_
  intro i hi
  obtain rfl : i = 1 := by simpa using hi
  refine op_call (d := 15) rfl rfl rfl (by go_simp) ((toMarkS_any HL0.out ((HR0.out.below HWB).below ((Below.refl _ _).drew))).mono ?_)
  rintro e ya0 ⟨ga0, rfl, ho0, hb0⟩
  have hK0 : KS w1 ya0 := hS.call hb0
  refine ⟨_, rfl, hK0, ?_⟩
  simp only [Act.put, List.setIfInBounds_toArray, List.set_cons_zero, List.set_cons_succ]
  refine wpAnyH_all (rs := [3]) (by kernel_rfl) (by simp) ?_
  intro i hi
  obtain rfl : i = 3 := by simpa using hi
  refine op_call (d := 17) rfl rfl rfl (by go_simp) ((toModel_is va_1 vb_1 vc_1 vd_1 ve_1 vf_1 vg_1 vh_1 _).mono ?_)
  rintro e ya1 ⟨rfl, hb1⟩
  have hK1 : KS w1 ya1 := hK0.call hb1
  refine ⟨_, rfl, hK1, ?_⟩
  simp only [Act.put, List.setIfInBounds_toArray, List.set_cons_zero, List.set_cons_succ]
  refine wpAnyH_all (rs := [4]) (by kernel_rfl) (by simp) ?_
  intro i hi
  obtain rfl : i = 4 := by simpa using hi
  refine op_call (d := 18) rfl rfl rfl (by go_simp) ((HSP.out _ ga0 (RG.below ((OG.rg maC_len ho0)) hb1)).mono ?_)
  rintro e yea ⟨rfl, hbq⟩
  have hKq : KS w1 yea := hK1.call hbq
  refine ⟨_, rfl, hKq, ?_⟩
  simp only [Act.put, List.setIfInBounds_toArray, List.set_cons_zero, List.set_cons_succ]
  refine wpAnyH_all (rs := [5]) (by kernel_rfl) (by simp) ?_
  intro i hi
  obtain rfl : i = 5 := by simpa using hi
  refine op_val (d := 6) (v := .bool C) (w' := yea) rfl rfl rfl (by go_simp; try rfl) ?_
  simp only [Act.put, List.setIfInBounds_toArray, List.set_cons_zero, List.set_cons_succ]
  refine ⟨hKq, wpAnyH_done (by kernel_rfl) (NoPanic.normal ?_) _⟩
  have Z2 : Hid (LS w [(w.heap.size, w.heap.size + 1, fun V : World => V.heap[w.heap.size]? = some BX1)] yea) := Z1.out.next hKq.2
  clear Z1 HWB hKq hbq hS hK0 ho0 hb0 hK1 hb1 cp1_0 cp1_1 cp1_2 cp1_3 cp1_4 cp1_5 cp1_6 cp1_7 lp1
  go_wp2_with (fail)
  refine (toMarkS_any HL0.out (HR0.out.below Z2.out.bl)).mono ?_
  rintro e w2 ⟨x0, rfl, ho, hb⟩
  have Z3 : Hid (LS w [(w.heap.size, w.heap.size + 1, fun V : World => V.heap[w.heap.size]? = some BX1), (yea.heap.size, w2.heap.size, fun V : World => V.ownsRow yea.heap.size 75 4 (.slice (some ⟨x0, 0, none⟩) s0.length s0.length) s0.length (s0.flatMap maC))] w2) := Z2.out.push hb (Ow.rowAll ho hb) (Nat.le_refl _)
  clear Z2 hb ho
  have kp1 := Z3.out.get 0 rfl
  rw [TB1.out] at kp1
  have cp1_0 : w2.cell? ⟨w.heap.size, 0, none⟩ = some (.int .i64 va_1) := cellOf kp1 0 rfl
  have cp1_1 : w2.cell? ⟨w.heap.size, 1, none⟩ = some (.int .i64 vb_1) := cellOf kp1 1 rfl
  have cp1_2 : w2.cell? ⟨w.heap.size, 2, none⟩ = some (.int .i64 vc_1) := cellOf kp1 2 rfl
  have cp1_3 : w2.cell? ⟨w.heap.size, 3, none⟩ = some (.int .i64 vd_1) := cellOf kp1 3 rfl
  have cp1_4 : w2.cell? ⟨w.heap.size, 4, none⟩ = some (.int .i64 ve_1) := cellOf kp1 4 rfl
  have cp1_5 : w2.cell? ⟨w.heap.size, 5, none⟩ = some (.int .i64 vf_1) := cellOf kp1 5 rfl
  have cp1_6 : w2.cell? ⟨w.heap.size, 6, none⟩ = some (.int .i64 vg_1) := cellOf kp1 6 rfl
  have cp1_7 : w2.cell? ⟨w.heap.size, 7, none⟩ = some (.int .i64 vh_1) := cellOf kp1 7 rfl
  have lp1 : w.heap.size < w2.heap.size := ltOf kp1
  clear kp1
  go_wp2_with (fail)
  clear cp1_0 cp1_1 cp1_2 cp1_3 cp1_4 cp1_5 cp1_6 cp1_7 lp1
  refine (toModel_is va_1 vb_1 vc_1 vd_1 ve_1 vf_1 vg_1 vh_1 _).mono ?_
  rintro e w3 ⟨rfl, hb⟩
  have Z4 : Hid (LS w [(w.heap.size, w.heap.size + 1, fun V : World => V.heap[w.heap.size]? = some BX1), (yea.heap.size, w2.heap.size, fun V : World => V.ownsRow yea.heap.size 75 4 (.slice (some ⟨x0, 0, none⟩) s0.length s0.length) s0.length (s0.flatMap maC))] w3) := Z3.out.next hb
  clear Z3 hb
  go_wp2_with (fail)
  refine (HIM.out w3 x0 (OG.rg (T := 75) (B := yea.heap.size) maC_len (show w3.ownsRow yea.heap.size 75 4 (.slice (some ⟨x0, 0, none⟩) s0.length s0.length) s0.length (s0.flatMap maC) from Z4.out.get 1 rfl))).mono ?_
  rintro e w4 ⟨rfl, hb⟩
  have Z5 : Hid (LS w [(w.heap.size, w.heap.size + 1, fun V : World => V.heap[w.heap.size]? = some BX1), (yea.heap.size, w2.heap.size, fun V : World => V.ownsRow yea.heap.size 75 4 (.slice (some ⟨x0, 0, none⟩) s0.length s0.length) s0.length (s0.flatMap maC))] w4) := Z4.out.next hb
  clear Z4 hb
  go_wp2_with (fail)
  refine (toMarkS_any HL0.out (HR0.out.below Z5.out.bl)).mono ?_
  rintro e w5 ⟨e0, rfl, ho, hb⟩
  have Z6 : Hid (LS w [(w.heap.size, w.heap.size + 1, fun V : World => V.heap[w.heap.size]? = some BX1), (yea.heap.size, w2.heap.size, fun V : World => V.ownsRow yea.heap.size 75 4 (.slice (some ⟨x0, 0, none⟩) s0.length s0.length) s0.length (s0.flatMap maC)), (w4.heap.size, w5.heap.size, fun V : World => V.ownsRow w4.heap.size 75 4 (.slice (some ⟨e0, 0, none⟩) s0.length s0.length) s0.length (s0.flatMap maC))] w5) := Z5.out.push hb (Ow.rowAll ho hb) (Nat.le_refl _)
  clear Z5 hb ho
  go_wp2_with (fail)
  refine (eqMarkS_same (by have := HL0.out; omega) (OG.rg (T := 75) (B := yea.heap.size) maC_len (show w5.ownsRow yea.heap.size 75 4 (.slice (some ⟨x0, 0, none⟩) s0.length s0.length) s0.length (s0.flatMap maC) from Z6.out.get 1 rfl)) (OG.rg (T := 75) (B := w4.heap.size) maC_len (show w5.ownsRow w4.heap.size 75 4 (.slice (some ⟨e0, 0, none⟩) s0.length s0.length) s0.length (s0.flatMap maC) from Z6.out.get 2 rfl))).mono ?_
  rintro e w6 ⟨rfl, hb⟩
  have Z7 : Hid (LS w [(w.heap.size, w.heap.size + 1, fun V : World => V.heap[w.heap.size]? = some BX1), (yea.heap.size, w2.heap.size, fun V : World => V.ownsRow yea.heap.size 75 4 (.slice (some ⟨x0, 0, none⟩) s0.length s0.length) s0.length (s0.flatMap maC)), (w4.heap.size, w5.heap.size, fun V : World => V.ownsRow w4.heap.size 75 4 (.slice (some ⟨e0, 0, none⟩) s0.length s0.length) s0.length (s0.flatMap maC))] w6) := Z6.out.next hb
  clear Z6 hb
  go_wp2
  go_returns
  exact ⟨rfl, Z7.out.bl⟩

set_option maxRecDepth 100000 in
theorem cf11_lifted (os : Os) (started : os.Started) (H : Type) (enc : TypeId × Value → H) :
    ReturnsInHanded {} Try.checked os 3 .any (Rows.fnExactCheckFitSpec.pre6 enc Try.prog Try.f3 Rows.fnExactCheckFitRow.domain false) (Rows.fnExactCheckFitSpec.post enc Try.prog Try.f3 false true false false) := by
  refine returnsInHanded_of_change (C := Try.checked) own started (by kernel_rfl) Try.func3
    (ChangeSpec.witness6 (enc := enc) (C := Try.checked) false ⟨#[], #[.slice none 0 0, .agg #[.int .i64 0, .int .i64 0, .int .i64 0, .int .i64 0, .int .i64 0, .int .i64 0, .int .i64 0, .int .i64 0]], []⟩ 8 (by kernel_rfl) (by kernel_rfl) (by kernel_rfl) (by kernel_rfl)) ?_
  intro W base args ds gs before hval0 hW hcnd _
  have hval : ∀ (j : Nat) t v, Try.f3.params[j]? = some t → args[j]? = some v → Value.okWide Try.prog W .any base t v := hval0
  have hW' := hW
  obtain ⟨p, q, hA0, hV, rfl, hfz, hnd⟩ := hW
  have hA : DataW.TrodAll enc Try.prog W 0 (fun _ => true) true Try.f3.params.toList args.toList ds p := hA0
  rw [Try.params3] at hA hval
  obtain ⟨v0, vs0, d0, ds0, p0, q0, hargs, rfl, rfl, h0, r0⟩ := trodAll_cons hA
  obtain ⟨v1, vs1, d1, ds1, p1, q1, rfl, rfl, rfl, h1, r1⟩ := trodAll_cons r0
  obtain ⟨rfl, rfl, rfl⟩ := trodAll_nil r1
  obtain rfl : args = #[v0, v1] := by cases args; simp_all
  obtain ⟨rfl, rfl⟩ := trodVars_none hV
  have k0 := h0
  have lt0 : ∀ x ∈ p0, x.block < W.heap.size := by obtain ⟨m, hm⟩ := k0; exact DataW.trod_lt m _ _ _ hm
  obtain ⟨sa0, sn0, sc0, s0, rfl, rb0, sl0⟩ := marks_open (hval 0 22 v0 rfl rfl) h0
  have k1 := h1
  have lt1 : ∀ x ∈ p1, x.block < W.heap.size := by obtain ⟨m, hm⟩ := k1; exact DataW.trod_lt m _ _ _ hm
  obtain ⟨ma1, mb1, mc1, md1, me1, mf1, mg1, mh1, rfl⟩ := model_open (hval 1 26 v1 rfl rfl) h1
  clear hA0 hval0
  refine (law_cf11 s0 sl0 rb0 ma1 mb1 mc1 md1 me1 mf1 mg1 mh1).mono fun e W' ⟨he, hg⟩ => ?_
  subst he
  exact ⟨_, rfl, _, _, _, [], _, [], hW', trodAll_mk1 (shut_bool Try.underlying4 _), (trodAll_cons_mk (Below.trod laidOut (by kernel_rfl) (of_decide_eq_true (by kernel_rfl)) k0 hg lt0) (trodAll_cons_mk (Below.trod laidOut (by kernel_rfl) (of_decide_eq_true (by kernel_rfl)) k1 hg lt1) trodAll_mk0)), rfl, hg.frame _, fun h => by cases h⟩

theorem cf11_over : Rows.fnExactCheckFitRow.holds Try.pinned (OpenSpec.ofChange Rows.fnExactCheckFitSpec) :=
  OpenClaim.holds_of_wide 3 Try.f3 rfl rfl rfl rfl rfl rfl rfl ⟨rfl, rfl, rfl, rfl, rfl⟩ rfl rfl rfl rfl rfl (by kernel_rfl) Try.func3 (by kernel_rfl)
    (of_decide_eq_true (by kernel_rfl)) (by unfold Func.isWrapper; first | (rw [if_pos (by decide +kernel)]; kernel_rfl) | (rw [if_neg (by decide +kernel)]; exact ⟨rfl, rfl⟩))
    (fun os started H enc _ => cf11_lifted os started H enc)

theorem cf11_proved : Rows.FnExactCheckFitSaid :=
  cf11_over
#print axioms cf11_proved

end Go.Proofs.Ytdidmjgilnhncab
