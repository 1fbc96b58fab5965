/- Proved here: 'the program's CheckTimes answers as the model's; it writes into no argument', without a condition. -/
import Derived.Test.YteoddodeppgjaaaCtI
import Derived.Test.YteoddodeppgjaaaCtS
import Derived.Test.YteoddodeppgjaaaGrL
import Derived.Test.YteoddodeppgjaaaLwS
import Derived.Test.YteoddodeppgjaaaRows
namespace Go.Proofs.Yteoddodeppgjaaa
open Go.ChangeShapes Go.WideShapes Go.ChangeAt Go.RowKit Go.Joins
set_option linter.unusedVariables false
set_option linter.unusedSimpArgs false

theorem own : ownKnob Try.prog.godebug = none := by kernel_rfl
theorem laidOut : laidOutB Try.prog = true := by kernel_rfl

set_option maxRecDepth 10000 in
set_option maxHeartbeats 25600000 in
theorem law_ct9 {w : World} {sa0 : Option Addr} {sn0 sc0 : Nat} (s0 : List (List Int)) (hm0 : sn0 ≤ maxLen ∧ ∀ j, (s0.getD j []).length ≤ maxLen) (hr0 : RdR w (.slice sa0 sn0 sc0) s0) {sa1 : Option Addr} {sn1 sc1 : Nat} (s1 : List (List Int)) (hm1 : sn1 ≤ maxLen ∧ ∀ j, (s1.getD j []).length ≤ maxLen) (hr1 : RdR w (.slice sa1 sn1 sc1) s1) :
    Calls Try.prog 8 #[.slice sa0 sn0 sc0, .slice sa1 sn1 sc1] w fun e w' => e = .returned (.bool true) ∧ Below w.heap.size w w' := by
  have HM0 : Hid (sn0 ≤ maxLen ∧ ∀ j, (s0.getD j []).length ≤ maxLen) := hm0
  have HR0 : Hid (RdR w (.slice sa0 sn0 sc0) s0) := hr0
  have HE0 : Hid (sn0 = s0.length) := hr0.len
  have HM1 : Hid (sn1 ≤ maxLen ∧ ∀ j, (s1.getD j []).length ≤ maxLen) := hm1
  have HR1 : Hid (RdR w (.slice sa1 sn1 sc1) s1) := hr1
  have HE1 : Hid (sn1 = s1.length) := hr1.len
  clear hm0 hr0 hm1 hr1
  have Z0 : Hid (LS w [] w) := LS.start w
  go_enter Try.func8, Try.ntmps8
  go_wp2_with (fail)
  refine (szInt64SS_gen s0 sa0 sn0 sc0 1048576 _ (by omega) (by omega) HM0.out.1 (HR0.out.below Z0.out.bl) HM0.out.2).mono ?_
  rintro e w1 ⟨r0, rfl, hq0, hb⟩
  have Z1 : Hid (LS w [] w1) := Z0.out.next hb
  clear Z0 hb
  rcases hq0 with hneg | ⟨u0, v0, tt0⟩
  · go_wp2
    go_returns
    exact ⟨rfl, Z1.out.bl⟩
  have hl0 : ¬ r0 < 0 := by omega
  have HL0 : Hid (SmR s0) := tt0
  go_wp2_with (fail)
  refine (szInt64SS_gen s1 sa1 sn1 sc1 r0 _ (by omega) (by omega) HM1.out.1 (HR1.out.below Z1.out.bl) HM1.out.2).mono ?_
  rintro e w2 ⟨r1, rfl, hq1, hb⟩
  have Z2 : Hid (LS w [] w2) := Z1.out.next hb
  clear Z1 hb
  rcases hq1 with hneg | ⟨u1, v1, tt1⟩
  · go_wp2
    go_returns
    exact ⟨rfl, Z2.out.bl⟩
  have hl1 : ¬ r1 < 0 := by omega
  have HL1 : Hid (SmR s1) := tt1
  obtain ⟨C, hC⟩ : ∃ X, X = ctB s0 s1 := ⟨_, rfl⟩
  have HSP : Hid (∀ (W : World) (g0 : Nat × List Value) (g1 : Nat × List Value), (RdR W (.slice (some ⟨g0.1, 0, none⟩) s0.length s0.length) s0) → (RdR W (.slice (some ⟨g1.1, 0, none⟩) s1.length s1.length) s1) → Calls Try.prog 30 #[.slice (some ⟨g0.1, 0, none⟩) s0.length s0.length, .slice (some ⟨g1.1, 0, none⟩) s1.length s1.length] W fun e w' => e = .returned (.bool C) ∧ Below W.heap.size W w') := fun W g0 g1 h0 h1 => by
    rw [hC]
    exact spec_ct HL0.out HL1.out h0 h1
  have HIM : Hid (∀ (W : World) (g0 : Nat × List Value) (g1 : Nat × List Value), (RdR W (.slice (some ⟨g0.1, 0, none⟩) s0.length s0.length) s0) → (RdR W (.slice (some ⟨g1.1, 0, none⟩) s1.length s1.length) s1) → Calls Try.prog 31 #[.slice (some ⟨g0.1, 0, none⟩) s0.length s0.length, .slice (some ⟨g1.1, 0, none⟩) s1.length s1.length] W fun e w' => e = .returned (.bool C) ∧ Below W.heap.size W w') := fun W g0 g1 h0 h1 => by
    rw [hC]
    exact impl_ct HL0.out HL1.out h0 h1
  clear hC u0 v0 tt0 u1 v1 tt1
  go_wp2_with (fail)
  refine (toInt64SS_any HL0.out (HR0.out.below Z2.out.bl)).mono ?_
  rintro e w3 ⟨ga0, rfl, ho, hb⟩
  have Z3 : Hid (LS w [(w2.heap.size, w3.heap.size, fun V : World => RI V w2.heap.size (.slice (some ⟨ga0.1, 0, none⟩) s0.length s0.length) s0 ga0.2)] w3) := Z2.out.push hb (Ow.riAll ho hb) (Nat.le_refl _)
  clear Z2 hb ho
  go_wp2_with (fail)
  refine (toInt64SS_any HL1.out (HR1.out.below Z3.out.bl)).mono ?_
  rintro e w4 ⟨ga1, rfl, ho, hb⟩
  have Z4 : Hid (LS w [(w2.heap.size, w3.heap.size, fun V : World => RI V w2.heap.size (.slice (some ⟨ga0.1, 0, none⟩) s0.length s0.length) s0 ga0.2), (w3.heap.size, w4.heap.size, fun V : World => RI V w3.heap.size (.slice (some ⟨ga1.1, 0, none⟩) s1.length s1.length) s1 ga1.2)] w4) := Z3.out.push hb (Ow.riAll ho hb) (Nat.le_refl _)
  clear Z3 hb ho
  go_wp2_with (fail)
  refine (HSP.out w4 ga0 ga1 (RI.rd (show RI w4 w2.heap.size (.slice (some ⟨ga0.1, 0, none⟩) s0.length s0.length) s0 ga0.2 from Z4.out.get 0 rfl)) (RI.rd (show RI w4 w3.heap.size (.slice (some ⟨ga1.1, 0, none⟩) s1.length s1.length) s1 ga1.2 from Z4.out.get 1 rfl))).mono ?_
  rintro e w5 ⟨rfl, hb⟩
  have Z5 : Hid (LS w [(w2.heap.size, w3.heap.size, fun V : World => RI V w2.heap.size (.slice (some ⟨ga0.1, 0, none⟩) s0.length s0.length) s0 ga0.2), (w3.heap.size, w4.heap.size, fun V : World => RI V w3.heap.size (.slice (some ⟨ga1.1, 0, none⟩) s1.length s1.length) s1 ga1.2)] w5) := Z4.out.next hb
  clear Z4 hb
  go_wp2_with (fail)
  refine (toInt64SS_any HL0.out (HR0.out.below Z5.out.bl)).mono ?_
  rintro e w6 ⟨x0, rfl, ho, hb⟩
  have Z6 : Hid (LS w [(w2.heap.size, w3.heap.size, fun V : World => RI V w2.heap.size (.slice (some ⟨ga0.1, 0, none⟩) s0.length s0.length) s0 ga0.2), (w3.heap.size, w4.heap.size, fun V : World => RI V w3.heap.size (.slice (some ⟨ga1.1, 0, none⟩) s1.length s1.length) s1 ga1.2), (w5.heap.size, w6.heap.size, fun V : World => RI V w5.heap.size (.slice (some ⟨x0.1, 0, none⟩) s0.length s0.length) s0 x0.2)] w6) := Z5.out.push hb (Ow.riAll ho hb) (Nat.le_refl _)
  clear Z5 hb ho
  go_wp2_with (fail)
  refine (toInt64SS_any HL1.out (HR1.out.below Z6.out.bl)).mono ?_
  rintro e w7 ⟨x1, rfl, ho, hb⟩
  have Z7 : Hid (LS w [(w2.heap.size, w3.heap.size, fun V : World => RI V w2.heap.size (.slice (some ⟨ga0.1, 0, none⟩) s0.length s0.length) s0 ga0.2), (w3.heap.size, w4.heap.size, fun V : World => RI V w3.heap.size (.slice (some ⟨ga1.1, 0, none⟩) s1.length s1.length) s1 ga1.2), (w5.heap.size, w6.heap.size, fun V : World => RI V w5.heap.size (.slice (some ⟨x0.1, 0, none⟩) s0.length s0.length) s0 x0.2), (w6.heap.size, w7.heap.size, fun V : World => RI V w6.heap.size (.slice (some ⟨x1.1, 0, none⟩) s1.length s1.length) s1 x1.2)] w7) := Z6.out.push hb (Ow.riAll ho hb) (Nat.le_refl _)
  clear Z6 hb ho
  go_wp2_with (fail)
  refine (HIM.out w7 x0 x1 (RI.rd (show RI w7 w5.heap.size (.slice (some ⟨x0.1, 0, none⟩) s0.length s0.length) s0 x0.2 from Z7.out.get 2 rfl)) (RI.rd (show RI w7 w6.heap.size (.slice (some ⟨x1.1, 0, none⟩) s1.length s1.length) s1 x1.2 from Z7.out.get 3 rfl))).mono ?_
  rintro e w8 ⟨rfl, hb⟩
  have Z8 : Hid (LS w [(w2.heap.size, w3.heap.size, fun V : World => RI V w2.heap.size (.slice (some ⟨ga0.1, 0, none⟩) s0.length s0.length) s0 ga0.2), (w3.heap.size, w4.heap.size, fun V : World => RI V w3.heap.size (.slice (some ⟨ga1.1, 0, none⟩) s1.length s1.length) s1 ga1.2), (w5.heap.size, w6.heap.size, fun V : World => RI V w5.heap.size (.slice (some ⟨x0.1, 0, none⟩) s0.length s0.length) s0 x0.2), (w6.heap.size, w7.heap.size, fun V : World => RI V w6.heap.size (.slice (some ⟨x1.1, 0, none⟩) s1.length s1.length) s1 x1.2)] w8) := Z7.out.next hb
  clear Z7 hb
  go_wp2_with (fail)
  refine (toInt64SS_any HL0.out (HR0.out.below Z8.out.bl)).mono ?_
  rintro e w9 ⟨e0, rfl, ho, hb⟩
  have Z9 : Hid (LS w [(w2.heap.size, w3.heap.size, fun V : World => RI V w2.heap.size (.slice (some ⟨ga0.1, 0, none⟩) s0.length s0.length) s0 ga0.2), (w3.heap.size, w4.heap.size, fun V : World => RI V w3.heap.size (.slice (some ⟨ga1.1, 0, none⟩) s1.length s1.length) s1 ga1.2), (w5.heap.size, w6.heap.size, fun V : World => RI V w5.heap.size (.slice (some ⟨x0.1, 0, none⟩) s0.length s0.length) s0 x0.2), (w6.heap.size, w7.heap.size, fun V : World => RI V w6.heap.size (.slice (some ⟨x1.1, 0, none⟩) s1.length s1.length) s1 x1.2), (w8.heap.size, w9.heap.size, fun V : World => RI V w8.heap.size (.slice (some ⟨e0.1, 0, none⟩) s0.length s0.length) s0 e0.2)] w9) := Z8.out.push hb (Ow.riAll ho hb) (Nat.le_refl _)
  clear Z8 hb ho
  go_wp2_with (fail)
  refine (eqInt64SS_same HL0.out (RI.rd (show RI w9 w5.heap.size (.slice (some ⟨x0.1, 0, none⟩) s0.length s0.length) s0 x0.2 from Z9.out.get 2 rfl)) (RI.rd (show RI w9 w8.heap.size (.slice (some ⟨e0.1, 0, none⟩) s0.length s0.length) s0 e0.2 from Z9.out.get 4 rfl))).mono ?_
  rintro e w10 ⟨rfl, hb⟩
  have Z10 : Hid (LS w [(w2.heap.size, w3.heap.size, fun V : World => RI V w2.heap.size (.slice (some ⟨ga0.1, 0, none⟩) s0.length s0.length) s0 ga0.2), (w3.heap.size, w4.heap.size, fun V : World => RI V w3.heap.size (.slice (some ⟨ga1.1, 0, none⟩) s1.length s1.length) s1 ga1.2), (w5.heap.size, w6.heap.size, fun V : World => RI V w5.heap.size (.slice (some ⟨x0.1, 0, none⟩) s0.length s0.length) s0 x0.2), (w6.heap.size, w7.heap.size, fun V : World => RI V w6.heap.size (.slice (some ⟨x1.1, 0, none⟩) s1.length s1.length) s1 x1.2), (w8.heap.size, w9.heap.size, fun V : World => RI V w8.heap.size (.slice (some ⟨e0.1, 0, none⟩) s0.length s0.length) s0 e0.2)] w10) := Z9.out.next hb
  clear Z9 hb
  go_wp2_with (fail)
  refine (toInt64SS_any HL1.out (HR1.out.below Z10.out.bl)).mono ?_
  rintro e w11 ⟨e1, rfl, ho, hb⟩
  have Z11 : Hid (LS w [(w2.heap.size, w3.heap.size, fun V : World => RI V w2.heap.size (.slice (some ⟨ga0.1, 0, none⟩) s0.length s0.length) s0 ga0.2), (w3.heap.size, w4.heap.size, fun V : World => RI V w3.heap.size (.slice (some ⟨ga1.1, 0, none⟩) s1.length s1.length) s1 ga1.2), (w5.heap.size, w6.heap.size, fun V : World => RI V w5.heap.size (.slice (some ⟨x0.1, 0, none⟩) s0.length s0.length) s0 x0.2), (w6.heap.size, w7.heap.size, fun V : World => RI V w6.heap.size (.slice (some ⟨x1.1, 0, none⟩) s1.length s1.length) s1 x1.2), (w8.heap.size, w9.heap.size, fun V : World => RI V w8.heap.size (.slice (some ⟨e0.1, 0, none⟩) s0.length s0.length) s0 e0.2), (w10.heap.size, w11.heap.size, fun V : World => RI V w10.heap.size (.slice (some ⟨e1.1, 0, none⟩) s1.length s1.length) s1 e1.2)] w11) := Z10.out.push hb (Ow.riAll ho hb) (Nat.le_refl _)
  clear Z10 hb ho
  go_wp2_with (fail)
  refine (eqInt64SS_same HL1.out (RI.rd (show RI w11 w6.heap.size (.slice (some ⟨x1.1, 0, none⟩) s1.length s1.length) s1 x1.2 from Z11.out.get 3 rfl)) (RI.rd (show RI w11 w10.heap.size (.slice (some ⟨e1.1, 0, none⟩) s1.length s1.length) s1 e1.2 from Z11.out.get 5 rfl))).mono ?_
  rintro e w12 ⟨rfl, hb⟩
  have Z12 : Hid (LS w [(w2.heap.size, w3.heap.size, fun V : World => RI V w2.heap.size (.slice (some ⟨ga0.1, 0, none⟩) s0.length s0.length) s0 ga0.2), (w3.heap.size, w4.heap.size, fun V : World => RI V w3.heap.size (.slice (some ⟨ga1.1, 0, none⟩) s1.length s1.length) s1 ga1.2), (w5.heap.size, w6.heap.size, fun V : World => RI V w5.heap.size (.slice (some ⟨x0.1, 0, none⟩) s0.length s0.length) s0 x0.2), (w6.heap.size, w7.heap.size, fun V : World => RI V w6.heap.size (.slice (some ⟨x1.1, 0, none⟩) s1.length s1.length) s1 x1.2), (w8.heap.size, w9.heap.size, fun V : World => RI V w8.heap.size (.slice (some ⟨e0.1, 0, none⟩) s0.length s0.length) s0 e0.2), (w10.heap.size, w11.heap.size, fun V : World => RI V w10.heap.size (.slice (some ⟨e1.1, 0, none⟩) s1.length s1.length) s1 e1.2)] w12) := Z11.out.next hb
  clear Z11 hb
  go_wp2
  go_returns
  exact ⟨rfl, Z12.out.bl⟩

set_option maxRecDepth 100000 in
theorem ct9_lifted (os : Os) (started : os.Started) (H : Type) (enc : TypeId × Value → H) :
    ReturnsInHanded {} Try.checked os 8 .any (Rows.fnExactCheckTimesSpec.pre6 enc Try.prog Try.f8 Rows.fnExactCheckTimesRow.domain false) (Rows.fnExactCheckTimesSpec.post enc Try.prog Try.f8 false true false false) := by
  refine returnsInHanded_of_change (C := Try.checked) own started (by kernel_rfl) Try.func8
    (ChangeSpec.witness6 (enc := enc) (C := Try.checked) false ⟨#[], #[.slice none 0 0, .slice none 0 0], []⟩ 8 (by kernel_rfl) (by kernel_rfl) (by kernel_rfl) (by kernel_rfl)) ?_
  intro W base args ds gs before hval0 hW hcnd _
  have hval : ∀ (j : Nat) t v, Try.f8.params[j]? = some t → args[j]? = some v → Value.okWide Try.prog W .any base t v := hval0
  have hW' := hW
  obtain ⟨p, q, hA0, hV, rfl, hfz, hnd⟩ := hW
  have hA : DataW.TrodAll enc Try.prog W 0 (fun _ => true) true Try.f8.params.toList args.toList ds p := hA0
  rw [Try.params8] at hA hval
  obtain ⟨v0, vs0, d0, ds0, p0, q0, hargs, rfl, rfl, h0, r0⟩ := trodAll_cons hA
  obtain ⟨v1, vs1, d1, ds1, p1, q1, rfl, rfl, rfl, h1, r1⟩ := trodAll_cons r0
  obtain ⟨rfl, rfl, rfl⟩ := trodAll_nil r1
  obtain rfl : args = #[v0, v1] := by cases args; simp_all
  obtain ⟨rfl, rfl⟩ := trodVars_none hV
  have k0 := h0
  have lt0 : ∀ x ∈ p0, x.block < W.heap.size := by obtain ⟨m, hm⟩ := k0; exact DataW.trod_lt m _ _ _ hm
  obtain ⟨sa0, sn0, sc0, s0, rfl, rb0, sl0⟩ := rows_open (hval 0 22 v0 rfl rfl) h0
  have k1 := h1
  have lt1 : ∀ x ∈ p1, x.block < W.heap.size := by obtain ⟨m, hm⟩ := k1; exact DataW.trod_lt m _ _ _ hm
  obtain ⟨sa1, sn1, sc1, s1, rfl, rb1, sl1⟩ := rows_open (hval 1 22 v1 rfl rfl) h1
  clear hA0 hval0
  refine (law_ct9 s0 sl0 rb0 s1 sl1 rb1).mono fun e W' ⟨he, hg⟩ => ?_
  subst he
  exact ⟨_, rfl, _, _, _, [], _, [], hW', trodAll_mk1 (shut_bool Try.underlying4 _), (trodAll_cons_mk (Below.trod laidOut (by kernel_rfl) (of_decide_eq_true (by kernel_rfl)) k0 hg lt0) (trodAll_cons_mk (Below.trod laidOut (by kernel_rfl) (of_decide_eq_true (by kernel_rfl)) k1 hg lt1) trodAll_mk0)), rfl, hg.frame _, fun h => by cases h⟩

theorem ct9_over : Rows.fnExactCheckTimesRow.holds Try.pinned (OpenSpec.ofChange Rows.fnExactCheckTimesSpec) :=
  OpenClaim.holds_of_wide 8 Try.f8 rfl rfl rfl rfl rfl rfl rfl ⟨rfl, rfl, rfl, rfl, rfl⟩ rfl rfl rfl rfl rfl (by kernel_rfl) Try.func8 (by kernel_rfl)
    (of_decide_eq_true (by kernel_rfl)) (by unfold Func.isWrapper; first | (rw [if_pos (by decide +kernel)]; kernel_rfl) | (rw [if_neg (by decide +kernel)]; exact ⟨rfl, rfl⟩))
    (fun os started H enc _ => ct9_lifted os started H enc)

theorem ct9_proved : Rows.FnExactCheckTimesSaid :=
  ct9_over
#print axioms ct9_proved

end Go.Proofs.Yteoddodeppgjaaa
