/- Proved here: 'the program's MarchFault answers as the model's; it writes into no argument', without a condition. -/
import Derived.Test.YtkdpifplhhcpaaaMhI
import Derived.Test.YtkdpifplhhcpaaaMhS
import Derived.Test.YtkdpifplhhcpaaaMeO
import Derived.Test.YtkdpifplhhcpaaaLwS
import Derived.Test.YtkdpifplhhcpaaaRows
namespace Go.Proofs.Ytkdpifplhhcpaaa
open Go.ChangeShapes Go.WideShapes Go.ChangeAt Go.RowKit Go.Joins
set_option linter.unusedVariables false
set_option linter.unusedSimpArgs false

theorem own : ownKnob Try.prog.godebug = none := by kernel_rfl
theorem laidOut : laidOutB Try.prog = true := by kernel_rfl

set_option maxRecDepth 10000 in
set_option maxHeartbeats 25600000 in
theorem law_mf23 {w : World}  {sa0 : Option Addr} {sn0 sc0 : Nat} (s0 : List Elm) (hm0 : sn0 ≤ maxLen ∧ ∀ j (h : j < s0.length), okE s0[j]) (hr0 : REl w (.slice sa0 sn0 sc0) s0) :
    Calls Try.prog 5 #[.slice sa0 sn0 sc0] w fun e w' => e = .returned (.bool true) ∧ Below w.heap.size w w' := by
  have HM0 : Hid (sn0 ≤ maxLen ∧ ∀ j (h : j < s0.length), okE s0[j]) := hm0
  have HR0 : Hid (REl w (.slice sa0 sn0 sc0) s0) := hr0
  have HE0 : Hid (sn0 = s0.length) := hr0.len
  clear hm0 hr0
  have Z0 : Hid (LS w [] w) := LS.start w
  go_enter Try.func5, Try.ntmps5
  go_wp2_with (fail)
  refine (szElementS_gen sa0 sn0 sc0 1048576 s0 _ (by omega) (by omega) HM0.out.1 (HR0.out.below Z0.out.bl) HM0.out.2).mono ?_
  rintro e w1 ⟨r0, rfl, hq0, hb⟩
  have Z1 : Hid (LS w [] w1) := Z0.out.next hb
  clear Z0 hb
  rcases hq0 with hneg | ⟨u0, v0, tt0⟩
  · go_wp2
    go_returns
    exact ⟨rfl, Z1.out.bl⟩
  have hl0 : ¬ r0 < 0 := by omega
  have HL0 : Hid (s0.length ≤ 1048576 ∧ ∀ j (h : j < s0.length), smE 1048576 s0[j]) := ⟨by rw [← HE0.out]; have h9 := tt0.1; omega, tt0.2⟩
  obtain ⟨C, hC⟩ : ∃ X, X = mfF s0 := ⟨_, rfl⟩
  have HSP : Hid (∀ (W : World) (g0 : Nat × List Erd), (REl W (.slice (some ⟨g0.1, 0, none⟩) s0.length s0.length) s0) → Calls Try.prog 20 #[.slice (some ⟨g0.1, 0, none⟩) s0.length s0.length] W fun e w' => e = .returned (.int .i64 C) ∧ Below W.heap.size W w') := fun W g0 h0 => by
    rw [hC]
    exact spec_mf HL0.out h0
  have HIM : Hid (∀ (W : World) (g0 : Nat × List Erd), (REl W (.slice (some ⟨g0.1, 0, none⟩) s0.length s0.length) s0) → Calls Try.prog 22 #[.slice (some ⟨g0.1, 0, none⟩) s0.length s0.length] W fun e w' => e = .returned (.int .i64 C) ∧ Below W.heap.size W w') := fun W g0 h0 => by
    rw [hC]
    exact impl_mf HL0.out h0
  clear hC u0 v0 tt0
  go_wp2_with (fail)
  refine (toElementS_pr HL0.out (HR0.out.below Z1.out.bl)).mono ?_
  rintro e w2 ⟨ga0, rfl, ho, hb⟩
  have Z2 : Hid (LS w [(w1.heap.size, w2.heap.size, fun V : World => OElB V w1.heap.size (.slice (some ⟨ga0.1, 0, none⟩) s0.length s0.length) s0 ga0.2)] w2) := Z1.out.push hb (Ow.elAll ho hb) (Nat.le_refl _)
  clear Z1 hb ho
  go_wp2_with (fail)
  refine (HSP.out w2 ga0 (OElB.rd (show OElB w2 w1.heap.size (.slice (some ⟨ga0.1, 0, none⟩) s0.length s0.length) s0 ga0.2 from Z2.out.get 0 rfl))).mono ?_
  rintro e w3 ⟨rfl, hb⟩
  have Z3 : Hid (LS w [(w1.heap.size, w2.heap.size, fun V : World => OElB V w1.heap.size (.slice (some ⟨ga0.1, 0, none⟩) s0.length s0.length) s0 ga0.2)] w3) := Z2.out.next hb
  clear Z2 hb
  go_wp2_with (fail)
  refine (toElementS_pr HL0.out (HR0.out.below Z3.out.bl)).mono ?_
  rintro e w4 ⟨x0, rfl, ho, hb⟩
  have Z4 : Hid (LS w [(w1.heap.size, w2.heap.size, fun V : World => OElB V w1.heap.size (.slice (some ⟨ga0.1, 0, none⟩) s0.length s0.length) s0 ga0.2), (w3.heap.size, w4.heap.size, fun V : World => OElB V w3.heap.size (.slice (some ⟨x0.1, 0, none⟩) s0.length s0.length) s0 x0.2)] w4) := Z3.out.push hb (Ow.elAll ho hb) (Nat.le_refl _)
  clear Z3 hb ho
  go_wp2_with (fail)
  refine (HIM.out w4 x0 (OElB.rd (show OElB w4 w3.heap.size (.slice (some ⟨x0.1, 0, none⟩) s0.length s0.length) s0 x0.2 from Z4.out.get 1 rfl))).mono ?_
  rintro e w5 ⟨rfl, hb⟩
  have Z5 : Hid (LS w [(w1.heap.size, w2.heap.size, fun V : World => OElB V w1.heap.size (.slice (some ⟨ga0.1, 0, none⟩) s0.length s0.length) s0 ga0.2), (w3.heap.size, w4.heap.size, fun V : World => OElB V w3.heap.size (.slice (some ⟨x0.1, 0, none⟩) s0.length s0.length) s0 x0.2)] w5) := Z4.out.next hb
  clear Z4 hb
  go_wp2_with (fail)
  refine (toElementS_pr HL0.out (HR0.out.below Z5.out.bl)).mono ?_
  rintro e w6 ⟨e0, rfl, ho, hb⟩
  have Z6 : Hid (LS w [(w1.heap.size, w2.heap.size, fun V : World => OElB V w1.heap.size (.slice (some ⟨ga0.1, 0, none⟩) s0.length s0.length) s0 ga0.2), (w3.heap.size, w4.heap.size, fun V : World => OElB V w3.heap.size (.slice (some ⟨x0.1, 0, none⟩) s0.length s0.length) s0 x0.2), (w5.heap.size, w6.heap.size, fun V : World => OElB V w5.heap.size (.slice (some ⟨e0.1, 0, none⟩) s0.length s0.length) s0 e0.2)] w6) := Z5.out.push hb (Ow.elAll ho hb) (Nat.le_refl _)
  clear Z5 hb ho
  go_wp2_with (fail)
  refine (eqElementS_same (by have := HL0.out.1; omega) HL0.out.2 (OElB.rd (show OElB w6 w3.heap.size (.slice (some ⟨x0.1, 0, none⟩) s0.length s0.length) s0 x0.2 from Z6.out.get 1 rfl)) (OElB.rd (show OElB w6 w5.heap.size (.slice (some ⟨e0.1, 0, none⟩) s0.length s0.length) s0 e0.2 from Z6.out.get 2 rfl))).mono ?_
  rintro e w7 ⟨rfl, hb⟩
  have Z7 : Hid (LS w [(w1.heap.size, w2.heap.size, fun V : World => OElB V w1.heap.size (.slice (some ⟨ga0.1, 0, none⟩) s0.length s0.length) s0 ga0.2), (w3.heap.size, w4.heap.size, fun V : World => OElB V w3.heap.size (.slice (some ⟨x0.1, 0, none⟩) s0.length s0.length) s0 x0.2), (w5.heap.size, w6.heap.size, fun V : World => OElB V w5.heap.size (.slice (some ⟨e0.1, 0, none⟩) s0.length s0.length) s0 e0.2)] w7) := Z6.out.next hb
  clear Z6 hb
  go_wp2
  go_returns
  exact ⟨rfl, Z7.out.bl⟩

set_option maxRecDepth 100000 in
theorem mf23_lifted (os : Os) (started : os.Started) (H : Type) (enc : TypeId × Value → H) :
    ReturnsInHanded {} Try.checked os 5 .any (Rows.fnExactMarchFaultSpec.pre6 enc Try.prog Try.f5 Rows.fnExactMarchFaultRow.domain false) (Rows.fnExactMarchFaultSpec.post enc Try.prog Try.f5 false true false false) := by
  refine returnsInHanded_of_change (C := Try.checked) own started (by kernel_rfl) Try.func5
    (ChangeSpec.witness6 (enc := enc) (C := Try.checked) false ⟨#[], #[.slice none 0 0], []⟩ 8 (by kernel_rfl) (by kernel_rfl) (by kernel_rfl) (by kernel_rfl)) ?_
  intro W base args ds gs before hval0 hW hcnd _
  have hval : ∀ (j : Nat) t v, Try.f5.params[j]? = some t → args[j]? = some v → Value.okWide Try.prog W .any base t v := hval0
  have hW' := hW
  obtain ⟨p, q, hA0, hV, rfl, hfz, hnd⟩ := hW
  have hA : DataW.TrodAll enc Try.prog W 0 (fun _ => true) true Try.f5.params.toList args.toList ds p := hA0
  rw [Try.params5] at hA hval
  obtain ⟨v0, vs0, d0, ds0, p0, q0, hargs, rfl, rfl, h0, r0⟩ := trodAll_cons hA
  obtain ⟨rfl, rfl, rfl⟩ := trodAll_nil r0
  obtain rfl : args = #[v0] := by cases args; simp_all
  obtain ⟨rfl, rfl⟩ := trodVars_none hV
  have k0 := h0
  have lt0 : ∀ x ∈ p0, x.block < W.heap.size := by obtain ⟨m, hm⟩ := k0; exact DataW.trod_lt m _ _ _ hm
  obtain ⟨sa0, sn0, sc0, s0, rfl, rb0, sl0⟩ := elements_open (hval 0 37 v0 rfl rfl) h0
  clear hA0 hval0
  refine (law_mf23 s0 sl0 rb0).mono fun e W' ⟨he, hg⟩ => ?_
  subst he
  exact ⟨_, rfl, _, _, _, [], _, [], hW', trodAll_mk1 (shut_bool Try.underlying4 _), (trodAll_cons_mk (Below.trod laidOut (by kernel_rfl) (of_decide_eq_true (by kernel_rfl)) k0 hg lt0) trodAll_mk0), rfl, hg.frame _, fun h => by cases h⟩

theorem mf23_over : Rows.fnExactMarchFaultRow.holds Try.pinned (OpenSpec.ofChange Rows.fnExactMarchFaultSpec) :=
  OpenClaim.holds_of_wide 5 Try.f5 rfl rfl rfl rfl rfl rfl rfl ⟨rfl, rfl, rfl, rfl, rfl⟩ rfl rfl rfl rfl rfl (by kernel_rfl) Try.func5 (by kernel_rfl)
    (of_decide_eq_true (by kernel_rfl)) (by unfold Func.isWrapper; first | (rw [if_pos (by decide +kernel)]; kernel_rfl) | (rw [if_neg (by decide +kernel)]; exact ⟨rfl, rfl⟩))
    (fun os started H enc _ => mf23_lifted os started H enc)

theorem mf23_proved : Rows.FnExactMarchFaultSaid :=
  mf23_over
#print axioms mf23_proved

end Go.Proofs.Ytkdpifplhhcpaaa
