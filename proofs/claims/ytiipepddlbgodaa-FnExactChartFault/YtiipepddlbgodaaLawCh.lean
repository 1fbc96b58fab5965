/- Proved here: 'the program's ChartFault answers as the model's; it writes into no argument', without a condition. -/
import Derived.Test.YtiipepddlbgodaaChI
import Derived.Test.YtiipepddlbgodaaChS
import Derived.Test.YtiipepddlbgodaaNlW
import Derived.Test.YtiipepddlbgodaaNlQ
import Derived.Test.YtiipepddlbgodaaLwS
import Derived.Test.YtiipepddlbgodaaRows
namespace Go.Proofs.Ytiipepddlbgodaa
open Go.ChangeShapes Go.WideShapes Go.ChangeAt Go.RowKit Go.Joins
set_option linter.unusedVariables false
set_option linter.unusedSimpArgs false

theorem own : ownKnob Try.prog.godebug = none := by kernel_rfl
theorem laidOut : laidOutB Try.prog = true := by kernel_rfl

set_option maxRecDepth 10000 in
set_option maxHeartbeats 25600000 in
theorem law_ch16 {w : World} {sa0 : Option Addr} {sn0 sc0 : Nat} (s0 : List Int) (hm0 : s0.length ≤ maxLen) (hr0 : RdI w (.slice sa0 sn0 sc0) s0) :
    Calls Try.prog 3 #[.slice sa0 sn0 sc0] w fun e w' => e = .returned (.bool true) ∧ Below w.heap.size w w' := by
  have HM0 : Hid (sn0 ≤ maxLen) := by unfold Hid; rw [hr0.len]; exact hm0
  have HR0 : Hid (RdI w (.slice sa0 sn0 sc0) s0) := hr0
  have HE0 : Hid (sn0 = s0.length) := hr0.len
  clear hm0 hr0
  have Z0 : Hid (LS w [] w) := LS.start w
  go_enter Try.func3, Try.ntmps3
  by_cases hf0 : (1048576 : Int) < (sn0 : Int)
  · go_wp2
    go_returns
    exact ⟨rfl, Below.refl _ _⟩
  have HL0 : Hid (s0.length ≤ 1048576) := by unfold Hid; rw [← HE0.out]; omega
  obtain ⟨C, hC⟩ : ∃ X, X = chF s0 := ⟨_, rfl⟩
  have HSP : Hid (∀ (W : World) (g0 : Nat), (RdI W (.slice (some ⟨g0, 0, none⟩) s0.length s0.length) s0) → Calls Try.prog 9 #[.slice (some ⟨g0, 0, none⟩) s0.length s0.length] W fun e w' => e = .returned (.int .i64 C) ∧ Below W.heap.size W w') := fun W g0 h0 => by
    rw [hC]
    exact (spec_ch HL0.out h0).mono (fun e w' h => ⟨h.1, by rw [h.2]; exact Below.refl _ _⟩)
  have HIM : Hid (∀ (W : World) (g0 : Nat), (RdI W (.slice (some ⟨g0, 0, none⟩) s0.length s0.length) s0) → Calls Try.prog 11 #[.slice (some ⟨g0, 0, none⟩) s0.length s0.length] W fun e w' => e = .returned (.int .i64 C) ∧ Below W.heap.size W w') := fun W g0 h0 => by
    rw [hC]
    exact (impl_ch HL0.out h0).mono (fun e w' h => ⟨h.1, by rw [h.2]; exact Below.refl _ _⟩)
  clear hC 
  go_wp2_with (fail)
  refine (toInt64S_any HL0.out (HR0.out.below Z0.out.bl)).mono ?_
  rintro e w1 ⟨ga0, rfl, ho, hb⟩
  have Z1 : Hid (LS w [(w.heap.size, w1.heap.size, fun V : World => V.ownsRow w.heap.size 2 1 (.slice (some ⟨ga0, 0, none⟩) s0.length s0.length) s0.length (s0.map (Value.int .i64)))] w1) := Z0.out.push hb (Ow.rowAll ho hb) (Nat.le_refl _)
  clear Z0 hb ho
  go_wp2_with (fail)
  refine (HSP.out w1 ga0 (IS.rg (B := w.heap.size) (show w1.ownsRow w.heap.size 2 1 (.slice (some ⟨ga0, 0, none⟩) s0.length s0.length) s0.length (s0.map (Value.int .i64)) from Z1.out.get 0 rfl))).mono ?_
  rintro e w2 ⟨rfl, hb⟩
  have Z2 : Hid (LS w [(w.heap.size, w1.heap.size, fun V : World => V.ownsRow w.heap.size 2 1 (.slice (some ⟨ga0, 0, none⟩) s0.length s0.length) s0.length (s0.map (Value.int .i64)))] w2) := Z1.out.next hb
  clear Z1 hb
  go_wp2_with (fail)
  refine (toInt64S_any HL0.out (HR0.out.below Z2.out.bl)).mono ?_
  rintro e w3 ⟨x0, rfl, ho, hb⟩
  have Z3 : Hid (LS w [(w.heap.size, w1.heap.size, fun V : World => V.ownsRow w.heap.size 2 1 (.slice (some ⟨ga0, 0, none⟩) s0.length s0.length) s0.length (s0.map (Value.int .i64))), (w2.heap.size, w3.heap.size, fun V : World => V.ownsRow w2.heap.size 2 1 (.slice (some ⟨x0, 0, none⟩) s0.length s0.length) s0.length (s0.map (Value.int .i64)))] w3) := Z2.out.push hb (Ow.rowAll ho hb) (Nat.le_refl _)
  clear Z2 hb ho
  go_wp2_with (fail)
  refine (HIM.out w3 x0 (IS.rg (B := w2.heap.size) (show w3.ownsRow w2.heap.size 2 1 (.slice (some ⟨x0, 0, none⟩) s0.length s0.length) s0.length (s0.map (Value.int .i64)) from Z3.out.get 1 rfl))).mono ?_
  rintro e w4 ⟨rfl, hb⟩
  have Z4 : Hid (LS w [(w.heap.size, w1.heap.size, fun V : World => V.ownsRow w.heap.size 2 1 (.slice (some ⟨ga0, 0, none⟩) s0.length s0.length) s0.length (s0.map (Value.int .i64))), (w2.heap.size, w3.heap.size, fun V : World => V.ownsRow w2.heap.size 2 1 (.slice (some ⟨x0, 0, none⟩) s0.length s0.length) s0.length (s0.map (Value.int .i64)))] w4) := Z3.out.next hb
  clear Z3 hb
  go_wp2_with (fail)
  refine (toInt64S_any HL0.out (HR0.out.below Z4.out.bl)).mono ?_
  rintro e w5 ⟨e0, rfl, ho, hb⟩
  have Z5 : Hid (LS w [(w.heap.size, w1.heap.size, fun V : World => V.ownsRow w.heap.size 2 1 (.slice (some ⟨ga0, 0, none⟩) s0.length s0.length) s0.length (s0.map (Value.int .i64))), (w2.heap.size, w3.heap.size, fun V : World => V.ownsRow w2.heap.size 2 1 (.slice (some ⟨x0, 0, none⟩) s0.length s0.length) s0.length (s0.map (Value.int .i64))), (w4.heap.size, w5.heap.size, fun V : World => V.ownsRow w4.heap.size 2 1 (.slice (some ⟨e0, 0, none⟩) s0.length s0.length) s0.length (s0.map (Value.int .i64)))] w5) := Z4.out.push hb (Ow.rowAll ho hb) (Nat.le_refl _)
  clear Z4 hb ho
  go_wp2_with (fail)
  refine (eqInt64S_same (by have := HL0.out; omega) (IS.rg (B := w2.heap.size) (show w5.ownsRow w2.heap.size 2 1 (.slice (some ⟨x0, 0, none⟩) s0.length s0.length) s0.length (s0.map (Value.int .i64)) from Z5.out.get 1 rfl)) (IS.rg (B := w4.heap.size) (show w5.ownsRow w4.heap.size 2 1 (.slice (some ⟨e0, 0, none⟩) s0.length s0.length) s0.length (s0.map (Value.int .i64)) from Z5.out.get 2 rfl))).mono ?_
  rintro e w6 ⟨rfl, hb⟩
  have Z6 : Hid (LS w [(w.heap.size, w1.heap.size, fun V : World => V.ownsRow w.heap.size 2 1 (.slice (some ⟨ga0, 0, none⟩) s0.length s0.length) s0.length (s0.map (Value.int .i64))), (w2.heap.size, w3.heap.size, fun V : World => V.ownsRow w2.heap.size 2 1 (.slice (some ⟨x0, 0, none⟩) s0.length s0.length) s0.length (s0.map (Value.int .i64))), (w4.heap.size, w5.heap.size, fun V : World => V.ownsRow w4.heap.size 2 1 (.slice (some ⟨e0, 0, none⟩) s0.length s0.length) s0.length (s0.map (Value.int .i64)))] w6) := Z5.out.next hb
  clear Z5 hb
  go_wp2
  go_returns
  exact ⟨rfl, Z6.out.bl⟩

set_option maxRecDepth 100000 in
theorem ch16_lifted (os : Os) (started : os.Started) (H : Type) (enc : TypeId × Value → H) :
    ReturnsInHanded {} Try.checked os 3 .any (Rows.fnExactChartFaultSpec.pre6 enc Try.prog Try.f3 Rows.fnExactChartFaultRow.domain false) (Rows.fnExactChartFaultSpec.post enc Try.prog Try.f3 false true false false) := by
  refine returnsInHanded_of_change (C := Try.checked) own started (by kernel_rfl) Try.func3
    (ChangeSpec.witness6 (enc := enc) (C := Try.checked) false ⟨#[], #[.slice none 0 0], []⟩ 8 (by kernel_rfl) (by kernel_rfl) (by kernel_rfl) (by kernel_rfl)) ?_
  intro W base args ds gs before hval0 hW hcnd _
  have hval : ∀ (j : Nat) t v, Try.f3.params[j]? = some t → args[j]? = some v → Value.okWide Try.prog W .any base t v := hval0
  have hW' := hW
  obtain ⟨p, q, hA0, hV, rfl, hfz, hnd⟩ := hW
  have hA : DataW.TrodAll enc Try.prog W 0 (fun _ => true) true Try.f3.params.toList args.toList ds p := hA0
  rw [Try.params3] at hA hval
  obtain ⟨v0, vs0, d0, ds0, p0, q0, hargs, rfl, rfl, h0, r0⟩ := trodAll_cons hA
  obtain ⟨rfl, rfl, rfl⟩ := trodAll_nil r0
  obtain rfl : args = #[v0] := by cases args; simp_all
  obtain ⟨rfl, rfl⟩ := trodVars_none hV
  have k0 := h0
  have lt0 : ∀ x ∈ p0, x.block < W.heap.size := by obtain ⟨m, hm⟩ := k0; exact DataW.trod_lt m _ _ _ hm
  obtain ⟨sa0, sn0, sc0, s0, rfl, ri0, sl0⟩ := ints_open (hval 0 22 v0 rfl rfl) h0
  clear hA0 hval0
  refine (law_ch16 s0 sl0 ri0).mono fun e W' ⟨he, hg⟩ => ?_
  subst he
  exact ⟨_, rfl, _, _, _, [], _, [], hW', trodAll_mk1 (shut_bool Try.underlying4 _), (trodAll_cons_mk (Below.trod laidOut (by kernel_rfl) (of_decide_eq_true (by kernel_rfl)) k0 hg lt0) trodAll_mk0), rfl, hg.frame _, fun h => by cases h⟩

theorem ch16_over : Rows.fnExactChartFaultRow.holds Try.pinned (OpenSpec.ofChange Rows.fnExactChartFaultSpec) :=
  OpenClaim.holds_of_wide 3 Try.f3 rfl rfl rfl rfl rfl rfl rfl ⟨rfl, rfl, rfl, rfl, rfl⟩ rfl rfl rfl rfl rfl (by kernel_rfl) Try.func3 (by kernel_rfl)
    (of_decide_eq_true (by kernel_rfl)) (by unfold Func.isWrapper; first | (rw [if_pos (by decide +kernel)]; kernel_rfl) | (rw [if_neg (by decide +kernel)]; exact ⟨rfl, rfl⟩))
    (fun os started H enc _ => ch16_lifted os started H enc)

theorem ch16_proved : Rows.FnExactChartFaultSaid :=
  ch16_over
#print axioms ch16_proved

end Go.Proofs.Ytiipepddlbgodaa
