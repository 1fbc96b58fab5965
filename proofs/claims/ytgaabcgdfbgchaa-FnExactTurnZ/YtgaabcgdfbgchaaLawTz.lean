/- Proved here: 'the program's TurnZ answers as the model's', for every number, without a condition. -/
import Derived.Test.YtgaabcgdfbgchaaTzB
import Derived.Test.YtgaabcgdfbgchaaRows
namespace Go.Proofs.Ytgaabcgdfbgchaa
open Go.ChangeShapes Go.WideShapes Go.ChangeAt Go.RowKit Go.Joins
set_option linter.unusedVariables false
set_option linter.unusedSimpArgs false

set_option maxHeartbeats 1600000 in
theorem law_tz (p : Int) (w : World) :
    Calls Try.prog 3 #[.int .i64 p] w fun e w' => e = .returned (.bool true) ∧ Below w.heap.size w w' := by
  go_enter Try.func3, Try.ntmps3
  go_wp2_with (fail)
  refine (spec_tz p _).mono ?_
  rintro e w1 ⟨z1, rfl, hz1, hb1⟩
  have A1 : Hid (Below w.heap.size w (w1.alloc (.cells #[.float .f64 z1.re, .float .f64 z1.im] 24)) ∧ z1.v = trV p) := ⟨hb1.alloc hb1.size _, hz1⟩
  clear hb1 hz1
  go_wp2_with (fail)
  refine (impl_tz p _).mono ?_
  rintro e w2 ⟨z2, rfl, hz2, hb2⟩
  have k1 := (hb2.block w1.heap.size (by simp)).trans (heap_alloc_new w1 _)
  obtain ⟨p0, p1, pf, pl⟩ := z_two k1
  have A2 : Hid (Below w.heap.size w w2 ∧ z2.v = z1.v) := ⟨A1.out.1.trans (hb2.mono A1.out.1.size), hz2.trans A1.out.2.symm⟩
  clear hb2 hz2 k1
  go_wp2_with (fail)
  refine (eqZ_any z2 z1 (congrArg Zv.re A2.out.2) (congrArg Zv.im A2.out.2) _).mono ?_
  rintro e w3 ⟨rfl, hb3⟩
  have A3 : Hid (Below w.heap.size w w3) := (A2.out.1.alloc A2.out.1.size _).trans (hb3.mono (Nat.le_trans A2.out.1.size (by simp)))
  clear hb3
  go_wp2
  go_returns
  exact ⟨rfl, A3.out⟩

set_option maxRecDepth 100000 in
theorem tz_lifted (os : Os) (started : os.Started) (H : Type) (enc : TypeId × Value → H) :
    ReturnsInHanded {} Try.checked os 3 .any (Rows.fnExactTurnZSpec.pre6 enc Try.prog Try.f3 Rows.fnExactTurnZRow.domain false) (Rows.fnExactTurnZSpec.post enc Try.prog Try.f3 false true false false) := by
  refine returnsInHanded_of_change (C := Try.checked) own started (by kernel_rfl) Try.func3
    (ChangeSpec.witness6 (enc := enc) (C := Try.checked) false ⟨#[], #[.int .i64 0], []⟩ 8 (by kernel_rfl) (by kernel_rfl) (by kernel_rfl) (by kernel_rfl)) ?_
  intro W base args ds gs before hval0 hW hcnd _
  have hval : ∀ (j : Nat) t v, Try.f3.params[j]? = some t → args[j]? = some v → Value.okWide Try.prog W .any base t v := hval0
  have hW' := hW
  obtain ⟨p, q, hA0, hV, rfl, hfz, hnd⟩ := hW
  have hA : DataW.TrodAll enc Try.prog W 0 (fun _ => true) true Try.f3.params.toList args.toList ds p := hA0
  rw [Try.params3] at hA hval
  obtain ⟨v0, vs0, d0, ds0, p0, q0, hargs, rfl, rfl, h0, r0⟩ := trodAll_cons hA
  obtain ⟨rfl, rfl, rfl⟩ := trodAll_nil r0
  obtain rfl : args = #[v0] := by cases args; simp_all
  obtain ⟨rfl, rfl⟩ := trodVars_none hV
  obtain ⟨n0, rfl, rfl, rfl, wn0⟩ := open_int Try.underlying2 (hval 0 2 v0 rfl rfl) h0
  clear hA0 hval0
  simp only [List.append_nil] at hW'
  refine (law_tz n0 W).mono fun e W' ⟨he, hg⟩ => ?_
  subst he
  refine ⟨_, rfl, _, _, _, [], [], [], hW', ?_, ?_, rfl, hg.frame _, fun h => by cases h⟩
  · exact trodAll_cons_mk (shut_bool Try.underlying4 _) trodAll_mk0
  · exact (trodAll_cons_mk (shut_int Try.underlying2 wn0) trodAll_mk0)

theorem tz_over : Rows.fnExactTurnZRow.holds Try.pinned (OpenSpec.ofChange Rows.fnExactTurnZSpec) :=
  OpenClaim.holds_of_wide 3 Try.f3 rfl rfl rfl rfl rfl rfl rfl ⟨rfl, rfl, rfl, rfl, rfl⟩ rfl rfl rfl rfl rfl (by kernel_rfl) Try.func3 (by kernel_rfl)
    (of_decide_eq_true (by kernel_rfl)) (by unfold Func.isWrapper; first | (rw [if_pos (by decide +kernel)]; kernel_rfl) | (rw [if_neg (by decide +kernel)]; exact ⟨rfl, rfl⟩))
    (fun os started H enc _ => tz_lifted os started H enc)

theorem tz_proved : Rows.FnExactTurnZSaid :=
  tz_over
#print axioms tz_proved

end Go.Proofs.Ytgaabcgdfbgchaa
