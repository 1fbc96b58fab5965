/- Proved here: 'the program's LibFault answers as the model's; it writes into no argument', for every list of cells, without a condition. -/
import Derived.Test.YtfnfedpgemnneaaILib3
import Derived.Test.YtfnfedpgemnneaaRows
namespace Go.Proofs.Ytfnfedpgemnneaa
open Go.ChangeShapes Go.WideShapes Go.ChangeAt Go.RowKit Go.Joins
set_option linter.unusedVariables false
set_option linter.unusedSimpArgs false

theorem own : ownKnob Try.prog.godebug = none := by kernel_rfl
theorem laidOut : laidOutB Try.prog = true := by kernel_rfl

set_option maxHeartbeats 1600000 in
theorem law_lf {a : Option Addr} {n c : Nat} (s : List Cl) (hm : n ≤ maxLen) {w : World} (h : RK w (.slice a n c) s) (hok : ∀ j (h : j < s.length), okC s[j]) :
    Calls Try.prog 3 #[.slice a n c] w fun e w' => e = .returned (.bool true) ∧ Below w.heap.size w w' := by
  have hns : n = s.length := by obtain ⟨rs, hrs, hrel⟩ := h; exact hrs.len.trans hrel.len
  have H : Hid (RK w (.slice a n c) s ∧ n = s.length) := ⟨h, hns⟩
  have HSZ : Hid (Calls Try.prog 8 #[.slice a n c, .int .i64 1048576] w fun e w' => ∃ r, e = .returned (.int .i64 r) ∧ (r < 0 ∨ (0 ≤ r ∧ r ≤ 1048576 ∧ (n : Int) ≤ 1048576 ∧ ∀ j (h : j < s.length), smC 1048576 s[j])) ∧ Below w.heap.size w w') := szCellS_gen a n c 1048576 s w (by omega) (by omega) hm h hok
  clear h hns hok hm
  go_enter Try.func3, Try.ntmps3
  go_wp2_with (fail)
  refine HSZ.out.mono ?_
  rintro e w0 ⟨r, rfl, hr, hb0⟩
  have HB0 : Hid (Below w.heap.size w w0) := hb0
  clear hb0 HSZ
  rcases hr with hneg | ⟨h1, h2, h3, h4⟩
  · go_wp2
    go_returns
    exact ⟨rfl, HB0.out⟩
  have hr0 : ¬ r < 0 := by omega
  have hn20 : s.length ≤ 1048576 := by rw [← H.out.2]; omega
  have HS : Hid (s.length ≤ 1048576 ∧ ∀ j (h : j < s.length), smC 1048576 s[j]) := ⟨hn20, h4⟩
  clear h4 hn20
  go_wp2_with (fail)
  refine (toCellS_any HS.out.1 HS.out.2 (H.out.1.below HB0.out)).mono ?_
  rintro e w1 ⟨g1, rfl, hk1, hb1⟩
  have R1 : Hid (RK w1 (.slice (some ⟨g1, 0, none⟩) s.length s.length) s ∧ Below w.heap.size w w1) := ⟨hk1, HB0.out.trans (hb1.mono HB0.out.size)⟩
  clear hk1 hb1
  go_wp2_with (fail)
  refine (spec_lib _ _ _ s _ (by have := HS.out.1; omega) R1.out.1 HS.out.2).mono ?_
  rintro e w2 ⟨rfl, hb2⟩
  have B2 : Hid (Below w.heap.size w w2) := R1.out.2.trans (hb2.mono R1.out.2.size)
  clear hb2
  go_wp2_with (fail)
  refine (toCellS_any HS.out.1 HS.out.2 (H.out.1.below B2.out)).mono ?_
  rintro e w3 ⟨g3, rfl, hk3, hb3⟩
  have R3 : Hid (RK w3 (.slice (some ⟨g3, 0, none⟩) s.length s.length) s ∧ Below w.heap.size w w3) := ⟨hk3, B2.out.trans (hb3.mono B2.out.size)⟩
  clear hk3 hb3
  go_wp2_with (fail)
  refine (impl_lib _ _ _ s _ (by have := HS.out.1; omega) R3.out.1 HS.out.2).mono ?_
  rintro e w4 ⟨rfl, hb4⟩
  have R4 : Hid (RK w4 (.slice (some ⟨g3, 0, none⟩) s.length s.length) s ∧ Below w.heap.size w w4) := ⟨R3.out.1.below hb4, R3.out.2.trans (hb4.mono R3.out.2.size)⟩
  clear hb4
  go_wp2_with (fail)
  refine (toCellS_any HS.out.1 HS.out.2 (H.out.1.below R4.out.2)).mono ?_
  rintro e w5 ⟨g5, rfl, hk5, hb5⟩
  have R5 : Hid (RK w5 (.slice (some ⟨g3, 0, none⟩) s.length s.length) s ∧ RK w5 (.slice (some ⟨g5, 0, none⟩) s.length s.length) s ∧ Below w.heap.size w w5) := ⟨R4.out.1.below hb5, hk5, R4.out.2.trans (hb5.mono R4.out.2.size)⟩
  clear hk5 hb5
  go_wp2_with (fail)
  refine (eqCellS_same (by have := HS.out.1; omega) HS.out.2 R5.out.1 R5.out.2.1).mono ?_
  rintro e w6 ⟨rfl, hb6⟩
  have B6 : Hid (Below w.heap.size w w6) := R5.out.2.2.trans (hb6.mono R5.out.2.2.size)
  clear hb6
  go_wp2
  go_returns
  exact ⟨rfl, B6.out⟩

set_option maxRecDepth 100000 in
theorem lf_lifted (os : Os) (started : os.Started) (H : Type) (enc : TypeId × Value → H) :
    ReturnsInHanded {} Try.checked os 3 .any (Rows.fnExactLibFaultSpec.pre6 enc Try.prog Try.f3 Rows.fnExactLibFaultRow.domain false) (Rows.fnExactLibFaultSpec.post enc Try.prog Try.f3 false true false false) := by
  refine returnsInHanded_of_change (C := Try.checked) own started (by kernel_rfl) Try.func3
    (ChangeSpec.witness6 (enc := enc) (C := Try.checked) false ⟨#[], #[.slice none 0 0], []⟩ 8 (by kernel_rfl) (by kernel_rfl) (by kernel_rfl) (by kernel_rfl)) ?_
  intro W base args ds gs before hval0 hW hcnd _
  have hval : ∀ (j : Nat) t v, Try.f3.params[j]? = some t → args[j]? = some v → Value.okWide Try.prog W .any base t v := hval0
  have hW' := hW
  obtain ⟨p, q, hA0, hV, rfl, hfz, hnd⟩ := hW
  have hA : DataW.TrodAll enc Try.prog W 0 (fun _ => true) true Try.f3.params.toList args.toList ds p := hA0
  rw [Try.params3] at hA hval
  obtain ⟨v0, vs0, d0, ds0, p0, q0, hargs, rfl, rfl, h0, r0⟩ := trodAll_cons hA
  obtain ⟨rfl, rfl, rfl⟩ := trodAll_nil r0
  obtain rfl : args = #[v0] := by cases args; simp_all
  obtain ⟨rfl, rfl⟩ := trodVars_none hV
  have k0 := h0
  have lt0 : ∀ x ∈ p0, x.block < W.heap.size := by obtain ⟨m, hm⟩ := k0; exact DataW.trod_lt m _ _ _ hm
  obtain ⟨sa0, sn0, sc0, s0, rfl, rk0, sl0, ok0⟩ := cells_open (hval 0 22 v0 rfl rfl) h0
  clear hA0 hval0
  refine (law_lf s0 sl0 rk0 ok0).mono fun e W' ⟨he, hg⟩ => ?_
  subst he
  exact ⟨_, rfl, _, _, _, [], _, [], hW', trodAll_mk1 (shut_bool Try.underlying4 _), (trodAll_cons_mk (Below.trod laidOut (by kernel_rfl) (of_decide_eq_true (by kernel_rfl)) k0 hg lt0) trodAll_mk0), rfl, hg.frame _, fun h => by cases h⟩

theorem lf_over : Rows.fnExactLibFaultRow.holds Try.pinned (OpenSpec.ofChange Rows.fnExactLibFaultSpec) :=
  OpenClaim.holds_of_wide 3 Try.f3 rfl rfl rfl rfl rfl rfl rfl ⟨rfl, rfl, rfl, rfl, rfl⟩ rfl rfl rfl rfl rfl (by kernel_rfl) Try.func3 (by kernel_rfl)
    (of_decide_eq_true (by kernel_rfl)) (by unfold Func.isWrapper; first | (rw [if_pos (by decide +kernel)]; kernel_rfl) | (rw [if_neg (by decide +kernel)]; exact ⟨rfl, rfl⟩))
    (fun os started H enc _ => lf_lifted os started H enc)

theorem lf_proved : Rows.FnExactLibFaultSaid :=
  lf_over
#print axioms lf_proved

end Go.Proofs.Ytfnfedpgemnneaa
