/- Proved here: 'the program's RulesFault answers as the model's, and writes into no argument', for every list of rules and every number, without a condition. -/
import Derived.Test.YtokdpgabmifdjaaRfR
import Derived.Test.YtokdpgabmifdjaaOpenRx
namespace Go.Proofs.Ytokdpgabmifdjaa
open Go.ChangeShapes Go.WideShapes Go.ChangeAt Go.RowKit Go.Joins
set_option linter.unusedVariables false
set_option linter.unusedSimpArgs false

set_option maxRecDepth 10000 in
set_option maxHeartbeats 4000000 in
theorem law_ru {a : Option Addr} {n c : Nat} (s : List Bx) (hm : s.length ≤ maxLen) {w : World} (h : RB w (.slice a n c) s) (x : Int) :
    Calls Try.prog 5 #[.slice a n c, .int .i64 x] w fun e w' => e = .returned (.bool true) ∧ Below w.heap.size w w' := by
  have hlen : s.length = n := by obtain ⟨_, _, e⟩ := h.form; injection e with _ e2 _; exact e2.symm
  have H : Hid (RB w (.slice a n c) s ∧ s.length = n) := ⟨h, hlen⟩
  rw [hlen] at hm
  unfold maxLen at hm
  clear h hlen
  by_cases hbig : (n : Int) ≤ 1048576
  · have hS : Hid (s.length ≤ 1048576) := by unfold Hid; rw [H.out.2]; omega
    obtain ⟨C, hC⟩ : ∃ C, C = rulesK s x := ⟨_, rfl⟩
    have HSP : Hid (∀ {W : World} {v : Value}, RB W v s → Calls Try.prog 22 #[v, .int .i64 x] W fun e w' => e = .returned (.int .i64 C) ∧ Below W.heap.size W w') := fun {W v} h => by rw [hC]; exact spec_rules x hS.out h
    have HIM : Hid (∀ {W : World} {v : Value}, RB W v s → Calls Try.prog 24 #[v, .int .i64 x] W fun e w' => e = .returned (.int .i64 C) ∧ Below W.heap.size W w') := fun {W v} h => by rw [hC]; exact impl_rules x hS.out h
    clear hC
    go_enter Try.func5, Try.ntmps5
    go_wp2_with (fail)
    refine (szRuleS_few a n c _ hbig).mono ?_
    rintro e w0 ⟨rfl, hw0⟩
    obtain rfl := hw0
    have hneg : ¬ 1048576 - (n : Int) < 0 := by omega
    go_wp2_with (fail)
    refine (toRuleS_any hS.out H.out.1).mono ?_
    rintro e w1 ⟨g1, rfl, hs1, hb1⟩
    have R1 : Hid (RB w1 (.slice (some ⟨g1, 0, none⟩) s.length s.length) s ∧ Below w0.heap.size w0 w1) := ⟨hs1.rb, hb1⟩
    clear hs1 hb1
    go_wp2_with (fail)
    refine (HSP.out R1.out.1).mono ?_
    rintro e w2 ⟨rfl, hb2⟩
    have B2 : Hid (Below w0.heap.size w0 w2) := R1.out.2.trans (hb2.mono R1.out.2.size)
    clear hb2 R1
    go_wp2_with (fail)
    refine (toRuleS_any hS.out (H.out.1.below B2.out)).mono ?_
    rintro e w3 ⟨g3, rfl, hs3, hb3⟩
    have R3 : Hid (RB w3 (.slice (some ⟨g3, 0, none⟩) s.length s.length) s ∧ Below w0.heap.size w0 w3) := ⟨hs3.rb, B2.out.trans (hb3.mono B2.out.size)⟩
    clear hs3 hb3 B2
    go_wp2_with (fail)
    refine (HIM.out R3.out.1).mono ?_
    rintro e w4 ⟨rfl, hb4⟩
    have R4 : Hid (RB w4 (.slice (some ⟨g3, 0, none⟩) s.length s.length) s ∧ Below w0.heap.size w0 w4) := ⟨R3.out.1.below hb4, R3.out.2.trans (hb4.mono R3.out.2.size)⟩
    clear hb4 R3
    go_wp2_with (fail)
    refine (toRuleS_any hS.out (H.out.1.below R4.out.2)).mono ?_
    rintro e w5 ⟨g5, rfl, hs5, hb5⟩
    have R5 : Hid (RB w5 (.slice (some ⟨g3, 0, none⟩) s.length s.length) s ∧ RB w5 (.slice (some ⟨g5, 0, none⟩) s.length s.length) s ∧ Below w0.heap.size w0 w5) := ⟨R4.out.1.below hb5, hs5.rb, R4.out.2.trans (hb5.mono R4.out.2.size)⟩
    clear hs5 hb5 R4
    go_wp2_with (fail)
    refine (eqRuleS_same (by have := hS.out; omega) R5.out.1 R5.out.2.1).mono ?_
    rintro e w6 ⟨rfl, hb6⟩
    have R6 : Hid (Below w0.heap.size w0 w6) := R5.out.2.2.trans (hb6.mono R5.out.2.2.size)
    clear hb6 R5
    go_wp2
    go_returns
    exact ⟨rfl, R6.out⟩
  · have hgt : (1048576 : Int) < (n : Int) := by omega
    go_enter Try.func5, Try.ntmps5
    go_wp2_with (fail)
    refine (szRuleS_many a n c _ hgt (by omega)).mono ?_
    rintro e w0 ⟨rfl, hw0⟩
    obtain rfl := hw0
    go_wp2
    go_returns
    exact ⟨rfl, Below.refl _ _⟩

set_option maxRecDepth 100000 in
theorem ru_lifted (os : Os) (started : os.Started) (H : Type) (enc : TypeId × Value → H) :
    ReturnsInHanded {} Try.checked os 5 .any (Rows.fnExactRulesFaultSpec.pre6 enc Try.prog Try.f5 Rows.fnExactRulesFaultRow.domain false) (Rows.fnExactRulesFaultSpec.post enc Try.prog Try.f5 false true false false) := by
  refine returnsInHanded_of_change (C := Try.checked) own started (by kernel_rfl) Try.func5
    (ChangeSpec.witness6 (enc := enc) (C := Try.checked) false ⟨#[], #[.slice none 0 0, .int .i64 0], []⟩ 8 (by kernel_rfl) (by kernel_rfl) (by kernel_rfl) (by kernel_rfl)) ?_
  intro W base args ds gs before hval0 hW hcnd _
  have hval : ∀ (j : Nat) t v, Try.f5.params[j]? = some t → args[j]? = some v → Value.okWide Try.prog W .any base t v := hval0
  have hW' := hW
  obtain ⟨p, q, hA0, hV, rfl, hfz, hnd⟩ := hW
  have hA : DataW.TrodAll enc Try.prog W 0 (fun _ => true) true Try.f5.params.toList args.toList ds p := hA0
  rw [Try.params5] at hA hval
  obtain ⟨v0, vs0, d0, ds0, p0, q0, hargs, rfl, rfl, h0, r0⟩ := trodAll_cons hA
  obtain ⟨v1, vs1, d1, ds1, p1, q1, rfl, rfl, rfl, h1, r1⟩ := trodAll_cons r0
  obtain ⟨rfl, rfl, rfl⟩ := trodAll_nil r1
  obtain rfl : args = #[v0, v1] := by cases args; simp_all
  obtain ⟨rfl, rfl⟩ := trodVars_none hV
  have k0 := h0
  have lt0 : ∀ x ∈ p0, x.block < W.heap.size := by obtain ⟨m, hm⟩ := k0; exact DataW.trod_lt m _ _ _ hm
  obtain ⟨sa0, sn0, sc0, s0, rfl, rb0, sl0⟩ := rules_open (hval 0 39 v0 rfl rfl) h0
  obtain ⟨n1, rfl, rfl, rfl, wn1⟩ := open_int Try.underlying2 (hval 1 2 v1 rfl rfl) h1
  clear hA0 hval0
  refine (law_ru s0 sl0 rb0 n1).mono fun e W' ⟨he, hg⟩ => ?_
  subst he
  exact ⟨_, rfl, _, _, _, [], _, [], hW', trodAll_mk1 (shut_bool Try.underlying4 _), (trodAll_cons_mk (Below.trod laidOut (by kernel_rfl) (of_decide_eq_true (by kernel_rfl)) k0 hg lt0) (trodAll_cons_mk (shut_int Try.underlying2 wn1) trodAll_mk0)), rfl, hg.frame _, fun h => by cases h⟩

theorem ru_over : Rows.fnExactRulesFaultRow.holds Try.pinned (OpenSpec.ofChange Rows.fnExactRulesFaultSpec) :=
  OpenClaim.holds_of_wide 5 Try.f5 rfl rfl rfl rfl rfl rfl rfl ⟨rfl, rfl, rfl, rfl, rfl⟩ rfl rfl rfl rfl rfl (by kernel_rfl) Try.func5 (by kernel_rfl)
    (of_decide_eq_true (by kernel_rfl)) (by unfold Func.isWrapper; first | (rw [if_pos (by decide +kernel)]; kernel_rfl) | (rw [if_neg (by decide +kernel)]; exact ⟨rfl, rfl⟩))
    (fun os started H enc _ => ru_lifted os started H enc)

theorem ru_proved : Rows.FnExactRulesFaultSaid :=
  ru_over
#print axioms ru_proved

end Go.Proofs.Ytokdpgabmifdjaa
