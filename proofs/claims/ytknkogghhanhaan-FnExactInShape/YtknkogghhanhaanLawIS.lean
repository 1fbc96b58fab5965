/- Proved here: 'the program's InShape answers as the model's; it writes into no argument', for every list of boxes and every place, without a condition. -/
import Derived.Test.YtknkogghhanhaanInSh
import Derived.Test.YtknkogghhanhaanOpenBx
namespace Go.Proofs.Ytknkogghhanhaan
open Go.ChangeShapes Go.WideShapes Go.ChangeAt Go.RowKit Go.Joins
set_option linter.unusedVariables false
set_option linter.unusedSimpArgs false

set_option maxHeartbeats 1600000 in
theorem law_is {a : Option Addr} {n c : Nat} (s : List Bx) (hm : s.length ≤ maxLen) {w : World} (h : RB w (.slice a n c) s) (x y : Int) :
    Calls Try.prog 8 #[.slice a n c, .int .i64 x, .int .i64 y] w fun e w' => e = .returned (.bool true) ∧ Below w.heap.size w w' := by
  have hlen : s.length = n := by obtain ⟨_, _, e⟩ := h.form; injection e with _ e2 _; exact e2.symm
  have H : Hid (RB w (.slice a n c) s ∧ s.length = n) := ⟨h, hlen⟩
  rw [hlen] at hm
  unfold maxLen at hm
  clear h hlen
  by_cases hbig : (n : Int) ≤ 1048576
  · have hS : Hid (s.length ≤ 1048576) := by unfold Hid; rw [H.out.2]; omega
    go_enter Try.func8, Try.ntmps8
    go_wp2_with (fail)
    refine (szBoxS_few a n c _ hbig).mono ?_
    rintro e w0 ⟨rfl, hw0⟩
    obtain rfl := hw0
    have hneg : ¬ 1048576 - (n : Int) < 0 := by omega
    go_wp2_with (fail)
    refine (toBoxS_any hS.out H.out.1).mono ?_
    rintro e w1 ⟨g1, rfl, hs1, hb1⟩
    have R1 : Hid (RB w1 (.slice (some ⟨g1, 0, none⟩) s.length s.length) s) := hs1.rb
    have B1 : Hid (Below w0.heap.size w0 w1) := hb1
    clear hs1 hb1
    go_wp2_with (fail)
    refine (spec_inShape x y R1.out).mono ?_
    rintro e w2 ⟨rfl, hb2⟩
    have B2 : Hid (Below w0.heap.size w0 w2) := B1.out.trans (hb2.mono B1.out.size)
    clear hb2
    go_wp2_with (fail)
    refine (toBoxS_any hS.out (H.out.1.below B2.out)).mono ?_
    rintro e w3 ⟨g3, rfl, hs3, hb3⟩
    have R3 : Hid (RB w3 (.slice (some ⟨g3, 0, none⟩) s.length s.length) s) := hs3.rb
    have B3 : Hid (Below w0.heap.size w0 w3) := B2.out.trans (hb3.mono B2.out.size)
    clear hs3 hb3
    go_wp2_with (fail)
    refine (impl_inShape x y (by have := hS.out; omega) (Nat.le_refl _) R3.out).mono ?_
    rintro e w4 ⟨rfl, hb4⟩
    have B4 : Hid (Below w0.heap.size w0 w4) := B3.out.trans (hb4.mono B3.out.size)
    have R4 : Hid (RB w4 (.slice (some ⟨g3, 0, none⟩) s.length s.length) s) := R3.out.below hb4
    clear hb4
    go_wp2_with (fail)
    refine (toBoxS_any hS.out (H.out.1.below B4.out)).mono ?_
    rintro e w5 ⟨g5, rfl, hs5, hb5⟩
    have R5 : Hid (RB w5 (.slice (some ⟨g5, 0, none⟩) s.length s.length) s ∧ RB w5 (.slice (some ⟨g3, 0, none⟩) s.length s.length) s) := ⟨hs5.rb, R4.out.below hb5⟩
    have B5 : Hid (Below w0.heap.size w0 w5) := B4.out.trans (hb5.mono B4.out.size)
    clear hs5 hb5
    go_wp2_with (fail)
    refine (eqBoxS_same (by have := hS.out; omega) R5.out.2 R5.out.1).mono ?_
    rintro e w6 ⟨rfl, hb6⟩
    have B6 : Hid (Below w0.heap.size w0 w6) := B5.out.trans (hb6.mono B5.out.size)
    clear hb6
    go_wp2
    go_returns
    exact ⟨rfl, B6.out⟩
  · have hgt : (1048576 : Int) < (n : Int) := by omega
    go_enter Try.func8, Try.ntmps8
    go_wp2_with (fail)
    refine (szBoxS_many a n c _ hgt (by omega)).mono ?_
    rintro e w0 ⟨rfl, hw0⟩
    obtain rfl := hw0
    go_wp2
    go_returns
    exact ⟨rfl, Below.refl _ _⟩

set_option maxRecDepth 100000 in
theorem is_lifted (os : Os) (started : os.Started) (H : Type) (enc : TypeId × Value → H) :
    ReturnsInHanded {} Try.checked os 8 .any (Rows.fnExactInShapeSpec.pre6 enc Try.prog Try.f8 Rows.fnExactInShapeRow.domain false) (Rows.fnExactInShapeSpec.post enc Try.prog Try.f8 false true false false) := by
  refine returnsInHanded_of_change (C := Try.checked) own started (by kernel_rfl) Try.func8
    (ChangeSpec.witness6 (enc := enc) (C := Try.checked) false ⟨#[], #[.slice none 0 0, .int .i64 0, .int .i64 0], []⟩ 8 (by kernel_rfl) (by kernel_rfl) (by kernel_rfl) (by kernel_rfl)) ?_
  intro W base args ds gs before hval0 hW hcnd _
  have hval : ∀ (j : Nat) t v, Try.f8.params[j]? = some t → args[j]? = some v → Value.okWide Try.prog W .any base t v := hval0
  have hW' := hW
  obtain ⟨p, q, hA0, hV, rfl, hfz, hnd⟩ := hW
  have hA : DataW.TrodAll enc Try.prog W 0 (fun _ => true) true Try.f8.params.toList args.toList ds p := hA0
  rw [Try.params8] at hA hval
  obtain ⟨v0, vs0, d0, ds0, p0, q0, hargs, rfl, rfl, h0, r0⟩ := trodAll_cons hA
  obtain ⟨v1, vs1, d1, ds1, p1, q1, rfl, rfl, rfl, h1, r1⟩ := trodAll_cons r0
  obtain ⟨v2, vs2, d2, ds2, p2, q2, rfl, rfl, rfl, h2, r2⟩ := trodAll_cons r1
  obtain ⟨rfl, rfl, rfl⟩ := trodAll_nil r2
  obtain rfl : args = #[v0, v1, v2] := by cases args; simp_all
  obtain ⟨rfl, rfl⟩ := trodVars_none hV
  have k0 := h0
  have lt0 : ∀ x ∈ p0, x.block < W.heap.size := by obtain ⟨m, hm⟩ := k0; exact DataW.trod_lt m _ _ _ hm
  obtain ⟨sa0, sn0, sc0, s0, rfl, rb0, sl0⟩ := boxes_open (hval 0 28 v0 rfl rfl) h0
  obtain ⟨n1, rfl, rfl, rfl, wn1⟩ := open_int Try.underlying2 (hval 1 2 v1 rfl rfl) h1
  obtain ⟨n2, rfl, rfl, rfl, wn2⟩ := open_int Try.underlying2 (hval 2 2 v2 rfl rfl) h2
  clear hA0 hval0
  refine (law_is s0 sl0 rb0 n1 n2).mono fun e W' ⟨he, hg⟩ => ?_
  subst he
  exact ⟨_, rfl, _, _, _, [], _, [], hW', trodAll_mk1 (shut_bool Try.underlying4 _), (trodAll_cons_mk (Below.trod laidOut (by kernel_rfl) (of_decide_eq_true (by kernel_rfl)) k0 hg lt0) (trodAll_cons_mk (shut_int Try.underlying2 wn1) (trodAll_cons_mk (shut_int Try.underlying2 wn2) trodAll_mk0))), rfl, hg.frame _, fun h => by cases h⟩

theorem is_over : Rows.fnExactInShapeRow.holds Try.pinned (OpenSpec.ofChange Rows.fnExactInShapeSpec) :=
  OpenClaim.holds_of_wide 8 Try.f8 rfl rfl rfl rfl rfl rfl rfl ⟨rfl, rfl, rfl, rfl, rfl⟩ rfl rfl rfl rfl rfl (by kernel_rfl) Try.func8 (by kernel_rfl)
    (of_decide_eq_true (by kernel_rfl)) (by unfold Func.isWrapper; first | (rw [if_pos (by decide +kernel)]; kernel_rfl) | (rw [if_neg (by decide +kernel)]; exact ⟨rfl, rfl⟩))
    (fun os started H enc _ => is_lifted os started H enc)

theorem is_proved : Rows.FnExactInShapeSaid :=
  is_over
#print axioms is_proved

end Go.Proofs.Ytknkogghhanhaan
