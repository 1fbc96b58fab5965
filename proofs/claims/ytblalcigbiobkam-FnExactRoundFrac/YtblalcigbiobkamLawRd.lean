/- Proved here: 'the program's RoundFrac answers as the model's', for every fraction, without a condition. -/
import Derived.Test.YtblalcigbiobkamSFault
import Derived.Test.YtblalcigbiobkamLawBase
namespace Go.Proofs.Ytblalcigbiobkam
open Go.ChangeShapes Go.WideShapes Go.ChangeAt Go.RowKit Go.Joins
set_option linter.unusedVariables false

/-- The quotient, rounded down. -/
def flo (n d : Int) : Int := if n.tmod d < 0 then n.tdiv d - 1 else n.tdiv d

set_option maxHeartbeats 400000 in
theorem spec_down (n d : Int) (w : World) (hd : 1 ≤ d) (hd' : d ≤ 4000000000000000000) (h1 : -4000000000000000000 ≤ n) (h2 : n ≤ 4000000000000000000) :
    Calls Try.prog 30 #[.int .i64 n, .int .i64 d] w fun e w' => e = .returned (.int .i64 (flo n d)) ∧ w' = w := by
  have hb := tdiv_bd n d hd h1 h2
  have hq : (d == 0) = false := by simp; omega
  by_cases h : n.tmod d < 0
  · rw [show flo n d = n.tdiv d - 1 by unfold flo; rw [if_pos h]]
    go_enter Try.func30, Try.ntmps30
    go_wp2
    go_ret
    exact ⟨rfl, rfl⟩
  · rw [show flo n d = n.tdiv d by unfold flo; rw [if_neg h]]
    go_enter Try.func30, Try.ntmps30
    go_wp2
    go_ret
    exact ⟨rfl, rfl⟩

set_option maxHeartbeats 400000 in
theorem impl_down (n d : Int) (w : World) (hd : 1 ≤ d) (hd' : d ≤ 4000000000000000000) (h1 : -4000000000000000000 ≤ n) (h2 : n ≤ 4000000000000000000) :
    Calls Try.prog 32 #[.int .i64 n, .int .i64 d] w fun e w' => e = .returned (.int .i64 (flo n d)) ∧ w' = w := by
  have hb := tdiv_bd n d hd h1 h2
  have hq : (d == 0) = false := by simp; omega
  by_cases h : n.tmod d < 0
  · rw [show flo n d = n.tdiv d - 1 by unfold flo; rw [if_pos h]]
    go_enter Try.func32, Try.ntmps32
    go_wp2
    go_ret
    exact ⟨rfl, rfl⟩
  · rw [show flo n d = n.tdiv d by unfold flo; rw [if_neg h]]
    go_enter Try.func32, Try.ntmps32
    go_wp2
    go_ret
    exact ⟨rfl, rfl⟩

/-- The nearest whole number. -/
def rnd (n d : Int) : Int := if okF n d then flo (2 * n + d) (2 * d) else 0
theorem okF_in {n d : Int} (h : okF n d = true) : inB n d = true ∧ Int.gcd n d = 1 := by
  unfold okF at h; simpa using h

set_option maxHeartbeats 400000 in
theorem spec_round (n d : Int) (w : World) :
    Calls Try.prog 14 #[.agg #[.int .i64 n, .int .i64 d]] w fun e w' => e = .returned (.int .i64 (rnd n d)) ∧ Below w.heap.size w w' := by
  cases h : okF n d with
  | false =>
    have e1 : codeF n d = 1 := by unfold codeF; rw [h]; rfl
    rw [show rnd n d = 0 by unfold rnd; rw [h]; rfl]
    go_enter Try.func14, Try.ntmps14
    go_wp2_with (fail)
    refine (spec_fault _ _ _).mono ?_
    rintro e w1 ⟨rfl, hb1⟩
    rw [e1]
    go_wp2
    go_returns
    exact ⟨rfl, Below.trans (by (repeat' (first | (with_reducible exact Below.refl _ _) | (with_reducible assumption) | (with_reducible refine Below.setCell ?_ ?_ _) | (with_reducible refine Below.alloc ?_ ?_ _) | (with_reducible refine below_drewN ?_ _) | (with_reducible refine Below.drew ?_) | (with_reducible exact Nat.le_refl _) | omega | (simp; done) | (simp; omega)))) (hb1.mono (by simp))⟩
  | true =>
    have e1 : codeF n d = 0 := by unfold codeF; rw [h]; rfl
    have hi := inB_true (okF_in h).1
    rw [show rnd n d = flo (2 * n + d) (2 * d) by unfold rnd; rw [h]; rfl]
    go_enter Try.func14, Try.ntmps14
    go_wp2_with (fail)
    refine (spec_fault _ _ _).mono ?_
    rintro e w1 ⟨rfl, hb1⟩
    rw [e1]
    obtain ⟨hc1, hf1⟩ := bcell hb1
    go_wp2_with (fail)
    refine (spec_down _ _ _ (by omega) (by omega) (by omega) (by omega)).mono ?_
    rintro e w2 ⟨rfl, rfl⟩
    go_wp2
    go_returns
    exact ⟨rfl, Below.trans (by (repeat' (first | (with_reducible exact Below.refl _ _) | (with_reducible assumption) | (with_reducible refine Below.setCell ?_ ?_ _) | (with_reducible refine Below.alloc ?_ ?_ _) | (with_reducible refine below_drewN ?_ _) | (with_reducible refine Below.drew ?_) | (with_reducible exact Nat.le_refl _) | omega | (simp; done) | (simp; omega)))) (hb1.mono (by simp))⟩

set_option maxHeartbeats 400000 in
theorem impl_round (n d : Int) (w : World) :
    Calls Try.prog 15 #[.agg #[.int .i64 n, .int .i64 d]] w fun e w' => e = .returned (.int .i64 (rnd n d)) ∧ Below w.heap.size w w' := by
  cases h : okF n d with
  | false =>
    have e1 : codeF n d = 1 := by unfold codeF; rw [h]; rfl
    rw [show rnd n d = 0 by unfold rnd; rw [h]; rfl]
    go_enter Try.func15, Try.ntmps15
    go_wp2_with (fail)
    refine (impl_fault _ _ _).mono ?_
    rintro e w1 ⟨rfl, hb1⟩
    rw [e1]
    go_wp2
    go_returns
    exact ⟨rfl, Below.trans (by (repeat' (first | (with_reducible exact Below.refl _ _) | (with_reducible assumption) | (with_reducible refine Below.setCell ?_ ?_ _) | (with_reducible refine Below.alloc ?_ ?_ _) | (with_reducible refine below_drewN ?_ _) | (with_reducible refine Below.drew ?_) | (with_reducible exact Nat.le_refl _) | omega | (simp; done) | (simp; omega)))) (hb1.mono (by simp))⟩
  | true =>
    have e1 : codeF n d = 0 := by unfold codeF; rw [h]; rfl
    have hi := inB_true (okF_in h).1
    rw [show rnd n d = flo (2 * n + d) (2 * d) by unfold rnd; rw [h]; rfl]
    go_enter Try.func15, Try.ntmps15
    go_wp2_with (fail)
    refine (impl_fault _ _ _).mono ?_
    rintro e w1 ⟨rfl, hb1⟩
    rw [e1]
    obtain ⟨hc1, hf1⟩ := bcell hb1
    go_wp2_with (fail)
    refine (impl_down _ _ _ (by omega) (by omega) (by omega) (by omega)).mono ?_
    rintro e w2 ⟨rfl, rfl⟩
    go_wp2
    go_returns
    exact ⟨rfl, Below.trans (by (repeat' (first | (with_reducible exact Below.refl _ _) | (with_reducible assumption) | (with_reducible refine Below.setCell ?_ ?_ _) | (with_reducible refine Below.alloc ?_ ?_ _) | (with_reducible refine below_drewN ?_ _) | (with_reducible refine Below.drew ?_) | (with_reducible exact Nat.le_refl _) | omega | (simp; done) | (simp; omega)))) (hb1.mono (by simp))⟩

set_option maxHeartbeats 400000 in
theorem law_rd (n d : Int) (w : World) :
    Calls Try.prog 5 #[.agg #[.int .i64 n, .int .i64 d]] w fun e w' => e = .returned (.bool true) ∧ Below w.heap.size w w' := by
  go_enter Try.func5, Try.ntmps5
  go_wp2_with (fail)
  refine (toFrac_any _ _ _).mono ?_
  rintro e w1 ⟨rfl, hb1⟩
  go_wp2_with (fail)
  refine (spec_round _ _ _).mono ?_
  rintro e w2 ⟨rfl, hb2⟩
  have hB2 := hb1.trans (hb2.mono hb1.size)
  have hc2 := (bcell hB2).1
  clear hb1 hb2
  go_wp2_with (fail)
  refine (toFrac_any _ _ _).mono ?_
  rintro e w3 ⟨rfl, hb3⟩
  go_wp2_with (fail)
  refine (impl_round _ _ _).mono ?_
  rintro e w4 ⟨rfl, hb4⟩
  go_wp2
  go_returns
  refine ⟨rfl, ?_⟩
  have h3 := hB2.trans (hb3.mono hB2.size)
  have h4 := h3.trans (hb4.mono h3.size)
  exact ((Below.refl _ _).alloc (Nat.le_refl _) _).trans (h4.mono (by simp))

set_option maxRecDepth 100000 in
theorem rd_lifted (os : Os) (started : os.Started) (H : Type) (enc : TypeId × Value → H) :
    ReturnsInHanded {} Try.checked os 5 .any (Rows.fnExactRoundFracSpec.pre6 enc Try.prog Try.f5 Rows.fnExactRoundFracRow.domain false) (Rows.fnExactRoundFracSpec.post enc Try.prog Try.f5 false true false false) := by
  refine returnsInHanded_of_change (C := Try.checked) own started (by kernel_rfl) Try.func5
    (ChangeSpec.witness6 (enc := enc) (C := Try.checked) false ⟨#[], #[.agg #[.int .i64 0, .int .i64 0]], []⟩ 8 (by kernel_rfl) (by kernel_rfl) (by kernel_rfl) (by kernel_rfl)) ?_
  intro W base args ds gs before hval0 hW hcnd _
  have hval : ∀ (j : Nat) t v, Try.f5.params[j]? = some t → args[j]? = some v → Value.okWide Try.prog W .any base t v := hval0
  have hW' := hW
  obtain ⟨p, q, hA0, hV, rfl, hfz, hnd⟩ := hW
  have hA : DataW.TrodAll enc Try.prog W 0 (fun _ => true) true Try.f5.params.toList args.toList ds p := hA0
  rw [Try.params5] at hA hval
  obtain ⟨v0, vs0, d0, ds0, p0, q0, hargs, rfl, rfl, h0, r0⟩ := trodAll_cons hA
  obtain ⟨rfl, rfl, rfl⟩ := trodAll_nil r0
  obtain rfl : args = #[v0] := by cases args; simp_all
  obtain ⟨rfl, rfl⟩ := trodVars_none hV
  obtain ⟨n0, m0, rfl, rfl, rfl, wn0, wm0⟩ := frac_open (hval 0 23 v0 rfl rfl) h0
  clear hA0 hval0
  simp only [List.append_nil] at hW'
  refine (law_rd n0 m0 W).mono fun e W' ⟨he, hg⟩ => ?_
  subst he
  refine ⟨_, rfl, _, _, _, [], [], [], hW', ?_, ?_, rfl, hg.frame _, fun h => by cases h⟩
  · exact trodAll_cons_mk (shut_bool Try.underlying4 _) trodAll_mk0
  · exact (trodAll_cons_mk (frac_shut wn0 wm0) trodAll_mk0)

theorem rd_over : Rows.fnExactRoundFracRow.holds Try.pinned (OpenSpec.ofChange Rows.fnExactRoundFracSpec) :=
  OpenClaim.holds_of_wide 5 Try.f5 rfl rfl rfl rfl rfl rfl rfl ⟨rfl, rfl, rfl, rfl, rfl⟩ rfl rfl rfl rfl rfl (by kernel_rfl) Try.func5 (by kernel_rfl)
    (of_decide_eq_true (by kernel_rfl)) (by unfold Func.isWrapper; first | (rw [if_pos (by decide +kernel)]; kernel_rfl) | (rw [if_neg (by decide +kernel)]; exact ⟨rfl, rfl⟩))
    (fun os started H enc _ => rd_lifted os started H enc)

theorem rd_proved : Rows.FnExactRoundFracSaid :=
  rd_over
#print axioms rd_proved

end Go.Proofs.Ytblalcigbiobkam
