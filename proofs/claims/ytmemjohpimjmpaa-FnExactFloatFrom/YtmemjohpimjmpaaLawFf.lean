/- Proved here: 'the program's FloatFrom answers as the model's', at all bits, without a condition. -/
import Derived.Test.YtmemjohpimjmpaaFfS
import Derived.Test.YtmemjohpimjmpaaFlS
import Derived.Test.YtmemjohpimjmpaaRows
import Derived.OpenShut
import Derived.Lib.SmallJoins
import Derived.ChangeKeysEq
import Derived.Laws.Cover2
namespace Go.Proofs.Ytmemjohpimjmpaa
open Go.ChangeShapes Go.WideShapes Go.ChangeAt Go.RowKit Go.Joins
set_option linter.unusedVariables false
set_option linter.unusedSimpArgs false

theorem own : ownKnob Try.prog.godebug = none := by kernel_rfl

set_option maxHeartbeats 1600000 in
theorem law_ff (x : Int) (hx : (Lit.int .u64 x).wf = true) (w : World) : Calls Try.prog 5 #[.int .u64 x] w fun e w' => e = .returned (.bool true) ∧ Below w.heap.size w w' := by
  have hb : 0 ≤ x ∧ x < 18446744073709551616 := by
    simp only [Lit.wf, decide_eq_true_eq, Bool.and_eq_true, IntKind.min, IntKind.max] at hx
    simp [IntKind.signed, IntKind.bits] at hx
    omega
  obtain ⟨b, rfl⟩ : ∃ b : Nat, x = b := ⟨x.toNat, by omega⟩
  have HX : Hid (b < 18446744073709551616) := by unfold Hid; omega
  have HI : Hid (∀ W, Calls Try.prog 13 #[.int .u64 b] W fun e w' => e = .returned (.float .f64 b) ∧ w' = W) := fun W => impl_from b W
  clear hx hb
  go_enter Try.func5, Try.ntmps5
  go_wp2_with (fail)
  refine (spec_from b HX.out _).mono ?_
  rintro e w3 ⟨y, k, rfl, hy, hyb, hw3⟩
  subst w3
  have HS : Hid (∀ W, Calls Try.prog 16 #[.float .f64 b, .float .f64 y] W fun e w' => e = .returned (.bool true) ∧ ∃ n, w' = W.drewN n) := fun W => same_any b y hy.symm W
  clear hy hyb
  go_wp2_with (fail)
  refine (HI.out _).mono ?_
  rintro e w3 ⟨rfl, hw3⟩
  subst w3
  go_wp2_with (fail)
  refine (HS.out _).mono ?_
  rintro e w3 ⟨rfl, k2, hw3⟩
  subst w3
  go_wp2
  go_returns
  exact ⟨rfl, by (repeat' (first | (with_reducible exact Below.refl _ _) | (with_reducible assumption) | (with_reducible refine Below.setCell ?_ ?_ _) | (with_reducible refine Below.alloc ?_ ?_ _) | (with_reducible refine below_drewN ?_ _) | (with_reducible refine Below.drew ?_) | (with_reducible exact Nat.le_refl _) | omega | (simp; done) | (simp; omega)))⟩

set_option maxRecDepth 100000 in
theorem ff14_lifted (os : Os) (started : os.Started) (H : Type) (enc : TypeId × Value → H) :
    ReturnsInHanded {} Try.checked os 5 .any (Rows.fnExactFloatFromSpec.pre6 enc Try.prog Try.f5 Rows.fnExactFloatFromRow.domain false) (Rows.fnExactFloatFromSpec.post enc Try.prog Try.f5 false true false false) := by
  refine returnsInHanded_of_change (C := Try.checked) own started (by kernel_rfl) Try.func5
    (ChangeSpec.witness6 (enc := enc) (C := Try.checked) false ⟨#[], #[.int .u64 0], []⟩ 8 (by kernel_rfl) (by kernel_rfl) (by kernel_rfl) (by kernel_rfl)) ?_
  intro W base args ds gs before hval0 hW hcnd _
  have hval : ∀ (j : Nat) t v, Try.f5.params[j]? = some t → args[j]? = some v → Value.okWide Try.prog W .any base t v := hval0
  have hW' := hW
  obtain ⟨p, q, hA0, hV, rfl, hfz, hnd⟩ := hW
  have hA : DataW.TrodAll enc Try.prog W 0 (fun _ => true) true Try.f5.params.toList args.toList ds p := hA0
  rw [Try.params5] at hA hval
  obtain ⟨v0, vs0, d0, ds0, p0, q0, hargs, rfl, rfl, h0, r0⟩ := trodAll_cons hA
  obtain ⟨rfl, rfl, rfl⟩ := trodAll_nil r0
  obtain rfl : args = #[v0] := by cases args; simp_all
  obtain ⟨rfl, rfl⟩ := trodVars_none hV
  obtain ⟨n0, rfl, rfl, rfl, wn0⟩ := open_int Try.underlying26 (hval 0 26 v0 rfl rfl) h0
  clear hA0 hval0
  simp only [List.append_nil] at hW'
  refine (law_ff n0 wn0 W).mono fun e W' ⟨he, hg⟩ => ?_
  subst he
  refine ⟨_, rfl, _, _, _, [], [], [], hW', ?_, ?_, rfl, hg.frame _, fun h => by cases h⟩
  · exact trodAll_cons_mk (shut_bool Try.underlying4 _) trodAll_mk0
  · exact (trodAll_cons_mk (shut_int Try.underlying26 wn0) trodAll_mk0)

theorem ff14_over : Rows.fnExactFloatFromRow.holds Try.pinned (OpenSpec.ofChange Rows.fnExactFloatFromSpec) :=
  OpenClaim.holds_of_wide 5 Try.f5 rfl rfl rfl rfl rfl rfl rfl ⟨rfl, rfl, rfl, rfl, rfl⟩ rfl rfl rfl rfl rfl (by kernel_rfl) Try.func5 (by kernel_rfl)
    (of_decide_eq_true (by kernel_rfl)) (by unfold Func.isWrapper; first | (rw [if_pos (by decide +kernel)]; kernel_rfl) | (rw [if_neg (by decide +kernel)]; exact ⟨rfl, rfl⟩))
    (fun os started H enc _ => ff14_lifted os started H enc)

theorem ff14_proved : Rows.FnExactFloatFromSaid :=
  ff14_over
#print axioms ff14_proved

end Go.Proofs.Ytmemjohpimjmpaa
