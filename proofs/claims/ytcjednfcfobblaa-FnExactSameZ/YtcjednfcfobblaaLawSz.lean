/- Proved here: 'the program's SameZ answers as the model's', for every two complex numbers, without a condition. -/
import Derived.Test.YtcjednfcfobblaaZB
import Derived.Test.YtcjednfcfobblaaRows
import Derived.ChangeKeysEq
namespace Go.Proofs.Ytcjednfcfobblaa
open Go.ChangeShapes Go.WideShapes Go.ChangeAt Go.RowKit Go.Joins
set_option linter.unusedVariables false
set_option linter.unusedSimpArgs false

def szB (a b : Zf) : Bool := (FloatKind.f64.format.order a.re b.re == some .eq) && (FloatKind.f64.format.order a.im b.im == some .eq)

set_option maxHeartbeats 800000 in
theorem spec_sz (a b : Zf) (w : World) : Calls Try.prog 8 #[.agg #[.float .f64 a.re, .float .f64 a.im], .agg #[.float .f64 b.re, .float .f64 b.im]] w fun e w' => e = .returned (.bool (szB a b)) ∧ Below w.heap.size w w' := by
  unfold szB
  cases h1 : (FloatKind.f64.format.order a.re b.re == some .eq)
  · go_enter Try.func8, Try.ntmps8
    go_wp2
    go_returns
    exact ⟨rfl, by (repeat' (first | (with_reducible exact Below.refl _ _) | (with_reducible assumption) | (with_reducible refine Below.setCell ?_ ?_ _) | (with_reducible refine Below.alloc ?_ ?_ _) | (with_reducible refine below_drewN ?_ _) | (with_reducible refine Below.drew ?_) | (with_reducible exact Nat.le_refl _) | omega | (simp; done) | (simp; omega)))⟩
  · go_enter Try.func8, Try.ntmps8
    go_wp2
    go_returns
    exact ⟨by simp, by (repeat' (first | (with_reducible exact Below.refl _ _) | (with_reducible assumption) | (with_reducible refine Below.setCell ?_ ?_ _) | (with_reducible refine Below.alloc ?_ ?_ _) | (with_reducible refine below_drewN ?_ _) | (with_reducible refine Below.drew ?_) | (with_reducible exact Nat.le_refl _) | omega | (simp; done) | (simp; omega)))⟩

theorem info_f64 : ∃ i, Try.prog.info? 22 = some i := Option.isSome_iff_exists.1 (by kernel_rfl)
theorem toZ_xy (x y : Nat) (w : World) : Calls Try.prog 9 #[.agg #[.float .f64 x, .float .f64 y]] w fun e w' => e = .returned (.agg #[.float .f64 x, .float .f64 y]) ∧ Below w.heap.size w w' := toZ_any ⟨x, y⟩ w
theorem run_eq_pair (a b c d : Nat) (w : World) : (binOp .eql 57 (.agg #[.float .f64 a, .float .f64 b]) (.agg #[.float .f64 c, .float .f64 d])).run Try.prog w = .ok (.bool ((FloatKind.f64.format.order a c == some .eq) && (FloatKind.f64.format.order b d == some .eq))) w := by
  obtain ⟨i, hi⟩ := info_f64
  have k1 : Try.prog.cellsOf 22 = 1 := by kernel_rfl
  have hf : ∀ d x y w, (Op.equalIn (d + 1) 22 (.float .f64 x) (.float .f64 y)).run Try.prog w = .ok (FloatKind.f64.format.order x y == some .eq) w := fun d x y w => by
    simp [Op.equalIn, run_underlying Try.underlying22, Op.floatEq]
  rw [run_eql_struct, run_equalIn_array (e := 22) (n := 2) w 9999 _ _ Try.underlying57 hi]
  have hr : List.range 2 = [0, 1] := rfl
  rw [hr, k1]
  have hp : ∀ (x y : Nat) (i : Nat) (w : World) (v : Value), (#[Value.float .f64 x, .float .f64 y] : Array Value)[i]? = some v → (part 22 #[.float .f64 x, .float .f64 y] i).run Try.prog w = .ok v w := fun x y i w v h => by
    simp [part, isAgg, run_underlying Try.underlying22, h]
  simp [Op.eqItems, hp a b 0 _ (.float .f64 a) rfl, hp c d 0 _ (.float .f64 c) rfl, hp a b 1 _ (.float .f64 b) rfl, hp c d 1 _ (.float .f64 d) rfl, Result.andThen_ok, hf]
  by_cases h1 : FloatKind.f64.format.order a c = some Ordering.eq <;> by_cases h2 : FloatKind.f64.format.order b d = some Ordering.eq <;> simp [h1, h2]

set_option maxHeartbeats 800000 in
theorem impl_sz (a b : Zf) (w : World) : Calls Try.prog 10 #[.agg #[.float .f64 a.re, .float .f64 a.im], .agg #[.float .f64 b.re, .float .f64 b.im]] w fun e w' => e = .returned (.bool (szB a b)) ∧ Below w.heap.size w w' := by
  unfold szB
  have hq := run_eq_pair a.re a.im b.re b.im
  go_enter Try.func10, Try.ntmps10
  go_wp2
  go_returns
  exact ⟨rfl, by (repeat' (first | (with_reducible exact Below.refl _ _) | (with_reducible assumption) | (with_reducible refine Below.setCell ?_ ?_ _) | (with_reducible refine Below.alloc ?_ ?_ _) | (with_reducible refine below_drewN ?_ _) | (with_reducible refine Below.drew ?_) | (with_reducible exact Nat.le_refl _) | omega | (simp; done) | (simp; omega)))⟩

set_option maxHeartbeats 1000000 in
theorem law_sz (a b : Zf) (w : World) :
    Calls Try.prog 3 #[.agg #[.float .f64 a.re, .float .f64 a.im], .agg #[.float .f64 b.re, .float .f64 b.im]] w fun e w' => e = .returned (.bool true) ∧ Below w.heap.size w w' := by
  have hz : w.heap.size < w.heap.size + 1 + 1 := by omega
  go_enter Try.func3, Try.ntmps3
  go_wp2_with (fail)
  (refine wp_region_und (by kernel_rfl) (by kernel_rfl) (fun hund => ?_); (repeat (go_big_quiet_step (first | (go_at_call 9; refine und_call ?_ (toZ_xy _ _ _); simp) | (go_at_call 8; refine und_call ?_ (spec_sz a b _); simp)))); with_reducible refine wpQuiet_nil ?_; clear hund; intro W1 hb1; obtain ⟨hc1, hf1⟩ := bcell hb1)
  have HB : Hid (Below w.heap.size w W1) := Below.trans (by (repeat' (first | (with_reducible exact Below.refl _ _) | (with_reducible assumption) | (with_reducible refine Below.setCell ?_ ?_ _) | (with_reducible refine Below.alloc ?_ ?_ _) | (with_reducible refine below_drewN ?_ _) | (with_reducible refine Below.drew ?_) | (with_reducible exact Nat.le_refl _) | omega | (simp; done) | (simp; omega)))) (hb1.mono (by simp; omega))
  have hz1 : w.heap.size + 1 < W1.heap.size := by have := hb1.size; simp at this; omega
  have hz2 : w.heap.size < W1.heap.size := by omega
  clear hb1
  go_wp2_with (fail)
  (refine wp_region_und (by kernel_rfl) (by kernel_rfl) (fun hund => ?_); (repeat (go_big_quiet_step (first | (go_at_call 9; refine und_call ?_ (toZ_xy _ _ _); simp) | (go_at_call 10; refine und_call ?_ (impl_sz a b _); simp)))); with_reducible refine wpQuiet_nil ?_; clear hund; intro W2 hb2; obtain ⟨hc2, hf2⟩ := bcell hb2)
  go_wp2
  go_returns
  exact ⟨rfl, HB.out.trans (hb2.mono (by omega))⟩

set_option maxRecDepth 100000 in
theorem sz_lifted (os : Os) (started : os.Started) (H : Type) (enc : TypeId × Value → H) :
    ReturnsInHanded {} Try.checked os 3 .any (Rows.fnExactSameZSpec.pre6 enc Try.prog Try.f3 Rows.fnExactSameZRow.domain false) (Rows.fnExactSameZSpec.post enc Try.prog Try.f3 false true false false) := by
  refine returnsInHanded_of_change (C := Try.checked) own started (by kernel_rfl) Try.func3
    (ChangeSpec.witness6 (enc := enc) (C := Try.checked) false ⟨#[], #[.agg #[.float .f64 0, .float .f64 0], .agg #[.float .f64 0, .float .f64 0]], []⟩ 8 (by kernel_rfl) (by kernel_rfl) (by kernel_rfl) (by kernel_rfl)) ?_
  intro W base args ds gs before hval0 hW hcnd _
  have hval : ∀ (j : Nat) t v, Try.f3.params[j]? = some t → args[j]? = some v → Value.okWide Try.prog W .any base t v := hval0
  have hW' := hW
  obtain ⟨p, q, hA0, hV, rfl, hfz, hnd⟩ := hW
  have hA : DataW.TrodAll enc Try.prog W 0 (fun _ => true) true Try.f3.params.toList args.toList ds p := hA0
  rw [Try.params3] at hA hval
  obtain ⟨v0, vs0, d0, ds0, p0, q0, hargs, rfl, rfl, h0, r0⟩ := trodAll_cons hA
  obtain ⟨v1, vs1, d1, ds1, p1, q1, rfl, rfl, rfl, h1, r1⟩ := trodAll_cons r0
  obtain ⟨rfl, rfl, rfl⟩ := trodAll_nil r1
  obtain rfl : args = #[v0, v1] := by cases args; simp_all
  obtain ⟨rfl, rfl⟩ := trodVars_none hV
  have k0 := h0
  have lt0 : ∀ x ∈ p0, x.block < W.heap.size := by obtain ⟨m, hm⟩ := k0; exact DataW.trod_lt m _ _ _ hm
  obtain ⟨z0, rfl⟩ := z_open (hval 0 24 v0 rfl rfl) h0
  have k1 := h1
  have lt1 : ∀ x ∈ p1, x.block < W.heap.size := by obtain ⟨m, hm⟩ := k1; exact DataW.trod_lt m _ _ _ hm
  obtain ⟨z1, rfl⟩ := z_open (hval 1 24 v1 rfl rfl) h1
  clear hA0 hval0
  refine (law_sz z0 z1 W).mono fun e W' ⟨he, hg⟩ => ?_
  subst he
  exact ⟨_, rfl, _, _, _, [], _, [], hW', trodAll_mk1 (shut_bool Try.underlying4 _), (trodAll_cons_mk (Below.trod laidOut (by kernel_rfl) (of_decide_eq_true (by kernel_rfl)) k0 hg lt0) (trodAll_cons_mk (Below.trod laidOut (by kernel_rfl) (of_decide_eq_true (by kernel_rfl)) k1 hg lt1) trodAll_mk0)), rfl, hg.frame _, fun h => by cases h⟩

theorem sz_over : Rows.fnExactSameZRow.holds Try.pinned (OpenSpec.ofChange Rows.fnExactSameZSpec) :=
  OpenClaim.holds_of_wide 3 Try.f3 rfl rfl rfl rfl rfl rfl rfl ⟨rfl, rfl, rfl, rfl, rfl⟩ rfl rfl rfl rfl rfl (by kernel_rfl) Try.func3 (by kernel_rfl)
    (of_decide_eq_true (by kernel_rfl)) (by unfold Func.isWrapper; first | (rw [if_pos (by decide +kernel)]; kernel_rfl) | (rw [if_neg (by decide +kernel)]; exact ⟨rfl, rfl⟩))
    (fun os started H enc _ => sz_lifted os started H enc)

theorem sz_proved : Rows.FnExactSameZSaid :=
  sz_over
#print axioms sz_proved

end Go.Proofs.Ytcjednfcfobblaa
