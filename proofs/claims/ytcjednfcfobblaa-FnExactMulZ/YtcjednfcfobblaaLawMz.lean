/- Proved here: 'the program's MulZ answers as the model's', for every two complex numbers, without a condition. -/
import Derived.Test.YtcjednfcfobblaaZM
import Derived.Test.YtcjednfcfobblaaRows
namespace Go.Proofs.Ytcjednfcfobblaa
open Go.ChangeShapes Go.WideShapes Go.ChangeAt Go.RowKit Go.Joins
set_option linter.unusedVariables false
set_option linter.unusedSimpArgs false

set_option maxHeartbeats 4000000 in
theorem law_mz (a b : Zf) (w : World) :
    Calls Try.prog 4 #[.agg #[.float .f64 a.re, .float .f64 a.im], .agg #[.float .f64 b.re, .float .f64 b.im]] w fun e w' => e = .returned (.bool true) ∧ Below w.heap.size w w' := by
  have hz : w.heap.size < w.heap.size + 1 + 1 := by omega
  go_enter Try.func4, Try.ntmps4
  go_wp2_with (fail)
  refine wp_region_float (by kernel_rfl) (fun hS => ?_)
  refine fl_take (i := 0) (d := 7) (v := .agg #[.float .f64 a.re, .float .f64 a.im]) rfl rfl rfl (by kernel_rfl) (by kernel_rfl) (by kernel_rfl) hS ?_ ?_
  · intro w' hk; go_simp
  simp only [Act.put, List.setIfInBounds_toArray, List.set_cons_zero, List.set_cons_succ]
  refine fl_take (i := 2) (d := 9) (v := .agg #[.float .f64 b.re, .float .f64 b.im]) rfl rfl rfl (by kernel_rfl) (by kernel_rfl) (by kernel_rfl) hS ?_ ?_
  · intro w' hk; go_simp
  simp only [Act.put, List.setIfInBounds_toArray, List.set_cons_zero, List.set_cons_succ]
  refine float_pend (z := #[.float .f64 0, .float .f64 0]) (T := 26) (ja := 5) (js := 6) rfl rfl rfl rfl rfl (fun a w => by go_simp) [1, 3, 4] _ _ _ (fun _ => False) (by kernel_rfl) (by kernel_rfl) ?_ (Nat.le_refl _) (fun _ h => h.elim) hS
  intro W1 hW1
  refine ⟨_, 8, _, _, rfl, rfl, by go_simp, (toZ_any a _).mono ?_⟩
  rintro e w1 ⟨rfl, hb1⟩
  refine ⟨_, rfl, hb1, ?_⟩
  simp only [Act.put, List.setIfInBounds_toArray, List.set_cons_zero, List.set_cons_succ]
  intro W2 hW2
  refine ⟨_, 10, _, _, rfl, rfl, by go_simp, (toZ_any b _).mono ?_⟩
  rintro e w2 ⟨rfl, hb2⟩
  refine ⟨_, rfl, hb2, ?_⟩
  simp only [Act.put, List.setIfInBounds_toArray, List.set_cons_zero, List.set_cons_succ]
  intro W3 hW3
  refine ⟨_, 11, _, _, rfl, rfl, by go_simp, (spec_mul a b _).mono ?_⟩
  rintro e w3 ⟨z1, rfl, hz1, hb3⟩
  refine ⟨_, rfl, hb3, ?_⟩
  simp only [Act.put, List.setIfInBounds_toArray, List.set_cons_zero, List.set_cons_succ]
  unfold Fl
  refine after_store ?_ _ _ _ #[.float .f64 z1.re, .float .f64 z1.im] (by rfl) (by rfl) (fun _ => by rfl) (fun _ => by rfl) (by simp) (by kernel_rfl) (by simp [Value.oneCell']) ?_
  · exact Nat.le_refl _
  intro k1 V1 hK1 hk1 hk2 hF hoth hsz hcell
  simp only [Act.put, List.setIfInBounds_toArray, List.set_cons_zero, List.set_cons_succ]
  refine NoPanic.normal ?_
  clear hF hoth hsz hW1 hb1 hW2 hb2 hW3 hb3 hS w1 w2 w3 W1 W2 W3
  have ha0 : V1.cell? ⟨w.heap.size, 0, none⟩ = some (.float .f64 a.re) := by rw [hK1.1 _ _ (by simp; omega)]; simp
  have ha1 : V1.cell? ⟨w.heap.size, 1, none⟩ = some (.float .f64 a.im) := by rw [hK1.1 _ _ (by simp; omega)]; simp
  have hc0 : V1.cell? ⟨w.heap.size + 1, 0, none⟩ = some (.float .f64 b.re) := by rw [hK1.1 _ _ (by simp)]; simp
  have hc1 : V1.cell? ⟨w.heap.size + 1, 1, none⟩ = some (.float .f64 b.im) := by rw [hK1.1 _ _ (by simp)]; simp
  have r0 : V1.cell? ⟨k1, 0, none⟩ = some (.float .f64 z1.re) := hcell 0 _ rfl
  have r1 : V1.cell? ⟨k1, 1, none⟩ = some (.float .f64 z1.im) := hcell 1 _ rfl
  have HB1 : Hid (Below w.heap.size w V1 ∧ z1.v = mulV a.v b.v) := ⟨Below.trans (by (repeat' (first | (with_reducible exact Below.refl _ _) | (with_reducible assumption) | (with_reducible refine Below.setCell ?_ ?_ _) | (with_reducible refine Below.alloc ?_ ?_ _) | (with_reducible refine below_drewN ?_ _) | (with_reducible refine Below.drew ?_) | (with_reducible exact Nat.le_refl _) | omega | (simp; done) | (simp; omega)))) (hK1.2.mono (by simp; omega)), hz1⟩
  have l0 : w.heap.size < V1.heap.size := by have := hK1.2.size; simp at this; omega
  have l1 : w.heap.size + 1 < V1.heap.size := by have := hK1.2.size; simp at this; omega
  have l2 : k1 < V1.heap.size := hk2
  clear hcell hK1 hk1 hk2 hz1
  go_wp2_with (fail)
  refine wp_region_float (by kernel_rfl) (fun hS => ?_)
  refine fl_take (i := 0) (d := 12) (v := .agg #[.float .f64 a.re, .float .f64 a.im]) rfl rfl rfl (by kernel_rfl) (by kernel_rfl) (by kernel_rfl) hS ?_ ?_
  · intro w' hk; go_simp
  simp only [Act.put, List.setIfInBounds_toArray, List.set_cons_zero, List.set_cons_succ]
  refine fl_take (i := 2) (d := 14) (v := .agg #[.float .f64 b.re, .float .f64 b.im]) rfl rfl rfl (by kernel_rfl) (by kernel_rfl) (by kernel_rfl) hS ?_ ?_
  · intro w' hk; go_simp
  simp only [Act.put, List.setIfInBounds_toArray, List.set_cons_zero, List.set_cons_succ]
  refine float_pend (z := #[.float .f64 0, .float .f64 0]) (T := 26) (ja := 5) (js := 6) rfl rfl rfl rfl rfl (fun a w => by go_simp) [1, 3, 4] _ _ _ (fun _ => False) (by kernel_rfl) (by kernel_rfl) ?_ (Nat.le_refl _) (fun _ h => h.elim) hS
  intro W1 hW1
  refine ⟨_, 13, _, _, rfl, rfl, by go_simp, (toZ_any a _).mono ?_⟩
  rintro e w1 ⟨rfl, hb1⟩
  refine ⟨_, rfl, hb1, ?_⟩
  simp only [Act.put, List.setIfInBounds_toArray, List.set_cons_zero, List.set_cons_succ]
  intro W2 hW2
  refine ⟨_, 15, _, _, rfl, rfl, by go_simp, (toZ_any b _).mono ?_⟩
  rintro e w2 ⟨rfl, hb2⟩
  refine ⟨_, rfl, hb2, ?_⟩
  simp only [Act.put, List.setIfInBounds_toArray, List.set_cons_zero, List.set_cons_succ]
  intro W3 hW3
  refine ⟨_, 16, _, _, rfl, rfl, by go_simp, (impl_mul a b _).mono ?_⟩
  rintro e w3 ⟨z2, rfl, hz2, hb3⟩
  refine ⟨_, rfl, hb3, ?_⟩
  simp only [Act.put, List.setIfInBounds_toArray, List.set_cons_zero, List.set_cons_succ]
  unfold Fl
  refine after_store ?_ _ _ _ #[.float .f64 z2.re, .float .f64 z2.im] (by rfl) (by rfl) (fun _ => by rfl) (fun _ => by rfl) (by simp) (by kernel_rfl) (by simp [Value.oneCell']) ?_
  · exact Nat.le_refl _
  intro k2 V2 hK2 hk1 hk2 hF hoth hsz hcell
  simp only [Act.put, List.setIfInBounds_toArray, List.set_cons_zero, List.set_cons_succ]
  refine NoPanic.normal ?_
  clear hF hoth hsz hW1 hb1 hW2 hb2 hW3 hb3 hS w1 w2 w3 W1 W2 W3
  have q0 : V2.cell? ⟨k1, 0, none⟩ = some (.float .f64 z1.re) := by rw [hK2.1 _ _ l2]; exact r0
  have q1 : V2.cell? ⟨k1, 1, none⟩ = some (.float .f64 z1.im) := by rw [hK2.1 _ _ l2]; exact r1
  have s0 : V2.cell? ⟨k2, 0, none⟩ = some (.float .f64 z2.re) := hcell 0 _ rfl
  have s1 : V2.cell? ⟨k2, 1, none⟩ = some (.float .f64 z2.im) := hcell 1 _ rfl
  have HB2 : Hid (Below w.heap.size w V2 ∧ z2.v = z1.v) := ⟨HB1.out.1.trans (hK2.2.mono HB1.out.1.size), hz2.trans HB1.out.2.symm⟩
  clear hcell hK2 hk1 hk2 ha0 ha1 hc0 hc1 r0 r1 hz2
  go_wp2_with (fail)
  refine (eqZ_any z2 z1 (congrArg Zv.re HB2.out.2) (congrArg Zv.im HB2.out.2) _).mono ?_
  rintro e w3 ⟨rfl, hb3⟩
  go_wp2
  go_returns
  exact ⟨rfl, HB2.out.1.trans (hb3.mono HB2.out.1.size)⟩

set_option maxRecDepth 100000 in
theorem mz_lifted (os : Os) (started : os.Started) (H : Type) (enc : TypeId × Value → H) :
    ReturnsInHanded {} Try.checked os 4 .any (Rows.fnExactMulZSpec.pre6 enc Try.prog Try.f4 Rows.fnExactMulZRow.domain false) (Rows.fnExactMulZSpec.post enc Try.prog Try.f4 false true false false) := by
  refine returnsInHanded_of_change (C := Try.checked) own started (by kernel_rfl) Try.func4
    (ChangeSpec.witness6 (enc := enc) (C := Try.checked) false ⟨#[], #[.agg #[.float .f64 0, .float .f64 0], .agg #[.float .f64 0, .float .f64 0]], []⟩ 8 (by kernel_rfl) (by kernel_rfl) (by kernel_rfl) (by kernel_rfl)) ?_
  intro W base args ds gs before hval0 hW hcnd _
  have hval : ∀ (j : Nat) t v, Try.f4.params[j]? = some t → args[j]? = some v → Value.okWide Try.prog W .any base t v := hval0
  have hW' := hW
  obtain ⟨p, q, hA0, hV, rfl, hfz, hnd⟩ := hW
  have hA : DataW.TrodAll enc Try.prog W 0 (fun _ => true) true Try.f4.params.toList args.toList ds p := hA0
  rw [Try.params4] at hA hval
  obtain ⟨v0, vs0, d0, ds0, p0, q0, hargs, rfl, rfl, h0, r0⟩ := trodAll_cons hA
  obtain ⟨v1, vs1, d1, ds1, p1, q1, rfl, rfl, rfl, h1, r1⟩ := trodAll_cons r0
  obtain ⟨rfl, rfl, rfl⟩ := trodAll_nil r1
  obtain rfl : args = #[v0, v1] := by cases args; simp_all
  obtain ⟨rfl, rfl⟩ := trodVars_none hV
  have k0 := h0
  have lt0 : ∀ x ∈ p0, x.block < W.heap.size := by obtain ⟨m, hm⟩ := k0; exact DataW.trod_lt m _ _ _ hm
  obtain ⟨z0, rfl⟩ := z_open (hval 0 24 v0 rfl rfl) h0
  have k1 := h1
  have lt1 : ∀ x ∈ p1, x.block < W.heap.size := by obtain ⟨m, hm⟩ := k1; exact DataW.trod_lt m _ _ _ hm
  obtain ⟨z1, rfl⟩ := z_open (hval 1 24 v1 rfl rfl) h1
  clear hA0 hval0
  refine (law_mz z0 z1 W).mono fun e W' ⟨he, hg⟩ => ?_
  subst he
  exact ⟨_, rfl, _, _, _, [], _, [], hW', trodAll_mk1 (shut_bool Try.underlying4 _), (trodAll_cons_mk (Below.trod laidOut (by kernel_rfl) (of_decide_eq_true (by kernel_rfl)) k0 hg lt0) (trodAll_cons_mk (Below.trod laidOut (by kernel_rfl) (of_decide_eq_true (by kernel_rfl)) k1 hg lt1) trodAll_mk0)), rfl, hg.frame _, fun h => by cases h⟩

theorem mz_over : Rows.fnExactMulZRow.holds Try.pinned (OpenSpec.ofChange Rows.fnExactMulZSpec) :=
  OpenClaim.holds_of_wide 4 Try.f4 rfl rfl rfl rfl rfl rfl rfl ⟨rfl, rfl, rfl, rfl, rfl⟩ rfl rfl rfl rfl rfl (by kernel_rfl) Try.func4 (by kernel_rfl)
    (of_decide_eq_true (by kernel_rfl)) (by unfold Func.isWrapper; first | (rw [if_pos (by decide +kernel)]; kernel_rfl) | (rw [if_neg (by decide +kernel)]; exact ⟨rfl, rfl⟩))
    (fun os started H enc _ => mz_lifted os started H enc)

theorem mz_proved : Rows.FnExactMulZSaid :=
  mz_over
#print axioms mz_proved

end Go.Proofs.Ytcjednfcfobblaa
