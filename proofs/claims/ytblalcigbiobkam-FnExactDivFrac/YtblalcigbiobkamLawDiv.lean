/- Proved here: 'the program's DivFrac answers as the model's', for every two fractions, without a condition. -/
import Derived.Test.YtblalcigbiobkamDivFrac
import Derived.Test.YtblalcigbiobkamLawBase
import Derived.Test.YtblalcigbiobkamFloat
namespace Go.Proofs.Ytblalcigbiobkam
open Go.ChangeShapes Go.WideShapes Go.ChangeAt Go.RowKit Go.Joins
set_option linter.unusedVariables false
set_option linter.unusedSimpArgs false

set_option maxHeartbeats 4000000 in
theorem law_di (a b c d : Int) (w : World) :
    Calls Try.prog 3 #[.agg #[.int .i64 a, .int .i64 b], .agg #[.int .i64 c, .int .i64 d]] w fun e w' => e = .returned (.bool true) ∧ Below w.heap.size w w' := by
  obtain ⟨C, X, Y, hs, hi⟩ := di_both a b c d
  have Hs : Hid _ := hs
  have Hi : Hid _ := hi
  clear hs hi
  have hz : w.heap.size < w.heap.size + 1 + 1 := by omega
  go_enter Try.func3, Try.ntmps3
  go_wp2_with (fail)
  refine wp_region_float (by kernel_rfl) (fun hS => ?_)
  refine fl_take (i := 0) (d := 7) (v := .agg #[.int .i64 a, .int .i64 b]) rfl rfl rfl (by kernel_rfl) (by kernel_rfl) (by kernel_rfl) hS ?_ ?_
  · intro w' hk; go_simp
  simp only [Act.put, List.setIfInBounds_toArray, List.set_cons_zero, List.set_cons_succ]
  refine fl_take (i := 2) (d := 9) (v := .agg #[.int .i64 c, .int .i64 d]) rfl rfl rfl (by kernel_rfl) (by kernel_rfl) (by kernel_rfl) hS ?_ ?_
  · intro w' hk; go_simp
  simp only [Act.put, List.setIfInBounds_toArray, List.set_cons_zero, List.set_cons_succ]
  refine float_pend (z := #[.int .i64 0, .int .i64 0, .int .i64 0]) (T := 26) (ja := 5) (js := 6) rfl rfl rfl rfl rfl (fun a w => by go_simp) [1, 3, 4] _ _ _ (fun _ => False) (by kernel_rfl) (by kernel_rfl) ?_ (Nat.le_refl _) (fun _ h => h.elim) hS
  intro W1 hW1
  refine ⟨_, 8, _, _, rfl, rfl, by go_simp, (toFrac_any a b _).mono ?_⟩
  rintro e w1 ⟨rfl, hb1⟩
  refine ⟨_, rfl, hb1, ?_⟩
  simp only [Act.put, List.setIfInBounds_toArray, List.set_cons_zero, List.set_cons_succ]
  intro W2 hW2
  refine ⟨_, 10, _, _, rfl, rfl, by go_simp, (toFrac_any c d _).mono ?_⟩
  rintro e w2 ⟨rfl, hb2⟩
  refine ⟨_, rfl, hb2, ?_⟩
  simp only [Act.put, List.setIfInBounds_toArray, List.set_cons_zero, List.set_cons_succ]
  intro W3 hW3
  refine ⟨_, 11, _, _, rfl, rfl, by go_simp, (Hs.out _).mono ?_⟩
  rintro e w3 ⟨rfl, hb3⟩
  refine ⟨_, rfl, hb3, ?_⟩
  simp only [Act.put, List.setIfInBounds_toArray, List.set_cons_zero, List.set_cons_succ]
  unfold Fl
  refine after_store ?_ _ _ _ #[.int .i64 C, .int .i64 X, .int .i64 Y] (by rfl) (by rfl) (fun _ => by rfl) (fun _ => by rfl) (by simp) (by kernel_rfl) (by simp [Value.oneCell']) ?_
  · exact Nat.le_refl _
  intro k1 V1 hK1 hk1 hk2 hF hoth hsz hcell
  simp only [Act.put, List.setIfInBounds_toArray, List.set_cons_zero, List.set_cons_succ]
  refine NoPanic.normal ?_
  clear hF hoth hsz hW1 hb1 hW2 hb2 hW3 hb3 hS w1 w2 w3 W1 W2 W3
  have ha0 : V1.cell? ⟨w.heap.size, 0, none⟩ = some (.int .i64 a) := by rw [hK1.1 _ _ (by simp; omega)]; simp
  have ha1 : V1.cell? ⟨w.heap.size, 1, none⟩ = some (.int .i64 b) := by rw [hK1.1 _ _ (by simp; omega)]; simp
  have hc0 : V1.cell? ⟨w.heap.size + 1, 0, none⟩ = some (.int .i64 c) := by rw [hK1.1 _ _ (by simp)]; simp
  have hc1 : V1.cell? ⟨w.heap.size + 1, 1, none⟩ = some (.int .i64 d) := by rw [hK1.1 _ _ (by simp)]; simp
  have r0 : V1.cell? ⟨k1, 0, none⟩ = some (.int .i64 C) := hcell 0 _ rfl
  have r1 : V1.cell? ⟨k1, 1, none⟩ = some (.int .i64 X) := hcell 1 _ rfl
  have r2 : V1.cell? ⟨k1, 2, none⟩ = some (.int .i64 Y) := hcell 2 _ rfl
  have HB1 : Hid (Below w.heap.size w V1) := Below.trans (by (repeat' (first | (with_reducible exact Below.refl _ _) | (with_reducible assumption) | (with_reducible refine Below.setCell ?_ ?_ _) | (with_reducible refine Below.alloc ?_ ?_ _) | (with_reducible refine below_drewN ?_ _) | (with_reducible refine Below.drew ?_) | (with_reducible exact Nat.le_refl _) | omega | (simp; done) | (simp; omega)))) (hK1.2.mono (by simp; omega))
  have l0 : w.heap.size < V1.heap.size := by have := hK1.2.size; simp at this; omega
  have l1 : w.heap.size + 1 < V1.heap.size := by have := hK1.2.size; simp at this; omega
  have l2 : k1 < V1.heap.size := hk2
  clear hcell hK1 hk1 hk2
  go_wp2_with (fail)
  refine wp_region_float (by kernel_rfl) (fun hS => ?_)
  refine fl_take (i := 0) (d := 12) (v := .agg #[.int .i64 a, .int .i64 b]) rfl rfl rfl (by kernel_rfl) (by kernel_rfl) (by kernel_rfl) hS ?_ ?_
  · intro w' hk; go_simp
  simp only [Act.put, List.setIfInBounds_toArray, List.set_cons_zero, List.set_cons_succ]
  refine fl_take (i := 2) (d := 14) (v := .agg #[.int .i64 c, .int .i64 d]) rfl rfl rfl (by kernel_rfl) (by kernel_rfl) (by kernel_rfl) hS ?_ ?_
  · intro w' hk; go_simp
  simp only [Act.put, List.setIfInBounds_toArray, List.set_cons_zero, List.set_cons_succ]
  refine float_pend (z := #[.int .i64 0, .int .i64 0, .int .i64 0]) (T := 26) (ja := 5) (js := 6) rfl rfl rfl rfl rfl (fun a w => by go_simp) [1, 3, 4] _ _ _ (fun _ => False) (by kernel_rfl) (by kernel_rfl) ?_ (Nat.le_refl _) (fun _ h => h.elim) hS
  intro W1 hW1
  refine ⟨_, 13, _, _, rfl, rfl, by go_simp, (toFrac_any a b _).mono ?_⟩
  rintro e w1 ⟨rfl, hb1⟩
  refine ⟨_, rfl, hb1, ?_⟩
  simp only [Act.put, List.setIfInBounds_toArray, List.set_cons_zero, List.set_cons_succ]
  intro W2 hW2
  refine ⟨_, 15, _, _, rfl, rfl, by go_simp, (toFrac_any c d _).mono ?_⟩
  rintro e w2 ⟨rfl, hb2⟩
  refine ⟨_, rfl, hb2, ?_⟩
  simp only [Act.put, List.setIfInBounds_toArray, List.set_cons_zero, List.set_cons_succ]
  intro W3 hW3
  refine ⟨_, 16, _, _, rfl, rfl, by go_simp, (Hi.out _).mono ?_⟩
  rintro e w3 ⟨rfl, hb3⟩
  refine ⟨_, rfl, hb3, ?_⟩
  simp only [Act.put, List.setIfInBounds_toArray, List.set_cons_zero, List.set_cons_succ]
  unfold Fl
  refine after_store ?_ _ _ _ #[.int .i64 C, .int .i64 X, .int .i64 Y] (by rfl) (by rfl) (fun _ => by rfl) (fun _ => by rfl) (by simp) (by kernel_rfl) (by simp [Value.oneCell']) ?_
  · exact Nat.le_refl _
  intro k2 V2 hK2 hk1 hk2 hF hoth hsz hcell
  simp only [Act.put, List.setIfInBounds_toArray, List.set_cons_zero, List.set_cons_succ]
  refine NoPanic.normal ?_
  clear hF hoth hsz hW1 hb1 hW2 hb2 hW3 hb3 hS w1 w2 w3 W1 W2 W3
  have q0 : V2.cell? ⟨k1, 0, none⟩ = some (.int .i64 C) := by rw [hK2.1 _ _ l2]; exact r0
  have q1 : V2.cell? ⟨k1, 1, none⟩ = some (.int .i64 X) := by rw [hK2.1 _ _ l2]; exact r1
  have q2 : V2.cell? ⟨k1, 2, none⟩ = some (.int .i64 Y) := by rw [hK2.1 _ _ l2]; exact r2
  have s0 : V2.cell? ⟨k2, 0, none⟩ = some (.int .i64 C) := hcell 0 _ rfl
  have s1 : V2.cell? ⟨k2, 1, none⟩ = some (.int .i64 X) := hcell 1 _ rfl
  have s2 : V2.cell? ⟨k2, 2, none⟩ = some (.int .i64 Y) := hcell 2 _ rfl
  have HB2 : Hid (Below w.heap.size w V2) := HB1.out.trans (hK2.2.mono HB1.out.size)
  clear hcell hK2 hk1 hk2 ha0 ha1 hc0 hc1 r0 r1 r2
  go_wp2_with (fail)
  refine (eqFR_same _ _ _ _).mono ?_
  rintro e w3 ⟨rfl, hb3⟩
  go_wp2
  go_returns
  exact ⟨rfl, HB2.out.trans (hb3.mono HB2.out.size)⟩

set_option maxRecDepth 100000 in
theorem di_lifted (os : Os) (started : os.Started) (H : Type) (enc : TypeId × Value → H) :
    ReturnsInHanded {} Try.checked os 3 .any (Rows.fnExactDivFracSpec.pre6 enc Try.prog Try.f3 Rows.fnExactDivFracRow.domain false) (Rows.fnExactDivFracSpec.post enc Try.prog Try.f3 false true false false) := by
  refine returnsInHanded_of_change (C := Try.checked) own started (by kernel_rfl) Try.func3
    (ChangeSpec.witness6 (enc := enc) (C := Try.checked) false ⟨#[], #[.agg #[.int .i64 0, .int .i64 0], .agg #[.int .i64 0, .int .i64 0]], []⟩ 8 (by kernel_rfl) (by kernel_rfl) (by kernel_rfl) (by kernel_rfl)) ?_
  intro W base args ds gs before hval0 hW hcnd _
  have hval : ∀ (j : Nat) t v, Try.f3.params[j]? = some t → args[j]? = some v → Value.okWide Try.prog W .any base t v := hval0
  have hW' := hW
  obtain ⟨p, q, hA0, hV, rfl, hfz, hnd⟩ := hW
  have hA : DataW.TrodAll enc Try.prog W 0 (fun _ => true) true Try.f3.params.toList args.toList ds p := hA0
  rw [Try.params3] at hA hval
  obtain ⟨v0, vs0, d0, ds0, p0, q0, hargs, rfl, rfl, h0, r0⟩ := trodAll_cons hA
  obtain ⟨v1, vs1, d1, ds1, p1, q1, rfl, rfl, rfl, h1, r1⟩ := trodAll_cons r0
  obtain ⟨rfl, rfl, rfl⟩ := trodAll_nil r1
  obtain rfl : args = #[v0, v1] := by cases args; simp_all
  obtain ⟨rfl, rfl⟩ := trodVars_none hV
  obtain ⟨n0, m0, rfl, rfl, rfl, wn0, wm0⟩ := frac_open (hval 0 23 v0 rfl rfl) h0
  obtain ⟨n1, m1, rfl, rfl, rfl, wn1, wm1⟩ := frac_open (hval 1 23 v1 rfl rfl) h1
  clear hA0 hval0
  simp only [List.append_nil] at hW'
  refine (law_di n0 m0 n1 m1 W).mono fun e W' ⟨he, hg⟩ => ?_
  subst he
  refine ⟨_, rfl, _, _, _, [], [], [], hW', ?_, ?_, rfl, hg.frame _, fun h => by cases h⟩
  · exact trodAll_cons_mk (shut_bool Try.underlying4 _) trodAll_mk0
  · exact (trodAll_cons_mk (frac_shut wn0 wm0) (trodAll_cons_mk (frac_shut wn1 wm1) trodAll_mk0))

theorem di_over : Rows.fnExactDivFracRow.holds Try.pinned (OpenSpec.ofChange Rows.fnExactDivFracSpec) :=
  OpenClaim.holds_of_wide 3 Try.f3 rfl rfl rfl rfl rfl rfl rfl ⟨rfl, rfl, rfl, rfl, rfl⟩ rfl rfl rfl rfl rfl (by kernel_rfl) Try.func3 (by kernel_rfl)
    (of_decide_eq_true (by kernel_rfl)) (by unfold Func.isWrapper; first | (rw [if_pos (by decide +kernel)]; kernel_rfl) | (rw [if_neg (by decide +kernel)]; exact ⟨rfl, rfl⟩))
    (fun os started H enc _ => di_lifted os started H enc)

theorem di_proved : Rows.FnExactDivFracSaid :=
  di_over
#print axioms di_proved

end Go.Proofs.Ytblalcigbiobkam
