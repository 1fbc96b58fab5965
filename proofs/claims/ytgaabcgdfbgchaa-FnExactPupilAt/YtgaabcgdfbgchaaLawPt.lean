/- Proved here: 'the program's PupilAt answers as the model's; it writes into no argument', for every pupil and order, without a condition. -/
import Derived.Test.YtgaabcgdfbgchaaPaI
import Derived.Test.YtgaabcgdfbgchaaFloat
import Derived.Test.YtgaabcgdfbgchaaRows
namespace Go.Proofs.Ytgaabcgdfbgchaa
open Go.ChangeShapes Go.WideShapes Go.ChangeAt Go.RowKit Go.Joins
set_option linter.unusedVariables false
set_option linter.unusedSimpArgs false


set_option maxHeartbeats 6400000 in
theorem law_pt {a : Option Addr} {n c : Nat} (C F : Int) (s : List Int) (hm : n ≤ maxLen) {w : World} (h : RdI w (.slice a n c) s) (o : Int) :
    Calls Try.prog 5 #[.agg #[.int .i64 C, .int .i64 F, .slice a n c], .int .i64 o] w fun e w' => e = .returned (.bool true) ∧ Below w.heap.size w w' := by
  have hns : n = s.length := h.len
  obtain ⟨BX, hBX⟩ : ∃ BX, BX = Obj.cells #[.int .i64 C, .int .i64 F, .slice a n c] 42 := ⟨_, rfl⟩
  have H : Hid (RdI w (.slice a n c) s ∧ n = s.length ∧ n ≤ maxLen ∧ BX = Obj.cells #[.int .i64 C, .int .i64 F, .slice a n c] 42) := ⟨h, hns, hm, hBX⟩
  clear h hns hm hBX
  have two : ∀ {W : World}, SB w BX W → W.cell? ⟨w.heap.size, 0, none⟩ = some (.int .i64 C) ∧ W.cell? ⟨w.heap.size, 1, none⟩ = some (.int .i64 F) ∧ W.cell? ⟨w.heap.size, 2, none⟩ = some (.slice a n c) ∧ (∀ i, W.frozen? ⟨w.heap.size, i, none⟩ = false) ∧ w.heap.size < W.heap.size := fun h => three_at (by rw [h.bx, H.out.2.2.2])
  have TW : Hid _ := @two
  clear two
  go_enter Try.func5, Try.ntmps5
  go_wp2_with (fail)
  refine (szPupil_gen C F a n c 1048576 _ (by omega) (by omega) H.out.2.2.1).mono ?_
  rintro e w0 ⟨r, rfl, hr, hb0⟩
  have B0 : Hid (SB w BX w0) := by unfold Hid; rw [H.out.2.2.2]; exact (SB.new w _).next hb0
  clear hb0
  rcases hr with hneg | ⟨h1, h2, h3⟩
  · go_wp2
    go_returns
    exact ⟨rfl, B0.out.bl⟩
  have hr0 : ¬ r < 0 := by omega
  have hn20 : s.length ≤ 1048576 := by rw [← H.out.2.1]; omega
  have HS : Hid (s.length ≤ 1048576) := hn20
  clear hn20
  obtain ⟨p0, p1, p2, pf, pl⟩ := TW.out B0.out
  go_wp2_with (fail)
  refine (toPupil_any C F HS.out (H.out.1.below B0.out.bl)).mono ?_
  rintro e w1 ⟨g1, rfl, hk1, hb1⟩
  have R1 : Hid (RdI w1 (.slice (some ⟨g1, 0, none⟩) s.length s.length) s ∧ SB w BX w1) := ⟨hk1.rg, B0.out.next hb1⟩
  clear hk1 hb1  p0 p1 p2 pf pl
  go_wp2_with (fail)
  refine (spec_pa C F o R1.out.1).mono ?_
  rintro e w2 ⟨z1, rfl, hz1, hb2⟩
  have B2 : Hid (SB w BX (w2.alloc (Obj.cells #[.float .f64 z1.re, .float .f64 z1.im] 24)) ∧ z1.v = puV C F s o) := ⟨(R1.out.2.next hb2).next (by (repeat' (first | (with_reducible exact Below.refl _ _) | (with_reducible assumption) | (with_reducible refine Below.setCell ?_ ?_ _) | (with_reducible refine Below.alloc ?_ ?_ _) | (with_reducible refine below_drewN ?_ _) | (with_reducible refine Below.drew ?_) | (with_reducible exact Nat.le_refl _) | omega | (simp; done) | (simp; omega)))), hz1⟩
  have k2 := (R1.out.2.next hb2)
  obtain ⟨p0, p1, p2, pf, pl⟩ := TW.out k2
  clear hb2 hz1 k2
  go_wp2_with (fail)
  refine (toPupil_any C F HS.out (H.out.1.below B2.out.1.bl)).mono ?_
  rintro e w3 ⟨g3, rfl, hk3, hb3⟩
  have K0 : Hid (w3.heap[w2.heap.size]? = some (Obj.cells #[.float .f64 z1.re, .float .f64 z1.im] 24) ∧ w2.heap.size < w3.heap.size) := ⟨(hb3.block _ (by simp)).trans (heap_alloc_new w2 _), by have := hb3.size; simp at this; omega⟩
  have R3 : Hid (RdI w3 (.slice (some ⟨g3, 0, none⟩) s.length s.length) s ∧ SB w BX w3) := ⟨hk3.rg, B2.out.1.next hb3⟩
  clear hk3 hb3 p0 p1 p2 pf pl
  go_wp2_with (fail)
  refine (impl_pa C F o (R3.out.1.below (by (repeat' (first | (with_reducible exact Below.refl _ _) | (with_reducible assumption) | (with_reducible refine Below.setCell ?_ ?_ _) | (with_reducible refine Below.alloc ?_ ?_ _) | (with_reducible refine below_drewN ?_ _) | (with_reducible refine Below.drew ?_) | (with_reducible exact Nat.le_refl _) | omega | (simp; done) | (simp; omega)))))).mono ?_
  rintro e w4 ⟨z2, rfl, hz2, hb4⟩
  have k3 := (hb4.block w3.heap.size (by simp)).trans (heap_alloc_new w3 _)
  have hb4' : Below w3.heap.size w3 w4 := Below.trans (by (repeat' (first | (with_reducible exact Below.refl _ _) | (with_reducible assumption) | (with_reducible refine Below.setCell ?_ ?_ _) | (with_reducible refine Below.alloc ?_ ?_ _) | (with_reducible refine below_drewN ?_ _) | (with_reducible refine Below.drew ?_) | (with_reducible exact Nat.le_refl _) | omega | (simp; done) | (simp; omega)))) (hb4.mono (by simp))
  have k2 := (hb4'.block _ K0.out.2).trans K0.out.1
  have B4 : Hid (RdI w4 (.slice (some ⟨g3, 0, none⟩) s.length s.length) s ∧ SB w BX w4 ∧ w4.heap[w3.heap.size]? = some (Obj.cells #[.int .i64 C, .int .i64 F, .slice (some ⟨g3, 0, none⟩) s.length s.length] 45) ∧ z2.v = z1.v) := ⟨R3.out.1.below hb4', R3.out.2.next hb4', k3, hz2.trans B2.out.2.symm⟩
  obtain ⟨y0, y1, yf, yl⟩ := z_two k2
  clear hb4 hb4' k3 k2 hz2
  go_wp2_with (fail)
  clear y0 y1 yf yl
  refine (eqZ_any z2 z1 (congrArg Zv.re B4.out.2.2.2) (congrArg Zv.im B4.out.2.2.2) _).mono ?_
  rintro e w4' ⟨rfl, hb4⟩
  have hA : Below w4.heap.size w4 w4' := Below.trans (by (repeat' (first | (with_reducible exact Below.refl _ _) | (with_reducible assumption) | (with_reducible refine Below.setCell ?_ ?_ _) | (with_reducible refine Below.alloc ?_ ?_ _) | (with_reducible refine below_drewN ?_ _) | (with_reducible refine Below.drew ?_) | (with_reducible exact Nat.le_refl _) | omega | (simp; done) | (simp; omega)))) (hb4.mono (by simp))
  have B4' : Hid (RdI w4' (.slice (some ⟨g3, 0, none⟩) s.length s.length) s ∧ SB w BX w4' ∧ w4'.heap[w3.heap.size]? = some (Obj.cells #[.int .i64 C, .int .i64 F, .slice (some ⟨g3, 0, none⟩) s.length s.length] 45)) := ⟨B4.out.1.below hA, B4.out.2.1.next hA, (hA.block _ (three_at B4.out.2.2.1).2.2.2.2).trans B4.out.2.2.1⟩
  clear hb4 hA B4
  obtain ⟨p0, p1, p2, pf, pl⟩ := TW.out B4'.out.2.1
  obtain ⟨x0, x1, x2, xf, xl⟩ := three_at B4'.out.2.2
  go_wp2_with (fail)
  refine wp_region_float (by kernel_rfl) (fun hS => ?_)
  refine fl_take (i := 0) (d := 27) (v := .agg #[.int .i64 C, .int .i64 F, .slice (some ⟨g3, 0, none⟩) s.length s.length]) rfl rfl rfl (by kernel_rfl) (by kernel_rfl) (by kernel_rfl) hS ?_ ?_
  · intro w' hk; go_simp
  simp only [Act.put, List.setIfInBounds_toArray, List.set_cons_zero, List.set_cons_succ]
  refine fl_take (i := 1) (d := 28) (v := .agg #[.int .i64 C, .int .i64 F, .slice a n c]) rfl rfl rfl (by kernel_rfl) (by kernel_rfl) (by kernel_rfl) hS ?_ ?_
  · intro w' hk; go_simp
  simp only [Act.put, List.setIfInBounds_toArray, List.set_cons_zero, List.set_cons_succ]
  refine wpAnyH_all (rs := [2]) (by kernel_rfl) (by simp) ?_
  intro i hi
  obtain rfl : i = 2 := by simpa using hi
  refine op_call (d := 29) rfl rfl rfl (by go_simp) ((toPupil_any C F HS.out ((H.out.1.below B4'.out.2.1.bl).below (Below.refl _ _).drew)).mono ?_)
  rintro e w5 ⟨g5, rfl, hk5, hb5⟩
  have hK5 : KS w4' w5 := hS.call hb5
  refine ⟨_, rfl, hK5, ?_⟩
  simp only [Act.put, List.setIfInBounds_toArray, List.set_cons_zero, List.set_cons_succ]
  refine wpAnyH_all (rs := [3]) (by kernel_rfl) (by simp) ?_
  intro i hi
  obtain rfl : i = 3 := by simpa using hi
  refine op_call (d := 30) rfl rfl rfl (by go_simp) ((eqPupil_same C F (by have := HS.out; omega) (B4'.out.1.below hK5.2) hk5.rg).mono ?_)
  rintro e w6 ⟨rfl, hb6⟩
  have hK6 : KS w4' w6 := hK5.call hb6
  refine ⟨_, rfl, hK6, ?_⟩
  simp only [Act.put, List.setIfInBounds_toArray, List.set_cons_zero, List.set_cons_succ]
  refine wpAnyH_all (rs := [4]) (by kernel_rfl) (by simp) ?_
  intro i hi
  obtain rfl : i = 4 := by simpa using hi
  refine op_val (d := 31) (v := .bool false) rfl rfl rfl (by go_simp; try rfl) ?_
  simp only [Act.put, List.setIfInBounds_toArray, List.set_cons_zero, List.set_cons_succ]
  refine ⟨hK6, wpAnyH_done (by kernel_rfl) (NoPanic.normal ?_) _⟩
  have B6 : Hid (Below w.heap.size w w6) := B4'.out.2.1.bl.trans (hK6.2.mono B4'.out.2.1.bl.size)
  clear hK6 hK5 hb5 hb6 hk5 hS p0 p1 p2 pf pl x0 x1 x2 xf xl
  go_wp2
  go_returns
  exact ⟨rfl, B6.out⟩

set_option maxRecDepth 100000 in
theorem pt_lifted (os : Os) (started : os.Started) (H : Type) (enc : TypeId × Value → H) :
    ReturnsInHanded {} Try.checked os 5 .any (Rows.fnExactPupilAtSpec.pre6 enc Try.prog Try.f5 Rows.fnExactPupilAtRow.domain false) (Rows.fnExactPupilAtSpec.post enc Try.prog Try.f5 false true false false) := by
  refine returnsInHanded_of_change (C := Try.checked) own started (by kernel_rfl) Try.func5
    (ChangeSpec.witness6 (enc := enc) (C := Try.checked) false ⟨#[], #[.agg #[.int .i64 0, .int .i64 0, .slice none 0 0], .int .i64 0], []⟩ 8 (by kernel_rfl) (by kernel_rfl) (by kernel_rfl) (by kernel_rfl)) ?_
  intro W base args ds gs before hval0 hW hcnd _
  have hval : ∀ (j : Nat) t v, Try.f5.params[j]? = some t → args[j]? = some v → Value.okWide Try.prog W .any base t v := hval0
  have hW' := hW
  obtain ⟨p, q, hA0, hV, rfl, hfz, hnd⟩ := hW
  have hA : DataW.TrodAll enc Try.prog W 0 (fun _ => true) true Try.f5.params.toList args.toList ds p := hA0
  rw [Try.params5] at hA hval
  obtain ⟨v0, vs0, d0, ds0, p0, q0, hargs, rfl, rfl, h0, r0⟩ := trodAll_cons hA
  obtain ⟨v1, vs1, d1, ds1, p1, q1, rfl, rfl, rfl, h1, r1⟩ := trodAll_cons r0
  obtain ⟨rfl, rfl, rfl⟩ := trodAll_nil r1
  obtain rfl : args = #[v0, v1] := by cases args; simp_all
  obtain ⟨rfl, rfl⟩ := trodVars_none hV
  have k0 := h0
  have lt0 : ∀ x ∈ p0, x.block < W.heap.size := by obtain ⟨m, hm⟩ := k0; exact DataW.trod_lt m _ _ _ hm
  obtain ⟨C0, F0, sa0, sn0, sc0, s0, rfl, ri0, sl0⟩ := pupil_open (hval 0 42 v0 rfl rfl) h0
  obtain ⟨n1, rfl, rfl, rfl, wn1⟩ := open_int Try.underlying2 (hval 1 2 v1 rfl rfl) h1
  clear hA0 hval0
  refine (law_pt C0 F0 s0 sl0 ri0 n1).mono fun e W' ⟨he, hg⟩ => ?_
  subst he
  exact ⟨_, rfl, _, _, _, [], _, [], hW', trodAll_mk1 (shut_bool Try.underlying4 _), (trodAll_cons_mk (Below.trod laidOut (by kernel_rfl) (of_decide_eq_true (by kernel_rfl)) k0 hg lt0) (trodAll_cons_mk (shut_int Try.underlying2 wn1) trodAll_mk0)), rfl, hg.frame _, fun h => by cases h⟩

theorem pt_over : Rows.fnExactPupilAtRow.holds Try.pinned (OpenSpec.ofChange Rows.fnExactPupilAtSpec) :=
  OpenClaim.holds_of_wide 5 Try.f5 rfl rfl rfl rfl rfl rfl rfl ⟨rfl, rfl, rfl, rfl, rfl⟩ rfl rfl rfl rfl rfl (by kernel_rfl) Try.func5 (by kernel_rfl)
    (of_decide_eq_true (by kernel_rfl)) (by unfold Func.isWrapper; first | (rw [if_pos (by decide +kernel)]; kernel_rfl) | (rw [if_neg (by decide +kernel)]; exact ⟨rfl, rfl⟩))
    (fun os started H enc _ => pt_lifted os started H enc)

theorem pt_proved : Rows.FnExactPupilAtSaid :=
  pt_over
#print axioms pt_proved

end Go.Proofs.Ytgaabcgdfbgchaa
