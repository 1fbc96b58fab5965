/- Proved here: 'the program's WiringFault answers as the model's; it writes into no argument', for every wiring, without a condition. -/
import Derived.Test.YtbfieehlekgjeaaWrF
import Derived.Test.YtbfieehlekgjeaaWrO
import Derived.Test.YtbfieehlekgjeaaFloat
import Derived.Test.YtbfieehlekgjeaaRows
namespace Go.Proofs.Ytbfieehlekgjeaa
open Go.ChangeShapes Go.WideShapes Go.ChangeAt Go.RowKit Go.Joins
set_option linter.unusedVariables false
set_option linter.unusedSimpArgs false

/-- A world behind one whose first block of its own is o. -/
structure SBW (w : World) (o : Obj) (W : World) : Prop where
  bl : Below w.heap.size w W
  bx : W.heap[w.heap.size]? = some o
theorem SBW.next {w : World} {o : Obj} {V V' : World} (h : SBW w o V) (hb : Below V.heap.size V V') : SBW w o V' := by
  have hlt : w.heap.size < V.heap.size := by
    rcases Nat.lt_or_ge w.heap.size V.heap.size with h' | h'
    · exact h'
    · have := h.bx; rw [Array.getElem?_eq_none h'] at this; cases this
  exact ⟨h.bl.trans (hb.mono h.bl.size), (hb.block _ hlt).trans h.bx⟩
theorem SBW.new (w : World) (o : Obj) : SBW w o (w.alloc o) := ⟨by (repeat' (first | (with_reducible exact Below.refl _ _) | (with_reducible assumption) | (with_reducible refine Below.setCell ?_ ?_ _) | (with_reducible refine Below.alloc ?_ ?_ _) | (with_reducible refine below_drewN ?_ _) | (with_reducible refine Below.drew ?_) | (with_reducible exact Nat.le_refl _) | omega | (simp; done) | (simp; omega))), heap_alloc_new w o⟩

set_option maxRecDepth 10000 in
set_option maxHeartbeats 3200000 in
theorem law_wf {w : World} {a b : Option Addr} {n c m e : Nat} (s : List (List Bx)) (t : List Vi) (h : RSS w (.slice a n c) s) (h' : RG 6 viC w (.slice b m e) t) (hm1 : n ≤ maxLen) (hm2 : m ≤ maxLen) (hok : ∀ j (h : j < s.length), okL s[j]) :
    Calls Try.prog 3 #[.agg #[.slice a n c, .slice b m e]] w fun e w' => e = .returned (.bool true) ∧ Below w.heap.size w w' := by
  obtain ⟨BX, hBX⟩ : ∃ BX, BX = Obj.cells #[.slice a n c, .slice b m e] 25 := ⟨_, rfl⟩
  have H : Hid ((RSS w (.slice a n c) s ∧ RG 6 viC w (.slice b m e) t) ∧ (n = s.length ∧ m = t.length) ∧ (n ≤ maxLen ∧ m ≤ maxLen) ∧ (∀ j (h : j < s.length), okL s[j])) := ⟨⟨h, h'⟩, ⟨h.len, h'.len⟩, ⟨hm1, hm2⟩, hok⟩
  have TW : Hid (∀ W : World, SBW w BX W → W.cell? ⟨w.heap.size, 0, none⟩ = some (.slice a n c) ∧ W.cell? ⟨w.heap.size, 1, none⟩ = some (.slice b m e) ∧ w.heap.size < W.heap.size) := fun W h => by have := h.bx; rw [hBX] at this; obtain ⟨x, y, _, z⟩ := two_atW this; exact ⟨x, y, z⟩
  have HN : Hid (SBW w BX (w.alloc (.cells #[.slice a n c, .slice b m e] 25))) := by rw [← hBX]; exact SBW.new w BX
  clear h h' hm1 hm2 hok hBX
  go_enter Try.func3, Try.ntmps3
  go_wp2_with (fail)
  refine (szWiring_gen a b n c m e s _ H.out.2.2.1.1 H.out.2.2.1.2 (H.out.1.1.below HN.out.bl) H.out.2.2.2).mono ?_
  rintro x w0 ⟨r, rfl, hr, hb0⟩
  have B0 : Hid (SBW w BX w0) := HN.out.next hb0
  clear hb0
  rcases hr with hneg | ⟨h1, h2, h3, h4⟩
  · go_wp2
    go_returns
    exact ⟨rfl, B0.out.bl⟩
  have hr0 : ¬ r < 0 := by omega
  have HS : Hid (s.length ≤ 1048576 ∧ t.length ≤ 1048576 ∧ ∀ j (h : j < s.length), smL 1048576 s[j]) := ⟨by rw [← H.out.2.1.1]; omega, by rw [← H.out.2.1.2]; omega, h4⟩
  clear h4
  obtain ⟨p0, p1, pl⟩ := TW.out _ B0.out
  go_wp2_with (fail)
  refine (toWiring_any HS.out.1 HS.out.2.1 HS.out.2.2 (H.out.1.1.below B0.out.bl) (H.out.1.2.below B0.out.bl)).mono ?_
  rintro x w1 ⟨g1, q1, rfl, hk1, hv1, hb1⟩
  have R1 : Hid (RSC w1 (.slice (some ⟨g1, 0, none⟩) s.length s.length) s ∧ RG 6 viC w1 (.slice (some ⟨q1, 0, none⟩) t.length t.length) t ∧ SBW w BX w1) := ⟨hk1, hv1, B0.out.next hb1⟩
  clear hk1 hv1 hb1 p0 p1 pl
  go_wp2_with (fail)
  refine (spec_wr HS.out.1 HS.out.2.1 R1.out.1.rss R1.out.2.1).mono ?_
  rintro x w2 ⟨rfl, hb2⟩
  have B2 : Hid (SBW w BX w2) := R1.out.2.2.next hb2
  clear hb2
  obtain ⟨p0, p1, pl⟩ := TW.out _ B2.out
  go_wp2_with (fail)
  refine (toWiring_any HS.out.1 HS.out.2.1 HS.out.2.2 (H.out.1.1.below B2.out.bl) (H.out.1.2.below B2.out.bl)).mono ?_
  rintro x w3 ⟨g3, q3, rfl, hk3, hv3, hb3⟩
  have R3 : Hid (RSC w3 (.slice (some ⟨g3, 0, none⟩) s.length s.length) s ∧ RG 6 viC w3 (.slice (some ⟨q3, 0, none⟩) t.length t.length) t ∧ SBW w BX w3) := ⟨hk3, hv3, B2.out.next hb3⟩
  clear hk3 hv3 hb3 p0 p1 pl
  go_wp2_with (fail)
  refine (impl_wr HS.out.1 HS.out.2.1 HS.out.2.2 (R3.out.1.below (by (repeat' (first | (with_reducible exact Below.refl _ _) | (with_reducible assumption) | (with_reducible refine Below.setCell ?_ ?_ _) | (with_reducible refine Below.alloc ?_ ?_ _) | (with_reducible refine below_drewN ?_ _) | (with_reducible refine Below.drew ?_) | (with_reducible exact Nat.le_refl _) | omega | (simp; done) | (simp; omega))))) (R3.out.2.1.below (by (repeat' (first | (with_reducible exact Below.refl _ _) | (with_reducible assumption) | (with_reducible refine Below.setCell ?_ ?_ _) | (with_reducible refine Below.alloc ?_ ?_ _) | (with_reducible refine below_drewN ?_ _) | (with_reducible refine Below.drew ?_) | (with_reducible exact Nat.le_refl _) | omega | (simp; done) | (simp; omega)))))).mono ?_
  rintro x w4 ⟨rfl, hb4⟩
  have k3 := (hb4.block w3.heap.size (by simp)).trans (heap_alloc_new w3 _)
  have hb4' : Below w3.heap.size w3 w4 := Below.trans (by (repeat' (first | (with_reducible exact Below.refl _ _) | (with_reducible assumption) | (with_reducible refine Below.setCell ?_ ?_ _) | (with_reducible refine Below.alloc ?_ ?_ _) | (with_reducible refine below_drewN ?_ _) | (with_reducible refine Below.drew ?_) | (with_reducible exact Nat.le_refl _) | omega | (simp; done) | (simp; omega)))) (hb4.mono (by simp))
  have B4 : Hid (RSC w4 (.slice (some ⟨g3, 0, none⟩) s.length s.length) s ∧ RG 6 viC w4 (.slice (some ⟨q3, 0, none⟩) t.length t.length) t ∧ SBW w BX w4) := ⟨R3.out.1.below hb4', R3.out.2.1.below hb4', R3.out.2.2.next hb4'⟩
  obtain ⟨p0, p1, pl⟩ := TW.out _ B4.out.2.2
  obtain ⟨x0, x1, xf, xl⟩ := two_atW k3
  clear hb4 hb4' k3
  go_wp2_with (fail)
  refine wp_region_float (by kernel_rfl) (fun hS => ?_)
  refine fl_take (i := 0) (d := 22) (v := .agg #[.slice (some ⟨g3, 0, none⟩) s.length s.length, .slice (some ⟨q3, 0, none⟩) t.length t.length]) rfl rfl rfl (by kernel_rfl) (by kernel_rfl) (by kernel_rfl) hS ?_ ?_
  · intro w' hk; go_simp
  simp only [Act.put, List.setIfInBounds_toArray, List.set_cons_zero, List.set_cons_succ]
  refine fl_take (i := 1) (d := 23) (v := .agg #[.slice a n c, .slice b m e]) rfl rfl rfl (by kernel_rfl) (by kernel_rfl) (by kernel_rfl) hS ?_ ?_
  · intro w' hk; go_simp
  simp only [Act.put, List.setIfInBounds_toArray, List.set_cons_zero, List.set_cons_succ]
  refine wpAnyH_all (rs := [2]) (by kernel_rfl) (by simp) ?_
  intro i hi'
  obtain rfl : i = 2 := by simpa using hi'
  refine op_call (d := 24) rfl rfl rfl (by go_simp) ((toWiring_any HS.out.1 HS.out.2.1 HS.out.2.2 ((H.out.1.1.below B4.out.2.2.bl).below hS.2) ((H.out.1.2.below B4.out.2.2.bl).below hS.2)).mono ?_)
  rintro x w5 ⟨g5, q5, rfl, hk5, hv5, hb5⟩
  have hK5 := hS.call hb5
  refine ⟨_, rfl, hK5, ?_⟩
  simp only [Act.put, List.setIfInBounds_toArray, List.set_cons_zero, List.set_cons_succ]
  refine wpAnyH_all (rs := [3]) (by kernel_rfl) (by simp) ?_
  intro i hi'
  obtain rfl : i = 3 := by simpa using hi'
  refine op_call (d := 25) rfl rfl rfl (by go_simp) ((eqWiring_same (by have := HS.out.1; omega) (by have := HS.out.2.1; omega) HS.out.2.2 (B4.out.1.rss.below hK5.2) (B4.out.2.1.below hK5.2) hk5.rss hv5).mono ?_)
  rintro x w6 ⟨rfl, hb6⟩
  have hK6 := hK5.call hb6
  refine ⟨_, rfl, hK6, ?_⟩
  simp only [Act.put, List.setIfInBounds_toArray, List.set_cons_zero, List.set_cons_succ]
  refine wpAnyH_all (rs := [4]) (by kernel_rfl) (by simp) ?_
  intro i hi'
  obtain rfl : i = 4 := by simpa using hi'
  refine op_val (d := 26) (v := .bool false) (w' := w6) rfl rfl rfl (by go_simp; try rfl) ?_
  simp only [Act.put, List.setIfInBounds_toArray, List.set_cons_zero, List.set_cons_succ]
  refine ⟨hK6, wpAnyH_done (by kernel_rfl) (NoPanic.normal ?_) _⟩
  have B6 : Hid (Below w.heap.size w w6) := B4.out.2.2.bl.trans (hK6.2.mono B4.out.2.2.bl.size)
  clear hK6 hK5 hb5 hb6 hk5 hv5 hS p0 p1 pl x0 x1 xf xl
  go_wp2
  go_returns
  exact ⟨rfl, B6.out⟩

set_option maxRecDepth 100000 in
theorem wf_lifted (os : Os) (started : os.Started) (H : Type) (enc : TypeId × Value → H) :
    ReturnsInHanded {} Try.checked os 3 .any (Rows.fnExactWiringFaultSpec.pre6 enc Try.prog Try.f3 Rows.fnExactWiringFaultRow.domain false) (Rows.fnExactWiringFaultSpec.post enc Try.prog Try.f3 false true false false) := by
  refine returnsInHanded_of_change (C := Try.checked) own started (by kernel_rfl) Try.func3
    (ChangeSpec.witness6 (enc := enc) (C := Try.checked) false ⟨#[], #[.agg #[.slice none 0 0, .slice none 0 0]], []⟩ 8 (by kernel_rfl) (by kernel_rfl) (by kernel_rfl) (by kernel_rfl)) ?_
  intro W base args ds gs before hval0 hW hcnd _
  have hval : ∀ (j : Nat) t v, Try.f3.params[j]? = some t → args[j]? = some v → Value.okWide Try.prog W .any base t v := hval0
  have hW' := hW
  obtain ⟨p, q, hA0, hV, rfl, hfz, hnd⟩ := hW
  have hA : DataW.TrodAll enc Try.prog W 0 (fun _ => true) true Try.f3.params.toList args.toList ds p := hA0
  rw [Try.params3] at hA hval
  obtain ⟨v0, vs0, d0, ds0, p0, q0, hargs, rfl, rfl, h0, r0⟩ := trodAll_cons hA
  obtain ⟨rfl, rfl, rfl⟩ := trodAll_nil r0
  obtain rfl : args = #[v0] := by cases args; simp_all
  obtain ⟨rfl, rfl⟩ := trodVars_none hV
  have k0 := h0
  have lt0 : ∀ x ∈ p0, x.block < W.heap.size := by obtain ⟨m, hm⟩ := k0; exact DataW.trod_lt m _ _ _ hm
  obtain ⟨sa0, sb0, sn0, sc0, sm0, se0, s0, t0, rfl, rk0, rv0, sl0, sk0, ok0⟩ := wiring_open (hval 0 25 v0 rfl rfl) h0
  clear hA0 hval0
  refine (law_wf s0 t0 rk0 rv0 sl0 sk0 ok0).mono fun e W' ⟨he, hg⟩ => ?_
  subst he
  exact ⟨_, rfl, _, _, _, [], _, [], hW', trodAll_mk1 (shut_bool Try.underlying4 _), (trodAll_cons_mk (Below.trod laidOut (by kernel_rfl) (of_decide_eq_true (by kernel_rfl)) k0 hg lt0) trodAll_mk0), rfl, hg.frame _, fun h => by cases h⟩

theorem wf_over : Rows.fnExactWiringFaultRow.holds Try.pinned (OpenSpec.ofChange Rows.fnExactWiringFaultSpec) :=
  OpenClaim.holds_of_wide 3 Try.f3 rfl rfl rfl rfl rfl rfl rfl ⟨rfl, rfl, rfl, rfl, rfl⟩ rfl rfl rfl rfl rfl (by kernel_rfl) Try.func3 (by kernel_rfl)
    (of_decide_eq_true (by kernel_rfl)) (by unfold Func.isWrapper; first | (rw [if_pos (by decide +kernel)]; kernel_rfl) | (rw [if_neg (by decide +kernel)]; exact ⟨rfl, rfl⟩))
    (fun os started H enc _ => wf_lifted os started H enc)

theorem wf_proved : Rows.FnExactWiringFaultSaid :=
  wf_over
#print axioms wf_proved

end Go.Proofs.Ytbfieehlekgjeaa
