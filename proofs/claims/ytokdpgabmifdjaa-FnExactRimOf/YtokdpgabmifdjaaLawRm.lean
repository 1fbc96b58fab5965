/- Proved here: 'the program's RimOf answers as the model's; it writes into no argument', for every list of boxes, without a condition. -/
import Derived.Test.YtokdpgabmifdjaaRim
import Derived.Test.YtokdpgabmifdjaaOpenBx
namespace Go.Proofs.Ytokdpgabmifdjaa
open Go.ChangeShapes Go.WideShapes Go.ChangeAt Go.RowKit Go.Joins
set_option linter.unusedVariables false
set_option linter.unusedSimpArgs false

set_option maxHeartbeats 800000 in
theorem eqSI_same (C V : Int) (w : World) :
    Calls Try.prog 13 #[.agg #[.int .i64 C, .int .i64 V], .agg #[.int .i64 C, .int .i64 V]] w fun e w' => e = .returned (.bool true) ∧ Below w.heap.size w w' := by
  go_enter Try.func13, Try.ntmps13
  go_wp2
  go_returns
  exact ⟨rfl, by (repeat' (first | (with_reducible exact Below.refl _ _) | (with_reducible assumption) | (with_reducible refine Below.setCell ?_ ?_ _) | (with_reducible refine Below.alloc ?_ ?_ _) | (with_reducible refine below_drewN ?_ _) | (with_reducible refine Below.drew ?_) | (with_reducible exact Nat.le_refl _) | omega | (simp; done) | (simp; omega)))⟩

set_option maxHeartbeats 3200000 in
theorem law_rm {a : Option Addr} {n c : Nat} (s : List Bx) (hm : s.length ≤ maxLen) {w : World} (h : RB w (.slice a n c) s) :
    Calls Try.prog 3 #[.slice a n c] w fun e w' => e = .returned (.bool true) ∧ Below w.heap.size w w' := by
  have hlen : s.length = n := by obtain ⟨_, _, e⟩ := h.form; injection e with _ e2 _; exact e2.symm
  have H : Hid (RB w (.slice a n c) s ∧ s.length = n) := ⟨h, hlen⟩
  rw [hlen] at hm
  unfold maxLen at hm
  clear h hlen
  by_cases hbig : (n : Int) ≤ 1048576
  · have hS : Hid (s.length ≤ 1048576) := by unfold Hid; rw [H.out.2]; omega
    go_enter Try.func3, Try.ntmps3
    go_wp2_with (fail)
    refine (szBoxS_few a n c _ hbig).mono ?_
    rintro e w0 ⟨rfl, hw0⟩
    obtain rfl := hw0
    have hneg : ¬ 1048576 - (n : Int) < 0 := by omega
    go_wp2_with (fail)
    refine (toBoxS_any hS.out H.out.1).mono ?_
    rintro e w1 ⟨g1, rfl, hs1, hb1⟩
    have R1 : Hid (RB w1 (.slice (some ⟨g1, 0, none⟩) s.length s.length) s) := hs1.rb
    have B1 : Hid (Below w0.heap.size w0 w1) := hb1
    clear hs1 hb1
    go_wp2_with (fail)
    refine (spec_rimOf R1.out).mono ?_
    rintro e w2 ⟨rfl, hb2⟩
    have B2 : Hid (Below w0.heap.size w0 w2) := B1.out.trans (hb2.mono B1.out.size)
    clear hb2
    obtain ⟨C, hC⟩ : ∃ C, C = shapeK s := ⟨_, rfl⟩
    obtain ⟨V, hV⟩ : ∃ V, V = rimV s := ⟨_, rfl⟩
    rw [← hC, ← hV]
    have HCV : Hid (C = shapeK s ∧ V = rimV s) := ⟨hC, hV⟩
    clear hC hV
    go_wp2_with (fail)
    obtain ⟨W2, hW2⟩ : ∃ W2, W2 = w2.alloc (.cells #[.int .i64 C, .int .i64 V] 25) := ⟨_, rfl⟩
    rw [← hW2]
    have hk2 : W2.heap[w2.heap.size]? = some (.cells #[.int .i64 C, .int .i64 V] 25) := by rw [hW2]; exact heap_alloc_new _ _
    have BW2 : Hid (Below w0.heap.size w0 W2) := by rw [hW2]; exact B2.out.alloc B2.out.size _
    have HK2 : Hid (W2.heap[w2.heap.size]? = some (.cells #[.int .i64 C, .int .i64 V] 25)) := hk2
    clear hW2 hk2
    refine (toBoxS_any hS.out (H.out.1.below BW2.out)).mono ?_
    rintro e w3 ⟨g3, rfl, hs3, hb3⟩
    have R3 : Hid (RB w3 (.slice (some ⟨g3, 0, none⟩) s.length s.length) s) := hs3.rb
    have B3 : Hid (Below w0.heap.size w0 w3) := BW2.out.trans (hb3.mono BW2.out.size)
    have HK3 : Hid (w3.heap[w2.heap.size]? = some (.cells #[.int .i64 C, .int .i64 V] 25)) := res_next HK2.out hb3
    clear hs3 hb3
    go_wp2_with (fail)
    refine (impl_rimOf (by have := hS.out; omega) (Nat.le_refl _) R3.out).mono ?_
    rintro e w4 ⟨rfl, hb4⟩
    rw [← HCV.out.1, ← HCV.out.2]
    have B4 : Hid (Below w0.heap.size w0 w4) := B3.out.trans (hb4.mono B3.out.size)
    have R4 : Hid (RB w4 (.slice (some ⟨g3, 0, none⟩) s.length s.length) s) := R3.out.below hb4
    obtain ⟨p0, p1, _, _, hlt4⟩ := two_cells (res_next HK3.out hb4)
    clear hb4
    go_wp2_with (fail)
    clear p0 p1
    obtain ⟨W4, hW4⟩ : ∃ W4, W4 = w4.alloc (.cells #[.int .i64 C, .int .i64 V] 25) := ⟨_, rfl⟩
    rw [← hW4]
    have hb4 : Below w4.heap.size w4 W4 := by rw [hW4]; exact (Below.refl _ _).alloc (Nat.le_refl _) _
    have BW4 : Hid (Below w0.heap.size w0 W4) := B4.out.trans (hb4.mono B4.out.size)
    have RW4 : Hid (RB W4 (.slice (some ⟨g3, 0, none⟩) s.length s.length) s) := R4.out.below hb4
    clear hW4 hb4
    refine (eqSI_same C V _).mono ?_
    rintro e w7 ⟨rfl, hb7⟩
    have B7 : Hid (Below w0.heap.size w0 w7) := BW4.out.trans (hb7.mono BW4.out.size)
    have R7 : Hid (RB w7 (.slice (some ⟨g3, 0, none⟩) s.length s.length) s) := RW4.out.below hb7
    clear hb7
    go_wp2_with (fail)
    refine (toBoxS_any hS.out (H.out.1.below B7.out)).mono ?_
    rintro e w5 ⟨g5, rfl, hs5, hb5⟩
    have R5 : Hid (RB w5 (.slice (some ⟨g5, 0, none⟩) s.length s.length) s ∧ RB w5 (.slice (some ⟨g3, 0, none⟩) s.length s.length) s) := ⟨hs5.rb, R7.out.below hb5⟩
    have B5 : Hid (Below w0.heap.size w0 w5) := B7.out.trans (hb5.mono B7.out.size)
    clear hs5 hb5
    go_wp2_with (fail)
    refine (eqBoxS_same (by have := hS.out; omega) R5.out.2 R5.out.1).mono ?_
    rintro e w6 ⟨rfl, hb6⟩
    have B6 : Hid (Below w0.heap.size w0 w6) := B5.out.trans (hb6.mono B5.out.size)
    clear hb6
    go_wp2
    go_returns
    exact ⟨rfl, B6.out⟩
  · have hgt : (1048576 : Int) < (n : Int) := by omega
    go_enter Try.func3, Try.ntmps3
    go_wp2_with (fail)
    refine (szBoxS_many a n c _ hgt (by omega)).mono ?_
    rintro e w0 ⟨rfl, hw0⟩
    obtain rfl := hw0
    go_wp2
    go_returns
    exact ⟨rfl, Below.refl _ _⟩

set_option maxRecDepth 100000 in
theorem rm_lifted (os : Os) (started : os.Started) (H : Type) (enc : TypeId × Value → H) :
    ReturnsInHanded {} Try.checked os 3 .any (Rows.fnExactRimOfSpec.pre6 enc Try.prog Try.f3 Rows.fnExactRimOfRow.domain false) (Rows.fnExactRimOfSpec.post enc Try.prog Try.f3 false true false false) := by
  refine returnsInHanded_of_change (C := Try.checked) own started (by kernel_rfl) Try.func3
    (ChangeSpec.witness6 (enc := enc) (C := Try.checked) false ⟨#[], #[.slice none 0 0], []⟩ 8 (by kernel_rfl) (by kernel_rfl) (by kernel_rfl) (by kernel_rfl)) ?_
  intro W base args ds gs before hval0 hW hcnd _
  have hval : ∀ (j : Nat) t v, Try.f3.params[j]? = some t → args[j]? = some v → Value.okWide Try.prog W .any base t v := hval0
  have hW' := hW
  obtain ⟨p, q, hA0, hV, rfl, hfz, hnd⟩ := hW
  have hA : DataW.TrodAll enc Try.prog W 0 (fun _ => true) true Try.f3.params.toList args.toList ds p := hA0
  rw [Try.params3] at hA hval
  obtain ⟨v0, vs0, d0, ds0, p0, q0, hargs, rfl, rfl, h0, r0⟩ := trodAll_cons hA
  obtain ⟨rfl, rfl, rfl⟩ := trodAll_nil r0
  obtain rfl : args = #[v0] := by cases args; simp_all
  obtain ⟨rfl, rfl⟩ := trodVars_none hV
  have k0 := h0
  have lt0 : ∀ x ∈ p0, x.block < W.heap.size := by obtain ⟨m, hm⟩ := k0; exact DataW.trod_lt m _ _ _ hm
  obtain ⟨sa0, sn0, sc0, s0, rfl, rb0, sl0⟩ := boxes_open (hval 0 22 v0 rfl rfl) h0
  clear hA0 hval0
  refine (law_rm s0 sl0 rb0).mono fun e W' ⟨he, hg⟩ => ?_
  subst he
  exact ⟨_, rfl, _, _, _, [], _, [], hW', trodAll_mk1 (shut_bool Try.underlying4 _), (trodAll_cons_mk (Below.trod laidOut (by kernel_rfl) (of_decide_eq_true (by kernel_rfl)) k0 hg lt0) trodAll_mk0), rfl, hg.frame _, fun h => by cases h⟩

theorem rm_over : Rows.fnExactRimOfRow.holds Try.pinned (OpenSpec.ofChange Rows.fnExactRimOfSpec) :=
  OpenClaim.holds_of_wide 3 Try.f3 rfl rfl rfl rfl rfl rfl rfl ⟨rfl, rfl, rfl, rfl, rfl⟩ rfl rfl rfl rfl rfl (by kernel_rfl) Try.func3 (by kernel_rfl)
    (of_decide_eq_true (by kernel_rfl)) (by unfold Func.isWrapper; first | (rw [if_pos (by decide +kernel)]; kernel_rfl) | (rw [if_neg (by decide +kernel)]; exact ⟨rfl, rfl⟩))
    (fun os started H enc _ => rm_lifted os started H enc)

theorem rm_proved : Rows.FnExactRimOfSaid :=
  rm_over
#print axioms rm_proved

end Go.Proofs.Ytokdpgabmifdjaa
