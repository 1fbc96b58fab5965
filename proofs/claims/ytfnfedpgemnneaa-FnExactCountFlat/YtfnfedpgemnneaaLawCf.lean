/- Proved here: 'the program's CountFlat answers as the model's; it writes into no argument', for every list of cells and every name, without a condition. -/
import Derived.Test.YtfnfedpgemnneaaICnt2
import Derived.Test.YtfnfedpgemnneaaRows
import Derived.ChangeMaps5
namespace Go.Proofs.Ytfnfedpgemnneaa
open Go.ChangeShapes Go.WideShapes Go.ChangeAt Go.RowKit Go.Joins Go.ChangeMaps
set_option linter.unusedVariables false
set_option linter.unusedSimpArgs false

theorem own : ownKnob Try.prog.godebug = none := by kernel_rfl
theorem laidOut : laidOutB Try.prog = true := by kernel_rfl

set_option maxHeartbeats 800000 in
theorem eqSI_same (C V : Int) (w : World) :
    Calls Try.prog 15 #[.agg #[.int .i64 C, .int .i64 V], .agg #[.int .i64 C, .int .i64 V]] w fun e w' => e = .returned (.bool true) ∧ Below w.heap.size w w' := by
  go_enter Try.func15, Try.ntmps15
  go_wp2
  go_returns
  exact ⟨rfl, by (repeat' (first | (with_reducible exact Below.refl _ _) | (with_reducible assumption) | (with_reducible refine Below.setCell ?_ ?_ _) | (with_reducible refine Below.alloc ?_ ?_ _) | (with_reducible refine below_drewN ?_ _) | (with_reducible refine Below.drew ?_) | (with_reducible exact Nat.le_refl _) | omega | (simp; done) | (simp; omega)))⟩
theorem resN {w w1 : World} {k : Nat} {o : Obj} (h : w.heap[k]? = some o) (hb : Below w.heap.size w w1) : w1.heap[k]? = some o := by
  refine (hb.block k ?_).trans h
  rcases Nat.lt_or_ge k w.heap.size with h' | h'
  · exact h'
  · rw [Array.getElem?_eq_none h'] at h; cases h

set_option maxHeartbeats 3200000 in
theorem law_cf {a : Option Addr} {n c : Nat} (s : List Cl) (hm : n ≤ maxLen) {w : World} (h : RK w (.slice a n c) s) (hok : ∀ j (h : j < s.length), okC s[j]) (q : ByteArray) (hq : q.size ≤ maxLen) :
    Calls Try.prog 4 #[.slice a n c, .string q] w fun e w' => e = .returned (.bool true) ∧ Below w.heap.size w w' := by
  have hns : n = s.length := by obtain ⟨rs, hrs, hrel⟩ := h; exact hrs.len.trans hrel.len
  have H : Hid (RK w (.slice a n c) s ∧ n = s.length ∧ q.size ≤ maxLen) := ⟨h, hns, hq⟩
  have HSZ : Hid (Calls Try.prog 8 #[.slice a n c, .int .i64 1048576] w fun e w' => ∃ r, e = .returned (.int .i64 r) ∧ (r < 0 ∨ (0 ≤ r ∧ r ≤ 1048576 ∧ (n : Int) ≤ 1048576 ∧ ∀ j (h : j < s.length), smC 1048576 s[j])) ∧ Below w.heap.size w w') := szCellS_gen a n c 1048576 s w (by omega) (by omega) hm h hok
  clear h hns hok hm hq
  by_cases hq2 : (1048576 : Int) < (q.size : Int)
  · clear HSZ
    go_enter Try.func4, Try.ntmps4
    go_wp2
    go_returns
    exact ⟨rfl, Below.refl _ _⟩
  go_enter Try.func4, Try.ntmps4
  go_wp2_with (fail)
  refine HSZ.out.mono ?_
  rintro e w0 ⟨r, rfl, hr, hb0⟩
  have HB0 : Hid (Below w.heap.size w w0) := hb0
  clear hb0 HSZ
  rcases hr with hneg | ⟨h1, h2, h3, h4⟩
  · go_wp2
    go_returns
    exact ⟨rfl, HB0.out⟩
  have hr0 : ¬ r < 0 := by omega
  have hn20 : s.length ≤ 1048576 := by rw [← H.out.2.1]; omega
  have HS : Hid (s.length ≤ 1048576 ∧ ∀ j (h : j < s.length), smC 1048576 s[j]) := ⟨hn20, h4⟩
  clear h4 hn20
  go_wp2_with (fail)
  refine (toCellS_any HS.out.1 HS.out.2 (H.out.1.below HB0.out)).mono ?_
  rintro e w1 ⟨g1, rfl, hk1, hb1⟩
  have R1 : Hid (RK w1 (.slice (some ⟨g1, 0, none⟩) s.length s.length) s ∧ Below w.heap.size w w1) := ⟨hk1, HB0.out.trans (hb1.mono HB0.out.size)⟩
  clear hk1 hb1
  go_wp2_with (fail)
  refine (spec_countFlat _ _ _ s q _ (by have := HS.out.1; omega) R1.out.1 HS.out.2).mono ?_
  rintro e w2 ⟨rfl, hb2⟩
  have B2 : Hid (Below w.heap.size w w2) := R1.out.2.trans (hb2.mono R1.out.2.size)
  clear hb2
  obtain ⟨C, hC⟩ : ∃ C, C = cfC s q := ⟨_, rfl⟩
  obtain ⟨V, hV⟩ : ∃ V, V = cfV s q := ⟨_, rfl⟩
  rw [← hC, ← hV]
  have HCV : Hid (C = cfC s q ∧ V = cfV s q) := ⟨hC, hV⟩
  clear hC hV
  go_wp2_with (fail)
  obtain ⟨W2, hW2⟩ : ∃ W2, W2 = w2.alloc (.cells #[.int .i64 C, .int .i64 V] 30) := ⟨_, rfl⟩
  rw [← hW2]
  have hk2 : W2.heap[w2.heap.size]? = some (.cells #[.int .i64 C, .int .i64 V] 30) := by rw [hW2]; exact heap_alloc_new _ _
  have BW2 : Hid (Below w.heap.size w W2) := by rw [hW2]; exact B2.out.alloc B2.out.size _
  have HK2 : Hid (W2.heap[w2.heap.size]? = some (.cells #[.int .i64 C, .int .i64 V] 30)) := hk2
  clear hW2 hk2
  refine (toCellS_any HS.out.1 HS.out.2 (H.out.1.below BW2.out)).mono ?_
  rintro e w3 ⟨g3, rfl, hk3, hb3⟩
  have R3 : Hid (RK w3 (.slice (some ⟨g3, 0, none⟩) s.length s.length) s ∧ Below w.heap.size w w3 ∧ w3.heap[w2.heap.size]? = some (.cells #[.int .i64 C, .int .i64 V] 30)) := ⟨hk3, BW2.out.trans (hb3.mono BW2.out.size), resN HK2.out hb3⟩
  clear hk3 hb3
  go_wp2_with (fail)
  refine (impl_countFlat _ _ _ s q _ H.out.2.2 (by have := HS.out.1; omega) R3.out.1 HS.out.2).mono ?_
  rintro e w4 ⟨rfl, hb4⟩
  rw [← HCV.out.1, ← HCV.out.2]
  have R4 : Hid (RK w4 (.slice (some ⟨g3, 0, none⟩) s.length s.length) s ∧ Below w.heap.size w w4) := ⟨R3.out.1.below hb4, R3.out.2.1.trans (hb4.mono R3.out.2.1.size)⟩
  obtain ⟨p0, p1, _, _, hlt4⟩ := cellsD (resN R3.out.2.2 hb4)
  clear hb4
  go_wp2_with (fail)
  clear p0 p1
  obtain ⟨W4, hW4⟩ : ∃ W4, W4 = w4.alloc (.cells #[.int .i64 C, .int .i64 V] 30) := ⟨_, rfl⟩
  rw [← hW4]
  have hb4 : Below w4.heap.size w4 W4 := by rw [hW4]; exact (Below.refl _ _).alloc (Nat.le_refl _) _
  have RW4 : Hid (RK W4 (.slice (some ⟨g3, 0, none⟩) s.length s.length) s ∧ Below w.heap.size w W4) := ⟨R4.out.1.below hb4, R4.out.2.trans (hb4.mono R4.out.2.size)⟩
  clear hW4 hb4
  refine (eqSI_same C V _).mono ?_
  rintro e w7 ⟨rfl, hb7⟩
  have R7 : Hid (RK w7 (.slice (some ⟨g3, 0, none⟩) s.length s.length) s ∧ Below w.heap.size w w7) := ⟨RW4.out.1.below hb7, RW4.out.2.trans (hb7.mono RW4.out.2.size)⟩
  clear hb7
  go_wp2_with (fail)
  refine (toCellS_any HS.out.1 HS.out.2 (H.out.1.below R7.out.2)).mono ?_
  rintro e w5 ⟨g5, rfl, hk5, hb5⟩
  have R5 : Hid (RK w5 (.slice (some ⟨g3, 0, none⟩) s.length s.length) s ∧ RK w5 (.slice (some ⟨g5, 0, none⟩) s.length s.length) s ∧ Below w.heap.size w w5) := ⟨R7.out.1.below hb5, hk5, R7.out.2.trans (hb5.mono R7.out.2.size)⟩
  clear hk5 hb5
  go_wp2_with (fail)
  refine (eqCellS_same (by have := HS.out.1; omega) HS.out.2 R5.out.1 R5.out.2.1).mono ?_
  rintro e w6 ⟨rfl, hb6⟩
  have B6 : Hid (Below w.heap.size w w6) := R5.out.2.2.trans (hb6.mono R5.out.2.2.size)
  clear hb6
  go_wp2
  go_returns
  exact ⟨rfl, B6.out⟩

set_option maxRecDepth 100000 in
theorem cf_lifted (os : Os) (started : os.Started) (H : Type) (enc : TypeId × Value → H) :
    ReturnsInHanded {} Try.checked os 4 .any (Rows.fnExactCountFlatSpec.pre6 enc Try.prog Try.f4 Rows.fnExactCountFlatRow.domain false) (Rows.fnExactCountFlatSpec.post enc Try.prog Try.f4 false true false false) := by
  refine returnsInHanded_of_change (C := Try.checked) own started (by kernel_rfl) Try.func4
    (ChangeSpec.witness6 (enc := enc) (C := Try.checked) false ⟨#[], #[.slice none 0 0, .string ByteArray.empty], []⟩ 8 (by kernel_rfl) (by kernel_rfl) (by kernel_rfl) (by kernel_rfl)) ?_
  intro W base args ds gs before hval0 hW hcnd _
  have hval : ∀ (j : Nat) t v, Try.f4.params[j]? = some t → args[j]? = some v → Value.okWide Try.prog W .any base t v := hval0
  have hW' := hW
  obtain ⟨p, q, hA0, hV, rfl, hfz, hnd⟩ := hW
  have hA : DataW.TrodAll enc Try.prog W 0 (fun _ => true) true Try.f4.params.toList args.toList ds p := hA0
  rw [Try.params4] at hA hval
  obtain ⟨v0, vs0, d0, ds0, p0, q0, hargs, rfl, rfl, h0, r0⟩ := trodAll_cons hA
  obtain ⟨v1, vs1, d1, ds1, p1, q1, rfl, rfl, rfl, h1, r1⟩ := trodAll_cons r0
  obtain ⟨rfl, rfl, rfl⟩ := trodAll_nil r1
  obtain rfl : args = #[v0, v1] := by cases args; simp_all
  obtain ⟨rfl, rfl⟩ := trodVars_none hV
  have k0 := h0
  have lt0 : ∀ x ∈ p0, x.block < W.heap.size := by obtain ⟨m, hm⟩ := k0; exact DataW.trod_lt m _ _ _ hm
  obtain ⟨sa0, sn0, sc0, s0, rfl, rk0, sl0, ok0⟩ := cells_open (hval 0 22 v0 rfl rfl) h0
  obtain ⟨t1, rfl, rfl, rfl, wt1⟩ := open_string Try.underlying9 (hval 1 9 v1 rfl rfl) h1
  clear hA0 hval0
  refine (law_cf s0 sl0 rk0 ok0 t1 wt1).mono fun e W' ⟨he, hg⟩ => ?_
  subst he
  exact ⟨_, rfl, _, _, _, [], _, [], hW', trodAll_mk1 (shut_bool Try.underlying4 _), (trodAll_cons_mk (Below.trod laidOut (by kernel_rfl) (of_decide_eq_true (by kernel_rfl)) k0 hg lt0) (trodAll_cons_mk (shut_string Try.underlying9 wt1) trodAll_mk0)), rfl, hg.frame _, fun h => by cases h⟩

theorem cf_over : Rows.fnExactCountFlatRow.holds Try.pinned (OpenSpec.ofChange Rows.fnExactCountFlatSpec) :=
  OpenClaim.holds_of_wide 4 Try.f4 rfl rfl rfl rfl rfl rfl rfl ⟨rfl, rfl, rfl, rfl, rfl⟩ rfl rfl rfl rfl rfl (by kernel_rfl) Try.func4 (by kernel_rfl)
    (of_decide_eq_true (by kernel_rfl)) (by unfold Func.isWrapper; first | (rw [if_pos (by decide +kernel)]; kernel_rfl) | (rw [if_neg (by decide +kernel)]; exact ⟨rfl, rfl⟩))
    (fun os started H enc _ => cf_lifted os started H enc)

theorem cf_proved : Rows.FnExactCountFlatSaid :=
  cf_over
#print axioms cf_proved

end Go.Proofs.Ytfnfedpgemnneaa
