/- Proved here: 'the program's CheckShots answers as the model's, and writes into no argument', for every list of shots and every list of boxes, without a condition. -/
import Derived.Test.YtkbbhdnaemjamaaCsS
import Derived.Test.YtkbbhdnaemjamaaCsI
import Derived.Test.YtkbbhdnaemjamaaShO
import Derived.Test.YtkbbhdnaemjamaaRows
namespace Go.Proofs.Ytkbbhdnaemjamaa
open Go.ChangeShapes Go.WideShapes Go.ChangeAt Go.RowKit Go.Joins
set_option linter.unusedVariables false
set_option linter.unusedSimpArgs false

set_option maxHeartbeats 800000 in
theorem szBoxS_cs (a : Option Addr) (n c : Nat) (l : Int) (w : World) (h0 : 0 ≤ l) (h1 : l ≤ 1048576) (h2 : n ≤ maxLen) :
    Calls Try.prog 16 #[.slice a n c, .int .i64 l] w fun e w' => ∃ r, e = .returned (.int .i64 r) ∧ (r < 0 ∨ (0 ≤ r ∧ r ≤ l ∧ (n : Int) ≤ l)) ∧ Below w.heap.size w w' := by
  unfold maxLen at h2
  have hw : IntKind.i64.wrap (l - (n : Int)) = l - (n : Int) := by rw [IntKind.wrap_i64]; omega
  by_cases hn : l - (n : Int) < 0
  · go_enter Try.func16, Try.ntmps16
    go_wp2
    go_returns
    exact ⟨-1, rfl, Or.inl (by omega), by (repeat' (first | (with_reducible exact Below.refl _ _) | (with_reducible assumption) | (with_reducible refine Below.setCell ?_ ?_ _) | (with_reducible refine Below.alloc ?_ ?_ _) | (with_reducible refine below_drewN ?_ _) | (with_reducible refine Below.drew ?_) | (with_reducible exact Nat.le_refl _) | omega | (simp; done) | (simp; omega)))⟩
  · go_enter Try.func16, Try.ntmps16
    go_wp2
    go_returns
    exact ⟨_, rfl, Or.inr ⟨by omega, by omega, by omega⟩, by (repeat' (first | (with_reducible exact Below.refl _ _) | (with_reducible assumption) | (with_reducible refine Below.setCell ?_ ?_ _) | (with_reducible refine Below.alloc ?_ ?_ _) | (with_reducible refine below_drewN ?_ _) | (with_reducible refine Below.drew ?_) | (with_reducible exact Nat.le_refl _) | omega | (simp; done) | (simp; omega)))⟩

set_option maxRecDepth 10000 in
set_option maxHeartbeats 4000000 in
theorem law_cs {a : Option Addr} {n c : Nat} (l : List Sh) (hm : l.length ≤ maxLen) {w : World} (h : RG 5 shC w (.slice a n c) l) {b : Option Addr} {m d : Nat} (s : List Bx) (hms : s.length ≤ maxLen) (hs : RB w (.slice b m d) s) :
    Calls Try.prog 6 #[.slice a n c, .slice b m d] w fun e w' => e = .returned (.bool true) ∧ Below w.heap.size w w' := by
  have hml : m = s.length := by obtain ⟨_, _, e⟩ := hs.form; injection e
  have H : Hid (RG 5 shC w (.slice a n c) l ∧ n = l.length ∧ RB w (.slice b m d) s ∧ m = s.length) := ⟨h, h.len, hs, hml⟩
  have hmn : n ≤ maxLen := by rw [h.len]; exact hm
  have hmm : m ≤ maxLen := by rw [hml]; exact hms
  clear h hm hs hms hml
  obtain ⟨C, hC⟩ : ∃ C, C = csC l s := ⟨_, rfl⟩
  have HSP : Hid (l.length ≤ 1048576 → ∀ {W : World} {v u : Value}, RG 5 shC W v l → RB W u s → Calls Try.prog 25 #[v, u] W fun e w' => e = .returned (.int .i64 C) ∧ Below W.heap.size W w') := fun hl {W v u} h h' => by rw [hC]; exact spec_check hl h h'
  have HIM : Hid (l.length ≤ 1048576 → s.length ≤ 1048576 → ∀ {W : World} {v : Value} {g : Nat}, RG 5 shC W v l → RB W (.slice (some ⟨g, 0, none⟩) s.length s.length) s → Calls Try.prog 26 #[v, .slice (some ⟨g, 0, none⟩) s.length s.length] W fun e w' => e = .returned (.int .i64 C) ∧ Below W.heap.size W w') := fun hl hs {W v g} h h' => by rw [hC]; exact impl_check hl h hs (Nat.le_refl _) h'
  clear hC
  go_enter Try.func6, Try.ntmps6
  go_wp2_with (fail)
  refine (szShotS_gen a n c 1048576 _ (by omega) (by omega) hmn).mono ?_
  rintro e w0 ⟨r, rfl, hr, hb0⟩
  have B0 : Hid (Below w.heap.size w w0) := hb0
  clear hb0
  rcases hr with hneg | ⟨h1, h2, h3⟩
  · go_wp2
    go_returns
    exact ⟨rfl, B0.out⟩
  have hS : Hid (l.length ≤ 1048576) := by unfold Hid; rw [← H.out.2.1]; omega
  have hneg : ¬ r < 0 := by omega
  clear h3
  go_wp2_with (fail)
  refine (szBoxS_cs b m d r _ h1 h2 hmm).mono ?_
  rintro e w00 ⟨r2, rfl, hr2, hb00⟩
  have B00 : Hid (Below w.heap.size w w00) := B0.out.trans (hb00.mono B0.out.size)
  clear hb00 B0
  rcases hr2 with hneg2 | ⟨h4, h5, h6⟩
  · go_wp2
    go_returns
    exact ⟨rfl, B00.out⟩
  have hT : Hid (s.length ≤ 1048576) := by unfold Hid; rw [← H.out.2.2.2]; omega
  have hneg2 : ¬ r2 < 0 := by omega
  clear h6
  go_wp2_with (fail)
  refine (toShotS_any hS.out (H.out.1.below B00.out)).mono ?_
  rintro e w1 ⟨g1, rfl, hs1, hb1⟩
  have R1 : Hid (RG 5 shC w1 (.slice (some ⟨g1, 0, none⟩) l.length l.length) l ∧ Below w.heap.size w w1) := ⟨OG.rg shC_len hs1, B00.out.trans (hb1.mono B00.out.size)⟩
  clear hs1 hb1 B00
  go_wp2_with (fail)
  refine (toBoxS_any hT.out (H.out.2.2.1.below R1.out.2)).mono ?_
  rintro e w1' ⟨g1', rfl, hs1', hb1'⟩
  have R1' : Hid (RG 5 shC w1' (.slice (some ⟨g1, 0, none⟩) l.length l.length) l ∧ RB w1' (.slice (some ⟨g1', 0, none⟩) s.length s.length) s ∧ Below w.heap.size w w1') := ⟨R1.out.1.below hb1', hs1'.rb, R1.out.2.trans (hb1'.mono R1.out.2.size)⟩
  clear hs1' hb1' R1
  go_wp2_with (fail)
  refine (HSP.out hS.out R1'.out.1 R1'.out.2.1).mono ?_
  rintro e w2 ⟨rfl, hb2⟩
  have B2 : Hid (Below w.heap.size w w2) := R1'.out.2.2.trans (hb2.mono R1'.out.2.2.size)
  clear hb2 R1'
  go_wp2_with (fail)
  refine (toShotS_any hS.out (H.out.1.below B2.out)).mono ?_
  rintro e w3 ⟨g3, rfl, hs3, hb3⟩
  have R3 : Hid (RG 5 shC w3 (.slice (some ⟨g3, 0, none⟩) l.length l.length) l ∧ Below w.heap.size w w3) := ⟨OG.rg shC_len hs3, B2.out.trans (hb3.mono B2.out.size)⟩
  clear hs3 hb3 B2
  go_wp2_with (fail)
  refine (toBoxS_any hT.out (H.out.2.2.1.below R3.out.2)).mono ?_
  rintro e w3' ⟨g3', rfl, hs3', hb3'⟩
  have R3' : Hid (RG 5 shC w3' (.slice (some ⟨g3, 0, none⟩) l.length l.length) l ∧ RB w3' (.slice (some ⟨g3', 0, none⟩) s.length s.length) s ∧ Below w.heap.size w w3') := ⟨R3.out.1.below hb3', hs3'.rb, R3.out.2.trans (hb3'.mono R3.out.2.size)⟩
  clear hs3' hb3' R3
  go_wp2_with (fail)
  refine (HIM.out hS.out hT.out R3'.out.1 R3'.out.2.1).mono ?_
  rintro e w4 ⟨rfl, hb4⟩
  have R4 : Hid (RG 5 shC w4 (.slice (some ⟨g3, 0, none⟩) l.length l.length) l ∧ RB w4 (.slice (some ⟨g3', 0, none⟩) s.length s.length) s ∧ Below w.heap.size w w4) := ⟨R3'.out.1.below hb4, R3'.out.2.1.below hb4, R3'.out.2.2.trans (hb4.mono R3'.out.2.2.size)⟩
  clear hb4 R3'
  go_wp2_with (fail)
  refine (toShotS_any hS.out (H.out.1.below R4.out.2.2)).mono ?_
  rintro e w5 ⟨g5, rfl, hs5, hb5⟩
  have R5 : Hid (RG 5 shC w5 (.slice (some ⟨g3, 0, none⟩) l.length l.length) l ∧ RG 5 shC w5 (.slice (some ⟨g5, 0, none⟩) l.length l.length) l ∧ RB w5 (.slice (some ⟨g3', 0, none⟩) s.length s.length) s ∧ Below w.heap.size w w5) := ⟨R4.out.1.below hb5, OG.rg shC_len hs5, R4.out.2.1.below hb5, R4.out.2.2.trans (hb5.mono R4.out.2.2.size)⟩
  clear hs5 hb5 R4
  go_wp2_with (fail)
  refine (eqShotS_same (by have := hS.out; omega) R5.out.1 R5.out.2.1).mono ?_
  rintro e w6 ⟨rfl, hb6⟩
  have R6 : Hid (RB w6 (.slice (some ⟨g3', 0, none⟩) s.length s.length) s ∧ Below w.heap.size w w6) := ⟨R5.out.2.2.1.below hb6, R5.out.2.2.2.trans (hb6.mono R5.out.2.2.2.size)⟩
  clear hb6 R5
  go_wp2_with (fail)
  refine (toBoxS_any hT.out (H.out.2.2.1.below R6.out.2)).mono ?_
  rintro e w7 ⟨g7, rfl, hs7, hb7⟩
  have R7 : Hid (RB w7 (.slice (some ⟨g3', 0, none⟩) s.length s.length) s ∧ RB w7 (.slice (some ⟨g7, 0, none⟩) s.length s.length) s ∧ Below w.heap.size w w7) := ⟨R6.out.1.below hb7, hs7.rb, R6.out.2.trans (hb7.mono R6.out.2.size)⟩
  clear hs7 hb7 R6
  go_wp2_with (fail)
  refine (eqBoxS_same (by have := hT.out; omega) R7.out.1 R7.out.2.1).mono ?_
  rintro e w8 ⟨rfl, hb8⟩
  have R8 : Hid (Below w.heap.size w w8) := R7.out.2.2.trans (hb8.mono R7.out.2.2.size)
  clear hb8 R7
  go_wp2
  go_returns
  exact ⟨rfl, R8.out⟩

set_option maxRecDepth 100000 in
theorem cs_lifted (os : Os) (started : os.Started) (H : Type) (enc : TypeId × Value → H) :
    ReturnsInHanded {} Try.checked os 6 .any (Rows.fnExactCheckShotsSpec.pre6 enc Try.prog Try.f6 Rows.fnExactCheckShotsRow.domain false) (Rows.fnExactCheckShotsSpec.post enc Try.prog Try.f6 false true false false) := by
  refine returnsInHanded_of_change (C := Try.checked) own started (by kernel_rfl) Try.func6
    (ChangeSpec.witness6 (enc := enc) (C := Try.checked) false ⟨#[], #[.slice none 0 0, .slice none 0 0], []⟩ 8 (by kernel_rfl) (by kernel_rfl) (by kernel_rfl) (by kernel_rfl)) ?_
  intro W base args ds gs before hval0 hW hcnd _
  have hval : ∀ (j : Nat) t v, Try.f6.params[j]? = some t → args[j]? = some v → Value.okWide Try.prog W .any base t v := hval0
  have hW' := hW
  obtain ⟨p, q, hA0, hV, rfl, hfz, hnd⟩ := hW
  have hA : DataW.TrodAll enc Try.prog W 0 (fun _ => true) true Try.f6.params.toList args.toList ds p := hA0
  rw [Try.params6] at hA hval
  obtain ⟨v0, vs0, d0, ds0, p0, q0, hargs, rfl, rfl, h0, r0⟩ := trodAll_cons hA
  obtain ⟨v1, vs1, d1, ds1, p1, q1, rfl, rfl, rfl, h1, r1⟩ := trodAll_cons r0
  obtain ⟨rfl, rfl, rfl⟩ := trodAll_nil r1
  obtain rfl : args = #[v0, v1] := by cases args; simp_all
  obtain ⟨rfl, rfl⟩ := trodVars_none hV
  have k0 := h0
  have lt0 : ∀ x ∈ p0, x.block < W.heap.size := by obtain ⟨m, hm⟩ := k0; exact DataW.trod_lt m _ _ _ hm
  obtain ⟨sa0, sn0, sc0, s0, rfl, rb0, sl0⟩ := shots_open (hval 0 22 v0 rfl rfl) h0
  have k1 := h1
  have lt1 : ∀ x ∈ p1, x.block < W.heap.size := by obtain ⟨m, hm⟩ := k1; exact DataW.trod_lt m _ _ _ hm
  obtain ⟨sa1, sn1, sc1, s1, rfl, rb1, sl1⟩ := boxes_open (hval 1 39 v1 rfl rfl) h1
  clear hA0 hval0
  refine (law_cs s0 sl0 rb0 s1 sl1 rb1).mono fun e W' ⟨he, hg⟩ => ?_
  subst he
  exact ⟨_, rfl, _, _, _, [], _, [], hW', trodAll_mk1 (shut_bool Try.underlying4 _), (trodAll_cons_mk (Below.trod laidOut (by kernel_rfl) (of_decide_eq_true (by kernel_rfl)) k0 hg lt0) (trodAll_cons_mk (Below.trod laidOut (by kernel_rfl) (of_decide_eq_true (by kernel_rfl)) k1 hg lt1) trodAll_mk0)), rfl, hg.frame _, fun h => by cases h⟩

theorem cs_over : Rows.fnExactCheckShotsRow.holds Try.pinned (OpenSpec.ofChange Rows.fnExactCheckShotsSpec) :=
  OpenClaim.holds_of_wide 6 Try.f6 rfl rfl rfl rfl rfl rfl rfl ⟨rfl, rfl, rfl, rfl, rfl⟩ rfl rfl rfl rfl rfl (by kernel_rfl) Try.func6 (by kernel_rfl)
    (of_decide_eq_true (by kernel_rfl)) (by unfold Func.isWrapper; first | (rw [if_pos (by decide +kernel)]; kernel_rfl) | (rw [if_neg (by decide +kernel)]; exact ⟨rfl, rfl⟩))
    (fun os started H enc _ => cs_lifted os started H enc)

theorem cs_proved : Rows.FnExactCheckShotsSaid :=
  cs_over
#print axioms cs_proved

end Go.Proofs.Ytkbbhdnaemjamaa
