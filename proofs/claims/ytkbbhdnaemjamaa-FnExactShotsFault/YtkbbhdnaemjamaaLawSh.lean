/- Proved here: 'the program's ShotsFault answers as the model's, and writes into no argument', for every list of shots, without a condition. -/
import Derived.Test.YtkbbhdnaemjamaaShF
import Derived.Test.YtkbbhdnaemjamaaShO
import Derived.Test.YtkbbhdnaemjamaaRows
namespace Go.Proofs.Ytkbbhdnaemjamaa
open Go.ChangeShapes Go.WideShapes Go.ChangeAt Go.RowKit Go.Joins
set_option linter.unusedVariables false
set_option linter.unusedSimpArgs false

set_option maxRecDepth 10000 in
set_option maxHeartbeats 4000000 in
theorem law_sh {a : Option Addr} {n c : Nat} (s : List Sh) (hm : s.length ≤ maxLen) {w : World} (h : RG 5 shC w (.slice a n c) s) :
    Calls Try.prog 3 #[.slice a n c] w fun e w' => e = .returned (.bool true) ∧ Below w.heap.size w w' := by
  have H : Hid (RG 5 shC w (.slice a n c) s ∧ n = s.length) := ⟨h, h.len⟩
  have hmn : n ≤ maxLen := by rw [h.len]; exact hm
  clear h hm
  obtain ⟨C, hC⟩ : ∃ C, C = shF s := ⟨_, rfl⟩
  have HSP : Hid (s.length ≤ 1048576 → ∀ {W : World} {v : Value}, RG 5 shC W v s → Calls Try.prog 9 #[v] W fun e w' => e = .returned (.int .i64 C) ∧ Below W.heap.size W w') := fun hs {W v} h => by rw [hC]; exact spec_shots hs h
  have HIM : Hid (s.length ≤ 1048576 → ∀ {W : World} {v : Value}, RG 5 shC W v s → Calls Try.prog 11 #[v] W fun e w' => e = .returned (.int .i64 C) ∧ Below W.heap.size W w') := fun hs {W v} h => by rw [hC]; exact impl_shots hs h
  clear hC
  go_enter Try.func3, Try.ntmps3
  go_wp2_with (fail)
  refine (szShotS_gen a n c 1048576 _ (by omega) (by omega) hmn).mono ?_
  rintro e w0 ⟨r, rfl, hr, hb0⟩
  have B0 : Hid (Below w.heap.size w w0) := hb0
  clear hb0
  rcases hr with hneg | ⟨h1, h2, h3⟩
  · go_wp2
    go_returns
    exact ⟨rfl, B0.out⟩
  have hS : Hid (s.length ≤ 1048576) := by unfold Hid; rw [← H.out.2]; omega
  have hneg : ¬ r < 0 := by omega
  clear h3
  go_wp2_with (fail)
  refine (toShotS_any hS.out (H.out.1.below B0.out)).mono ?_
  rintro e w1 ⟨g1, rfl, hs1, hb1⟩
  have R1 : Hid (RG 5 shC w1 (.slice (some ⟨g1, 0, none⟩) s.length s.length) s ∧ Below w.heap.size w w1) := ⟨OG.rg shC_len hs1, B0.out.trans (hb1.mono B0.out.size)⟩
  clear hs1 hb1
  go_wp2_with (fail)
  refine (HSP.out hS.out R1.out.1).mono ?_
  rintro e w2 ⟨rfl, hb2⟩
  have B2 : Hid (Below w.heap.size w w2) := R1.out.2.trans (hb2.mono R1.out.2.size)
  clear hb2 R1
  go_wp2_with (fail)
  refine (toShotS_any hS.out (H.out.1.below B2.out)).mono ?_
  rintro e w3 ⟨g3, rfl, hs3, hb3⟩
  have R3 : Hid (RG 5 shC w3 (.slice (some ⟨g3, 0, none⟩) s.length s.length) s ∧ Below w.heap.size w w3) := ⟨OG.rg shC_len hs3, B2.out.trans (hb3.mono B2.out.size)⟩
  clear hs3 hb3 B2
  go_wp2_with (fail)
  refine (HIM.out hS.out R3.out.1).mono ?_
  rintro e w4 ⟨rfl, hb4⟩
  have R4 : Hid (RG 5 shC w4 (.slice (some ⟨g3, 0, none⟩) s.length s.length) s ∧ Below w.heap.size w w4) := ⟨R3.out.1.below hb4, R3.out.2.trans (hb4.mono R3.out.2.size)⟩
  clear hb4 R3
  go_wp2_with (fail)
  refine (toShotS_any hS.out (H.out.1.below R4.out.2)).mono ?_
  rintro e w5 ⟨g5, rfl, hs5, hb5⟩
  have R5 : Hid (RG 5 shC w5 (.slice (some ⟨g3, 0, none⟩) s.length s.length) s ∧ RG 5 shC w5 (.slice (some ⟨g5, 0, none⟩) s.length s.length) s ∧ Below w.heap.size w w5) := ⟨R4.out.1.below hb5, OG.rg shC_len hs5, R4.out.2.trans (hb5.mono R4.out.2.size)⟩
  clear hs5 hb5 R4
  go_wp2_with (fail)
  refine (eqShotS_same (by have := hS.out; omega) R5.out.1 R5.out.2.1).mono ?_
  rintro e w6 ⟨rfl, hb6⟩
  have R6 : Hid (Below w.heap.size w w6) := R5.out.2.2.trans (hb6.mono R5.out.2.2.size)
  clear hb6 R5
  go_wp2
  go_returns
  exact ⟨rfl, R6.out⟩

set_option maxRecDepth 100000 in
theorem sh_lifted (os : Os) (started : os.Started) (H : Type) (enc : TypeId × Value → H) :
    ReturnsInHanded {} Try.checked os 3 .any (Rows.fnExactShotsFaultSpec.pre6 enc Try.prog Try.f3 Rows.fnExactShotsFaultRow.domain false) (Rows.fnExactShotsFaultSpec.post enc Try.prog Try.f3 false true false false) := by
  refine returnsInHanded_of_change (C := Try.checked) own started (by kernel_rfl) Try.func3
    (ChangeSpec.witness6 (enc := enc) (C := Try.checked) false ⟨#[], #[.slice none 0 0], []⟩ 8 (by kernel_rfl) (by kernel_rfl) (by kernel_rfl) (by kernel_rfl)) ?_
  intro W base args ds gs before hval0 hW hcnd _
  have hval : ∀ (j : Nat) t v, Try.f3.params[j]? = some t → args[j]? = some v → Value.okWide Try.prog W .any base t v := hval0
  have hW' := hW
  obtain ⟨p, q, hA0, hV, rfl, hfz, hnd⟩ := hW
  have hA : DataW.TrodAll enc Try.prog W 0 (fun _ => true) true Try.f3.params.toList args.toList ds p := hA0
  rw [Try.params3] at hA hval
  obtain ⟨v0, vs0, d0, ds0, p0, q0, hargs, rfl, rfl, h0, r0⟩ := trodAll_cons hA
  obtain ⟨rfl, rfl, rfl⟩ := trodAll_nil r0
  obtain rfl : args = #[v0] := by cases args; simp_all
  obtain ⟨rfl, rfl⟩ := trodVars_none hV
  have k0 := h0
  have lt0 : ∀ x ∈ p0, x.block < W.heap.size := by obtain ⟨m, hm⟩ := k0; exact DataW.trod_lt m _ _ _ hm
  obtain ⟨sa0, sn0, sc0, s0, rfl, rb0, sl0⟩ := shots_open (hval 0 22 v0 rfl rfl) h0
  clear hA0 hval0
  refine (law_sh s0 sl0 rb0).mono fun e W' ⟨he, hg⟩ => ?_
  subst he
  exact ⟨_, rfl, _, _, _, [], _, [], hW', trodAll_mk1 (shut_bool Try.underlying4 _), (trodAll_cons_mk (Below.trod laidOut (by kernel_rfl) (of_decide_eq_true (by kernel_rfl)) k0 hg lt0) trodAll_mk0), rfl, hg.frame _, fun h => by cases h⟩

theorem sh_over : Rows.fnExactShotsFaultRow.holds Try.pinned (OpenSpec.ofChange Rows.fnExactShotsFaultSpec) :=
  OpenClaim.holds_of_wide 3 Try.f3 rfl rfl rfl rfl rfl rfl rfl ⟨rfl, rfl, rfl, rfl, rfl⟩ rfl rfl rfl rfl rfl (by kernel_rfl) Try.func3 (by kernel_rfl)
    (of_decide_eq_true (by kernel_rfl)) (by unfold Func.isWrapper; first | (rw [if_pos (by decide +kernel)]; kernel_rfl) | (rw [if_neg (by decide +kernel)]; exact ⟨rfl, rfl⟩))
    (fun os started H enc _ => sh_lifted os started H enc)

theorem sh_proved : Rows.FnExactShotsFaultSaid :=
  sh_over
#print axioms sh_proved

end Go.Proofs.Ytkbbhdnaemjamaa
