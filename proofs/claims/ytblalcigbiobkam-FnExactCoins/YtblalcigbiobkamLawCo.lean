/- Proved here: 'the program's Coins answers as the model's; its answer owns its memory, behind another call too', for every three numbers, without a condition. -/
import Derived.Test.YtblalcigbiobkamICoins
import Derived.OpenShut
namespace Go.Proofs.Ytblalcigbiobkam
open Go.ChangeShapes Go.WideShapes Go.ChangeAt Go.RowKit
set_option linter.unusedVariables false
set_option linter.unusedSimpArgs false

theorem IS.below {w w' : World} {B : Nat} {v : Value} {xs : List Int} (h : IS w B v xs) (hb : Below w.heap.size w w') : IS w' B v xs :=
  h.kept fun g hg => hb.block g (World.ownsRow.lt h g hg).2

set_option maxHeartbeats 800000 in
theorem eqCR (C X : Int) (xs : List Int) (v1 v2 : Value) (B1 B2 : Nat) (w : World) (hl : xs.length ≤ 5000) (h1 : IS w B1 v1 xs) (h2 : IS w B2 v2 xs) :
    Calls Try.prog 21 #[.agg #[.int .i64 C, .int .i64 X, v1], .agg #[.int .i64 C, .int .i64 X, v2]] w fun e w' => e = .returned (.bool true) ∧ Below w.heap.size w w' := by
  obtain ⟨a1, c1, rfl⟩ := h1.form
  obtain ⟨a2, c2, rfl⟩ := h2.form
  have H1 : Hid (IS w B1 _ xs) := h1
  have H2 : Hid (IS w B2 _ xs) := h2
  clear h1 h2
  go_enter Try.func21, Try.ntmps21
  go_wp2_with (fail)
  refine (eqI (by omega) (IS.below H1.out (by (repeat' (first | (with_reducible exact Below.refl _ _) | (with_reducible assumption) | (with_reducible refine Below.setCell ?_ ?_ _) | (with_reducible refine Below.alloc ?_ ?_ _) | (with_reducible refine below_drewN ?_ _) | (with_reducible refine Below.drew ?_) | (with_reducible exact Nat.le_refl _) | omega | (simp; done) | (simp; omega))))) (IS.below H2.out (by (repeat' (first | (with_reducible exact Below.refl _ _) | (with_reducible assumption) | (with_reducible refine Below.setCell ?_ ?_ _) | (with_reducible refine Below.alloc ?_ ?_ _) | (with_reducible refine below_drewN ?_ _) | (with_reducible refine Below.drew ?_) | (with_reducible exact Nat.le_refl _) | omega | (simp; done) | (simp; omega)))))).mono ?_
  rintro e w' ⟨rfl, k, rfl⟩
  go_wp2
  go_returns
  exact ⟨rfl, by (repeat' (first | (with_reducible exact Below.refl _ _) | (with_reducible assumption) | (with_reducible refine Below.setCell ?_ ?_ _) | (with_reducible refine Below.alloc ?_ ?_ _) | (with_reducible refine below_drewN ?_ _) | (with_reducible refine Below.drew ?_) | (with_reducible exact Nat.le_refl _) | omega | (simp; done) | (simp; omega)))⟩

/-- What was there is there still, but for block g. -/
structure SaveBut (g : Nat) (w w' : World) : Prop where
  os : w'.os = w.os
  tape : w'.tape = w.tape
  output : w'.output = w.output
  size : w.heap.size ≤ w'.heap.size
  block : ∀ k, k < w.heap.size → k ≠ g → w'.heap[k]? = w.heap[k]?

set_option maxHeartbeats 800000 in
theorem markCR (C X : Int) (xs : List Int) (v : Value) (B : Nat) (w : World) (hl : xs.length ≤ 5000) (hB : B ≤ w.heap.size) (h : IS w B v xs) :
    Calls Try.prog 22 #[.agg #[.int .i64 C, .int .i64 X, v], .int .i64 1] w fun e w' => e = .returned (.int .i64 (1 + xs.length)) ∧ IS w' B v (marks 1 xs.length) ∧ ∃ g, B ≤ g ∧ (v.ownBlock = some g ∨ w.heap.size ≤ g) ∧ SaveBut g w w' := by
  obtain ⟨a1, c1, rfl⟩ := h.form
  have H : Hid (IS w B _ xs) := h
  clear h
  go_enter Try.func22, Try.ntmps22
  go_wp2_with (fail)
  refine (markI (B := B) 1 (by omega) (by omega) (by omega) (IS.below H.out (by (repeat' (first | (with_reducible exact Below.refl _ _) | (with_reducible assumption) | (with_reducible refine Below.setCell ?_ ?_ _) | (with_reducible refine Below.alloc ?_ ?_ _) | (with_reducible refine below_drewN ?_ _) | (with_reducible refine Below.drew ?_) | (with_reducible exact Nat.le_refl _) | omega | (simp; done) | (simp; omega)))))).mono ?_
  rintro e w1 ⟨rfl, hm, g, hBg, hg, hon⟩
  go_wp2
  go_returns
  refine ⟨rfl, hm, ?_⟩
  have hs := hon.size
  simp at hs
  rcases hg with hg | hg
  · refine ⟨g, hBg, Or.inl hg, ⟨hon.os, hon.tape, hon.output, by omega, fun k hk hkg => ?_⟩⟩
    rw [hon.block k hkg]
    exact Below.heap_alloc _ _ _ hk
  · subst hg
    exact ⟨w.heap.size, hB, Or.inr (Nat.le_refl _), ⟨rfl, rfl, rfl, by simp, fun k hk hkg => Below.heap_alloc _ _ _ hk⟩⟩

set_option maxHeartbeats 800000 in
theorem heldCR (C X : Int) (n : Nat) (v : Value) (B : Nat) (w : World) (hl : n ≤ 5000) (h : IS w B v (marks 1 n)) :
    Calls Try.prog 23 #[.agg #[.int .i64 C, .int .i64 X, v], .int .i64 1] w fun e w' => e = .returned (.int .i64 (1 + n)) ∧ Below w.heap.size w w' := by
  obtain ⟨a1, c1, rfl⟩ := h.form
  have H : Hid (IS w B _ (marks 1 n)) := h
  clear h
  go_enter Try.func23, Try.ntmps23
  go_wp2_with (fail)
  refine (heldI (B := B) (n := n) 1 (by omega) (by omega) (by omega) (IS.below H.out (by (repeat' (first | (with_reducible exact Below.refl _ _) | (with_reducible assumption) | (with_reducible refine Below.setCell ?_ ?_ _) | (with_reducible refine Below.alloc ?_ ?_ _) | (with_reducible refine below_drewN ?_ _) | (with_reducible refine Below.drew ?_) | (with_reducible exact Nat.le_refl _) | omega | (simp; done) | (simp; omega)))))).mono ?_
  rintro e w1 ⟨rfl, rfl⟩
  go_wp2
  go_returns
  exact ⟨rfl, by (repeat' (first | (with_reducible exact Below.refl _ _) | (with_reducible assumption) | (with_reducible refine Below.setCell ?_ ?_ _) | (with_reducible refine Below.alloc ?_ ?_ _) | (with_reducible refine below_drewN ?_ _) | (with_reducible refine Below.drew ?_) | (with_reducible exact Nat.le_refl _) | omega | (simp; done) | (simp; omega)))⟩

/-- What stands while the law goes on: the two variables, the two lists, and all that was there. -/
structure St (w : World) (K0 K1 Bg : Nat) (C X : Int) (vs vg : Value) (L Lg : List Int) (V : World) : Prop where
  k0 : V.heap[K0]? = some (.cells #[.int .i64 C, .int .i64 X, vs] 41)
  k1 : V.heap[K1]? = some (.cells #[.int .i64 C, .int .i64 X, vg] 41)
  is : IS V w.heap.size vs L
  ig : IS V Bg vg Lg
  bl : Below w.heap.size w V

theorem lt_of_block {V : World} {k : Nat} {o : Obj} (h : V.heap[k]? = some o) : k < V.heap.size := by
  rcases Nat.lt_or_ge k V.heap.size with h' | h'
  · exact h'
  · rw [Array.getElem?_eq_none h'] at h; cases h

theorem St.next {w : World} {K0 K1 Bg : Nat} {C X : Int} {vs vg : Value} {L Lg : List Int} {V V' : World} (h : St w K0 K1 Bg C X vs vg L Lg V) (hb : Below V.heap.size V V') : St w K0 K1 Bg C X vs vg L Lg V' :=
  ⟨(hb.block _ (lt_of_block h.k0)).trans h.k0, (hb.block _ (lt_of_block h.k1)).trans h.k1, h.is.below hb, h.ig.below hb, h.bl.trans (hb.mono h.bl.size)⟩

theorem St.cells {w : World} {K0 K1 Bg : Nat} {C X : Int} {vs vg : Value} {L Lg : List Int} {V : World} (h : St w K0 K1 Bg C X vs vg L Lg V) :
    V.cell? ⟨K0, 0, none⟩ = some (.int .i64 C) ∧ V.cell? ⟨K0, 1, none⟩ = some (.int .i64 X) ∧ V.cell? ⟨K0, 2, none⟩ = some vs ∧ V.cell? ⟨K1, 0, none⟩ = some (.int .i64 C) ∧ V.cell? ⟨K1, 1, none⟩ = some (.int .i64 X) ∧ V.cell? ⟨K1, 2, none⟩ = some vg := by
  simp [World.cell?, h.k0, h.k1]

set_option maxHeartbeats 4000000 in
theorem law_co (s n m : Int) (w : World) :
    Calls Try.prog 7 #[.int .i64 s, .int .i64 n, .int .i64 m] w fun e w' => e = .returned (.bool true) ∧ Below w.heap.size w w' := by
  have hl := coinL_length s n m
  go_enter Try.func7, Try.ntmps7
  go_wp2_with (fail)
  refine (spec_coins s n m _).mono ?_
  rintro e w1 ⟨vs, rfl, hs, hb1⟩
  obtain ⟨sa, sc, hvs⟩ := hs.form
  subst hvs
  go_wp2_with (fail)
  refine (impl_coins s n m _).mono ?_
  rintro e w2 ⟨vg, rfl, hg, hb2⟩
  obtain ⟨ga, gc, hvg⟩ := hg.form
  subst hvg
  have S2 : St w w1.heap.size w2.heap.size (w1.heap.size + 1) (coinC s n m) (coinX s n m) (.slice sa (coinL s n m).length sc) (.slice ga (coinL s n m).length gc) (coinL s n m) (coinL s n m) (w2.alloc (.cells #[.int .i64 (coinC s n m), .int .i64 (coinX s n m), .slice ga (coinL s n m).length gc] 41)) := by
    have ha1 : Below w1.heap.size w1 (w1.alloc (.cells #[.int .i64 (coinC s n m), .int .i64 (coinX s n m), .slice sa (coinL s n m).length sc] 41)) := (Below.refl _ _).alloc (Nat.le_refl _) _
    have ha2 : Below w2.heap.size w2 (w2.alloc (.cells #[.int .i64 (coinC s n m), .int .i64 (coinX s n m), .slice ga (coinL s n m).length gc] 41)) := (Below.refl _ _).alloc (Nat.le_refl _) _
    have hz := hb2.size
    simp at hz
    refine ⟨?_, heap_alloc_new _ _, ?_, ?_, ?_⟩
    · rw [ha2.block _ (by omega), hb2.block _ (by simp)]; exact heap_alloc_new _ _
    · exact ((hs.below ha1).below hb2).below ha2
    · refine IS.below ?_ ha2
      simpa using hg
    · exact ((hb1.trans (ha1.mono hb1.size)).trans (hb2.mono (by have := hb1.size; simp; omega))).trans (ha2.mono (by have := hb1.size; omega))
  have hg2 : Hid (∀ g, (Value.slice ga (coinL s n m).length gc).ownBlock = some g → g < w2.heap.size) := fun g h => (World.ownsRow.lt hg g h).2
  have hs2 : Hid (∀ g, (Value.slice sa (coinL s n m).length sc).ownBlock = some g → g < w1.heap.size) := fun g h => (World.ownsRow.lt hs g h).2
  have hz12 : w1.heap.size < w2.heap.size := by have := hb2.size; simp at this; omega
  have hw01 : w.heap.size ≤ w1.heap.size := hb1.size
  obtain ⟨hc2, hf2⟩ := bcell hb2
  clear hs hg hb1 hb2
  go_wp2_with (fail)
  clear hc2 hf2
  generalize hV2 : (w2.alloc (.cells #[.int .i64 (coinC s n m), .int .i64 (coinX s n m), .slice ga (coinL s n m).length gc] 41)) = V2 at *
  generalize hK0 : w1.heap.size = K0 at *
  generalize hK1 : w2.heap.size = K1 at *
  clear hV2 hK0 hK1
  refine (eqCR _ _ _ _ _ _ _ _ hl S2.ig S2.is).mono ?_
  rintro e V3 ⟨rfl, hb3⟩
  have S3 := S2.next hb3
  clear S2 hb3
  obtain ⟨p0, p1, p2, q0, q1, q2⟩ := S3.cells
  go_wp2_with (fail)
  clear p0 p1 p2 q0 q1 q2
  refine (markCR _ _ _ _ _ _ hl ?_ S3.ig).mono ?_
  · have := lt_of_block S3.k1; omega
  rintro e V4 ⟨rfl, hm, g, hgB, hgo, hsv⟩
  have S4 : St w K0 K1 (K0 + 1) (coinC s n m) (coinX s n m) (.slice sa (coinL s n m).length sc) (.slice ga (coinL s n m).length gc) (coinL s n m) (marks 1 (coinL s n m).length) V4 := by
    have l1 := lt_of_block S3.k1
    have hne1 : K1 ≠ g := by
      rcases hgo with h | h
      · have := hg2.out g h; omega
      · omega
    refine ⟨(hsv.block _ (by omega) (by omega)).trans S3.k0, (hsv.block _ l1 hne1).trans S3.k1, S3.is.kept (fun j hj => hsv.block _ (World.ownsRow.lt S3.is j hj).2 ?_), hm, ?_⟩
    · have := hs2.out j hj; omega
    · have hw := S3.bl.size
      have hbase : w.heap.size ≤ K0 := hw01
      exact S3.bl.trans ⟨hsv.os, hsv.tape, hsv.output, hsv.size, fun j hj => hsv.block j (by omega) (by omega)⟩
  clear S3 hm hgB hgo hsv
  obtain ⟨p0, p1, p2, q0, q1, q2⟩ := S4.cells
  go_wp2_with (fail)
  clear p0 p1 p2 q0 q1 q2
  refine (heldCR _ _ _ _ _ _ hl S4.ig).mono ?_
  rintro e V5 ⟨rfl, hb5⟩
  have S5 := S4.next hb5
  clear S4 hb5
  go_wp2_with (fail)
  refine (impl_coins s n m _).mono ?_
  rintro e w6 ⟨vh, rfl, hh, hb6⟩
  obtain ⟨ha, hcap, hvh⟩ := hh.form
  subst hvh
  have S6 := S5.next hb6
  clear S5 hb6
  obtain ⟨p0, p1, p2, q0, q1, q2⟩ := S6.cells
  have l0 := lt_of_block S6.k0
  have hw6 : Below w6.heap.size w6 (w6.alloc (.cells #[.int .i64 (coinC s n m), .int .i64 (coinX s n m), .slice ha (coinL s n m).length hcap] 41)) := (Below.refl _ _).alloc (Nat.le_refl _) _
  go_wp2_with (fail)
  refine (eqCR _ _ _ _ _ _ _ _ hl (hh.below hw6) (S6.is.below hw6)).mono ?_
  rintro e V7 ⟨rfl, hb7⟩
  have S7 := (S6.next hw6).next hb7
  clear S6 hb7 hw6 hh p0 p1 p2 q0 q1 q2
  obtain ⟨p0, p1, p2, q0, q1, q2⟩ := S7.cells
  go_wp2_with (fail)
  refine (heldCR _ _ _ _ _ _ hl S7.ig).mono ?_
  rintro e V8 ⟨rfl, hb8⟩
  have S8 := S7.next hb8
  go_wp2
  go_returns
  exact ⟨rfl, S8.bl⟩

theorem own : ownKnob Try.prog.godebug = none := by kernel_rfl

set_option maxRecDepth 100000 in
theorem co_lifted (os : Os) (started : os.Started) (H : Type) (enc : TypeId × Value → H) :
    ReturnsInHanded {} Try.checked os 7 .any (Rows.fnExactCoinsSpec.pre6 enc Try.prog Try.f7 Rows.fnExactCoinsRow.domain false) (Rows.fnExactCoinsSpec.post enc Try.prog Try.f7 false true false false) := by
  refine returnsInHanded_of_change (C := Try.checked) own started (by kernel_rfl) Try.func7
    (ChangeSpec.witness6 (enc := enc) (C := Try.checked) false ⟨#[], #[.int .i64 0, .int .i64 0, .int .i64 0], []⟩ 8 (by kernel_rfl) (by kernel_rfl) (by kernel_rfl) (by kernel_rfl)) ?_
  intro W base args ds gs before hval0 hW hcnd _
  have hval : ∀ (j : Nat) t v, Try.f7.params[j]? = some t → args[j]? = some v → Value.okWide Try.prog W .any base t v := hval0
  have hW' := hW
  obtain ⟨p, q, hA0, hV, rfl, hfz, hnd⟩ := hW
  have hA : DataW.TrodAll enc Try.prog W 0 (fun _ => true) true Try.f7.params.toList args.toList ds p := hA0
  rw [Try.params7] at hA hval
  obtain ⟨v0, vs0, d0, ds0, p0, q0, hargs, rfl, rfl, h0, r0⟩ := trodAll_cons hA
  obtain ⟨v1, vs1, d1, ds1, p1, q1, rfl, rfl, rfl, h1, r1⟩ := trodAll_cons r0
  obtain ⟨v2, vs2, d2, ds2, p2, q2, rfl, rfl, rfl, h2, r2⟩ := trodAll_cons r1
  obtain ⟨rfl, rfl, rfl⟩ := trodAll_nil r2
  obtain rfl : args = #[v0, v1, v2] := by cases args; simp_all
  obtain ⟨rfl, rfl⟩ := trodVars_none hV
  obtain ⟨n0, rfl, rfl, rfl, wn0⟩ := open_int Try.underlying2 (hval 0 2 v0 rfl rfl) h0
  obtain ⟨n1, rfl, rfl, rfl, wn1⟩ := open_int Try.underlying2 (hval 1 2 v1 rfl rfl) h1
  obtain ⟨n2, rfl, rfl, rfl, wn2⟩ := open_int Try.underlying2 (hval 2 2 v2 rfl rfl) h2
  clear hA0 hval0
  simp only [List.append_nil] at hW'
  refine (law_co n0 n1 n2 W).mono fun e W' ⟨he, hg⟩ => ?_
  subst he
  refine ⟨_, rfl, _, _, _, [], [], [], hW', ?_, ?_, rfl, hg.frame _, fun h => by cases h⟩
  · exact trodAll_cons_mk (shut_bool Try.underlying4 _) trodAll_mk0
  · exact (trodAll_cons_mk (shut_int Try.underlying2 wn0) (trodAll_cons_mk (shut_int Try.underlying2 wn1) (trodAll_cons_mk (shut_int Try.underlying2 wn2) trodAll_mk0)))

theorem co_over : Rows.fnExactCoinsRow.holds Try.pinned (OpenSpec.ofChange Rows.fnExactCoinsSpec) :=
  OpenClaim.holds_of_wide 7 Try.f7 rfl rfl rfl rfl rfl rfl rfl ⟨rfl, rfl, rfl, rfl, rfl⟩ rfl rfl rfl rfl rfl (by kernel_rfl) Try.func7 (by kernel_rfl)
    (of_decide_eq_true (by kernel_rfl)) (by unfold Func.isWrapper; first | (rw [if_pos (by decide +kernel)]; kernel_rfl) | (rw [if_neg (by decide +kernel)]; exact ⟨rfl, rfl⟩))
    (fun os started H enc _ => co_lifted os started H enc)

theorem co_proved : Rows.FnExactCoinsSaid :=
  co_over
#print axioms co_proved

end Go.Proofs.Ytblalcigbiobkam
