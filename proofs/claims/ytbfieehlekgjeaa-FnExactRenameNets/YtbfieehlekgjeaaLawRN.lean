/- Proved here: 'the program's RenameNets answers as the model's; it writes into no argument and keeps nothing of one; its answer owns its memory', for every netlist and list of numbers, without a condition. -/
import Derived.Test.YtbfieehlekgjeaaNmU
import Derived.Test.YtbfieehlekgjeaaNmW
import Derived.Test.YtbfieehlekgjeaaNlO
import Derived.Test.YtbfieehlekgjeaaRows
namespace Go.Proofs.Ytbfieehlekgjeaa
open Go.ChangeShapes Go.WideShapes Go.ChangeAt Go.RowKit Go.Joins
set_option linter.unusedVariables false
set_option linter.unusedSimpArgs false

theorem own : ownKnob Try.prog.godebug = none := by kernel_rfl
theorem laidOut : laidOutB Try.prog = true := by kernel_rfl

/-- What has been weighed is small. -/
structure Wd (s : List Dv) : Prop where
  len : s.length ≤ 1048576
  sm : ∀ j (h : j < s.length), smD 1048576 s[j]
theorem Wd.pl {s : List Dv} (h : Wd s) : ∀ j (h : j < s.length), s[j].p.length ≤ 1048576 := fun j hj => by have := h.sm j hj; unfold smD at this; omega
theorem Wd.rn {N : Int} {s : List Dv} {nets : List Int} (h : Wd s) : Wd (rnL N s nets) := by
  unfold rnL
  split
  · refine ⟨by simpa using h.len, fun j hj => ?_⟩
    have h2 : j < s.length := by simpa using hj
    have := h.sm j h2
    unfold smD at this ⊢
    simpa [rnD, rnP_len] using this
  · exact ⟨by simp, fun j hj => by simp at hj⟩
theorem OD.chg {w w' : World} {B Z A C : Nat} {v : Value} {s : List Dv} {rs : List Rd} (h : OD w B Z v s rs) (hc : Chg A C w w') (hd : C ≤ B) : OD w' B Z v s rs :=
  ⟨h.row.keep fun q hq => hc.block q (OG.lt h.row q hq).2 (Or.inr (by have := (OG.lt h.row q hq).1; omega)), h.len, h.k, fun j h1 h2 => (h.p j h1 h2).kept fun q hq => hc.block q (IS.lt (h.p j h1 h2) q hq).2 (Or.inr (by have := (IS.lt (h.p j h1 h2) q hq).1; omega)), h.up, h.upp, h.ris⟩
/-- Where the law stands: the argument's variable and those of three answers. -/
structure RQ (w : World) (X : Obj) (W3 : World) (b6 : Nat) (o6 : Obj) (b7 : Nat) (o7 : Obj) (b9 : Nat) (o9 : Obj) (V : World) : Prop where
  bl : Below w.heap.size w V
  b3 : Below W3.heap.size W3 V
  x : V.heap[w.heap.size]? = some X
  c6 : V.heap[b6]? = some o6
  c7 : V.heap[b7]? = some o7
  c9 : V.heap[b9]? = some o9
theorem blk_lt {V : World} {k : Nat} {o : Obj} (h : V.heap[k]? = some o) : k < V.heap.size := by
  rcases Nat.lt_or_ge k V.heap.size with h' | h'
  · exact h'
  · rw [Array.getElem?_eq_none h'] at h; cases h
theorem RQ.next {w : World} {X : Obj} {W3 : World} {b6 b7 b9 : Nat} {o6 o7 o9 : Obj} {V V' : World} (h : RQ w X W3 b6 o6 b7 o7 b9 o9 V) (hb : Below V.heap.size V V') : RQ w X W3 b6 o6 b7 o7 b9 o9 V' :=
  ⟨h.bl.trans (hb.mono h.bl.size), h.b3.trans (hb.mono h.b3.size), (hb.block _ (blk_lt h.x)).trans h.x, (hb.block _ (blk_lt h.c6)).trans h.c6, (hb.block _ (blk_lt h.c7)).trans h.c7, (hb.block _ (blk_lt h.c9)).trans h.c9⟩
theorem RQ.chg {w : World} {X : Obj} {W3 : World} {b6 b7 b9 A C : Nat} {o6 o7 o9 : Obj} {V V' : World} (h : RQ w X W3 b6 o6 b7 o7 b9 o9 V) (hc : Chg A C V V') (hw : w.heap.size < A) (h3 : W3.heap.size ≤ A) (h6 : b6 < A) (h7 : b7 < A ∨ C ≤ b7) (h9 : b9 < A ∨ C ≤ b9) : RQ w X W3 b6 o6 b7 o7 b9 o9 V' :=
  ⟨h.bl.trans (hc.below (by omega) h.bl.size), h.b3.trans (hc.below h3 h.b3.size), (hc.block _ (blk_lt h.x) (Or.inl hw)).trans h.x, (hc.block _ (blk_lt h.c6) (Or.inl h6)).trans h.c6, (hc.block _ (blk_lt h.c7) h7).trans h.c7, (hc.block _ (blk_lt h.c9) h9).trans h.c9⟩

set_option maxRecDepth 10000 in
set_option maxHeartbeats 12800000 in
theorem law_rn {w : World} {aa an : Option Addr} {n l ca cn : Nat} (N : Int) (s : List Dv) (hm1 : n ≤ maxLen) (h1 : RD w (.slice aa n ca) s) (hok1 : ∀ j (h : j < s.length), okD s[j]) (nets : List Int) (hm3 : nets.length ≤ maxLen) (h3 : RdI w (.slice an l cn) nets) :
    Calls Try.prog 5 #[.agg #[.int .i64 N, .slice aa n ca], .slice an l cn] w fun e w' => e = .returned (.bool true) ∧ Below w.heap.size w w' := by
  have hl3 : l = nets.length := h3.len
  rw [← hl3] at hm3
  unfold maxLen at hm3
  obtain ⟨X, hX⟩ : ∃ X, X = Obj.cells #[.int .i64 N, .slice aa n ca] 37 := ⟨_, rfl⟩
  obtain ⟨L, hL⟩ : ∃ L, L = rnL N s nets := ⟨_, rfl⟩
  obtain ⟨C, hC⟩ : ∃ C, C = rnC N s nets := ⟨_, rfl⟩
  obtain ⟨M, hM⟩ : ∃ M, M = rnN N s nets := ⟨_, rfl⟩
  have H : Hid ((RD w (.slice aa n ca) s ∧ RdI w (.slice an l cn) nets) ∧ (n = s.length ∧ l = nets.length) ∧ n ≤ maxLen ∧ (∀ j (h : j < s.length), okD s[j])) := ⟨⟨h1, h3⟩, ⟨h1.len, hl3⟩, hm1, hok1⟩
  have TW : Hid (∀ W : World, W.heap[w.heap.size]? = some X → W.cell? ⟨w.heap.size, 0, none⟩ = some (.int .i64 N) ∧ W.cell? ⟨w.heap.size, 1, none⟩ = some (.slice aa n ca) ∧ w.heap.size < W.heap.size) := fun W h => by rw [hX] at h; obtain ⟨a, b, _, c⟩ := two_at h; exact ⟨a, b, c⟩
  have HN : Hid (SB w X (w.alloc (.cells #[.int .i64 N, .slice aa n ca] 37))) := by rw [← hX]; exact SB.new w X
  clear h1 h3 hm1 hok1 hX hl3
  by_cases hbig : (1048576 : Int) < (l : Int)
  · go_enter Try.func5, Try.ntmps5
    go_wp2
    go_returns
    exact ⟨rfl, HN.out.bl⟩
  have HL : Hid (nets.length ≤ 1048576) := by unfold Hid; rw [← H.out.2.1.2]; omega
  go_enter Try.func5, Try.ntmps5
  go_wp2_with (fail)
  refine (szNetlist_gen N aa n ca 1048576 s _ (by omega) (by omega) H.out.2.2.1 (H.out.1.1.below HN.out.bl) H.out.2.2.2).mono ?_
  rintro e w0 ⟨r, rfl, hr, hb0⟩
  have B0 : Hid (SB w X w0) := HN.out.next hb0
  clear hb0
  rcases hr with hneg | ⟨g1, g2, g3, g4⟩
  · go_wp2
    go_returns
    exact ⟨rfl, B0.out.bl⟩
  have hr0 : ¬ r < 0 := by omega
  have HS : Hid (Wd s) := ⟨by rw [← H.out.2.1.1]; omega, g4⟩
  clear g4
  have HLL : Hid (Wd L) := by unfold Hid; rw [hL]; exact HS.out.rn
  have HSP : Hid (∀ {W : World} {va vn : Value}, RD W va s → RdI W vn nets → Calls Try.prog 18 #[.agg #[.int .i64 N, va], vn] W fun e w' => ∃ v', e = .returned (.agg #[.int .i64 C, .int .i64 M, v']) ∧ RD w' v' L ∧ Below W.heap.size W w') := fun {W va vn} ha hn => by rw [hL, hC, hM]; exact spec_rename N HS.out.len HL.out HS.out.sm ha hn
  have HIM : Hid (∀ {W : World} {va vn : Value}, RD W va s → RdI W vn nets → Calls Try.prog 20 #[.agg #[.int .i64 N, va], vn] W fun e w' => ∃ v' rs, e = .returned (.agg #[.int .i64 C, .int .i64 M, v']) ∧ OD w' W.heap.size w'.heap.size v' L rs ∧ Below W.heap.size W w') := fun {W va vn} ha hn => by rw [hL, hC, hM]; exact impl_rename N HS.out.len HL.out HS.out.sm ha hn
  clear hL hC hM
  obtain ⟨p0, p1, p2⟩ := TW.out _ B0.out.bx
  go_wp2_with (fail)
  refine (toNetlist_any N HS.out.len HS.out.sm (H.out.1.1.below B0.out.bl)).mono ?_
  rintro e w1 ⟨ga, rsa, Za, rfl, ka, za, hba⟩
  have R1 : Hid (SB w X w1 ∧ RD w1 (.slice (some ⟨ga, 0, none⟩) s.length s.length) s) := ⟨B0.out.next hba, ka.rd⟩
  clear ka za hba p0 p1 p2
  go_wp2_with (fail)
  refine (toInt64S_any HL.out (H.out.1.2.below R1.out.1.bl)).mono ?_
  rintro e w2 ⟨gc, rfl, kc, hbc⟩
  have R2 : Hid (SB w X w2 ∧ RD w2 (.slice (some ⟨ga, 0, none⟩) s.length s.length) s ∧ RdI w2 (.slice (some ⟨gc, 0, none⟩) nets.length nets.length) nets) := ⟨R1.out.1.next hbc, R1.out.2.below hbc, kc.rg⟩
  clear kc hbc
  go_wp2_with (fail)
  refine (HSP.out R2.out.2.1 R2.out.2.2).mono ?_
  rintro e w3 ⟨v3, rfl, hrd3, hb3⟩
  obtain ⟨a3, c3, rfl⟩ := hrd3.form
  have R3 : Hid (SB w X w3 ∧ RD w3 (.slice a3 L.length c3) L) := ⟨R2.out.1.next hb3, hrd3⟩
  clear hrd3 hb3
  obtain ⟨o6, ho6⟩ : ∃ o6, o6 = Obj.cells #[.int .i64 C, .int .i64 M, .slice a3 L.length c3] 48 := ⟨_, rfl⟩
  obtain ⟨W3, hW3⟩ : ∃ W3, W3 = w3.alloc (.cells #[.int .i64 C, .int .i64 M, .slice a3 L.length c3] 48) := ⟨_, rfl⟩
  have R3' : Hid (SB w X W3 ∧ Below w3.heap.size w3 W3 ∧ W3.heap[w3.heap.size]? = some o6 ∧ W3.heap.size = w3.heap.size + 1) := by rw [hW3, ho6]; exact ⟨R3.out.1.next (by (repeat' (first | (with_reducible exact Below.refl _ _) | (with_reducible assumption) | (with_reducible refine Below.setCell ?_ ?_ _) | (with_reducible refine Below.alloc ?_ ?_ _) | (with_reducible refine below_drewN ?_ _) | (with_reducible refine Below.drew ?_) | (with_reducible exact Nat.le_refl _) | omega | (simp; done) | (simp; omega)))), by (repeat' (first | (with_reducible exact Below.refl _ _) | (with_reducible assumption) | (with_reducible refine Below.setCell ?_ ?_ _) | (with_reducible refine Below.alloc ?_ ?_ _) | (with_reducible refine below_drewN ?_ _) | (with_reducible refine Below.drew ?_) | (with_reducible exact Nat.le_refl _) | omega | (simp; done) | (simp; omega))), heap_alloc_new w3 _, by simp⟩
  obtain ⟨p0, p1, p2⟩ := TW.out _ R3'.out.1.bx
  have HW3 : Hid _ := hW3
  clear hW3
  go_wp2_with (first | (rw [← HW3.out]) | fail)
  try rw [← HW3.out]
  refine (toNetlist_any N HS.out.len HS.out.sm (H.out.1.1.below R3'.out.1.bl)).mono ?_
  rintro e w4 ⟨g4, rs4, Z4, rfl, k4, z4, hb4⟩
  have R4 : Hid ((SB w X w4 ∧ Below w3.heap.size w3 w4 ∧ w4.heap[w3.heap.size]? = some o6 ∧ w3.heap.size + 1 ≤ w4.heap.size) ∧ OD w4 W3.heap.size Z4 (.slice (some ⟨g4, 0, none⟩) s.length s.length) s rs4 ∧ Z4 ≤ w4.heap.size) := ⟨⟨R3'.out.1.next hb4, R3'.out.2.1.trans (hb4.mono R3'.out.2.1.size), (hb4.block _ (blk_lt R3'.out.2.2.1)).trans R3'.out.2.2.1, by have := hb4.size; have := R3'.out.2.2.2; omega⟩, k4, z4⟩
  clear k4 z4 hb4 p0 p1 p2
  obtain ⟨o7, ho7⟩ : ∃ o7, o7 = Obj.cells #[.int .i64 N, .slice (some ⟨g4, 0, none⟩) s.length s.length] 42 := ⟨_, rfl⟩
  obtain ⟨W4, hW4⟩ : ∃ W4, W4 = w4.alloc (.cells #[.int .i64 N, .slice (some ⟨g4, 0, none⟩) s.length s.length] 42) := ⟨_, rfl⟩
  have R4' : Hid (Below w4.heap.size w4 W4 ∧ W4.heap[w4.heap.size]? = some o7 ∧ W4.heap.size = w4.heap.size + 1) := by rw [hW4, ho7]; exact ⟨by (repeat' (first | (with_reducible exact Below.refl _ _) | (with_reducible assumption) | (with_reducible refine Below.setCell ?_ ?_ _) | (with_reducible refine Below.alloc ?_ ?_ _) | (with_reducible refine below_drewN ?_ _) | (with_reducible refine Below.drew ?_) | (with_reducible exact Nat.le_refl _) | omega | (simp; done) | (simp; omega))), heap_alloc_new w4 _, by simp⟩
  have HW4 : Hid _ := hW4
  clear hW4
  go_wp2_with (fail)
  try rw [← HW4.out]
  refine (toInt64S_any HL.out (H.out.1.2.below (R4.out.1.1.next R4'.out.1).bl)).mono ?_
  rintro e w5 ⟨g5, rfl, k5, hb5⟩
  have hb45 : Below w4.heap.size w4 w5 := R4'.out.1.trans (hb5.mono R4'.out.1.size)
  have R5 : Hid (((SB w X w5 ∧ Below w3.heap.size w3 w5 ∧ w5.heap[w3.heap.size]? = some o6) ∧ OD w5 W3.heap.size Z4 (.slice (some ⟨g4, 0, none⟩) s.length s.length) s rs4 ∧ w5.heap[w4.heap.size]? = some o7) ∧ IS w5 W4.heap.size (.slice (some ⟨g5, 0, none⟩) nets.length nets.length) nets ∧ W4.heap.size ≤ w5.heap.size) := ⟨⟨⟨R4.out.1.1.next hb45, R4.out.1.2.1.trans (hb45.mono R4.out.1.2.1.size), (hb45.block _ (blk_lt R4.out.1.2.2.1)).trans R4.out.1.2.2.1⟩, R4.out.2.1.below hb45, (hb5.block _ (blk_lt R4'.out.2.1)).trans R4'.out.2.1⟩, k5, hb5.size⟩
  clear k5 hb5 hb45
  have q7 := R5.out.1.2.2
  rw [ho7] at q7
  obtain ⟨y0, y1, yf, ylt⟩ := two_at q7
  clear q7
  go_wp2_with (fail)
  refine (HIM.out R5.out.1.2.1.rd R5.out.2.1.rg).mono ?_
  rintro e w6 ⟨v6, rs6, rfl, hod6, hb6⟩
  obtain ⟨a6, c6, rfl⟩ := hod6.rd.form
  obtain ⟨o9, ho9⟩ : ∃ o9, o9 = Obj.cells #[.int .i64 C, .int .i64 M, .slice a6 L.length c6] 48 := ⟨_, rfl⟩
  obtain ⟨W6, hW6⟩ : ∃ W6, W6 = w6.alloc (.cells #[.int .i64 C, .int .i64 M, .slice a6 L.length c6] 48) := ⟨_, rfl⟩
  have hb66 : Below w6.heap.size w6 W6 := by rw [hW6]; (repeat' (first | (with_reducible exact Below.refl _ _) | (with_reducible assumption) | (with_reducible refine Below.setCell ?_ ?_ _) | (with_reducible refine Below.alloc ?_ ?_ _) | (with_reducible refine below_drewN ?_ _) | (with_reducible refine Below.drew ?_) | (with_reducible exact Nat.le_refl _) | omega | (simp; done) | (simp; omega)))
  have hb56 : Below w5.heap.size w5 W6 := hb6.trans (hb66.mono hb6.size)
  have R6 : Hid (RQ w X w3 w3.heap.size o6 w4.heap.size o7 w6.heap.size o9 W6 ∧ OD W6 W3.heap.size Z4 (.slice (some ⟨g4, 0, none⟩) s.length s.length) s rs4 ∧ IS W6 W4.heap.size (.slice (some ⟨g5, 0, none⟩) nets.length nets.length) nets ∧ OD W6 w5.heap.size w6.heap.size (.slice a6 L.length c6) L rs6) := by
    refine ⟨⟨(R5.out.1.1.1.next hb56).bl, R5.out.1.1.2.1.trans (hb56.mono R5.out.1.1.2.1.size), (R5.out.1.1.1.next hb56).bx, (hb56.block _ (blk_lt R5.out.1.1.2.2)).trans R5.out.1.1.2.2, (hb56.block _ (blk_lt R5.out.1.2.2)).trans R5.out.1.2.2, by rw [hW6, ho9]; exact heap_alloc_new w6 _⟩, R5.out.1.2.1.below hb56, R5.out.2.1.bel hb56, hod6.below hb66⟩
  have HNUM : Hid (w.heap.size < W3.heap.size ∧ w3.heap.size < W3.heap.size ∧ Z4 ≤ w4.heap.size ∧ W3.heap.size ≤ w4.heap.size ∧ W4.heap.size = w4.heap.size + 1 ∧ W4.heap.size ≤ w5.heap.size ∧ w5.heap.size ≤ w6.heap.size) := by
    have e1 := R3'.out.2.2.2
    have e2 := R4.out.1.2.2.2
    have e3 := R4.out.2.2
    have e4 := R4'.out.2.2
    have e5 := R5.out.2.2
    have e6 := hb6.size
    have e7 := blk_lt R3.out.1.bx
    exact ⟨by omega, by omega, e3, by omega, e4, e5, e6⟩
  have K6 : Hid (w6.heap[w3.heap.size]? = some o6) := (hb6.block _ (blk_lt R5.out.1.1.2.2)).trans R5.out.1.1.2.2
  have HG5 : Hid (g5 < w5.heap.size) := (IS.lt R5.out.2.1 g5 rfl).2
  have HW6 : Hid _ := hW6
  clear hW6 hod6 hb6 hb66 hb56 y0 y1 yf ylt
  have T6 : Hid (∀ W : World, W.heap[w3.heap.size]? = some o6 → W.cell? ⟨w3.heap.size, 0, none⟩ = some (.int .i64 C) ∧ W.cell? ⟨w3.heap.size, 1, none⟩ = some (.int .i64 M) ∧ W.cell? ⟨w3.heap.size, 2, none⟩ = some (.slice a3 L.length c3) ∧ w3.heap.size < W.heap.size) := fun W h => by rw [ho6] at h; obtain ⟨a, b, c, _, d⟩ := three_at' h; exact ⟨a, b, c, d⟩
  have T7 : Hid (∀ W : World, W.heap[w4.heap.size]? = some o7 → W.cell? ⟨w4.heap.size, 0, none⟩ = some (.int .i64 N) ∧ W.cell? ⟨w4.heap.size, 1, none⟩ = some (.slice (some ⟨g4, 0, none⟩) s.length s.length) ∧ w4.heap.size < W.heap.size) := fun W h => by rw [ho7] at h; obtain ⟨a, b, _, d⟩ := two_at h; exact ⟨a, b, d⟩
  have T9 : Hid (∀ W : World, W.heap[w6.heap.size]? = some o9 → W.cell? ⟨w6.heap.size, 0, none⟩ = some (.int .i64 C) ∧ W.cell? ⟨w6.heap.size, 1, none⟩ = some (.int .i64 M) ∧ W.cell? ⟨w6.heap.size, 2, none⟩ = some (.slice a6 L.length c6) ∧ w6.heap.size < W.heap.size) := fun W h => by rw [ho9] at h; obtain ⟨a, b, c, _, d⟩ := three_at' h; exact ⟨a, b, c, d⟩
  clear ho6 ho7 ho9 HN B0 R1 R2 R4 R4' R5 R3'
  obtain ⟨s0, s1, s2, s3⟩ := T6.out _ K6.out
  go_wp2_with (fail)
  try rw [← HW6.out]
  refine (eqNR C M (by have := HLL.out.len; omega) HLL.out.sm R6.out.2.2.2.rd (R3.out.2.below R6.out.1.b3)).mono ?_
  rintro e w7 ⟨rfl, hb7⟩
  have R7 : Hid (RQ w X w3 w3.heap.size o6 w4.heap.size o7 w6.heap.size o9 w7 ∧ OD w7 W3.heap.size Z4 (.slice (some ⟨g4, 0, none⟩) s.length s.length) s rs4 ∧ IS w7 W4.heap.size (.slice (some ⟨g5, 0, none⟩) nets.length nets.length) nets ∧ OD w7 w5.heap.size w6.heap.size (.slice a6 L.length c6) L rs6) := ⟨R6.out.1.next hb7, R6.out.2.1.below hb7, R6.out.2.2.1.bel hb7, R6.out.2.2.2.below hb7⟩
  clear hb7 s0 s1 s2 s3 R6 HW6 K6
  obtain ⟨s0, s1, s2⟩ := T7.out _ R7.out.1.c7
  obtain ⟨p0, p1, p2⟩ := TW.out _ R7.out.1.x
  go_wp2_with (fail)
  refine wp_region_float (by kernel_rfl) (fun hS => ?_)
  refine fl_take (i := 0) (d := 38) (v := .agg #[.int .i64 N, .slice (some ⟨g4, 0, none⟩) s.length s.length]) rfl rfl rfl (by kernel_rfl) (by kernel_rfl) (by kernel_rfl) hS ?_ ?_
  · intro w' hk; go_simp
  simp only [Act.put, List.setIfInBounds_toArray, List.set_cons_zero, List.set_cons_succ]
  refine fl_take (i := 1) (d := 39) (v := .agg #[.int .i64 N, .slice aa n ca]) rfl rfl rfl (by kernel_rfl) (by kernel_rfl) (by kernel_rfl) hS ?_ ?_
  · intro w' hk; go_simp
  simp only [Act.put, List.setIfInBounds_toArray, List.set_cons_zero, List.set_cons_succ]
  refine wpAnyH_all (rs := [2]) (by kernel_rfl) (by simp) ?_
  intro i hi'
  obtain rfl : i = 2 := by simpa using hi'
  refine op_call (d := 40) rfl rfl rfl (by go_simp) ((toNetlist_any N HS.out.len HS.out.sm ((H.out.1.1.below R7.out.1.bl).below hS.2)).mono ?_)
  rintro e u2 ⟨gd, rsd, Zd, rfl, kd, zd, hbd⟩
  have hK2 := hS.call hbd
  refine ⟨_, rfl, hK2, ?_⟩
  simp only [Act.put, List.setIfInBounds_toArray, List.set_cons_zero, List.set_cons_succ]
  refine wpAnyH_all (rs := [3]) (by kernel_rfl) (by simp) ?_
  intro i hi'
  obtain rfl : i = 3 := by simpa using hi'
  refine op_call (d := 41) rfl rfl rfl (by go_simp) ((eqNetlist_same N (by have := HS.out.len; omega) HS.out.sm (R7.out.2.1.rd.below hK2.2) kd.rd).mono ?_)
  rintro e w8 ⟨rfl, hbe⟩
  have hK3 := hK2.call hbe
  refine ⟨_, rfl, hK3, ?_⟩
  simp only [Act.put, List.setIfInBounds_toArray, List.set_cons_zero, List.set_cons_succ]
  refine wpAnyH_all (rs := [4]) (by kernel_rfl) (by simp) ?_
  intro i hi'
  obtain rfl : i = 4 := by simpa using hi'
  refine op_val (d := 42) (v := .bool false) (w' := w8) rfl rfl rfl (by go_simp; try rfl) ?_
  simp only [Act.put, List.setIfInBounds_toArray, List.set_cons_zero, List.set_cons_succ]
  refine ⟨hK3, wpAnyH_done (by kernel_rfl) (NoPanic.normal ?_) _⟩
  have hb8 := hK3.2
  have R8 : Hid (RQ w X w3 w3.heap.size o6 w4.heap.size o7 w6.heap.size o9 w8 ∧ OD w8 W3.heap.size Z4 (.slice (some ⟨g4, 0, none⟩) s.length s.length) s rs4 ∧ IS w8 W4.heap.size (.slice (some ⟨g5, 0, none⟩) nets.length nets.length) nets ∧ OD w8 w5.heap.size w6.heap.size (.slice a6 L.length c6) L rs6) := ⟨R7.out.1.next hb8, R7.out.2.1.below hb8, R7.out.2.2.1.bel hb8, R7.out.2.2.2.below hb8⟩
  clear hb8 hK3 hK2 hS kd zd hbd hbe s0 s1 s2 p0 p1 p2 R7
  go_wp2_with (fail)
  refine (toInt64S_any HL.out (H.out.1.2.below R8.out.1.bl)).mono ?_
  rintro e w9 ⟨gd, rfl, kd, hbd⟩
  have R9 : Hid (RQ w X w3 w3.heap.size o6 w4.heap.size o7 w6.heap.size o9 w9 ∧ OD w9 W3.heap.size Z4 (.slice (some ⟨g4, 0, none⟩) s.length s.length) s rs4 ∧ IS w9 W4.heap.size (.slice (some ⟨g5, 0, none⟩) nets.length nets.length) nets ∧ OD w9 w5.heap.size w6.heap.size (.slice a6 L.length c6) L rs6) := ⟨R8.out.1.next hbd, R8.out.2.1.below hbd, R8.out.2.2.1.bel hbd, R8.out.2.2.2.below hbd⟩
  have R9' : Hid (RdI w9 (.slice (some ⟨gd, 0, none⟩) nets.length nets.length) nets) := kd.rg
  clear hbd kd R8
  go_wp2_with (fail)
  refine (eqInt64S_same (by have := HL.out; omega) R9.out.2.2.1.rg R9'.out).mono ?_
  rintro e w10 ⟨rfl, hb10⟩
  have R10 : Hid (RQ w X w3 w3.heap.size o6 w4.heap.size o7 w6.heap.size o9 w10 ∧ OD w10 W3.heap.size Z4 (.slice (some ⟨g4, 0, none⟩) s.length s.length) s rs4 ∧ IS w10 W4.heap.size (.slice (some ⟨g5, 0, none⟩) nets.length nets.length) nets ∧ OD w10 w5.heap.size w6.heap.size (.slice a6 L.length c6) L rs6) := ⟨R9.out.1.next hb10, R9.out.2.1.below hb10, R9.out.2.2.1.bel hb10, R9.out.2.2.2.below hb10⟩
  clear hb10 R9 R9'
  obtain ⟨s0, s1, s2⟩ := T7.out _ R10.out.1.c7
  go_wp2_with (fail)
  refine (markNL N 1 HS.out.len HS.out.pl (by omega) (by omega) R10.out.2.1).mono ?_
  rintro e w11 ⟨rfl, _, hc11⟩
  have hcz := HNUM.out
  have R11 : Hid (RQ w X w3 w3.heap.size o6 w4.heap.size o7 w6.heap.size o9 w11 ∧ IS w11 W4.heap.size (.slice (some ⟨g5, 0, none⟩) nets.length nets.length) nets ∧ OD w11 w5.heap.size w6.heap.size (.slice a6 L.length c6) L rs6) := ⟨R10.out.1.chg hc11 (by omega) (by omega) (by omega) (Or.inr (by omega)) (Or.inr (by omega)), R10.out.2.2.1.kept fun q hq => hc11.block q (IS.lt R10.out.2.2.1 q hq).2 (Or.inr (by have := (IS.lt R10.out.2.2.1 q hq).1; omega)), R10.out.2.2.2.chg hc11 (by omega)⟩
  have hk1 := stD_le (k := 1) HS.out.pl s.length (Nat.le_refl _)
  have hsl := HS.out.len
  obtain ⟨K1, hK1⟩ : ∃ K1, K1 = stD s 1 s.length := ⟨_, rfl⟩
  rw [← hK1] at hk1 ⊢
  have hk10 : 0 ≤ K1 := by omega
  have hk11 : K1 ≤ 4398046511104 := by omega
  clear hc11 hcz s0 s1 s2 hK1 hk1 R10
  go_wp2_with (fail)
  refine (markI K1 (by have := HL.out; omega) hk10 (by omega) R11.out.2.1).mono ?_
  rintro e w12 ⟨rfl, _, gx, hBx, hgx, hox⟩
  have hcx : Chg W4.heap.size w5.heap.size w11 w12 := by
    rcases hgx with h2 | h2
    · have e0 : g5 = gx := by simpa [Value.ownBlock] using h2
      have e1 : g5 < w5.heap.size := HG5.out
      exact Chg.only hox hBx (by omega)
    · rw [h2]; exact Chg.refl _ _ _
  have hcz := HNUM.out
  have R12 : Hid (RQ w X w3 w3.heap.size o6 w4.heap.size o7 w6.heap.size o9 w12 ∧ OD w12 w5.heap.size w6.heap.size (.slice a6 L.length c6) L rs6) := ⟨R11.out.1.chg hcx (by omega) (by omega) (by omega) (Or.inl (by omega)) (Or.inr (by omega)), R11.out.2.2.chg hcx (by omega)⟩
  have hK2 : ¬ (K1 + (nets.length : Int)) < 0 := by omega
  obtain ⟨K2, hK2e⟩ : ∃ K2, K2 = K1 + (nets.length : Int) := ⟨_, rfl⟩
  rw [← hK2e] at hK2 ⊢
  clear hcx hcz hBx hgx hox hK2e R11
  obtain ⟨s0, s1, s2, s3⟩ := T6.out _ R12.out.1.c6
  obtain ⟨t0, t1, t2, t3⟩ := T9.out _ R12.out.1.c9
  go_wp2_with (fail)
  refine (eqNR C M (by have := HLL.out.len; omega) HLL.out.sm R12.out.2.rd (R3.out.2.below R12.out.1.b3)).mono ?_
  rintro e w13 ⟨rfl, hb13⟩
  have R13 : Hid (RQ w X w3 w3.heap.size o6 w4.heap.size o7 w6.heap.size o9 w13 ∧ OD w13 w5.heap.size w6.heap.size (.slice a6 L.length c6) L rs6) := ⟨R12.out.1.next hb13, R12.out.2.below hb13⟩
  clear hb13 s0 s1 s2 s3 t0 t1 t2 t3 R12
  obtain ⟨t0, t1, t2, t3⟩ := T9.out _ R13.out.1.c9
  go_wp2_with (fail)
  refine (markNR C M 1 HLL.out.len HLL.out.pl (by omega) (by omega) R13.out.2).mono ?_
  rintro e w14 ⟨rfl, ⟨rs', hod14⟩, hc14⟩
  have hcz := HNUM.out
  have R14 : Hid (RQ w X w3 w3.heap.size o6 w4.heap.size o7 w6.heap.size o9 w14 ∧ OD w14 w5.heap.size w6.heap.size (.slice a6 L.length c6) (mkD L 1) rs') := ⟨R13.out.1.chg hc14 (by omega) (by omega) (by omega) (Or.inl (by omega)) (Or.inr (by omega)), hod14⟩
  have hm0 := stD_le (k := 1) HLL.out.pl L.length (Nat.le_refl _)
  obtain ⟨m, hm⟩ : ∃ m, m = stD L 1 L.length := ⟨_, rfl⟩
  have HM : Hid (m = stD L 1 L.length) := hm
  rw [← hm] at hm0 ⊢
  have hm1 : ¬ m < 0 := by omega
  clear hc14 hcz hod14 t0 t1 t2 t3 R13 hm hm0
  obtain ⟨t0, t1, t2, t3⟩ := T9.out _ R14.out.1.c9
  go_wp2_with (fail)
  refine (heldNR C M 1 HLL.out.len HLL.out.pl (by omega) (by omega) R14.out.2).mono ?_
  rintro e w15 ⟨rfl, hb15⟩
  rw [← HM.out]
  have R15 : Hid (RQ w X w3 w3.heap.size o6 w4.heap.size o7 w6.heap.size o9 w15 ∧ OD w15 w5.heap.size w6.heap.size (.slice a6 L.length c6) (mkD L 1) rs') := ⟨R14.out.1.next hb15, R14.out.2.below hb15⟩
  clear hb15 t0 t1 t2 t3 R14
  obtain ⟨p0, p1, p2⟩ := TW.out _ R15.out.1.x
  go_wp2_with (fail)
  refine (toNetlist_any N HS.out.len HS.out.sm (H.out.1.1.below R15.out.1.bl)).mono ?_
  rintro e w16 ⟨ge, rse, Ze, rfl, ke, ze, hbe⟩
  have R16 : Hid ((RQ w X w3 w3.heap.size o6 w4.heap.size o7 w6.heap.size o9 w16 ∧ OD w16 w5.heap.size w6.heap.size (.slice a6 L.length c6) (mkD L 1) rs') ∧ RD w16 (.slice (some ⟨ge, 0, none⟩) s.length s.length) s) := ⟨⟨R15.out.1.next hbe, R15.out.2.below hbe⟩, ke.rd⟩
  clear ke ze hbe p0 p1 p2 R15
  go_wp2_with (fail)
  refine (toInt64S_any HL.out (H.out.1.2.below R16.out.1.1.bl)).mono ?_
  rintro e w17 ⟨gf, rfl, kf, hbf⟩
  have R17 : Hid ((RQ w X w3 w3.heap.size o6 w4.heap.size o7 w6.heap.size o9 w17 ∧ OD w17 w5.heap.size w6.heap.size (.slice a6 L.length c6) (mkD L 1) rs') ∧ RD w17 (.slice (some ⟨ge, 0, none⟩) s.length s.length) s ∧ RdI w17 (.slice (some ⟨gf, 0, none⟩) nets.length nets.length) nets) := ⟨⟨R16.out.1.1.next hbf, R16.out.1.2.below hbf⟩, R16.out.2.below hbf, kf.rg⟩
  clear kf hbf R16
  go_wp2_with (fail)
  refine (HIM.out R17.out.2.1 R17.out.2.2).mono ?_
  rintro e w18 ⟨v18, rs18, rfl, hod18, hb18⟩
  obtain ⟨a18, c18, rfl⟩ := hod18.rd.form
  have R18 : Hid ((RQ w X w3 w3.heap.size o6 w4.heap.size o7 w6.heap.size o9 w18 ∧ OD w18 w5.heap.size w6.heap.size (.slice a6 L.length c6) (mkD L 1) rs') ∧ RD w18 (.slice a18 L.length c18) L) := ⟨⟨R17.out.1.1.next hb18, R17.out.1.2.below hb18⟩, hod18.rd⟩
  clear hb18 hod18 R17
  obtain ⟨s0, s1, s2, s3⟩ := T6.out _ R18.out.1.1.c6
  go_wp2_with (fail)
  refine (eqNR C M (by have := HLL.out.len; omega) HLL.out.sm (R18.out.2.below (by (repeat' (first | (with_reducible exact Below.refl _ _) | (with_reducible assumption) | (with_reducible refine Below.setCell ?_ ?_ _) | (with_reducible refine Below.alloc ?_ ?_ _) | (with_reducible refine below_drewN ?_ _) | (with_reducible refine Below.drew ?_) | (with_reducible exact Nat.le_refl _) | omega | (simp; done) | (simp; omega))))) ((R3.out.2.below R18.out.1.1.b3).below (by (repeat' (first | (with_reducible exact Below.refl _ _) | (with_reducible assumption) | (with_reducible refine Below.setCell ?_ ?_ _) | (with_reducible refine Below.alloc ?_ ?_ _) | (with_reducible refine below_drewN ?_ _) | (with_reducible refine Below.drew ?_) | (with_reducible exact Nat.le_refl _) | omega | (simp; done) | (simp; omega)))))).mono ?_
  rintro e w19 ⟨rfl, hb19⟩
  have hb19' : Below w18.heap.size w18 w19 := Below.trans (by (repeat' (first | (with_reducible exact Below.refl _ _) | (with_reducible assumption) | (with_reducible refine Below.setCell ?_ ?_ _) | (with_reducible refine Below.alloc ?_ ?_ _) | (with_reducible refine below_drewN ?_ _) | (with_reducible refine Below.drew ?_) | (with_reducible exact Nat.le_refl _) | omega | (simp; done) | (simp; omega)))) (hb19.mono (by simp))
  have R19 : Hid (RQ w X w3 w3.heap.size o6 w4.heap.size o7 w6.heap.size o9 w19 ∧ OD w19 w5.heap.size w6.heap.size (.slice a6 L.length c6) (mkD L 1) rs') := ⟨R18.out.1.1.next hb19', R18.out.1.2.below hb19'⟩
  clear hb19 hb19' s0 s1 s2 s3 R18
  obtain ⟨t0, t1, t2, t3⟩ := T9.out _ R19.out.1.c9
  go_wp2_with (fail)
  refine (heldNR C M 1 HLL.out.len HLL.out.pl (by omega) (by omega) R19.out.2).mono ?_
  rintro e w20 ⟨rfl, hb20⟩
  rw [← HM.out]
  have R20 : Hid (Below w.heap.size w w20) := (R19.out.1.next hb20).bl
  clear hb20 t0 t1 t2 t3
  go_wp2
  go_returns
  exact ⟨rfl, R20.out⟩

set_option maxRecDepth 100000 in
theorem rn_lifted (os : Os) (started : os.Started) (H : Type) (enc : TypeId × Value → H) :
    ReturnsInHanded {} Try.checked os 5 .any (Rows.fnExactRenameNetsSpec.pre6 enc Try.prog Try.f5 Rows.fnExactRenameNetsRow.domain false) (Rows.fnExactRenameNetsSpec.post enc Try.prog Try.f5 false true false false) := by
  refine returnsInHanded_of_change (C := Try.checked) own started (by kernel_rfl) Try.func5
    (ChangeSpec.witness6 (enc := enc) (C := Try.checked) false ⟨#[], #[.agg #[.int .i64 0, .slice none 0 0], .slice none 0 0], []⟩ 8 (by kernel_rfl) (by kernel_rfl) (by kernel_rfl) (by kernel_rfl)) ?_
  intro W base args ds gs before hval0 hW hcnd _
  have hval : ∀ (j : Nat) t v, Try.f5.params[j]? = some t → args[j]? = some v → Value.okWide Try.prog W .any base t v := hval0
  have hW' := hW
  obtain ⟨p, q, hA0, hV, rfl, hfz, hnd⟩ := hW
  have hA : DataW.TrodAll enc Try.prog W 0 (fun _ => true) true Try.f5.params.toList args.toList ds p := hA0
  rw [Try.params5] at hA hval
  obtain ⟨v0, vs0, d0, ds0, p0, q0, hargs, rfl, rfl, h0, r0⟩ := trodAll_cons hA
  obtain ⟨v1, vs1, d1, ds1, p1, q1, rfl, rfl, rfl, h1, r1⟩ := trodAll_cons r0
  obtain ⟨rfl, rfl, rfl⟩ := trodAll_nil r1
  obtain rfl : args = #[v0, v1] := by cases args; simp_all
  obtain ⟨rfl, rfl⟩ := trodVars_none hV
  have k0 := h0
  have lt0 : ∀ x ∈ p0, x.block < W.heap.size := by obtain ⟨m, hm⟩ := k0; exact DataW.trod_lt m _ _ _ hm
  obtain ⟨N0, sa0, sn0, sc0, s0, rfl, rk0, sl0, ok0, wf0⟩ := netlist_open (hval 0 37 v0 rfl rfl) h0
  have k1 := h1
  have lt1 : ∀ x ∈ p1, x.block < W.heap.size := by obtain ⟨m, hm⟩ := k1; exact DataW.trod_lt m _ _ _ hm
  obtain ⟨sa1, sn1, sc1, s1, rfl, ri1, sl1⟩ := ints_open (hval 1 46 v1 rfl rfl) h1
  clear hA0 hval0
  refine (law_rn N0 s0 sl0 rk0 ok0 s1 sl1 ri1).mono fun e W' ⟨he, hg⟩ => ?_
  subst he
  exact ⟨_, rfl, _, _, _, [], _, [], hW', trodAll_mk1 (shut_bool Try.underlying4 _), (trodAll_cons_mk (Below.trod laidOut (by kernel_rfl) (of_decide_eq_true (by kernel_rfl)) k0 hg lt0) (trodAll_cons_mk (Below.trod laidOut (by kernel_rfl) (of_decide_eq_true (by kernel_rfl)) k1 hg lt1) trodAll_mk0)), rfl, hg.frame _, fun h => by cases h⟩

theorem rn_over : Rows.fnExactRenameNetsRow.holds Try.pinned (OpenSpec.ofChange Rows.fnExactRenameNetsSpec) :=
  OpenClaim.holds_of_wide 5 Try.f5 rfl rfl rfl rfl rfl rfl rfl ⟨rfl, rfl, rfl, rfl, rfl⟩ rfl rfl rfl rfl rfl (by kernel_rfl) Try.func5 (by kernel_rfl)
    (of_decide_eq_true (by kernel_rfl)) (by unfold Func.isWrapper; first | (rw [if_pos (by decide +kernel)]; kernel_rfl) | (rw [if_neg (by decide +kernel)]; exact ⟨rfl, rfl⟩))
    (fun os started H enc _ => rn_lifted os started H enc)

theorem rn_proved : Rows.FnExactRenameNetsSaid :=
  rn_over
#print axioms rn_proved

end Go.Proofs.Ytbfieehlekgjeaa
