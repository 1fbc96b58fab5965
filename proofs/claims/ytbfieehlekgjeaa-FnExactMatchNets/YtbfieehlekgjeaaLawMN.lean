/- Proved here: 'the program's MatchNets answers as the model's; it writes into no argument and keeps nothing of one; its answer owns its memory', for every two netlists, without a condition. -/
import Derived.Test.YtbfieehlekgjeaaNsN
import Derived.Test.YtbfieehlekgjeaaNmW
import Derived.Test.YtbfieehlekgjeaaNlO
import Derived.Test.YtbfieehlekgjeaaRows
namespace Go.Proofs.Ytbfieehlekgjeaa
open Go.ChangeShapes Go.WideShapes Go.ChangeAt Go.RowKit Go.Joins
set_option linter.unusedVariables false
set_option linter.unusedSimpArgs false

theorem own : ownKnob Try.prog.godebug = none := by kernel_rfl
theorem laidOut : laidOutB Try.prog = true := by kernel_rfl

/-- What has been weighed is small. -/
structure Wd (s : List Dv) : Prop where
  len : s.length ≤ 1048576
  sm : ∀ j (h : j < s.length), smD 1048576 s[j]
theorem Wd.pl {s : List Dv} (h : Wd s) : ∀ j (h : j < s.length), s[j].p.length ≤ 1048576 := fun j hj => by have := h.sm j hj; unfold smD at this; omega
theorem OD.chg {w w' : World} {B Z A C : Nat} {v : Value} {s : List Dv} {rs : List Rd} (h : OD w B Z v s rs) (hc : Chg A C w w') (hd : C ≤ B) : OD w' B Z v s rs :=
  ⟨h.row.keep fun q hq => hc.block q (OG.lt h.row q hq).2 (Or.inr (by have := (OG.lt h.row q hq).1; omega)), h.len, h.k, fun j h1 h2 => (h.p j h1 h2).kept fun q hq => hc.block q (IS.lt (h.p j h1 h2) q hq).2 (Or.inr (by have := (IS.lt (h.p j h1 h2) q hq).1; omega)), h.up, h.upp, h.ris⟩
theorem IS.chg {w w' : World} {B A C : Nat} {v : Value} {s : List Int} (h : IS w B v s) (hc : Chg A C w w') (hd : C ≤ B) : IS w' B v s :=
  h.kept fun q hq => hc.block q (IS.lt h q hq).2 (Or.inr (by have := (IS.lt h q hq).1; omega))
theorem blk_lt {V : World} {k : Nat} {o : Obj} (h : V.heap[k]? = some o) : k < V.heap.size := by
  rcases Nat.lt_or_ge k V.heap.size with h' | h'
  · exact h'
  · rw [Array.getElem?_eq_none h'] at h; cases h
/-- Where the law stands: variables that lie as they were. -/
structure RZ (w W3 : World) (l : List (Nat × Obj)) (V : World) : Prop where
  bl : Below w.heap.size w V
  b3 : Below W3.heap.size W3 V
  at_ : ∀ p ∈ l, V.heap[p.1]? = some p.2
theorem RZ.next {w W3 : World} {l : List (Nat × Obj)} {V V' : World} (h : RZ w W3 l V) (hb : Below V.heap.size V V') : RZ w W3 l V' :=
  ⟨h.bl.trans (hb.mono h.bl.size), h.b3.trans (hb.mono h.b3.size), fun p hp => (hb.block _ (blk_lt (h.at_ p hp))).trans (h.at_ p hp)⟩
theorem RZ.chg {w W3 : World} {l : List (Nat × Obj)} {A C : Nat} {V V' : World} (h : RZ w W3 l V) (hc : Chg A C V V') (hw : w.heap.size ≤ A) (h3 : W3.heap.size ≤ A) (hl : ∀ p ∈ l, p.1 < A ∨ C ≤ p.1) : RZ w W3 l V' :=
  ⟨h.bl.trans (hc.below hw h.bl.size), h.b3.trans (hc.below h3 h.b3.size), fun p hp => (hc.block _ (blk_lt (h.at_ p hp)) (hl p hp)).trans (h.at_ p hp)⟩
theorem RZ.cons {w W3 : World} {l : List (Nat × Obj)} {V : World} {b : Nat} {o : Obj} (h : RZ w W3 l V) (ho : V.heap[b]? = some o) : RZ w W3 ((b, o) :: l) V :=
  ⟨h.bl, h.b3, fun p hp => by rcases List.mem_cons.1 hp with rfl | hp; exact ho; exact h.at_ p hp⟩

set_option maxHeartbeats 1600000 in
theorem eqMR (C : Int) {w : World} {va vb : Value} {s : List Int} (hn : s.length ≤ 1099511627776) (ha : RdI w va s) (hb : RdI w vb s) :
    Calls Try.prog 31 #[.agg #[.int .i64 C, va], .agg #[.int .i64 C, vb]] w fun e w' => e = .returned (.bool true) ∧ Below w.heap.size w w' := by
  obtain ⟨a1, c1', rfl⟩ := ha.form
  obtain ⟨a2, c2', rfl⟩ := hb.form
  obtain ⟨n, hnn⟩ : ∃ n, n = s.length := ⟨_, rfl⟩
  rw [← hnn] at ha hb ⊢
  have H : Hid (RdI w (.slice a1 n c1') s ∧ RdI w (.slice a2 n c2') s ∧ s.length ≤ 1099511627776) := ⟨ha, hb, hn⟩
  clear ha hb hn hnn
  go_enter Try.func31, Try.ntmps31
  go_wp2_with (fail)
  refine (eqInt64S_same H.out.2.2 (H.out.1.below (by (repeat' (first | (with_reducible exact Below.refl _ _) | (with_reducible assumption) | (with_reducible refine Below.setCell ?_ ?_ _) | (with_reducible refine Below.alloc ?_ ?_ _) | (with_reducible refine below_drewN ?_ _) | (with_reducible refine Below.drew ?_) | (with_reducible exact Nat.le_refl _) | omega | (simp; done) | (simp; omega))))) (H.out.2.1.below (by (repeat' (first | (with_reducible exact Below.refl _ _) | (with_reducible assumption) | (with_reducible refine Below.setCell ?_ ?_ _) | (with_reducible refine Below.alloc ?_ ?_ _) | (with_reducible refine below_drewN ?_ _) | (with_reducible refine Below.drew ?_) | (with_reducible exact Nat.le_refl _) | omega | (simp; done) | (simp; omega)))))).mono ?_
  rintro e w1 ⟨rfl, hb1⟩
  have HB1 : Hid (Below w.heap.size w w1) := (show Below w.heap.size w _ from by (repeat' (first | (with_reducible exact Below.refl _ _) | (with_reducible assumption) | (with_reducible refine Below.setCell ?_ ?_ _) | (with_reducible refine Below.alloc ?_ ?_ _) | (with_reducible refine below_drewN ?_ _) | (with_reducible refine Below.drew ?_) | (with_reducible exact Nat.le_refl _) | omega | (simp; done) | (simp; omega)))).trans (hb1.mono (by simp; omega))
  clear hb1
  go_wp2
  go_returns
  exact ⟨rfl, HB1.out⟩

set_option maxHeartbeats 1600000 in
theorem markMR (C : Int) {w : World} {B Z : Nat} {v : Value} {s : List Int} (hn : s.length ≤ 1048576) (h : IS w B v s) (hZ : ∀ g, v.ownBlock = some g → g < Z) :
    Calls Try.prog 32 #[.agg #[.int .i64 C, v], .int .i64 1] w fun e w' => e = .returned (.int .i64 (1 + (s.length : Int))) ∧ IS w' B v (marks 1 s.length) ∧ Chg B Z w w' := by
  obtain ⟨a, c, rfl⟩ := h.form
  obtain ⟨n, hnn⟩ : ∃ n, n = s.length := ⟨_, rfl⟩
  have HN : Hid (n = s.length) := hnn
  rw [← hnn] at h hn hZ ⊢
  have H : Hid (IS w B (.slice a n c) s ∧ n ≤ 1048576 ∧ (∀ g, (Value.slice a n c).ownBlock = some g → g < Z)) := ⟨h, hn, hZ⟩
  clear h hn hZ hnn
  go_enter Try.func32, Try.ntmps32
  go_wp2_with (fail)
  refine (markI (xs := s) 1 (by have := H.out.2.1; have := HN.out; omega) (by omega) (by omega) (H.out.1.bel (by (repeat' (first | (with_reducible exact Below.refl _ _) | (with_reducible assumption) | (with_reducible refine Below.setCell ?_ ?_ _) | (with_reducible refine Below.alloc ?_ ?_ _) | (with_reducible refine below_drewN ?_ _) | (with_reducible refine Below.drew ?_) | (with_reducible exact Nat.le_refl _) | omega | (simp; done) | (simp; omega)))))).mono ?_
  rintro e w1 ⟨rfl, hi, gx, hBx, hgx, hox⟩
  rw [← HN.out] at hi ⊢
  have HC : Hid (IS w1 B (.slice a n c) (marks 1 n) ∧ Chg B Z w w1) := by
    refine ⟨hi, (Chg.of_below (show Below w.heap.size w (w.alloc (.cells #[.int .i64 C, .slice a n c] 60)) from by (repeat' (first | (with_reducible exact Below.refl _ _) | (with_reducible assumption) | (with_reducible refine Below.setCell ?_ ?_ _) | (with_reducible refine Below.alloc ?_ ?_ _) | (with_reducible refine below_drewN ?_ _) | (with_reducible refine Below.drew ?_) | (with_reducible exact Nat.le_refl _) | omega | (simp; done) | (simp; omega))))).trans ?_⟩
    rcases hgx with h2 | h2
    · exact Chg.only hox hBx (H.out.2.2 gx h2)
    · rw [h2]; exact Chg.refl _ _ _
  clear hi hBx hgx hox
  go_wp2
  go_returns
  exact ⟨rfl, HC.out.1, HC.out.2⟩

set_option maxHeartbeats 1600000 in
theorem heldMR (C : Int) {w : World} {B n : Nat} {v : Value} (hn : n ≤ 1048576) (h : IS w B v (marks 1 n)) :
    Calls Try.prog 33 #[.agg #[.int .i64 C, v], .int .i64 1] w fun e w' => e = .returned (.int .i64 (1 + (n : Int))) ∧ Below w.heap.size w w' := by
  obtain ⟨a, c, rfl⟩ := h.form
  rw [marks_length] at h ⊢
  have H : Hid (IS w B (.slice a n c) (marks 1 n)) := h
  clear h
  obtain ⟨T, hT⟩ : ∃ T, T = 1 + (n : Int) := ⟨_, rfl⟩
  have hT0 : ¬ T < 0 := by omega
  have HT : Hid (T = 1 + (n : Int)) := hT
  rw [← hT]
  clear hT
  go_enter Try.func33, Try.ntmps33
  go_wp2_with (fail)
  refine (heldI 1 (by omega) (by omega) (by omega) (H.out.bel (by (repeat' (first | (with_reducible exact Below.refl _ _) | (with_reducible assumption) | (with_reducible refine Below.setCell ?_ ?_ _) | (with_reducible refine Below.alloc ?_ ?_ _) | (with_reducible refine below_drewN ?_ _) | (with_reducible refine Below.drew ?_) | (with_reducible exact Nat.le_refl _) | omega | (simp; done) | (simp; omega)))))).mono ?_
  rintro e w1 ⟨rfl, rfl⟩
  rw [← HT.out]
  go_wp2
  go_returns
  exact ⟨rfl, by (repeat' (first | (with_reducible exact Below.refl _ _) | (with_reducible assumption) | (with_reducible refine Below.setCell ?_ ?_ _) | (with_reducible refine Below.alloc ?_ ?_ _) | (with_reducible refine below_drewN ?_ _) | (with_reducible refine Below.drew ?_) | (with_reducible exact Nat.le_refl _) | omega | (simp; done) | (simp; omega)))⟩

set_option maxRecDepth 10000 in
set_option maxHeartbeats 12800000 in
theorem law_mn {w : World} {aa ab : Option Addr} {n m ca cb : Nat} (N : Int) (s : List Dv) (hm1 : n ≤ maxLen) (h1 : RD w (.slice aa n ca) s) (hok1 : ∀ j (h : j < s.length), okD s[j]) (M : Int) (t : List Dv) (hm2 : m ≤ maxLen) (h2 : RD w (.slice ab m cb) t) (hok2 : ∀ j (h : j < t.length), okD t[j]) :
    Calls Try.prog 7 #[.agg #[.int .i64 N, .slice aa n ca], .agg #[.int .i64 M, .slice ab m cb]] w fun e w' => e = .returned (.bool true) ∧ Below w.heap.size w w' := by
  obtain ⟨X, hX⟩ : ∃ X, X = Obj.cells #[.int .i64 N, .slice aa n ca] 37 := ⟨_, rfl⟩
  obtain ⟨Y, hY⟩ : ∃ Y, Y = Obj.cells #[.int .i64 M, .slice ab m cb] 37 := ⟨_, rfl⟩
  obtain ⟨L, hL⟩ : ∃ L, L = mnL N M s t := ⟨_, rfl⟩
  obtain ⟨C, hC⟩ : ∃ C, C = mnC N M s t := ⟨_, rfl⟩
  have H : Hid ((RD w (.slice aa n ca) s ∧ RD w (.slice ab m cb) t) ∧ (n = s.length ∧ m = t.length) ∧ (n ≤ maxLen ∧ m ≤ maxLen) ∧ (∀ j (h : j < s.length), okD s[j]) ∧ (∀ j (h : j < t.length), okD t[j])) := ⟨⟨h1, h2⟩, ⟨h1.len, h2.len⟩, ⟨hm1, hm2⟩, hok1, hok2⟩
  have TW : Hid (∀ W : World, W.heap[w.heap.size]? = some X → W.heap[w.heap.size + 1]? = some Y → W.cell? ⟨w.heap.size, 0, none⟩ = some (.int .i64 N) ∧ W.cell? ⟨w.heap.size, 1, none⟩ = some (.slice aa n ca) ∧ W.cell? ⟨w.heap.size + 1, 0, none⟩ = some (.int .i64 M) ∧ W.cell? ⟨w.heap.size + 1, 1, none⟩ = some (.slice ab m cb) ∧ w.heap.size < W.heap.size ∧ w.heap.size + 1 < W.heap.size) := fun W h h' => SB2_two ⟨by rw [h, hX], by rw [h', hY]⟩
  have HN : Hid (SB2 w X Y ((w.alloc (.cells #[.int .i64 N, .slice aa n ca] 37)).alloc (.cells #[.int .i64 M, .slice ab m cb] 37))) := by rw [← hX, ← hY]; exact SB2.new w X Y
  clear h1 h2 hm1 hm2 hok1 hok2 hX hY
  go_enter Try.func7, Try.ntmps7
  go_wp2_with (fail)
  refine (szNetlist_gen N aa n ca 1048576 s _ (by omega) (by omega) H.out.2.2.1.1 (H.out.1.1.below HN.out.bl) H.out.2.2.2.1).mono ?_
  rintro e w0 ⟨r, rfl, hr, hb0⟩
  have B0 : Hid (SB2 w X Y w0) := HN.out.next hb0
  clear hb0
  rcases hr with hneg | ⟨g1, g2, g3, g4⟩
  · go_wp2
    go_returns
    exact ⟨rfl, B0.out.bl⟩
  have hr0 : ¬ r < 0 := by omega
  have HS : Hid (Wd s) := ⟨by rw [← H.out.2.1.1]; omega, g4⟩
  clear g4
  obtain ⟨p0, p1, p2, p3, p4, p5⟩ := TW.out _ B0.out.bx B0.out.by_
  go_wp2_with (fail)
  refine (szNetlist_gen M ab m cb r t _ (by omega) (by omega) H.out.2.2.1.2 (H.out.1.2.below B0.out.bl) H.out.2.2.2.2).mono ?_
  rintro e w1 ⟨r2, rfl, hr2, hb1⟩
  have B1 : Hid (SB2 w X Y w1) := B0.out.next hb1
  clear hb1 p0 p1 p2 p3 p4 p5
  rcases hr2 with hneg | ⟨g5, g6, g7, g8⟩
  · go_wp2
    go_returns
    exact ⟨rfl, B1.out.bl⟩
  have hr02 : ¬ r2 < 0 := by omega
  have HT : Hid (Wd t) := ⟨by rw [← H.out.2.1.2]; omega, fun j hj => by have := g8 j hj; unfold smD at this ⊢; omega⟩
  clear g8
  have HSP : Hid (∀ {W : World} {va vb : Value}, RD W va s → RD W vb t → Calls Try.prog 29 #[.agg #[.int .i64 N, va], .agg #[.int .i64 M, vb]] W fun e w' => ∃ v, e = .returned (.agg #[.int .i64 C, v]) ∧ IS w' W.heap.size v L ∧ Below W.heap.size W w') := fun {W va vb} ha hb => by rw [hL, hC]; exact spec_mn N M HS.out.len HT.out.len HS.out.sm HT.out.sm ha hb
  have HIM : Hid (∀ {W : World} {va vb : Value}, RD W va s → RD W vb t → Calls Try.prog 30 #[.agg #[.int .i64 N, va], .agg #[.int .i64 M, vb]] W fun e w' => ∃ v, e = .returned (.agg #[.int .i64 C, v]) ∧ IS w' W.heap.size v L ∧ Below W.heap.size W w') := fun {W va vb} ha hb => by rw [hL, hC]; exact impl_mn N M HS.out.len HT.out.len HS.out.sm HT.out.sm ha hb
  have HLL : Hid (L.length ≤ 1048576) := by
    unfold Hid
    rw [hL]
    exact mnL_len N M s t
  clear hL hC
  obtain ⟨p0, p1, p2, p3, p4, p5⟩ := TW.out _ B1.out.bx B1.out.by_
  go_wp2_with (fail)
  refine wp_region_float (by kernel_rfl) (fun hS => ?_)
  refine fl_take (i := 0) (d := 24) (v := .agg #[.int .i64 N, .slice aa n ca]) rfl rfl rfl (by kernel_rfl) (by kernel_rfl) (by kernel_rfl) hS ?_ ?_
  · intro w' hk; go_simp
  simp only [Act.put, List.setIfInBounds_toArray, List.set_cons_zero, List.set_cons_succ]
  refine fl_take (i := 2) (d := 26) (v := .agg #[.int .i64 M, .slice ab m cb]) rfl rfl rfl (by kernel_rfl) (by kernel_rfl) (by kernel_rfl) hS ?_ ?_
  · intro w' hk; go_simp
  simp only [Act.put, List.setIfInBounds_toArray, List.set_cons_zero, List.set_cons_succ]
  refine float_pend (z := #[.int .i64 0, .slice none 0 0]) (T := 60) (ja := 5) (js := 6) rfl rfl rfl rfl rfl (fun a w => by go_simp) [1, 3, 4] _ _ _ (fun _ => False) (by kernel_rfl) (by kernel_rfl) ?_ (Nat.le_refl _) (fun _ h => h.elim) hS
  intro z1 hW1
  have hB1 : Below w1.heap.size w1 z1 := hS.2.trans (hW1.mono hS.2.size)
  refine ⟨_, 25, _, _, rfl, rfl, by go_simp, (toNetlist_any N HS.out.len HS.out.sm ((H.out.1.1.below B1.out.bl).below hB1)).mono ?_⟩
  rintro e z2 ⟨ga, rsa, Za, rfl, ka, za, hba⟩
  refine ⟨_, rfl, hba, ?_⟩
  simp only [Act.put, List.setIfInBounds_toArray, List.set_cons_zero, List.set_cons_succ]
  intro z3 hW3
  have hB3 : Below w1.heap.size w1 z3 := (hB1.trans (hba.mono hB1.size)).trans (hW3.mono (Nat.le_trans hB1.size hba.size))
  refine ⟨_, 27, _, _, rfl, rfl, by go_simp, (toNetlist_any M HT.out.len HT.out.sm ((H.out.1.2.below B1.out.bl).below hB3)).mono ?_⟩
  rintro e z4 ⟨gb, rsb, Zb, rfl, kb, zb, hbb⟩
  refine ⟨_, rfl, hbb, ?_⟩
  simp only [Act.put, List.setIfInBounds_toArray, List.set_cons_zero, List.set_cons_succ]
  intro z5 hW5
  refine ⟨_, 28, _, _, rfl, rfl, by go_simp, (HSP.out (((ka.rd.below hW3).below hbb).below hW5) (kb.rd.below hW5)).mono ?_⟩
  rintro e z6 ⟨vq, rfl, hiq, hbq⟩
  obtain ⟨qa, qc, rfl⟩ := hiq.form
  refine ⟨_, rfl, hbq, ?_⟩
  simp only [Act.put, List.setIfInBounds_toArray, List.set_cons_zero, List.set_cons_succ]
  unfold Fl
  refine after_store ?_ _ _ _ #[.int .i64 C, .slice qa L.length qc] (by rfl) (by rfl) (fun _ => by rfl) (fun _ => by rfl) (by simp) (by kernel_rfl) (by simp [Value.oneCell']) ?_
  · exact Nat.le_refl _
  intro k1 V1 hK hk1 hk2 hF hoth hsz hcell
  simp only [Act.put, List.setIfInBounds_toArray, List.set_cons_zero, List.set_cons_succ]
  refine NoPanic.normal ?_
  have hiV : IS V1 z5.heap.size (.slice qa L.length qc) L := hiq.kept fun q hq => hoth q (fun e => hF (by subst e; exact Or.inr (IS.lt hiq q hq))) (IS.lt hiq q hq).2
  obtain ⟨oq, hoq⟩ : ∃ oq, V1.heap[k1]? = some oq := ⟨_, Array.getElem?_eq_getElem hk2⟩
  have hc0 := hcell 0 (.int .i64 C) rfl
  have hc1 := hcell 1 (.slice qa L.length qc) rfl
  have T6 : Hid (∀ W : World, W.heap[k1]? = some oq → W.cell? ⟨k1, 0, none⟩ = some (.int .i64 C) ∧ W.cell? ⟨k1, 1, none⟩ = some (.slice qa L.length qc) ∧ k1 < W.heap.size) := fun W h => ⟨(World.cell?_of_block (a := ⟨k1, 0, none⟩) (h.trans hoq.symm)).trans hc0, (World.cell?_of_block (a := ⟨k1, 1, none⟩) (h.trans hoq.symm)).trans hc1, blk_lt h⟩
  have hz1 := B1.out.bl.size
  have hz2 := blk_lt B1.out.by_
  have R3 : Hid (RZ w V1 [(w.heap.size, X), (w.heap.size + 1, Y), (k1, oq)] V1 ∧ RdI V1 (.slice qa L.length qc) L ∧ k1 < V1.heap.size ∧ w.heap.size + 1 < V1.heap.size) := by
    refine ⟨((((⟨(B1.out.next hK.2).bl, Below.refl _ _, fun p hp => by simp at hp⟩ : RZ w V1 [] V1).cons hoq).cons (B1.out.next hK.2).by_).cons (B1.out.next hK.2).bx), hiV.rg, hk2, blk_lt (B1.out.next hK.2).by_⟩
  clear hK hk1 hk2 hF hoth hsz hcell hiV hoq hc0 hc1 hiq hbq hW5 kb zb hbb hB3 hW3 ka za hba hB1 hW1 hS p0 p1 p2 p3 p4 p5 z1 z2 z3 z4 z5 z6 hz1 hz2
  obtain ⟨p0, p1, p2, p3, p4, p5⟩ := TW.out _ (R3.out.1.at_ (_, X) (by simp)) (R3.out.1.at_ (_, Y) (by simp))
  go_wp2_with (fail)
  refine (toNetlist_any N HS.out.len HS.out.sm (H.out.1.1.below R3.out.1.bl)).mono ?_
  rintro e w4 ⟨g4, rs4, Z4, rfl, k4, z4, hb4⟩
  obtain ⟨o7, ho7⟩ : ∃ o7, o7 = Obj.cells #[.int .i64 N, .slice (some ⟨g4, 0, none⟩) s.length s.length] 42 := ⟨_, rfl⟩
  have hal4 : Below w4.heap.size w4 (w4.alloc (.cells #[.int .i64 N, .slice (some ⟨g4, 0, none⟩) s.length s.length] 42)) := by (repeat' (first | (with_reducible exact Below.refl _ _) | (with_reducible assumption) | (with_reducible refine Below.setCell ?_ ?_ _) | (with_reducible refine Below.alloc ?_ ?_ _) | (with_reducible refine below_drewN ?_ _) | (with_reducible refine Below.drew ?_) | (with_reducible exact Nat.le_refl _) | omega | (simp; done) | (simp; omega)))
  have R4 : Hid (RZ w V1 [(w4.heap.size, o7), (w.heap.size, X), (w.heap.size + 1, Y), (k1, oq)] (w4.alloc (.cells #[.int .i64 N, .slice (some ⟨g4, 0, none⟩) s.length s.length] 42)) ∧ OD (w4.alloc (.cells #[.int .i64 N, .slice (some ⟨g4, 0, none⟩) s.length s.length] 42)) V1.heap.size Z4 (.slice (some ⟨g4, 0, none⟩) s.length s.length) s rs4 ∧ Z4 ≤ w4.heap.size ∧ V1.heap.size ≤ w4.heap.size) := ⟨((R3.out.1.next hb4).next hal4).cons (by rw [ho7]; exact heap_alloc_new w4 _), k4.below hal4, z4, hb4.size⟩
  obtain ⟨W4, hW4⟩ : ∃ W4, W4 = w4.alloc (.cells #[.int .i64 N, .slice (some ⟨g4, 0, none⟩) s.length s.length] 42) := ⟨_, rfl⟩
  have HW4 : Hid _ := hW4
  have HZ4 : Hid (W4.heap.size = w4.heap.size + 1) := by unfold Hid; rw [hW4]; simp
  rw [← hW4] at R4
  clear k4 z4 hb4 p0 p1 p2 p3 p4 p5 hal4 hW4
  have T7 : Hid (∀ W : World, W.heap[w4.heap.size]? = some o7 → W.cell? ⟨w4.heap.size, 0, none⟩ = some (.int .i64 N) ∧ W.cell? ⟨w4.heap.size, 1, none⟩ = some (.slice (some ⟨g4, 0, none⟩) s.length s.length) ∧ w4.heap.size < W.heap.size) := fun W h => by rw [ho7] at h; obtain ⟨a, b, _, d⟩ := two_at h; exact ⟨a, b, d⟩
  clear ho7
  have q0 := TW.out _ (R4.out.1.at_ (_, X) (by simp)) (R4.out.1.at_ (_, Y) (by simp))
  rw [HW4.out] at q0
  obtain ⟨p0, p1, p2, p3, p4, p5⟩ := q0
  go_wp2_with (fail)
  rw [← HW4.out]
  refine (toNetlist_any M HT.out.len HT.out.sm (H.out.1.2.below R4.out.1.bl)).mono ?_
  rintro e w5 ⟨g5, rs5, Z5, rfl, k5, z5, hb5⟩
  obtain ⟨o8, ho8⟩ : ∃ o8, o8 = Obj.cells #[.int .i64 M, .slice (some ⟨g5, 0, none⟩) t.length t.length] 42 := ⟨_, rfl⟩
  have hal5 : Below w5.heap.size w5 (w5.alloc (.cells #[.int .i64 M, .slice (some ⟨g5, 0, none⟩) t.length t.length] 42)) := by (repeat' (first | (with_reducible exact Below.refl _ _) | (with_reducible assumption) | (with_reducible refine Below.setCell ?_ ?_ _) | (with_reducible refine Below.alloc ?_ ?_ _) | (with_reducible refine below_drewN ?_ _) | (with_reducible refine Below.drew ?_) | (with_reducible exact Nat.le_refl _) | omega | (simp; done) | (simp; omega)))
  have hb55 := hb5.trans (hal5.mono hb5.size)
  have R5 : Hid (RZ w V1 [(w5.heap.size, o8), (w4.heap.size, o7), (w.heap.size, X), (w.heap.size + 1, Y), (k1, oq)] (w5.alloc (.cells #[.int .i64 M, .slice (some ⟨g5, 0, none⟩) t.length t.length] 42)) ∧ OD (w5.alloc (.cells #[.int .i64 M, .slice (some ⟨g5, 0, none⟩) t.length t.length] 42)) V1.heap.size Z4 (.slice (some ⟨g4, 0, none⟩) s.length s.length) s rs4 ∧ OD (w5.alloc (.cells #[.int .i64 M, .slice (some ⟨g5, 0, none⟩) t.length t.length] 42)) W4.heap.size Z5 (.slice (some ⟨g5, 0, none⟩) t.length t.length) t rs5 ∧ Z5 ≤ w5.heap.size ∧ W4.heap.size ≤ w5.heap.size) := ⟨(R4.out.1.next hb55).cons (by rw [ho8]; exact heap_alloc_new w5 _), R4.out.2.1.below hb55, k5.below hal5, z5, hb5.size⟩
  obtain ⟨W5, hW5⟩ : ∃ W5, W5 = w5.alloc (.cells #[.int .i64 M, .slice (some ⟨g5, 0, none⟩) t.length t.length] 42) := ⟨_, rfl⟩
  have HW5 : Hid _ := hW5
  have HZ5 : Hid (W5.heap.size = w5.heap.size + 1) := by unfold Hid; rw [hW5]; simp
  rw [← hW5] at R5
  have K7 : Hid (w5.heap[w4.heap.size]? = some o7) := (R4.out.1.next hb5).at_ (_, o7) (by simp)
  clear k5 z5 hb5 p0 p1 p2 p3 p4 p5 hal5 hW5 hb55
  have T8 : Hid (∀ W : World, W.heap[w5.heap.size]? = some o8 → W.cell? ⟨w5.heap.size, 0, none⟩ = some (.int .i64 M) ∧ W.cell? ⟨w5.heap.size, 1, none⟩ = some (.slice (some ⟨g5, 0, none⟩) t.length t.length) ∧ w5.heap.size < W.heap.size) := fun W h => by rw [ho8] at h; obtain ⟨a, b, _, d⟩ := two_at h; exact ⟨a, b, d⟩
  clear ho8
  obtain ⟨s0, s1, s2⟩ := T7.out _ K7.out
  go_wp2_with (fail)
  rw [← HW5.out]
  refine (HIM.out R5.out.2.1.rd R5.out.2.2.1.rd).mono ?_
  rintro e w6 ⟨v6, rfl, hi6, hb6⟩
  obtain ⟨a6, c6, rfl⟩ := hi6.form
  obtain ⟨o9, ho9⟩ : ∃ o9, o9 = Obj.cells #[.int .i64 C, .slice a6 L.length c6] 60 := ⟨_, rfl⟩
  obtain ⟨W6, hW6⟩ : ∃ W6, W6 = w6.alloc (.cells #[.int .i64 C, .slice a6 L.length c6] 60) := ⟨_, rfl⟩
  have hal6 : Below w6.heap.size w6 W6 := by rw [hW6]; (repeat' (first | (with_reducible exact Below.refl _ _) | (with_reducible assumption) | (with_reducible refine Below.setCell ?_ ?_ _) | (with_reducible refine Below.alloc ?_ ?_ _) | (with_reducible refine below_drewN ?_ _) | (with_reducible refine Below.drew ?_) | (with_reducible exact Nat.le_refl _) | omega | (simp; done) | (simp; omega)))
  have hb66 := hb6.trans (hal6.mono hb6.size)
  have R6 : Hid (RZ w V1 [(w6.heap.size, o9), (w5.heap.size, o8), (w4.heap.size, o7), (w.heap.size, X), (w.heap.size + 1, Y), (k1, oq)] W6 ∧ OD W6 V1.heap.size Z4 (.slice (some ⟨g4, 0, none⟩) s.length s.length) s rs4 ∧ OD W6 W4.heap.size Z5 (.slice (some ⟨g5, 0, none⟩) t.length t.length) t rs5 ∧ IS W6 W5.heap.size (.slice a6 L.length c6) L) := ⟨(R5.out.1.next hb66).cons (by rw [hW6, ho9]; exact heap_alloc_new w6 _), R5.out.2.1.below hb66, R5.out.2.2.1.below hb66, hi6.bel hal6⟩
  have K6 : Hid (w6.heap[k1]? = some oq) := (R5.out.1.next hb6).at_ (_, oq) (by simp)
  have HG6 : Hid (∀ g, (Value.slice a6 L.length c6).ownBlock = some g → g < w6.heap.size) := fun g hg => (IS.lt hi6 g hg).2
  have HNUM : Hid (w.heap.size + 1 < V1.heap.size ∧ k1 < V1.heap.size ∧ Z4 ≤ w4.heap.size ∧ V1.heap.size ≤ w4.heap.size ∧ W4.heap.size = w4.heap.size + 1 ∧ Z5 ≤ w5.heap.size ∧ W4.heap.size ≤ w5.heap.size ∧ W5.heap.size = w5.heap.size + 1 ∧ W5.heap.size ≤ w6.heap.size) := ⟨R3.out.2.2.2, R3.out.2.2.1, R4.out.2.2.1, R4.out.2.2.2, HZ4.out, R5.out.2.2.2.1, R5.out.2.2.2.2, HZ5.out, hb6.size⟩
  have HW6 : Hid _ := hW6
  have T9 : Hid (∀ W : World, W.heap[w6.heap.size]? = some o9 → W.cell? ⟨w6.heap.size, 0, none⟩ = some (.int .i64 C) ∧ W.cell? ⟨w6.heap.size, 1, none⟩ = some (.slice a6 L.length c6) ∧ w6.heap.size < W.heap.size) := fun W h => by rw [ho9] at h; obtain ⟨a, b, _, d⟩ := two_at h; exact ⟨a, b, d⟩
  clear hW6 hi6 hb6 hal6 hb66 s0 s1 s2 ho9 K7 R4 R5 HN B0 B1
  obtain ⟨s0, s1, s2⟩ := T6.out _ K6.out
  go_wp2_with (fail)
  rw [← HW6.out]
  refine (eqMR C (by have := HLL.out; omega) R6.out.2.2.2.rg (R3.out.2.1.below R6.out.1.b3)).mono ?_
  rintro e w7 ⟨rfl, hb7⟩
  have R7 : Hid (RZ w V1 [(w6.heap.size, o9), (w5.heap.size, o8), (w4.heap.size, o7), (w.heap.size, X), (w.heap.size + 1, Y), (k1, oq)] w7 ∧ OD w7 V1.heap.size Z4 (.slice (some ⟨g4, 0, none⟩) s.length s.length) s rs4 ∧ OD w7 W4.heap.size Z5 (.slice (some ⟨g5, 0, none⟩) t.length t.length) t rs5 ∧ IS w7 W5.heap.size (.slice a6 L.length c6) L) := ⟨R6.out.1.next hb7, R6.out.2.1.below hb7, R6.out.2.2.1.below hb7, R6.out.2.2.2.bel hb7⟩
  clear hb7 s0 s1 s2 R6 HW6 K6
  obtain ⟨s0, s1, s2⟩ := T7.out _ (R7.out.1.at_ (_, o7) (by simp))
  obtain ⟨p0, p1, p2, p3, p4, p5⟩ := TW.out _ (R7.out.1.at_ (_, X) (by simp)) (R7.out.1.at_ (_, Y) (by simp))
  go_wp2_with (fail)
  refine wp_region_float (by kernel_rfl) (fun hS => ?_)
  refine fl_take (i := 0) (d := 40) (v := .agg #[.int .i64 N, .slice (some ⟨g4, 0, none⟩) s.length s.length]) rfl rfl rfl (by kernel_rfl) (by kernel_rfl) (by kernel_rfl) hS ?_ ?_
  · intro w' hk; go_simp
  simp only [Act.put, List.setIfInBounds_toArray, List.set_cons_zero, List.set_cons_succ]
  refine fl_take (i := 1) (d := 41) (v := .agg #[.int .i64 N, .slice aa n ca]) rfl rfl rfl (by kernel_rfl) (by kernel_rfl) (by kernel_rfl) hS ?_ ?_
  · intro w' hk; go_simp
  simp only [Act.put, List.setIfInBounds_toArray, List.set_cons_zero, List.set_cons_succ]
  refine wpAnyH_all (rs := [2]) (by kernel_rfl) (by simp) ?_
  intro i hi'
  obtain rfl : i = 2 := by simpa using hi'
  refine op_call (d := 42) rfl rfl rfl (by go_simp) ((toNetlist_any N HS.out.len HS.out.sm ((H.out.1.1.below R7.out.1.bl).below hS.2)).mono ?_)
  rintro e u2 ⟨gd, rsd, Zd, rfl, kd, zd, hbd⟩
  have hK2 := hS.call hbd
  refine ⟨_, rfl, hK2, ?_⟩
  simp only [Act.put, List.setIfInBounds_toArray, List.set_cons_zero, List.set_cons_succ]
  refine wpAnyH_all (rs := [3]) (by kernel_rfl) (by simp) ?_
  intro i hi'
  obtain rfl : i = 3 := by simpa using hi'
  refine op_call (d := 43) rfl rfl rfl (by go_simp) ((eqNetlist_same N (by have := HS.out.len; omega) HS.out.sm (R7.out.2.1.rd.below hK2.2) kd.rd).mono ?_)
  rintro e u3 ⟨rfl, hbe⟩
  have hK3 := hK2.call hbe
  refine ⟨_, rfl, hK3, ?_⟩
  simp only [Act.put, List.setIfInBounds_toArray, List.set_cons_zero, List.set_cons_succ]
  refine wpAnyH_all (rs := [4]) (by kernel_rfl) (by simp) ?_
  intro i hi'
  obtain rfl : i = 4 := by simpa using hi'
  refine op_val (d := 44) (v := .bool false) (w' := u3) rfl rfl rfl (by go_simp; try rfl) ?_
  simp only [Act.put, List.setIfInBounds_toArray, List.set_cons_zero, List.set_cons_succ]
  refine ⟨hK3, wpAnyH_done (by kernel_rfl) (NoPanic.normal ?_) _⟩
  have hb8 := hK3.2
  have R8 : Hid (RZ w V1 [(w6.heap.size, o9), (w5.heap.size, o8), (w4.heap.size, o7), (w.heap.size, X), (w.heap.size + 1, Y), (k1, oq)] u3 ∧ OD u3 V1.heap.size Z4 (.slice (some ⟨g4, 0, none⟩) s.length s.length) s rs4 ∧ OD u3 W4.heap.size Z5 (.slice (some ⟨g5, 0, none⟩) t.length t.length) t rs5 ∧ IS u3 W5.heap.size (.slice a6 L.length c6) L) := ⟨R7.out.1.next hb8, R7.out.2.1.below hb8, R7.out.2.2.1.below hb8, R7.out.2.2.2.bel hb8⟩
  clear hb8 hK3 hK2 hS kd zd hbd hbe s0 s1 s2 p0 p1 p2 p3 p4 p5 R7
  obtain ⟨s0, s1, s2⟩ := T8.out _ (R8.out.1.at_ (_, o8) (by simp))
  obtain ⟨p0, p1, p2, p3, p4, p5⟩ := TW.out _ (R8.out.1.at_ (_, X) (by simp)) (R8.out.1.at_ (_, Y) (by simp))
  go_wp2_with (fail)
  refine wp_region_float (by kernel_rfl) (fun hS => ?_)
  refine fl_take (i := 0) (d := 45) (v := .agg #[.int .i64 M, .slice (some ⟨g5, 0, none⟩) t.length t.length]) rfl rfl rfl (by kernel_rfl) (by kernel_rfl) (by kernel_rfl) hS ?_ ?_
  · intro w' hk; go_simp
  simp only [Act.put, List.setIfInBounds_toArray, List.set_cons_zero, List.set_cons_succ]
  refine fl_take (i := 1) (d := 46) (v := .agg #[.int .i64 M, .slice ab m cb]) rfl rfl rfl (by kernel_rfl) (by kernel_rfl) (by kernel_rfl) hS ?_ ?_
  · intro w' hk; go_simp
  simp only [Act.put, List.setIfInBounds_toArray, List.set_cons_zero, List.set_cons_succ]
  refine wpAnyH_all (rs := [2]) (by kernel_rfl) (by simp) ?_
  intro i hi'
  obtain rfl : i = 2 := by simpa using hi'
  refine op_call (d := 47) rfl rfl rfl (by go_simp) ((toNetlist_any M HT.out.len HT.out.sm ((H.out.1.2.below R8.out.1.bl).below hS.2)).mono ?_)
  rintro e v2 ⟨gd, rsd, Zd, rfl, kd, zd, hbd⟩
  have hK2 := hS.call hbd
  refine ⟨_, rfl, hK2, ?_⟩
  simp only [Act.put, List.setIfInBounds_toArray, List.set_cons_zero, List.set_cons_succ]
  refine wpAnyH_all (rs := [3]) (by kernel_rfl) (by simp) ?_
  intro i hi'
  obtain rfl : i = 3 := by simpa using hi'
  refine op_call (d := 48) rfl rfl rfl (by go_simp) ((eqNetlist_same M (by have := HT.out.len; omega) HT.out.sm (R8.out.2.2.1.rd.below hK2.2) kd.rd).mono ?_)
  rintro e v3 ⟨rfl, hbe⟩
  have hK3 := hK2.call hbe
  refine ⟨_, rfl, hK3, ?_⟩
  simp only [Act.put, List.setIfInBounds_toArray, List.set_cons_zero, List.set_cons_succ]
  refine wpAnyH_all (rs := [4]) (by kernel_rfl) (by simp) ?_
  intro i hi'
  obtain rfl : i = 4 := by simpa using hi'
  refine op_val (d := 49) (v := .bool false) (w' := v3) rfl rfl rfl (by go_simp; try rfl) ?_
  simp only [Act.put, List.setIfInBounds_toArray, List.set_cons_zero, List.set_cons_succ]
  refine ⟨hK3, wpAnyH_done (by kernel_rfl) (NoPanic.normal ?_) _⟩
  have hb8 := hK3.2
  have R9 : Hid (RZ w V1 [(w6.heap.size, o9), (w5.heap.size, o8), (w4.heap.size, o7), (w.heap.size, X), (w.heap.size + 1, Y), (k1, oq)] v3 ∧ OD v3 V1.heap.size Z4 (.slice (some ⟨g4, 0, none⟩) s.length s.length) s rs4 ∧ OD v3 W4.heap.size Z5 (.slice (some ⟨g5, 0, none⟩) t.length t.length) t rs5 ∧ IS v3 W5.heap.size (.slice a6 L.length c6) L) := ⟨R8.out.1.next hb8, R8.out.2.1.below hb8, R8.out.2.2.1.below hb8, R8.out.2.2.2.bel hb8⟩
  clear hb8 hK3 hK2 hS kd zd hbd hbe s0 s1 s2 p0 p1 p2 p3 p4 p5 R8
  obtain ⟨s0, s1, s2⟩ := T7.out _ (R9.out.1.at_ (_, o7) (by simp))
  go_wp2_with (fail)
  refine (markNL N 1 HS.out.len HS.out.pl (by omega) (by omega) R9.out.2.1).mono ?_
  rintro e w11 ⟨rfl, _, hc11⟩
  have hcz := HNUM.out
  have R11 : Hid (RZ w V1 [(w6.heap.size, o9), (w5.heap.size, o8), (w4.heap.size, o7), (w.heap.size, X), (w.heap.size + 1, Y), (k1, oq)] w11 ∧ OD w11 W4.heap.size Z5 (.slice (some ⟨g5, 0, none⟩) t.length t.length) t rs5 ∧ IS w11 W5.heap.size (.slice a6 L.length c6) L) := ⟨R9.out.1.chg hc11 (by omega) (by omega) (fun p hp => by simp at hp; rcases hp with rfl | rfl | rfl | rfl | rfl | rfl <;> simp <;> omega), R9.out.2.2.1.chg hc11 (by omega), R9.out.2.2.2.chg hc11 (by omega)⟩
  have hk1 := stD_le (k := 1) HS.out.pl s.length (Nat.le_refl _)
  have hsl := HS.out.len
  obtain ⟨K1, hK1⟩ : ∃ K1, K1 = stD s 1 s.length := ⟨_, rfl⟩
  rw [← hK1] at hk1 ⊢
  have hk10 : 0 ≤ K1 := by omega
  have hk11 : K1 ≤ 4398046511104 := by omega
  clear hc11 hcz s0 s1 s2 hK1 hk1 R9
  obtain ⟨s0, s1, s2⟩ := T8.out _ (R11.out.1.at_ (_, o8) (by simp))
  go_wp2_with (fail)
  refine (markNL M K1 HT.out.len HT.out.pl hk10 hk11 R11.out.2.1).mono ?_
  rintro e w12 ⟨rfl, _, hc12⟩
  have hcz := HNUM.out
  have R12 : Hid (RZ w V1 [(w6.heap.size, o9), (w5.heap.size, o8), (w4.heap.size, o7), (w.heap.size, X), (w.heap.size + 1, Y), (k1, oq)] w12 ∧ IS w12 W5.heap.size (.slice a6 L.length c6) L) := ⟨R11.out.1.chg hc12 (by omega) (by omega) (fun p hp => by simp at hp; rcases hp with rfl | rfl | rfl | rfl | rfl | rfl <;> simp <;> omega), R11.out.2.2.chg hc12 (by omega)⟩
  have hk2 := stD_le (k := K1) HT.out.pl t.length (Nat.le_refl _)
  obtain ⟨K2, hK2⟩ : ∃ K2, K2 = stD t K1 t.length := ⟨_, rfl⟩
  rw [← hK2] at hk2 ⊢
  have hk20 : ¬ K2 < 0 := by omega
  clear hc12 hcz s0 s1 s2 hK2 hk2 R11
  obtain ⟨s0, s1, s2⟩ := T6.out _ (R12.out.1.at_ (_, oq) (by simp))
  obtain ⟨t0, t1, t2⟩ := T9.out _ (R12.out.1.at_ (_, o9) (by simp))
  go_wp2_with (fail)
  refine (eqMR C (by have := HLL.out; omega) R12.out.2.rg (R3.out.2.1.below R12.out.1.b3)).mono ?_
  rintro e w13 ⟨rfl, hb13⟩
  have R13 : Hid (RZ w V1 [(w6.heap.size, o9), (w5.heap.size, o8), (w4.heap.size, o7), (w.heap.size, X), (w.heap.size + 1, Y), (k1, oq)] w13 ∧ IS w13 W5.heap.size (.slice a6 L.length c6) L) := ⟨R12.out.1.next hb13, R12.out.2.bel hb13⟩
  clear hb13 s0 s1 s2 t0 t1 t2 R12
  obtain ⟨t0, t1, t2⟩ := T9.out _ (R13.out.1.at_ (_, o9) (by simp))
  go_wp2_with (fail)
  refine (markMR C (Z := w6.heap.size) HLL.out R13.out.2 HG6.out).mono ?_
  rintro e w14 ⟨rfl, hi14, hc14⟩
  have hcz := HNUM.out
  have R14 : Hid (RZ w V1 [(w6.heap.size, o9), (w5.heap.size, o8), (w4.heap.size, o7), (w.heap.size, X), (w.heap.size + 1, Y), (k1, oq)] w14 ∧ IS w14 W5.heap.size (.slice a6 L.length c6) (marks 1 L.length)) := ⟨R13.out.1.chg hc14 (by omega) (by omega) (fun p hp => by simp at hp; rcases hp with rfl | rfl | rfl | rfl | rfl | rfl <;> simp <;> omega), hi14⟩
  obtain ⟨mm, hm⟩ : ∃ mm, mm = 1 + (L.length : Int) := ⟨_, rfl⟩
  have HM : Hid (mm = 1 + (L.length : Int)) := hm
  rw [← hm]
  have hm1 : ¬ mm < 0 := by omega
  clear hc14 hcz hi14 t0 t1 t2 R13 hm
  obtain ⟨t0, t1, t2⟩ := T9.out _ (R14.out.1.at_ (_, o9) (by simp))
  go_wp2_with (fail)
  refine (heldMR C HLL.out R14.out.2).mono ?_
  rintro e w15 ⟨rfl, hb15⟩
  rw [← HM.out]
  have R15 : Hid (RZ w V1 [(w6.heap.size, o9), (w5.heap.size, o8), (w4.heap.size, o7), (w.heap.size, X), (w.heap.size + 1, Y), (k1, oq)] w15 ∧ IS w15 W5.heap.size (.slice a6 L.length c6) (marks 1 L.length)) := ⟨R14.out.1.next hb15, R14.out.2.bel hb15⟩
  clear hb15 t0 t1 t2 R14
  obtain ⟨p0, p1, p2, p3, p4, p5⟩ := TW.out _ (R15.out.1.at_ (_, X) (by simp)) (R15.out.1.at_ (_, Y) (by simp))
  go_wp2_with (fail)
  refine wp_region_float (by kernel_rfl) (fun hS => ?_)
  refine fl_take (i := 0) (d := 75) (v := .agg #[.int .i64 N, .slice aa n ca]) rfl rfl rfl (by kernel_rfl) (by kernel_rfl) (by kernel_rfl) hS ?_ ?_
  · intro w' hk; go_simp
  simp only [Act.put, List.setIfInBounds_toArray, List.set_cons_zero, List.set_cons_succ]
  refine fl_take (i := 2) (d := 77) (v := .agg #[.int .i64 M, .slice ab m cb]) rfl rfl rfl (by kernel_rfl) (by kernel_rfl) (by kernel_rfl) hS ?_ ?_
  · intro w' hk; go_simp
  simp only [Act.put, List.setIfInBounds_toArray, List.set_cons_zero, List.set_cons_succ]
  refine float_pend (z := #[.int .i64 0, .slice none 0 0]) (T := 60) (ja := 5) (js := 6) rfl rfl rfl rfl rfl (fun a w => by go_simp) [1, 3, 4] _ _ _ (fun _ => False) (by kernel_rfl) (by kernel_rfl) ?_ (Nat.le_refl _) (fun _ h => h.elim) hS
  intro y1 hW1
  have hB1 : Below w15.heap.size w15 y1 := hS.2.trans (hW1.mono hS.2.size)
  refine ⟨_, 76, _, _, rfl, rfl, by go_simp, (toNetlist_any N HS.out.len HS.out.sm ((H.out.1.1.below R15.out.1.bl).below hB1)).mono ?_⟩
  rintro e y2 ⟨ga, rsa, Za, rfl, ka, za, hba⟩
  refine ⟨_, rfl, hba, ?_⟩
  simp only [Act.put, List.setIfInBounds_toArray, List.set_cons_zero, List.set_cons_succ]
  intro y3 hW3
  have hB3 : Below w15.heap.size w15 y3 := (hB1.trans (hba.mono hB1.size)).trans (hW3.mono (Nat.le_trans hB1.size hba.size))
  refine ⟨_, 78, _, _, rfl, rfl, by go_simp, (toNetlist_any M HT.out.len HT.out.sm ((H.out.1.2.below R15.out.1.bl).below hB3)).mono ?_⟩
  rintro e y4 ⟨gb, rsb, Zb, rfl, kb, zb, hbb⟩
  refine ⟨_, rfl, hbb, ?_⟩
  simp only [Act.put, List.setIfInBounds_toArray, List.set_cons_zero, List.set_cons_succ]
  intro y5 hW5
  refine ⟨_, 79, _, _, rfl, rfl, by go_simp, (HIM.out (((ka.rd.below hW3).below hbb).below hW5) (kb.rd.below hW5)).mono ?_⟩
  rintro e y6 ⟨vq, rfl, hiq, hbq⟩
  obtain ⟨ra, rc, rfl⟩ := hiq.form
  refine ⟨_, rfl, hbq, ?_⟩
  simp only [Act.put, List.setIfInBounds_toArray, List.set_cons_zero, List.set_cons_succ]
  unfold Fl
  refine after_store ?_ _ _ _ #[.int .i64 C, .slice ra L.length rc] (by rfl) (by rfl) (fun _ => by rfl) (fun _ => by rfl) (by simp) (by kernel_rfl) (by simp [Value.oneCell']) ?_
  · exact Nat.le_refl _
  intro k2 V2 hK hk1 hk2 hF hoth hsz hcell
  simp only [Act.put, List.setIfInBounds_toArray, List.set_cons_zero, List.set_cons_succ]
  refine NoPanic.normal ?_
  have hiV : IS V2 y5.heap.size (.slice ra L.length rc) L := hiq.kept fun q hq => hoth q (fun e => hF (by subst e; exact Or.inr (IS.lt hiq q hq))) (IS.lt hiq q hq).2
  obtain ⟨or2, hor2⟩ : ∃ or2, V2.heap[k2]? = some or2 := ⟨_, Array.getElem?_eq_getElem hk2⟩
  have hc0 := hcell 0 (.int .i64 C) rfl
  have hc1 := hcell 1 (.slice ra L.length rc) rfl
  have T13 : Hid (V2.cell? ⟨k2, 0, none⟩ = some (.int .i64 C) ∧ V2.cell? ⟨k2, 1, none⟩ = some (.slice ra L.length rc) ∧ k2 < V2.heap.size) := ⟨hc0, hc1, hk2⟩
  have R16 : Hid ((RZ w V1 [(w6.heap.size, o9), (w5.heap.size, o8), (w4.heap.size, o7), (w.heap.size, X), (w.heap.size + 1, Y), (k1, oq)] V2 ∧ IS V2 W5.heap.size (.slice a6 L.length c6) (marks 1 L.length)) ∧ RdI V2 (.slice ra L.length rc) L) := ⟨⟨R15.out.1.next hK.2, R15.out.2.bel hK.2⟩, hiV.rg⟩
  clear hK hk1 hk2 hF hoth hsz hcell hiV hor2 hc0 hc1 hiq hbq hW5 kb zb hbb hB3 hW3 ka za hba hB1 hW1 hS p0 p1 p2 p3 p4 p5 y1 y2 y3 y4 y5 y6
  obtain ⟨s0, s1, s2⟩ := T6.out _ (R16.out.1.1.at_ (_, oq) (by simp))
  obtain ⟨t0, t1, t2⟩ := T13.out
  go_wp2_with (fail)
  refine (eqMR C (by have := HLL.out; omega) R16.out.2 (R3.out.2.1.below R16.out.1.1.b3)).mono ?_
  rintro e w19 ⟨rfl, hb19⟩
  have R19 : Hid (RZ w V1 [(w6.heap.size, o9), (w5.heap.size, o8), (w4.heap.size, o7), (w.heap.size, X), (w.heap.size + 1, Y), (k1, oq)] w19 ∧ IS w19 W5.heap.size (.slice a6 L.length c6) (marks 1 L.length)) := ⟨R16.out.1.1.next hb19, R16.out.1.2.bel hb19⟩
  clear hb19 s0 s1 s2 t0 t1 t2 R16
  obtain ⟨t0, t1, t2⟩ := T9.out _ (R19.out.1.at_ (_, o9) (by simp))
  go_wp2_with (fail)
  refine (heldMR C HLL.out R19.out.2).mono ?_
  rintro e w20 ⟨rfl, hb20⟩
  rw [← HM.out]
  have R20 : Hid (Below w.heap.size w w20) := (R19.out.1.next hb20).bl
  clear hb20 t0 t1 t2
  go_wp2
  go_returns
  exact ⟨rfl, R20.out⟩

set_option maxRecDepth 100000 in
theorem mn_lifted (os : Os) (started : os.Started) (H : Type) (enc : TypeId × Value → H) :
    ReturnsInHanded {} Try.checked os 7 .any (Rows.fnExactMatchNetsSpec.pre6 enc Try.prog Try.f7 Rows.fnExactMatchNetsRow.domain false) (Rows.fnExactMatchNetsSpec.post enc Try.prog Try.f7 false true false false) := by
  refine returnsInHanded_of_change (C := Try.checked) own started (by kernel_rfl) Try.func7
    (ChangeSpec.witness6 (enc := enc) (C := Try.checked) false ⟨#[], #[.agg #[.int .i64 0, .slice none 0 0], .agg #[.int .i64 0, .slice none 0 0]], []⟩ 8 (by kernel_rfl) (by kernel_rfl) (by kernel_rfl) (by kernel_rfl)) ?_
  intro W base args ds gs before hval0 hW hcnd _
  have hval : ∀ (j : Nat) t v, Try.f7.params[j]? = some t → args[j]? = some v → Value.okWide Try.prog W .any base t v := hval0
  have hW' := hW
  obtain ⟨p, q, hA0, hV, rfl, hfz, hnd⟩ := hW
  have hA : DataW.TrodAll enc Try.prog W 0 (fun _ => true) true Try.f7.params.toList args.toList ds p := hA0
  rw [Try.params7] at hA hval
  obtain ⟨v0, vs0, d0, ds0, p0, q0, hargs, rfl, rfl, h0, r0⟩ := trodAll_cons hA
  obtain ⟨v1, vs1, d1, ds1, p1, q1, rfl, rfl, rfl, h1, r1⟩ := trodAll_cons r0
  obtain ⟨rfl, rfl, rfl⟩ := trodAll_nil r1
  obtain rfl : args = #[v0, v1] := by cases args; simp_all
  obtain ⟨rfl, rfl⟩ := trodVars_none hV
  have k0 := h0
  have lt0 : ∀ x ∈ p0, x.block < W.heap.size := by obtain ⟨m, hm⟩ := k0; exact DataW.trod_lt m _ _ _ hm
  obtain ⟨N0, sa0, sn0, sc0, s0, rfl, rk0, sl0, ok0, wf0⟩ := netlist_open (hval 0 37 v0 rfl rfl) h0
  have k1 := h1
  have lt1 : ∀ x ∈ p1, x.block < W.heap.size := by obtain ⟨m, hm⟩ := k1; exact DataW.trod_lt m _ _ _ hm
  obtain ⟨N1, sa1, sn1, sc1, s1, rfl, rk1, sl1, ok1, wf1⟩ := netlist_open (hval 1 37 v1 rfl rfl) h1
  clear hA0 hval0
  refine (law_mn N0 s0 sl0 rk0 ok0 N1 s1 sl1 rk1 ok1).mono fun e W' ⟨he, hg⟩ => ?_
  subst he
  exact ⟨_, rfl, _, _, _, [], _, [], hW', trodAll_mk1 (shut_bool Try.underlying4 _), (trodAll_cons_mk (Below.trod laidOut (by kernel_rfl) (of_decide_eq_true (by kernel_rfl)) k0 hg lt0) (trodAll_cons_mk (Below.trod laidOut (by kernel_rfl) (of_decide_eq_true (by kernel_rfl)) k1 hg lt1) trodAll_mk0)), rfl, hg.frame _, fun h => by cases h⟩

theorem mn_over : Rows.fnExactMatchNetsRow.holds Try.pinned (OpenSpec.ofChange Rows.fnExactMatchNetsSpec) :=
  OpenClaim.holds_of_wide 7 Try.f7 rfl rfl rfl rfl rfl rfl rfl ⟨rfl, rfl, rfl, rfl, rfl⟩ rfl rfl rfl rfl rfl (by kernel_rfl) Try.func7 (by kernel_rfl)
    (of_decide_eq_true (by kernel_rfl)) (by unfold Func.isWrapper; first | (rw [if_pos (by decide +kernel)]; kernel_rfl) | (rw [if_neg (by decide +kernel)]; exact ⟨rfl, rfl⟩))
    (fun os started H enc _ => mn_lifted os started H enc)

theorem mn_proved : Rows.FnExactMatchNetsSaid :=
  mn_over
#print axioms mn_proved

end Go.Proofs.Ytbfieehlekgjeaa
