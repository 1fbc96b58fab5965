/- Proved here: 'the program's CheckMatch answers as the model's; it writes into no argument', for every two netlists and list of numbers, without a condition. -/
import Derived.Test.YtbfieehlekgjeaaNmT
import Derived.Test.YtbfieehlekgjeaaNlO
import Derived.Test.YtbfieehlekgjeaaRows
namespace Go.Proofs.Ytbfieehlekgjeaa
open Go.ChangeShapes Go.WideShapes Go.ChangeAt Go.RowKit Go.Joins
set_option linter.unusedVariables false
set_option linter.unusedSimpArgs false

theorem own : ownKnob Try.prog.godebug = none := by kernel_rfl
theorem laidOut : laidOutB Try.prog = true := by kernel_rfl

/-- What has been weighed is small. -/
structure Wd (s : List Dv) : Prop where
  len : s.length ≤ 1048576
  sm : ∀ j (h : j < s.length), smD 1048576 s[j]

set_option maxRecDepth 10000 in
set_option maxHeartbeats 6400000 in
theorem law_cm {w : World} {aa ab an : Option Addr} {n m l ca cb cn : Nat} (N : Int) (s : List Dv) (hm1 : n ≤ maxLen) (h1 : RD w (.slice aa n ca) s) (hok1 : ∀ j (h : j < s.length), okD s[j]) (M : Int) (t : List Dv) (hm2 : m ≤ maxLen) (h2 : RD w (.slice ab m cb) t) (hok2 : ∀ j (h : j < t.length), okD t[j]) (nets : List Int) (hm3 : nets.length ≤ maxLen) (h3 : RdI w (.slice an l cn) nets) :
    Calls Try.prog 6 #[.agg #[.int .i64 N, .slice aa n ca], .agg #[.int .i64 M, .slice ab m cb], .slice an l cn] w fun e w' => e = .returned (.bool true) ∧ Below w.heap.size w w' := by
  have hl3 : l = nets.length := h3.len
  rw [← hl3] at hm3
  unfold maxLen at hm3
  obtain ⟨X, hX⟩ : ∃ X, X = Obj.cells #[.int .i64 N, .slice aa n ca] 37 := ⟨_, rfl⟩
  obtain ⟨Y, hY⟩ : ∃ Y, Y = Obj.cells #[.int .i64 M, .slice ab m cb] 37 := ⟨_, rfl⟩
  have H : Hid ((RD w (.slice aa n ca) s ∧ RD w (.slice ab m cb) t ∧ RdI w (.slice an l cn) nets) ∧ (n = s.length ∧ m = t.length ∧ l = nets.length) ∧ (n ≤ maxLen ∧ m ≤ maxLen) ∧ (∀ j (h : j < s.length), okD s[j]) ∧ (∀ j (h : j < t.length), okD t[j])) := ⟨⟨h1, h2, h3⟩, ⟨h1.len, h2.len, hl3⟩, ⟨hm1, hm2⟩, hok1, hok2⟩
  have TW : Hid (∀ W, SB2 w X Y W → W.cell? ⟨w.heap.size, 0, none⟩ = some (.int .i64 N) ∧ W.cell? ⟨w.heap.size, 1, none⟩ = some (.slice aa n ca) ∧ W.cell? ⟨w.heap.size + 1, 0, none⟩ = some (.int .i64 M) ∧ W.cell? ⟨w.heap.size + 1, 1, none⟩ = some (.slice ab m cb) ∧ w.heap.size < W.heap.size ∧ w.heap.size + 1 < W.heap.size) := fun W h => SB2_two ⟨by rw [h.bx, hX], by rw [h.by_, hY]⟩
  have HN : Hid (SB2 w X Y ((w.alloc (.cells #[.int .i64 N, .slice aa n ca] 37)).alloc (.cells #[.int .i64 M, .slice ab m cb] 37))) := by rw [← hX, ← hY]; exact SB2.new w X Y
  clear h1 h2 h3 hm1 hm2 hok1 hok2 hX hY hl3
  by_cases hbig : (1048576 : Int) < (l : Int)
  · go_enter Try.func6, Try.ntmps6
    go_wp2
    go_returns
    exact ⟨rfl, HN.out.bl⟩
  have HL : Hid (nets.length ≤ 1048576) := by unfold Hid; rw [← H.out.2.1.2.2]; omega
  go_enter Try.func6, Try.ntmps6
  go_wp2_with (fail)
  refine (szNetlist_gen N aa n ca 1048576 s _ (by omega) (by omega) H.out.2.2.1.1 (H.out.1.1.below HN.out.bl) H.out.2.2.2.1).mono ?_
  rintro e w0 ⟨r, rfl, hr, hb0⟩
  have B0 : Hid (SB2 w X Y w0) := HN.out.next hb0
  clear hb0
  rcases hr with hneg | ⟨g1, g2, g3, g4⟩
  · go_wp2
    go_returns
    exact ⟨rfl, B0.out.bl⟩
  have hr0 : ¬ r < 0 := by omega
  have HS : Hid (Wd s) := ⟨by rw [← H.out.2.1.1]; omega, g4⟩
  clear g4
  obtain ⟨p0, p1, p2, p3, p4, p5⟩ := TW.out _ B0.out
  go_wp2_with (fail)
  refine (szNetlist_gen M ab m cb r t _ (by omega) (by omega) H.out.2.2.1.2 (H.out.1.2.1.below B0.out.bl) H.out.2.2.2.2).mono ?_
  rintro e w1 ⟨r2, rfl, hr2, hb1⟩
  have B1 : Hid (SB2 w X Y w1) := B0.out.next hb1
  clear hb1 p0 p1 p2 p3 p4 p5
  rcases hr2 with hneg | ⟨g5, g6, g7, g8⟩
  · go_wp2
    go_returns
    exact ⟨rfl, B1.out.bl⟩
  have hr02 : ¬ r2 < 0 := by omega
  have HT : Hid (Wd t) := ⟨by rw [← H.out.2.1.2.1]; omega, fun j hj => by have := g8 j hj; unfold smD at this ⊢; omega⟩
  clear g8
  obtain ⟨p0, p1, p2, p3, p4, p5⟩ := TW.out _ B1.out
  go_wp2_with (fail)
  refine wp_region_float (by kernel_rfl) (fun hS => ?_)
  refine fl_take (i := 0) (d := 26) (v := .agg #[.int .i64 N, .slice aa n ca]) rfl rfl rfl (by kernel_rfl) (by kernel_rfl) (by kernel_rfl) hS ?_ ?_
  · intro w' hk; go_simp
  simp only [Act.put, List.setIfInBounds_toArray, List.set_cons_zero, List.set_cons_succ]
  refine fl_take (i := 2) (d := 28) (v := .agg #[.int .i64 M, .slice ab m cb]) rfl rfl rfl (by kernel_rfl) (by kernel_rfl) (by kernel_rfl) hS ?_ ?_
  · intro w' hk; go_simp
  simp only [Act.put, List.setIfInBounds_toArray, List.set_cons_zero, List.set_cons_succ]
  refine fl_take (i := 4) (d := 30) (v := .slice an l cn) rfl rfl rfl (by kernel_rfl) (by kernel_rfl) (by kernel_rfl) hS ?_ ?_
  · intro w' hk; go_simp
  simp only [Act.put, List.setIfInBounds_toArray, List.set_cons_zero, List.set_cons_succ]
  refine wpAnyH_all (rs := [1]) (by kernel_rfl) (by simp) ?_
  intro i hi'
  obtain rfl : i = 1 := by simpa using hi'
  refine op_call (d := 27) rfl rfl rfl (by go_simp) ((toNetlist_any N HS.out.len HS.out.sm ((H.out.1.1.below B1.out.bl).below hS.2)).mono ?_)
  rintro e w2 ⟨ga, rsa, Za, rfl, ka, za, hba⟩
  have hK2 := hS.call hba
  refine ⟨_, rfl, hK2, ?_⟩
  simp only [Act.put, List.setIfInBounds_toArray, List.set_cons_zero, List.set_cons_succ]
  refine wpAnyH_all (rs := [3]) (by kernel_rfl) (by simp) ?_
  intro i hi'
  obtain rfl : i = 3 := by simpa using hi'
  refine op_call (d := 29) rfl rfl rfl (by go_simp) ((toNetlist_any M HT.out.len HT.out.sm ((H.out.1.2.1.below B1.out.bl).below hK2.2)).mono ?_)
  rintro e w3 ⟨gb, rsb, Zb, rfl, kb, zb, hbb⟩
  have hK3 := hK2.call hbb
  refine ⟨_, rfl, hK3, ?_⟩
  simp only [Act.put, List.setIfInBounds_toArray, List.set_cons_zero, List.set_cons_succ]
  refine wpAnyH_all (rs := [5]) (by kernel_rfl) (by simp) ?_
  intro i hi'
  obtain rfl : i = 5 := by simpa using hi'
  refine op_call (d := 31) rfl rfl rfl (by go_simp) ((toInt64S_any HL.out ((H.out.1.2.2.below B1.out.bl).below hK3.2)).mono ?_)
  rintro e w4 ⟨gc, rfl, kc, hbc⟩
  have hK4 := hK3.call hbc
  refine ⟨_, rfl, hK4, ?_⟩
  simp only [Act.put, List.setIfInBounds_toArray, List.set_cons_zero, List.set_cons_succ]
  refine wpAnyH_all (rs := [6]) (by kernel_rfl) (by simp) ?_
  intro i hi'
  obtain rfl : i = 6 := by simpa using hi'
  refine op_call (d := 32) rfl rfl rfl (by go_simp) ((spec_match N M HS.out.len HT.out.len HL.out HS.out.sm HT.out.sm (((ka.rd).below hbb).below hbc) ((kb.rd).below hbc) kc.rg).mono ?_)
  rintro e w5 ⟨rfl, hbd⟩
  have hK5 := hK4.call hbd
  refine ⟨_, rfl, hK5, ?_⟩
  simp only [Act.put, List.setIfInBounds_toArray, List.set_cons_zero, List.set_cons_succ]
  refine wpAnyH_all (rs := [7]) (by kernel_rfl) (by simp) ?_
  intro i hi'
  obtain rfl : i = 7 := by simpa using hi'
  refine op_val (d := 8) (v := .bool (cmB N M s t nets)) (w' := w5) rfl rfl rfl (by go_simp; try rfl) ?_
  simp only [Act.put, List.setIfInBounds_toArray, List.set_cons_zero, List.set_cons_succ]
  refine ⟨hK5, wpAnyH_done (by kernel_rfl) (NoPanic.normal ?_) _⟩
  have B5 : Hid (SB2 w X Y w5) := B1.out.next hK5.2
  clear hK5 hK4 hK3 hK2 hS ka za hba kb zb hbb kc hbc hbd p0 p1 p2 p3 p4 p5
  obtain ⟨D, hD⟩ : ∃ D, D = cmB N M s t nets := ⟨_, rfl⟩
  rw [← hD]
  have HD : Hid (D = cmB N M s t nets) := hD
  clear hD
  obtain ⟨p0, p1, p2, p3, p4, p5⟩ := TW.out _ B5.out
  go_wp2_with (fail)
  refine (toNetlist_any N HS.out.len HS.out.sm (H.out.1.1.below B5.out.bl)).mono ?_
  rintro e w6 ⟨ga, rsa, Za, rfl, ka, za, hba⟩
  have R6 : Hid (SB2 w X Y w6 ∧ RD w6 (.slice (some ⟨ga, 0, none⟩) s.length s.length) s) := ⟨B5.out.next hba, ka.rd⟩
  clear ka za hba p0 p1 p2 p3 p4 p5
  have R6' : Hid (SB2 w X Y (w6.alloc (.cells #[.int .i64 N, .slice (some ⟨ga, 0, none⟩) s.length s.length] 42))) := R6.out.1.next (by (repeat' (first | (with_reducible exact Below.refl _ _) | (with_reducible assumption) | (with_reducible refine Below.setCell ?_ ?_ _) | (with_reducible refine Below.alloc ?_ ?_ _) | (with_reducible refine below_drewN ?_ _) | (with_reducible refine Below.drew ?_) | (with_reducible exact Nat.le_refl _) | omega | (simp; done) | (simp; omega))))
  obtain ⟨p0, p1, p2, p3, p4, p5⟩ := TW.out _ R6'.out
  go_wp2_with (fail)
  refine (toNetlist_any M HT.out.len HT.out.sm (H.out.1.2.1.below R6'.out.bl)).mono ?_
  rintro e w7 ⟨gb, rsb, Zb, rfl, kb, zb, hbb⟩
  have hb67 : Below w6.heap.size w6 w7 := Below.trans (by (repeat' (first | (with_reducible exact Below.refl _ _) | (with_reducible assumption) | (with_reducible refine Below.setCell ?_ ?_ _) | (with_reducible refine Below.alloc ?_ ?_ _) | (with_reducible refine below_drewN ?_ _) | (with_reducible refine Below.drew ?_) | (with_reducible exact Nat.le_refl _) | omega | (simp; done) | (simp; omega)))) (hbb.mono (by simp))
  have R7 : Hid ((SB2 w X Y w7 ∧ RD w7 (.slice (some ⟨ga, 0, none⟩) s.length s.length) s ∧ RD w7 (.slice (some ⟨gb, 0, none⟩) t.length t.length) t) ∧ w7.heap[w6.heap.size]? = some (.cells #[.int .i64 N, .slice (some ⟨ga, 0, none⟩) s.length s.length] 42)) := ⟨⟨R6'.out.next hbb, R6.out.2.below hb67, kb.rd⟩, (hbb.block _ (by simp)).trans (heap_alloc_new w6 _)⟩
  clear kb zb hbb p0 p1 p2 p3 p4 p5 hb67
  obtain ⟨x0, x1, xf, xlt⟩ := two_at R7.out.2
  go_wp2_with (fail)
  refine (toInt64S_any HL.out (H.out.1.2.2.below (by have h7 := R7.out.1.1.bl; have h8 := h7.size; (repeat' (first | (with_reducible exact Below.refl _ _) | (with_reducible assumption) | (with_reducible refine Below.setCell ?_ ?_ _) | (with_reducible refine Below.alloc ?_ ?_ _) | (with_reducible refine below_drewN ?_ _) | (with_reducible refine Below.drew ?_) | (with_reducible exact Nat.le_refl _) | omega | (simp; done) | (simp; omega)))))).mono ?_
  rintro e w8 ⟨gc, rfl, kc, hbc⟩
  have hb78 : Below w7.heap.size w7 w8 := Below.trans (by (repeat' (first | (with_reducible exact Below.refl _ _) | (with_reducible assumption) | (with_reducible refine Below.setCell ?_ ?_ _) | (with_reducible refine Below.alloc ?_ ?_ _) | (with_reducible refine below_drewN ?_ _) | (with_reducible refine Below.drew ?_) | (with_reducible exact Nat.le_refl _) | omega | (simp; done) | (simp; omega)))) (hbc.mono (by simp))
  have R8 : Hid ((SB2 w X Y w8 ∧ RD w8 (.slice (some ⟨ga, 0, none⟩) s.length s.length) s ∧ RD w8 (.slice (some ⟨gb, 0, none⟩) t.length t.length) t) ∧ w8.heap[w6.heap.size]? = some (.cells #[.int .i64 N, .slice (some ⟨ga, 0, none⟩) s.length s.length] 42) ∧ w8.heap[w7.heap.size]? = some (.cells #[.int .i64 M, .slice (some ⟨gb, 0, none⟩) t.length t.length] 42) ∧ RdI w8 (.slice (some ⟨gc, 0, none⟩) nets.length nets.length) nets) := ⟨⟨R7.out.1.1.next hb78, R7.out.1.2.1.below hb78, R7.out.1.2.2.below hb78⟩, (hb78.block _ xlt).trans R7.out.2, (hbc.block _ (by simp)).trans (heap_alloc_new w7 _), kc.rg⟩
  clear kc hbc hb78 x0 x1 xf xlt
  obtain ⟨x0, x1, xf, xlt⟩ := two_at R8.out.2.1
  obtain ⟨y0, y1, yf, ylt⟩ := two_at R8.out.2.2.1
  go_wp2_with (fail)
  refine (impl_match N M HS.out.len HT.out.len HL.out HS.out.sm HT.out.sm R8.out.1.2.1 R8.out.1.2.2 R8.out.2.2.2).mono ?_
  rintro e w9 ⟨rfl, hb9⟩
  rw [← HD.out]
  have R9 : Hid ((SB2 w X Y w9 ∧ RD w9 (.slice (some ⟨ga, 0, none⟩) s.length s.length) s ∧ RD w9 (.slice (some ⟨gb, 0, none⟩) t.length t.length) t) ∧ w9.heap[w6.heap.size]? = some (.cells #[.int .i64 N, .slice (some ⟨ga, 0, none⟩) s.length s.length] 42) ∧ w9.heap[w7.heap.size]? = some (.cells #[.int .i64 M, .slice (some ⟨gb, 0, none⟩) t.length t.length] 42) ∧ RdI w9 (.slice (some ⟨gc, 0, none⟩) nets.length nets.length) nets) := ⟨⟨R8.out.1.1.next hb9, R8.out.1.2.1.below hb9, R8.out.1.2.2.below hb9⟩, (hb9.block _ xlt).trans R8.out.2.1, (hb9.block _ ylt).trans R8.out.2.2.1, R8.out.2.2.2.below hb9⟩
  clear hb9 x0 x1 xf xlt y0 y1 yf ylt
  obtain ⟨x0, x1, xf, xlt⟩ := two_at R9.out.2.1
  obtain ⟨p0, p1, p2, p3, p4, p5⟩ := TW.out _ R9.out.1.1
  go_wp2_with (fail)
  refine wp_region_float (by kernel_rfl) (fun hS => ?_)
  refine fl_take (i := 0) (d := 46) (v := .agg #[.int .i64 N, .slice (some ⟨ga, 0, none⟩) s.length s.length]) rfl rfl rfl (by kernel_rfl) (by kernel_rfl) (by kernel_rfl) hS ?_ ?_
  · intro w' hk; go_simp
  simp only [Act.put, List.setIfInBounds_toArray, List.set_cons_zero, List.set_cons_succ]
  refine fl_take (i := 1) (d := 47) (v := .agg #[.int .i64 N, .slice aa n ca]) rfl rfl rfl (by kernel_rfl) (by kernel_rfl) (by kernel_rfl) hS ?_ ?_
  · intro w' hk; go_simp
  simp only [Act.put, List.setIfInBounds_toArray, List.set_cons_zero, List.set_cons_succ]
  refine wpAnyH_all (rs := [2]) (by kernel_rfl) (by simp) ?_
  intro i hi'
  obtain rfl : i = 2 := by simpa using hi'
  refine op_call (d := 48) rfl rfl rfl (by go_simp) ((toNetlist_any N HS.out.len HS.out.sm ((H.out.1.1.below R9.out.1.1.bl).below hS.2)).mono ?_)
  rintro e u2 ⟨gd, rsd, Zd, rfl, kd, zd, hbd⟩
  have hK2 := hS.call hbd
  refine ⟨_, rfl, hK2, ?_⟩
  simp only [Act.put, List.setIfInBounds_toArray, List.set_cons_zero, List.set_cons_succ]
  refine wpAnyH_all (rs := [3]) (by kernel_rfl) (by simp) ?_
  intro i hi'
  obtain rfl : i = 3 := by simpa using hi'
  refine op_call (d := 49) rfl rfl rfl (by go_simp) ((eqNetlist_same N (by have := HS.out.len; omega) HS.out.sm (R9.out.1.2.1.below hK2.2) kd.rd).mono ?_)
  rintro e u3 ⟨rfl, hbe⟩
  have hK3 := hK2.call hbe
  refine ⟨_, rfl, hK3, ?_⟩
  simp only [Act.put, List.setIfInBounds_toArray, List.set_cons_zero, List.set_cons_succ]
  refine wpAnyH_all (rs := [4]) (by kernel_rfl) (by simp) ?_
  intro i hi'
  obtain rfl : i = 4 := by simpa using hi'
  refine op_val (d := 50) (v := .bool false) (w' := u3) rfl rfl rfl (by go_simp; try rfl) ?_
  simp only [Act.put, List.setIfInBounds_toArray, List.set_cons_zero, List.set_cons_succ]
  refine ⟨hK3, wpAnyH_done (by kernel_rfl) (NoPanic.normal ?_) _⟩
  have hb := hK3.2
  have R10 : Hid ((SB2 w X Y u3 ∧ RD u3 (.slice (some ⟨gb, 0, none⟩) t.length t.length) t) ∧ u3.heap[w7.heap.size]? = some (.cells #[.int .i64 M, .slice (some ⟨gb, 0, none⟩) t.length t.length] 42) ∧ RdI u3 (.slice (some ⟨gc, 0, none⟩) nets.length nets.length) nets) := ⟨⟨R9.out.1.1.next hb, R9.out.1.2.2.below hb⟩, (hb.block _ (two_at R9.out.2.2.1).2.2.2).trans R9.out.2.2.1, R9.out.2.2.2.below hb⟩
  clear hK3 hK2 hS kd zd hbd hbe p0 p1 p2 p3 p4 p5 x0 x1 xf xlt hb
  obtain ⟨x0, x1, xf, xlt⟩ := two_at R10.out.2.1
  obtain ⟨p0, p1, p2, p3, p4, p5⟩ := TW.out _ R10.out.1.1
  go_wp2_with (fail)
  refine wp_region_float (by kernel_rfl) (fun hS => ?_)
  refine fl_take (i := 0) (d := 51) (v := .agg #[.int .i64 M, .slice (some ⟨gb, 0, none⟩) t.length t.length]) rfl rfl rfl (by kernel_rfl) (by kernel_rfl) (by kernel_rfl) hS ?_ ?_
  · intro w' hk; go_simp
  simp only [Act.put, List.setIfInBounds_toArray, List.set_cons_zero, List.set_cons_succ]
  refine fl_take (i := 1) (d := 52) (v := .agg #[.int .i64 M, .slice ab m cb]) rfl rfl rfl (by kernel_rfl) (by kernel_rfl) (by kernel_rfl) hS ?_ ?_
  · intro w' hk; go_simp
  simp only [Act.put, List.setIfInBounds_toArray, List.set_cons_zero, List.set_cons_succ]
  refine wpAnyH_all (rs := [2]) (by kernel_rfl) (by simp) ?_
  intro i hi'
  obtain rfl : i = 2 := by simpa using hi'
  refine op_call (d := 53) rfl rfl rfl (by go_simp) ((toNetlist_any M HT.out.len HT.out.sm ((H.out.1.2.1.below R10.out.1.1.bl).below hS.2)).mono ?_)
  rintro e v2 ⟨gd, rsd, Zd, rfl, kd, zd, hbd⟩
  have hK2 := hS.call hbd
  refine ⟨_, rfl, hK2, ?_⟩
  simp only [Act.put, List.setIfInBounds_toArray, List.set_cons_zero, List.set_cons_succ]
  refine wpAnyH_all (rs := [3]) (by kernel_rfl) (by simp) ?_
  intro i hi'
  obtain rfl : i = 3 := by simpa using hi'
  refine op_call (d := 54) rfl rfl rfl (by go_simp) ((eqNetlist_same M (by have := HT.out.len; omega) HT.out.sm (R10.out.1.2.below hK2.2) kd.rd).mono ?_)
  rintro e v3 ⟨rfl, hbe⟩
  have hK3 := hK2.call hbe
  refine ⟨_, rfl, hK3, ?_⟩
  simp only [Act.put, List.setIfInBounds_toArray, List.set_cons_zero, List.set_cons_succ]
  refine wpAnyH_all (rs := [4]) (by kernel_rfl) (by simp) ?_
  intro i hi'
  obtain rfl : i = 4 := by simpa using hi'
  refine op_val (d := 55) (v := .bool false) (w' := v3) rfl rfl rfl (by go_simp; try rfl) ?_
  simp only [Act.put, List.setIfInBounds_toArray, List.set_cons_zero, List.set_cons_succ]
  refine ⟨hK3, wpAnyH_done (by kernel_rfl) (NoPanic.normal ?_) _⟩
  have R11 : Hid (SB2 w X Y v3 ∧ RdI v3 (.slice (some ⟨gc, 0, none⟩) nets.length nets.length) nets) := ⟨R10.out.1.1.next hK3.2, R10.out.2.2.below hK3.2⟩
  clear hK3 hK2 hS kd zd hbd hbe p0 p1 p2 p3 p4 p5 x0 x1 xf xlt
  go_wp2_with (fail)
  refine (toInt64S_any HL.out (H.out.1.2.2.below R11.out.1.bl)).mono ?_
  rintro e w12 ⟨gd, rfl, kd, hbd⟩
  have R12 : Hid (SB2 w X Y w12 ∧ RdI w12 (.slice (some ⟨gc, 0, none⟩) nets.length nets.length) nets ∧ RdI w12 (.slice (some ⟨gd, 0, none⟩) nets.length nets.length) nets) := ⟨R11.out.1.next hbd, R11.out.2.below hbd, kd.rg⟩
  clear hbd kd
  go_wp2_with (fail)
  refine (eqInt64S_same (by have := HL.out; omega) R12.out.2.1 R12.out.2.2).mono ?_
  rintro e w13 ⟨rfl, hb13⟩
  have R13 : Hid (Below w.heap.size w w13) := (R12.out.1.next hb13).bl
  clear hb13
  go_wp2
  go_returns
  exact ⟨rfl, R13.out⟩

set_option maxRecDepth 100000 in
theorem cm_lifted (os : Os) (started : os.Started) (H : Type) (enc : TypeId × Value → H) :
    ReturnsInHanded {} Try.checked os 6 .any (Rows.fnExactCheckMatchSpec.pre6 enc Try.prog Try.f6 Rows.fnExactCheckMatchRow.domain false) (Rows.fnExactCheckMatchSpec.post enc Try.prog Try.f6 false true false false) := by
  refine returnsInHanded_of_change (C := Try.checked) own started (by kernel_rfl) Try.func6
    (ChangeSpec.witness6 (enc := enc) (C := Try.checked) false ⟨#[], #[.agg #[.int .i64 0, .slice none 0 0], .agg #[.int .i64 0, .slice none 0 0], .slice none 0 0], []⟩ 8 (by kernel_rfl) (by kernel_rfl) (by kernel_rfl) (by kernel_rfl)) ?_
  intro W base args ds gs before hval0 hW hcnd _
  have hval : ∀ (j : Nat) t v, Try.f6.params[j]? = some t → args[j]? = some v → Value.okWide Try.prog W .any base t v := hval0
  have hW' := hW
  obtain ⟨p, q, hA0, hV, rfl, hfz, hnd⟩ := hW
  have hA : DataW.TrodAll enc Try.prog W 0 (fun _ => true) true Try.f6.params.toList args.toList ds p := hA0
  rw [Try.params6] at hA hval
  obtain ⟨v0, vs0, d0, ds0, p0, q0, hargs, rfl, rfl, h0, r0⟩ := trodAll_cons hA
  obtain ⟨v1, vs1, d1, ds1, p1, q1, rfl, rfl, rfl, h1, r1⟩ := trodAll_cons r0
  obtain ⟨v2, vs2, d2, ds2, p2, q2, rfl, rfl, rfl, h2, r2⟩ := trodAll_cons r1
  obtain ⟨rfl, rfl, rfl⟩ := trodAll_nil r2
  obtain rfl : args = #[v0, v1, v2] := by cases args; simp_all
  obtain ⟨rfl, rfl⟩ := trodVars_none hV
  have k0 := h0
  have lt0 : ∀ x ∈ p0, x.block < W.heap.size := by obtain ⟨m, hm⟩ := k0; exact DataW.trod_lt m _ _ _ hm
  obtain ⟨N0, sa0, sn0, sc0, s0, rfl, rk0, sl0, ok0, wf0⟩ := netlist_open (hval 0 37 v0 rfl rfl) h0
  have k1 := h1
  have lt1 : ∀ x ∈ p1, x.block < W.heap.size := by obtain ⟨m, hm⟩ := k1; exact DataW.trod_lt m _ _ _ hm
  obtain ⟨N1, sa1, sn1, sc1, s1, rfl, rk1, sl1, ok1, wf1⟩ := netlist_open (hval 1 37 v1 rfl rfl) h1
  have k2 := h2
  have lt2 : ∀ x ∈ p2, x.block < W.heap.size := by obtain ⟨m, hm⟩ := k2; exact DataW.trod_lt m _ _ _ hm
  obtain ⟨sa2, sn2, sc2, s2, rfl, ri2, sl2⟩ := ints_open (hval 2 46 v2 rfl rfl) h2
  clear hA0 hval0
  refine (law_cm N0 s0 sl0 rk0 ok0 N1 s1 sl1 rk1 ok1 s2 sl2 ri2).mono fun e W' ⟨he, hg⟩ => ?_
  subst he
  exact ⟨_, rfl, _, _, _, [], _, [], hW', trodAll_mk1 (shut_bool Try.underlying4 _), (trodAll_cons_mk (Below.trod laidOut (by kernel_rfl) (of_decide_eq_true (by kernel_rfl)) k0 hg lt0) (trodAll_cons_mk (Below.trod laidOut (by kernel_rfl) (of_decide_eq_true (by kernel_rfl)) k1 hg lt1) (trodAll_cons_mk (Below.trod laidOut (by kernel_rfl) (of_decide_eq_true (by kernel_rfl)) k2 hg lt2) trodAll_mk0))), rfl, hg.frame _, fun h => by cases h⟩

theorem cm_over : Rows.fnExactCheckMatchRow.holds Try.pinned (OpenSpec.ofChange Rows.fnExactCheckMatchSpec) :=
  OpenClaim.holds_of_wide 6 Try.f6 rfl rfl rfl rfl rfl rfl rfl ⟨rfl, rfl, rfl, rfl, rfl⟩ rfl rfl rfl rfl rfl (by kernel_rfl) Try.func6 (by kernel_rfl)
    (of_decide_eq_true (by kernel_rfl)) (by unfold Func.isWrapper; first | (rw [if_pos (by decide +kernel)]; kernel_rfl) | (rw [if_neg (by decide +kernel)]; exact ⟨rfl, rfl⟩))
    (fun os started H enc _ => cm_lifted os started H enc)

theorem cm_proved : Rows.FnExactCheckMatchSaid :=
  cm_over
#print axioms cm_proved

end Go.Proofs.Ytbfieehlekgjeaa
