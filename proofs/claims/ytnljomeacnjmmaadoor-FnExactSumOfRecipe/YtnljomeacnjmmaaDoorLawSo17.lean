/- Proved here: 'the program's SumOfRecipe answers as the model's; it writes into no argument', for every recipe; the one condition, that the library's table of powers of ten is as the program's text lays it, is tied to the text by the card. -/
import Derived.Test.YtnljomeacnjmmaaDoorXsI
import Derived.Test.YtnljomeacnjmmaaDoorXsS
import Derived.Test.YtnljomeacnjmmaaDoorReO
import Derived.Test.YtnljomeacnjmmaaDoorReL
import Derived.Test.YtnljomeacnjmmaaDoorFloat
import Derived.Test.YtnljomeacnjmmaaDoorItoI
import Derived.Test.YtnljomeacnjmmaaDoorRows
import Derived.Test.YtnljomeacnjmmaaDoorCards
import Derived.Test.YtnljomeacnjmmaaDoorTie
import Derived.WalkKit
import Derived.ProofKit
import Derived.OpenShut
import Derived.Deep.DeepHandedRow
import Derived.Lib.LaidTab
namespace Go.Proofs.YtnljomeacnjmmaaDoor
open Go.ChangeShapes Go.WideShapes Go.ChangeAt Go.RowKit Go.Joins
set_option linter.unusedVariables false
set_option linter.unusedSimpArgs false

theorem ltN {w : World} {k : Nat} {o : Obj} (h : w.heap[k]? = some o) : k < w.heap.size := by
  rcases Nat.lt_or_ge k w.heap.size with h' | h'
  · exact h'
  · rw [Array.getElem?_eq_none h'] at h; cases h
theorem own : ownKnob Tryd.prog.godebug = none := by kernel_rfl
theorem laidOut : laidOutB Tryd.prog = true := by kernel_rfl
theorem resN {w w1 : World} {k : Nat} {o : Obj} (h : w.heap[k]? = some o) (hb : Below w.heap.size w w1) : w1.heap[k]? = some o := by
  refine (hb.block k ?_).trans h
  rcases Nat.lt_or_ge k w.heap.size with h' | h'
  · exact h'
  · rw [Array.getElem?_eq_none h'] at h; cases h

set_option maxHeartbeats 800000 in
theorem eqSI_same (C V : Int) (w : World) :
    Calls Tryd.prog 8 #[.agg #[.int .i64 C, .int .i64 V], .agg #[.int .i64 C, .int .i64 V]] w fun e w' => e = .returned (.bool true) ∧ Below w.heap.size w w' := by
  go_enter Tryd.func8, Tryd.ntmps8
  go_wp2
  go_returns
  exact ⟨rfl, by (repeat' (first | (with_reducible exact Below.refl _ _) | (with_reducible assumption) | (with_reducible refine Below.setCell ?_ ?_ _) | (with_reducible refine Below.alloc ?_ ?_ _) | (with_reducible refine below_drewN ?_ _) | (with_reducible refine Below.drew ?_) | (with_reducible exact Nat.le_refl _) | omega | (simp; done) | (simp; omega)))⟩
theorem two_cl {w : World} {k : Nat} {a b : Value} {T : TypeId} (h : w.heap[k]? = some (.cells #[a, b] T)) : w.cell? ⟨k, 0, none⟩ = some a ∧ w.cell? ⟨k, 1, none⟩ = some b ∧ k < w.heap.size := by
  refine ⟨by simp [World.cell?, h], by simp [World.cell?, h], ?_⟩
  rcases Nat.lt_or_ge k w.heap.size with h' | h'
  · exact h'
  · rw [Array.getElem?_eq_none h'] at h; cases h

set_option maxRecDepth 10000 in
set_option maxHeartbeats 6400000 in
theorem law_so17 (r : Rr) (c : Rp) {w : World} (ht : Hid (Tab w)) (h : Rr1 w r c) (hok : okRp c) :
    Calls Tryd.prog 3 #[.agg #[.string r.nm, .slice r.pa r.pn r.pc, .slice r.sa r.sn r.sc]] w fun e w' => e = .returned (.bool true) ∧ Below w.heap.size w w' := by
  have HR : Hid (Rr1 w r c ∧ okRp c) := ⟨h, hok⟩
  clear h hok
  have Z0 : Hid (Below w.heap.size w (w.alloc (.cells #[.string r.nm, .slice r.pa r.pn r.pc, .slice r.sa r.sn r.sc] 25)) ∧ (w.alloc (.cells #[.string r.nm, .slice r.pa r.pn r.pc, .slice r.sa r.sn r.sc] 25)).heap[w.heap.size]? = some (.cells #[.string r.nm, .slice r.pa r.pn r.pc, .slice r.sa r.sn r.sc] 25)) := ⟨by (repeat' (first | (with_reducible exact Below.refl _ _) | (with_reducible assumption) | (with_reducible refine Below.setCell ?_ ?_ _) | (with_reducible refine Below.alloc ?_ ?_ _) | (with_reducible refine below_drewN ?_ _) | (with_reducible refine Below.drew ?_) | (with_reducible exact Nat.le_refl _) | omega | (simp; done) | (simp; omega))), heap_alloc_new _ _⟩
  go_enter Tryd.func3, Tryd.ntmps3
  go_wp2_with (fail)
  obtain ⟨W0, hW0⟩ : ∃ V, V = w.alloc (.cells #[.string r.nm, .slice r.pa r.pn r.pc, .slice r.sa r.sn r.sc] 25) := ⟨_, rfl⟩
  rw [← hW0] at Z0 ⊢
  clear hW0
  refine (szRecipe_gen r c 1048576 W0 (by omega) (by omega) HR.out.2 (HR.out.1.below Z0.out.1)).mono ?_
  rintro e w1 ⟨q, rfl, hq, hb⟩
  have Z1 : Hid (Below w.heap.size w w1 ∧ w1.heap[w.heap.size]? = some (.cells #[.string r.nm, .slice r.pa r.pn r.pc, .slice r.sa r.sn r.sc] 25)) := ⟨Z0.out.1.trans (hb.mono Z0.out.1.size), resN Z0.out.2 hb⟩
  clear Z0 hb
  rcases hq with hneg | ⟨u1, u2, u3⟩
  · go_wp2
    go_returns
    exact ⟨rfl, Z1.out.1⟩
  have hl : ¬ q < 0 := by omega
  have HS : Hid (smRp 1048576 c) := u3
  clear u1 u2 u3
  obtain ⟨C, hC⟩ : ∃ C, C = soC c := ⟨_, rfl⟩
  obtain ⟨D, hD⟩ : ∃ D, D = soV c := ⟨_, rfl⟩
  have HSP : Hid (∀ (W : World) (x : Rr), Rr1 W x c → Calls Tryd.prog 5 #[.agg #[.string x.nm, .slice x.pa x.pn x.pc, .slice x.sa x.sn x.sc]] W fun e w' => e = .returned (.agg #[.int .i64 C, .int .i64 D]) ∧ Below W.heap.size W w') := fun W x hx => by
    rw [hC, hD]
    exact spec_so x c W HS.out hx
  have HIM : Hid (∀ (W : World) (x : Rr), Tab W → Rr1 W x c → Calls Tryd.prog 7 #[.agg #[.string x.nm, .slice x.pa x.pn x.pc, .slice x.sa x.sn x.sc]] W fun e w' => e = .returned (.agg #[.int .i64 C, .int .i64 D]) ∧ Below W.heap.size W w') := fun W x hT hx => by
    rw [hC, hD]
    exact impl_so x c W hT HS.out hx
  clear hC hD
  obtain ⟨p0, p1, p2, pf, pl⟩ := three_at Z1.out.2
  clear pf
  go_wp2_with (fail)
  clear p0 p1 p2 pl
  refine (toRecipe_any r c _ HS.out (HR.out.1.below Z1.out.1)).mono ?_
  rintro e w2 ⟨x, rfl, hx, hb⟩
  have Z2 : Hid (Below w.heap.size w w2 ∧ w2.heap[w.heap.size]? = some (.cells #[.string r.nm, .slice r.pa r.pn r.pc, .slice r.sa r.sn r.sc] 25) ∧ Rr1 w2 x c) := ⟨Z1.out.1.trans (hb.mono Z1.out.1.size), resN Z1.out.2 hb, hx⟩
  clear Z1 hb hx
  go_wp2_with (fail)
  refine (HSP.out w2 x Z2.out.2.2).mono ?_
  rintro e w3 ⟨rfl, hb⟩
  have Z3 : Hid (Below w.heap.size w w3 ∧ w3.heap[w.heap.size]? = some (.cells #[.string r.nm, .slice r.pa r.pn r.pc, .slice r.sa r.sn r.sc] 25)) := ⟨Z2.out.1.trans (hb.mono Z2.out.1.size), resN Z2.out.2.1 hb⟩
  clear Z2 hb
  obtain ⟨p0, p1, p2, pf, pl⟩ := three_at (show (w3.alloc (.cells #[.int .i64 C, .int .i64 D] 28)).heap[w.heap.size]? = some (.cells #[.string r.nm, .slice r.pa r.pn r.pc, .slice r.sa r.sn r.sc] 25) from (Below.heap_alloc _ _ _ (ltN Z3.out.2)).trans Z3.out.2)
  clear pf
  have Y3 : Hid (Below w.heap.size w (w3.alloc (.cells #[.int .i64 C, .int .i64 D] 28)) ∧ (w3.alloc (.cells #[.int .i64 C, .int .i64 D] 28)).heap[w.heap.size]? = some (.cells #[.string r.nm, .slice r.pa r.pn r.pc, .slice r.sa r.sn r.sc] 25) ∧ (w3.alloc (.cells #[.int .i64 C, .int .i64 D] 28)).heap[w3.heap.size]? = some (.cells #[.int .i64 C, .int .i64 D] 28)) := ⟨Z3.out.1.alloc Z3.out.1.size _, (Below.heap_alloc _ _ _ (ltN Z3.out.2)).trans Z3.out.2, heap_alloc_new _ _⟩
  have q0 := ltN Z3.out.2
  have q1 := three_at Z3.out.2
  obtain ⟨s0, s1, s2, sf, sl⟩ := q1
  clear sf
  go_wp2_with (fail)
  clear p0 p1 p2 pl q0 s0 s1 s2 sl
  obtain ⟨V3, hV3⟩ : ∃ V, V = w3.alloc (.cells #[.int .i64 C, .int .i64 D] 28) := ⟨_, rfl⟩
  obtain ⟨K3, hK3⟩ : ∃ K, K = w3.heap.size := ⟨_, rfl⟩
  rw [← hV3, ← hK3] at Y3
  rw [← hV3, ← hK3]
  clear hV3 hK3 Z3
  refine (toRecipe_any r c _ HS.out (HR.out.1.below Y3.out.1)).mono ?_
  rintro e w4 ⟨y, rfl, hy, hb⟩
  have Z4 : Hid (Below w.heap.size w w4 ∧ w4.heap[w.heap.size]? = some (.cells #[.string r.nm, .slice r.pa r.pn r.pc, .slice r.sa r.sn r.sc] 25) ∧ w4.heap[K3]? = some (.cells #[.int .i64 C, .int .i64 D] 28) ∧ Rr1 w4 y c) := ⟨Y3.out.1.trans (hb.mono Y3.out.1.size), resN Y3.out.2.1 hb, resN Y3.out.2.2 hb, hy⟩
  clear Y3 hb hy
  have Y4 : Hid (Below w.heap.size w (w4.alloc (.cells #[.string y.nm, .slice y.pa y.pn y.pc, .slice y.sa y.sn y.sc] 33)) ∧ (w4.alloc (.cells #[.string y.nm, .slice y.pa y.pn y.pc, .slice y.sa y.sn y.sc] 33)).heap[w.heap.size]? = some (.cells #[.string r.nm, .slice r.pa r.pn r.pc, .slice r.sa r.sn r.sc] 25) ∧ (w4.alloc (.cells #[.string y.nm, .slice y.pa y.pn y.pc, .slice y.sa y.sn y.sc] 33)).heap[w4.heap.size]? = some (.cells #[.string y.nm, .slice y.pa y.pn y.pc, .slice y.sa y.sn y.sc] 33) ∧ Rr1 (w4.alloc (.cells #[.string y.nm, .slice y.pa y.pn y.pc, .slice y.sa y.sn y.sc] 33)) y c ∧ (w4.alloc (.cells #[.string y.nm, .slice y.pa y.pn y.pc, .slice y.sa y.sn y.sc] 33)).heap[K3]? = some (.cells #[.int .i64 C, .int .i64 D] 28)) := ⟨Z4.out.1.alloc Z4.out.1.size _, (Below.heap_alloc _ _ _ (ltN Z4.out.2.1)).trans Z4.out.2.1, heap_alloc_new _ _, Z4.out.2.2.2.below ((Below.refl _ _).alloc (Nat.le_refl _) _), (Below.heap_alloc _ _ _ (ltN Z4.out.2.2.1)).trans Z4.out.2.2.1⟩
  clear Z4
  go_wp2_with (fail)
  obtain ⟨V4, hV4⟩ : ∃ V, V = (w4.alloc (.cells #[.string y.nm, .slice y.pa y.pn y.pc, .slice y.sa y.sn y.sc] 33)) := ⟨_, rfl⟩
  obtain ⟨K4, hK4⟩ : ∃ K, K = w4.heap.size := ⟨_, rfl⟩
  rw [← hV4, ← hK4] at Y4
  rw [← hV4, ← hK4]
  clear hV4 hK4
  refine (HIM.out V4 y (ht.out.step Y4.out.1) Y4.out.2.2.2.1).mono ?_
  rintro e w5 ⟨rfl, hb⟩
  have Z5 : Hid (Below w.heap.size w w5 ∧ w5.heap[w.heap.size]? = some (.cells #[.string r.nm, .slice r.pa r.pn r.pc, .slice r.sa r.sn r.sc] 25) ∧ w5.heap[K4]? = some (.cells #[.string y.nm, .slice y.pa y.pn y.pc, .slice y.sa y.sn y.sc] 33) ∧ Rr1 w5 y c ∧ w5.heap[K3]? = some (.cells #[.int .i64 C, .int .i64 D] 28)) := ⟨Y4.out.1.trans (hb.mono Y4.out.1.size), resN Y4.out.2.1 hb, resN Y4.out.2.2.1 hb, Y4.out.2.2.2.1.below hb, resN Y4.out.2.2.2.2 hb⟩
  clear Y4 hb
  have Y5 : Hid (Below w.heap.size w (w5.alloc (.cells #[.int .i64 C, .int .i64 D] 28)) ∧ (w5.alloc (.cells #[.int .i64 C, .int .i64 D] 28)).heap[w.heap.size]? = some (.cells #[.string r.nm, .slice r.pa r.pn r.pc, .slice r.sa r.sn r.sc] 25) ∧ (w5.alloc (.cells #[.int .i64 C, .int .i64 D] 28)).heap[K4]? = some (.cells #[.string y.nm, .slice y.pa y.pn y.pc, .slice y.sa y.sn y.sc] 33) ∧ Rr1 (w5.alloc (.cells #[.int .i64 C, .int .i64 D] 28)) y c ∧ (w5.alloc (.cells #[.int .i64 C, .int .i64 D] 28)).heap[K3]? = some (.cells #[.int .i64 C, .int .i64 D] 28) ∧ (w5.alloc (.cells #[.int .i64 C, .int .i64 D] 28)).heap[w5.heap.size]? = some (.cells #[.int .i64 C, .int .i64 D] 28)) := ⟨Z5.out.1.alloc Z5.out.1.size _, (Below.heap_alloc _ _ _ (ltN Z5.out.2.1)).trans Z5.out.2.1, (Below.heap_alloc _ _ _ (ltN Z5.out.2.2.1)).trans Z5.out.2.2.1, Z5.out.2.2.2.1.below ((Below.refl _ _).alloc (Nat.le_refl _) _), (Below.heap_alloc _ _ _ (ltN Z5.out.2.2.2.2)).trans Z5.out.2.2.2.2, heap_alloc_new _ _⟩
  obtain ⟨s0, s1, sl⟩ := two_cl Z5.out.2.2.2.2
  clear Z5
  go_wp2_with (fail)
  clear s0 s1 sl
  obtain ⟨V5, hV5⟩ : ∃ V, V = w5.alloc (.cells #[.int .i64 C, .int .i64 D] 28) := ⟨_, rfl⟩
  obtain ⟨K5, hK5⟩ : ∃ K, K = w5.heap.size := ⟨_, rfl⟩
  rw [← hV5, ← hK5] at Y5
  rw [← hV5]
  clear hV5 hK5
  refine (eqSI_same C D V5).mono ?_
  rintro e w6 ⟨rfl, hb⟩
  have Z6 : Hid (Below w.heap.size w w6 ∧ w6.heap[w.heap.size]? = some (.cells #[.string r.nm, .slice r.pa r.pn r.pc, .slice r.sa r.sn r.sc] 25) ∧ w6.heap[K4]? = some (.cells #[.string y.nm, .slice y.pa y.pn y.pc, .slice y.sa y.sn y.sc] 33) ∧ Rr1 w6 y c) := ⟨Y5.out.1.trans (hb.mono Y5.out.1.size), resN Y5.out.2.1 hb, resN Y5.out.2.2.1 hb, Y5.out.2.2.2.1.below hb⟩
  clear Y5 hb
  obtain ⟨p0, p1, p2, pf, pl⟩ := three_at Z6.out.2.1
  obtain ⟨s0, s1, s2, sf, sl⟩ := three_at Z6.out.2.2.1
  clear pf sf
  go_wp2_with (fail)
  refine wp_region_float (by kernel_rfl) (fun hS => ?_)
  refine fl_take (i := 0) (d := 23) (v := .agg #[.string y.nm, .slice y.pa y.pn y.pc, .slice y.sa y.sn y.sc]) rfl rfl rfl (by kernel_rfl) (by kernel_rfl) (by kernel_rfl) hS ?_ ?_
  · intro w' hk; go_simp
  simp only [Act.put, List.setIfInBounds_toArray, List.set_cons_zero, List.set_cons_succ]
  refine fl_take (i := 1) (d := 24) (v := .agg #[.string r.nm, .slice r.pa r.pn r.pc, .slice r.sa r.sn r.sc]) rfl rfl rfl (by kernel_rfl) (by kernel_rfl) (by kernel_rfl) hS ?_ ?_
  · intro w' hk; go_simp
  simp only [Act.put, List.setIfInBounds_toArray, List.set_cons_zero, List.set_cons_succ]
  refine wpAnyH_all (rs := [2]) (by kernel_rfl) (by simp) ?_
  intro i hi
  obtain rfl : i = 2 := by simpa using hi
  refine op_call (d := 25) rfl rfl rfl (by go_simp) ((toRecipe_any r c _ HS.out ((HR.out.1.below Z6.out.1).below (Below.refl _ _).drew)).mono ?_)
  rintro e ya0 ⟨z, rfl, hk5, hb5⟩
  have hK5 : KS w6 ya0 := hS.call hb5
  refine ⟨_, rfl, hK5, ?_⟩
  simp only [Act.put, List.setIfInBounds_toArray, List.set_cons_zero, List.set_cons_succ]
  refine wpAnyH_all (rs := [3]) (by kernel_rfl) (by simp) ?_
  intro i hi
  obtain rfl : i = 3 := by simpa using hi
  refine op_call (d := 26) rfl rfl rfl (by go_simp) ((eqRecipe_same y z c ya0 HS.out (Z6.out.2.2.2.below hK5.2) hk5).mono ?_)
  rintro e yb0 ⟨rfl, hb6⟩
  have hK6 : KS w6 yb0 := hK5.call hb6
  refine ⟨_, rfl, hK6, ?_⟩
  simp only [Act.put, List.setIfInBounds_toArray, List.set_cons_zero, List.set_cons_succ]
  refine wpAnyH_all (rs := [4]) (by kernel_rfl) (by simp) ?_
  intro i hi
  obtain rfl : i = 4 := by simpa using hi
  refine op_val (d := 27) (v := .bool false) (w' := yb0) rfl rfl rfl (by go_simp; try rfl) ?_
  simp only [Act.put, List.setIfInBounds_toArray, List.set_cons_zero, List.set_cons_succ]
  refine ⟨hK6, wpAnyH_done (by kernel_rfl) (NoPanic.normal ?_) _⟩
  have ZE : Hid (Below w.heap.size w yb0) := Z6.out.1.trans (hK6.2.mono Z6.out.1.size)
  clear Z6 hK6 hK5 hb6 hb5 hk5 hS p0 p1 p2 pl s0 s1 s2 sl
  go_wp2
  go_returns
  exact ⟨rfl, ZE.out⟩

theorem gTab : Tryd.prog.globalNamed "internal/strconv.uint64pow10" = some 0 := by kernel_rfl
theorem gTabType : (Tryd.prog.globals[0]?).map (·.type) = some 128 := by kernel_rfl
theorem cellsTab : Tryd.prog.cellsOf 128 = 20 := by kernel_rfl
theorem cellsU64 : Tryd.prog.cellsOf 121 = 1 := by kernel_rfl

/-- What the row's list gives: the table's cells hold the powers of ten. -/
theorem table {W : World} (h : laidMetH Tryd.prog Rows.fnExactSumOfRecipeRow.laid W) : Lib.TabIs Tryd.prog W "internal/strconv.uint64pow10" .u64 Lib.pow10Tab := by
  have h' : laidMet Tryd.prog Rows.fnExactSumOfRecipeRow.laid W := h
  obtain ⟨ps, hv, _⟩ := h'
  obtain ⟨g1, t1, cs1, f1, p1, q1, _, _, _, _, hv1, _⟩ := hv
  obtain ⟨g2, t2, cs2, f2, p2, q2, _, _, _, _, hv2, _⟩ := hv1
  obtain ⟨g', t', cs, fuel, p, q, hg', ht', hvar, hd, _, _⟩ := hv2
  obtain rfl := Option.some.inj (gTab.symm.trans hg')
  obtain rfl := Option.some.inj (gTabType.symm.trans ht')
  unfold Lib.TabIs
  have hd' : DataW.trod (fun _ => ()) Tryd.prog W 0 (fun _ => true) false fuel 128 cs.toList = some (Lib.tabData .u64 Lib.pow10Tab, p) := hd
  rw [hvar, ← Lib.cells_of_tab (by kernel_rfl : Tryd.prog.underlying 128 = some (.array 20 121)) Tryd.underlying121 cellsU64 cellsTab hd']

set_option maxRecDepth 100000 in
theorem contract (H : Type) (enc : TypeId × Value → H) (W : World) (base : Nat) (args : Array Value) (ds gs : List (DataW H)) (before : List MemPlace)
    (hval0 : ∀ (j : Nat) t v, Tryd.f3.params[j]? = some t → args[j]? = some v → Value.okWide Tryd.prog W .any base t v)
    (hW : DataW.Whole enc Tryd.prog Tryd.f3.params.toList Rows.fnExactSumOfRecipeSpec.vars false W args.toList ds gs before) (hL : laidMetH Tryd.prog Rows.fnExactSumOfRecipeRow.laid W) :
    Calls Tryd.prog 3 args W fun e W' => ∃ v, e = .returned v ∧ Rows.fnExactSumOfRecipeSpec.post enc Tryd.prog Tryd.f3 false true false false W args v W' := by
  have hval : ∀ (j : Nat) t v, Tryd.f3.params[j]? = some t → args[j]? = some v → Value.okWide Tryd.prog W .any base t v := hval0
  have hW' := hW
  obtain ⟨p, q, hA0, hV, rfl, hfz, hnd⟩ := hW
  have hA : DataW.TrodAll enc Tryd.prog W 0 (fun _ => true) true Tryd.f3.params.toList args.toList ds p := hA0
  rw [Tryd.params3] at hA hval
  obtain ⟨v0, vs0, d0, ds0, p0, q0, hargs0, rfl, rfl, h0, r0⟩ := trodAll_cons hA
  obtain ⟨rfl, rfl, rfl⟩ := trodAll_nil r0
  obtain rfl : args = #[v0] := by cases args; simp_all
  obtain ⟨rfl, rfl⟩ := trodVars_none hV
  have k0 := h0
  have lt0 : ∀ x ∈ p0, x.block < W.heap.size := by obtain ⟨m, hm⟩ := k0; exact DataW.trod_lt m _ _ _ hm
  obtain ⟨x0, c0, rfl, hx0, ok0⟩ := recipe_open (hval 0 25 v0 rfl rfl) h0
  clear hA0 hval0
  refine (law_so17 x0 c0 (w := W) (Tab.of (table hL)) hx0 ok0).mono fun e W' ⟨he, hg⟩ => ?_
  subst he
  exact ⟨_, rfl, _, _, _, [], _, [], hW', trodAll_mk1 (shut_bool Tryd.underlying4 _), (trodAll_cons_mk (Below.trod laidOut (by kernel_rfl) (of_decide_eq_true (by kernel_rfl)) k0 hg lt0) trodAll_mk0), rfl, hg.frame _, fun h => by cases h⟩

/-- The number of a datum, and a list's numbers. -/
def cellD (x : DataW Unit) : Value := match x with
  | DataW.lit (Lit.int k z) => Value.int k z
  | _ => Value.bool false
def cellsD (x : DataW Unit) : Array Value := match x with
  | DataW.agg l => (l.map cellD).toArray
  | _ => #[]
/-- A variable's block, with a list of numbers in it. -/
def layT (d : DataW Unit) : Obj → Obj
  | .cells _ t frozen => .cells (cellsD d) t frozen
  | o => o
/-- A world with the three tables laid. -/
def layW (w : World) : World :=
  { w with heap := ((w.heap.modify 0 (layT Rows.laid_internal_strconv_uint64pow10)).modify 1 (layT Rows.laid_math_bits_deBruijn32tab)).modify 2 (layT Rows.laid_math_bits_deBruijn64tab) }

theorem laid_met (os : Os) : laidMet Tryd.prog Rows.fnExactSumOfRecipeRow.laid ((layW (World.holding Tryd.prog os ⟨#[], #[], []⟩)).forCall (fun _ _ => 0) ⟨#[], #[.agg #[.string ByteArray.empty, .slice none 0 0, .slice none 0 0]], []⟩).memory :=
  laidMet_of_run' 8 (by kernel_rfl) (by kernel_rfl)
theorem reads (os : Os) {H : Type} (enc : TypeId × Value → H) : ∃ places, DataW.whole enc Tryd.prog ((layW (World.holding Tryd.prog os ⟨#[], #[], []⟩)).forCall (fun _ _ => 0) ⟨#[], #[.agg #[.string ByteArray.empty, .slice none 0 0, .slice none 0 0]], []⟩).memory Tryd.f3.params.toList Rows.fnExactSumOfRecipeSpec.vars false (#[.agg #[.string ByteArray.empty, .slice none 0 0, .slice none 0 0]] : Array Value).toList 8 = some ([.agg [.lit (.string []), .nil, .nil]], [], places) :=
  ⟨[], by kernel_rfl⟩

set_option maxRecDepth 100000 in
theorem so17_lifted (os : Os) (started : os.Started) (H : Type) (enc : TypeId × Value → H) (F : Stop.Interp) :
    ReturnsInHanded {} Tryd.checked os 3 .any ((OpenSpec.ofChange Rows.fnExactSumOfRecipeSpec).preRow enc Tryd.prog Tryd.f3 Rows.fnExactSumOfRecipeRow.domain false Rows.fnExactSumOfRecipeRow.laid) (((OpenSpec.ofChange Rows.fnExactSumOfRecipeSpec).at F).post enc Tryd.prog Tryd.f3 false true false false) := by
  obtain ⟨places, hx⟩ := reads os enc
  refine returnsInHanded_of_row (C := Tryd.checked) (s := OpenSpec.ofChange Rows.fnExactSumOfRecipeSpec) own started (by kernel_rfl) Tryd.func3
    (witness_row_at (enc := enc) (C := Tryd.checked) false (layW (World.holding Tryd.prog os ⟨#[], #[], []⟩)) #[.agg #[.string ByteArray.empty, .slice none 0 0, .slice none 0 0]] rfl (by kernel_rfl) (by kernel_rfl) (by kernel_rfl)
      (OpenSpec.preRow_of_cond 8 hx (by kernel_rfl) (fun k hk => by cases hk) (by kernel_rfl) (laid_met os))) ?_
  intro W base args ds gs before hval hW _ _ _ hL _ _
  exact contract H enc W base args ds gs before hval hW hL

theorem so17_said : Rows.FnExactSumOfRecipeSaid :=
  OpenClaim.holds_of_cond 3 Tryd.f3 rfl rfl rfl rfl rfl rfl rfl ⟨rfl, rfl, rfl, rfl, rfl⟩ rfl rfl rfl rfl rfl (by kernel_rfl) Tryd.func3 (by kernel_rfl)
    (of_decide_eq_true (by kernel_rfl)) (by unfold Func.isWrapper; first | (rw [if_pos (by decide +kernel)]; kernel_rfl) | (rw [if_neg (by decide +kernel)]; exact ⟨rfl, rfl⟩))
    (fun os started H enc _ F => by rw [OpenClaim.pre_eq_preRow]; exact so17_lifted os started H enc F)

theorem plain (f : FuncId) (fn : Func) (hf : Tryd.pinned.checked.prog.funcNamed "loop.example/g00057/laws.FnExactSumOfRecipe" = some f) (hfn : Tryd.pinned.checked.prog.funcs[f]? = some fn) :
    false = Tryd.pinned.checked.prog.looks [] ∧ ∀ (j : Nat) t, fn.params[j]? = some t → Tryd.pinned.checked.prog.wantsStandIn t = false := by
  obtain rfl : f = 3 := Option.some.inj ((show Tryd.prog.funcNamed "loop.example/g00057/laws.FnExactSumOfRecipe" = some 3 by kernel_rfl).symm.trans hf) |>.symm
  obtain rfl : fn = Tryd.f3 := (Option.some.inj (Tryd.func3.symm.trans hfn)).symm
  refine ⟨by kernel_rfl, fun j t ht => ?_⟩
  rw [Tryd.params3] at ht
  obtain rfl : t = 25 := by simpa using Array.mem_of_getElem? ht
  exact (show Tryd.prog.wantsStandIn 25 = false by kernel_rfl)

theorem so17_proved : Rows.FnExactSumOfRecipeCardSaid :=
  Claim7.holds_tied_plain_at .later [] _ _ _ _ so17_said (fun _ h => by cases h) (by kernel_rfl) (fun _ h => by cases h) fnExactSumOfRecipe_row_tie rfl ⟨rfl, rfl⟩ (by kernel_rfl) rfl plain (by kernel_rfl)
#print axioms so17_proved

end Go.Proofs.YtnljomeacnjmmaaDoor
