/- Proved here: the program's sameDevices. -/
import Derived.Test.YtbfieehlekgjeaaNmJ
import Derived.Test.YtbfieehlekgjeaaFloat
import Derived.Deep.DeepCutAuto
namespace Go.Proofs.Ytbfieehlekgjeaa
open Go.RowKit
set_option linter.unusedVariables false
set_option linter.unusedSimpArgs false

theorem op_skipN {P : Program} {ops : Array Oper} {Q : Exit → Act → World → Prop} {i : Nat} {o : Oper} {a : Act} {w w' : World} {K : Act → World → Prop} (ho : ops[i]? = some o) (hg : o.guard = none)
    (hrun : (execOp a.eval o).run P w = .ok .skip w') (h : K (a.put o.dst undef) w') : wpOp P ops Q i K a w := by
  unfold wpOp
  simp only [ho, wanted_none hg, if_true]
  refine Or.inl ?_
  unfold Oper.wp
  rw [hrun]
  exact h
/-- A struct stored whole. -/
theorem op_store {P : Program} {ops : Array Oper} {Q : Exit → Act → World → Prop} {i : Nat} {o : Oper} {a : Act} {w : World} {K : Act → World → Prop} (ho : ops[i]? = some o) (hg : o.guard = none) (hdst : o.dst = none) (ty : TypeId) (x y : Operand) (hop : o.op = .store ty x y) (k : Nat) (cells : Array Value)
    (hx : a.eval x = .pointer (some ⟨k, 0, none⟩)) (hy : a.eval y = .agg cells) (ht : w.there k 0 cells.size) (hi : (P.info? ty).map (·.size) = some cells.size) (h1 : cells.all (·.oneCell') = true)
    (h : K a (w.setCells k 0 cells.toList)) : wpOp P ops Q i K a w := by
  unfold wpOp
  simp only [ho, wanted_none hg, if_true]
  refine Or.inl (wp_store_mid ty x y hop k 0 cells hx hy ht hi h1 ?_)
  rw [hdst]
  exact h
theorem there_two {w : World} {k : Nat} {a b : Value} {T : TypeId} (h : w.heap[k]? = some (.cells #[a, b] T)) : w.there k 0 2 := by
  intro j hj
  have hj2 : j < 2 := hj
  simp [World.cell?, World.frozen?, h, hj2]
/-- Behind the store of a device into a new variable. -/
theorem fin_dev {W0 V : World} {q : Nat} {XK : Int} {pv z0 z1 : Value} {ps : List Int} {T : TypeId} (hb : Below W0.heap.size W0 V) (hq : W0.heap.size ≤ q) (hz : V.heap[q]? = some (.cells #[z0, z1] T)) (hi : IS V W0.heap.size pv ps) (hne : ∀ g, pv.ownBlock = some g → g ≠ q) :
    Below W0.heap.size W0 (V.setCells q 0 [.int .i64 XK, pv]) ∧ (V.setCells q 0 [.int .i64 XK, pv]).heap[q]? = some (.cells #[.int .i64 XK, pv] T) ∧ IS (V.setCells q 0 [.int .i64 XK, pv]) W0.heap.size pv ps := by
  refine ⟨below_setCells q hq _ _ _ hb, ?_, hi.kept fun g hg => setCells_other _ _ _ _ _ (hne g hg)⟩
  have s0 := heap_setCell_same _ _ 0 _ _ (.int .i64 XK) hz
  have s1 := heap_setCell_same _ _ 1 _ _ pv s0
  simpa [World.setCells] using s1
theorem sdB_hit {nets : List Int} {a b : List Dv} {k : Nat} (hk : k < a.length) (h : ¬ a.count a[k] = b.count (rnD nets a[k])) : sdB nets a b = false := by
  unfold sdB
  rw [List.all_eq_false]
  exact ⟨a[k], List.getElem_mem hk, by simpa using h⟩
theorem sdB_all {nets : List Int} {a b : List Dv} (h : ∀ k (hk : k < a.length), a.count a[k] = b.count (rnD nets a[k])) : sdB nets a b = true := by
  unfold sdB
  rw [List.all_eq_true]
  intro d hd
  obtain ⟨k, hk, rfl⟩ := List.getElem_of_mem hd
  exact decide_eq_true (h k hk)

set_option maxRecDepth 10000 in
set_option maxHeartbeats 6400000 in
theorem impl_same (N M : Int) {w : World} {va vb vn : Value} {a b : List Dv} {nets : List Int} (ga : NlGood N a) (gb : NlGood M b) (hnl : (nets.length : Int) = N) (ha : RD w va a) (hb : RD w vb b) (hn : RdI w vn nets) :
    Calls Try.prog 56 #[.agg #[.int .i64 N, va], .agg #[.int .i64 M, vb], vn] w fun e w' => e = .returned (.bool (sdB nets a b)) ∧ Below w.heap.size w w' := by
  obtain ⟨aa, ca, rfl⟩ := ha.form
  obtain ⟨ab, cb, rfl⟩ := hb.form
  obtain ⟨an, cn, rfl⟩ := hn.form
  obtain ⟨n, hnn⟩ : ∃ n, n = a.length := ⟨_, rfl⟩
  obtain ⟨m, hmm⟩ : ∃ m, m = b.length := ⟨_, rfl⟩
  obtain ⟨l, hll⟩ : ∃ l, l = nets.length := ⟨_, rfl⟩
  obtain ⟨D, hD⟩ : ∃ D, D = sdB nets a b := ⟨_, rfl⟩
  rw [← hnn] at ha ⊢
  rw [← hmm] at hb ⊢
  rw [← hll] at hn ⊢
  rw [← hD]
  have hn12 : n ≤ 12 := by rw [hnn]; exact ga.len
  have H : Hid ((RD w (.slice aa n ca) a ∧ RD w (.slice ab m cb) b ∧ RdI w (.slice an l cn) nets) ∧ (n = a.length ∧ m = b.length ∧ l = nets.length ∧ D = sdB nets a b) ∧ NlGood N a ∧ NlGood M b ∧ (nets.length : Int) = N) := ⟨⟨ha, hb, hn⟩, ⟨hnn, hmm, hll, hD⟩, ga, gb, hnl⟩
  clear ha hb hn hnn hmm hll hD ga gb hnl
  go_enter Try.func56, Try.ntmps56
  go_wp2
  go_loopw [13] (fun i wr => ∃ k : Nat, k ≤ n ∧ i = .int .i64 k ∧ Hid ((∀ j (h : j < a.length), j < k → a.count a[j] = b.count (rnD nets a[j])) ∧ Below w.heap.size w wr ∧ wr.heap[w.heap.size]? = some (.cells #[.int .i64 N, .slice aa n ca] 42) ∧ wr.heap[w.heap.size + 1]? = some (.cells #[.int .i64 M, .slice ab m cb] 42))) (fun i _ => n - (intOf i).toNat)
  case atStart => exact ⟨0, Nat.zero_le _, rfl, fun j _ h => by omega, by (repeat' (first | (with_reducible exact Below.refl _ _) | (with_reducible assumption) | (with_reducible refine Below.setCell ?_ ?_ _) | (with_reducible refine Below.alloc ?_ ?_ _) | (with_reducible refine below_drewN ?_ _) | (with_reducible refine Below.drew ?_) | (with_reducible exact Nat.le_refl _) | omega | (simp; done) | (simp; omega))), (Below.heap_alloc _ _ _ (by simp)).trans (heap_alloc_new w _), hp_at1 w _ _⟩
  case round =>
    obtain ⟨k, hk, rfl, hR⟩ := hrel
    by_cases hlt : k < n
    · have hkl : k < a.length := by rw [← H.out.2.1.1]; exact hlt
      obtain ⟨g, o, c2, he, hg, x, hx, c0, c1⟩ := (H.out.1.1.below hR.out.2.1).at hkl
      simp only [Value.slice.injEq] at he
      obtain ⟨rfl, hx1, hx2⟩ := he
      clear hx1 hx2
      obtain ⟨XK, xa, xn, xc⟩ := x
      dsimp only at c0 c1
      have HX : Hid (XK = a[k].k ∧ RdI wr (.slice xa xn xc) a[k].p ∧ k < a.length) := ⟨hx.k, hx.p, hkl⟩
      have HR : Hid ((∀ j (h : j < a.length), j < k → a.count a[j] = b.count (rnD nets a[j])) ∧ Below w.heap.size w wr ∧ wr.heap[w.heap.size]? = some (.cells #[.int .i64 N, .slice (some ⟨g, o, none⟩) n ca] 42) ∧ wr.heap[w.heap.size + 1]? = some (.cells #[.int .i64 M, .slice ab m cb] 42)) := hR.out
      clear hx hR
      have b0 : (0 : Int) ≤ (k : Int) := by omega
      have b1 : (k : Int) < (n : Int) := by omega
      go_upto_region 4 with (fail)
      obtain ⟨W0, hW0⟩ : ∃ W0, W0 = wr.alloc (.cells #[.int .i64 XK, .slice xa xn xc] 82) := ⟨_, rfl⟩
      rw [← hW0]
      have hd0 : W0.heap[wr.heap.size]? = some (.cells #[.int .i64 XK, .slice xa xn xc] 82) := by rw [hW0]; exact heap_alloc_new _ _
      have HW0 : Hid (Below wr.heap.size wr W0) := by unfold Hid; rw [hW0]; (repeat' (first | (with_reducible exact Below.refl _ _) | (with_reducible assumption) | (with_reducible refine Below.setCell ?_ ?_ _) | (with_reducible refine Below.alloc ?_ ?_ _) | (with_reducible refine below_drewN ?_ _) | (with_reducible refine Below.drew ?_) | (with_reducible exact Nat.le_refl _) | omega | (simp; done) | (simp; omega)))
      clear hW0 c0 c1
      obtain ⟨d0, d1, df, dlt⟩ := two_at hd0
      have HP : Hid (∀ W, Below W0.heap.size W0 W → Calls Try.prog 51 #[.slice xa xn xc, .slice an l cn] W fun e w' => ∃ v', e = .returned v' ∧ IS w' W.heap.size v' (rnP nets a[k].p) ∧ Below W.heap.size W w') := fun W hW => by
        have hbw : Below wr.heap.size wr W := HW0.out.trans (hW.mono HW0.out.size)
        refine impl_pins (H.out.2.2.1.pl _ (List.getElem_mem hkl)) ?_ (fun x hx => by have := H.out.2.2.1.pin _ (List.getElem_mem hkl) x hx; have := H.out.2.2.2.2; omega) (HX.out.2.1.below hbw) ((H.out.1.2.2.below HR.out.2.1).below hbw)
        have := H.out.2.2.2.2; have := H.out.2.2.1.n7; omega
      have HD0 : Hid (W0.heap[wr.heap.size]? = some (.cells #[.int .i64 XK, .slice xa xn xc] 82)) := hd0
      clear hd0
      go_cut [9] from 14 to 33 (fun v9 wx => ∃ q pv, v9 = .pointer (some ⟨q, 0, none⟩) ∧ Hid (Below W0.heap.size W0 wx ∧ wx.heap[q]? = some (.cells #[.int .i64 XK, pv] 82) ∧ IS wx W0.heap.size pv (rnP nets a[k].p)))
      case first =>
        refine wp_region_float (by kernel_rfl) (fun hS => ?_)
        refine fl_take (i := 0) (d := 17) (v := .pointer (some ⟨wr.heap.size, 0, none⟩)) rfl rfl rfl (by kernel_rfl) (by kernel_rfl) (by kernel_rfl) hS ?_ ?_
        · intro w' hk; go_simp
        simp only [Act.put, List.setIfInBounds_toArray, List.set_cons_zero, List.set_cons_succ]
        refine fl_take (i := 1) (d := 18) (v := .int .i64 XK) rfl rfl rfl (by kernel_rfl) (by kernel_rfl) (by kernel_rfl) hS ?_ ?_
        · intro w' hk; go_simp
        simp only [Act.put, List.setIfInBounds_toArray, List.set_cons_zero, List.set_cons_succ]
        refine fl_take (i := 2) (d := 19) (v := .pointer (some ⟨wr.heap.size, 1, none⟩)) rfl rfl rfl (by kernel_rfl) (by kernel_rfl) (by kernel_rfl) hS ?_ ?_
        · intro w' hk; go_simp
        simp only [Act.put, List.setIfInBounds_toArray, List.set_cons_zero, List.set_cons_succ]
        refine fl_take (i := 3) (d := 20) (v := .slice xa xn xc) rfl rfl rfl (by kernel_rfl) (by kernel_rfl) (by kernel_rfl) hS ?_ ?_
        · intro w' hk; go_simp
        simp only [Act.put, List.setIfInBounds_toArray, List.set_cons_zero, List.set_cons_succ]
        refine fl_take (i := 4) (d := 21) (v := .slice an l cn) rfl rfl rfl (by kernel_rfl) (by kernel_rfl) (by kernel_rfl) hS ?_ ?_
        · intro w' hk; go_simp
        simp only [Act.put, List.setIfInBounds_toArray, List.set_cons_zero, List.set_cons_succ]
        refine wpAnyH_all (rs := [5, 7]) (by kernel_rfl) (by simp) ?_
        intro i hi
        rcases (by simpa using hi : i = 5 ∨ i = 7) with rfl | rfl
        · refine op_call (d := 22) rfl rfl rfl (by go_simp) ((HP.out _ (Below.refl _ _).drew).mono ?_)
          rintro e w1 ⟨pv', rfl, hi1, hb1⟩
          obtain ⟨ga, gc, rfl⟩ := hi1.form
          obtain ⟨pv, hpv⟩ : ∃ pv : Nat, pv = (rnP nets a[k].p).length := ⟨_, rfl⟩
          rw [← hpv] at hi1 ⊢
          clear hpv
          have hK1 : KS W0 w1 := hS.call hb1
          refine ⟨_, rfl, hK1, ?_⟩
          simp only [Act.put, List.setIfInBounds_toArray, List.set_cons_zero, List.set_cons_succ]
          have hK2 : KS W0 (w1.alloc (.cells #[.int .i64 0, .slice none 0 0] 82)) := hK1.alloc _
          have hF := fin_dev (XK := XK) hK2.2 hK1.2.size (heap_alloc_new w1 (.cells #[.int .i64 0, .slice none 0 0] 82)) (hi1.bel ((Below.refl _ _).alloc (Nat.le_refl _) _)) (fun g hg => by have := (IS.lt hi1 g hg).2; omega)
          refine wpAnyH_all (rs := [6, 7]) (by kernel_rfl) (by simp) ?_
          intro i hi
          rcases (by simpa using hi : i = 6 ∨ i = 7) with rfl | rfl
          · refine op_val (d := 23) (v := .agg #[.int .i64 XK, .slice ga pv gc]) (w' := w1) rfl rfl rfl (by go_simp) ?_
            simp only [Act.put, List.setIfInBounds_toArray, List.set_cons_zero, List.set_cons_succ]
            refine ⟨hK1, wpAnyH_all (rs := [7]) (by kernel_rfl) (by simp) ?_⟩
            intro i hi
            obtain rfl : i = 7 := by simpa using hi
            refine op_val (d := 9) (v := .pointer (some ⟨w1.heap.size, 0, none⟩)) (w' := w1.alloc (.cells #[.int .i64 0, .slice none 0 0] 82)) rfl rfl rfl (by go_simp; try rfl) ?_
            simp only [Act.put, List.setIfInBounds_toArray, List.set_cons_zero, List.set_cons_succ]
            refine ⟨hK2, wpAnyH_all (rs := [8]) (by kernel_rfl) (by simp) ?_⟩
            intro i hi
            obtain rfl : i = 8 := by simpa using hi
            refine op_store rfl rfl rfl _ _ _ rfl w1.heap.size #[.int .i64 XK, .slice ga pv gc] rfl rfl (there_two (heap_alloc_new w1 _)) (by kernel_rfl) (by simp [Value.oneCell']) ?_
            refine ⟨KS.of hF.1, wpAnyH_done (by kernel_rfl) (NoPanic.normal ?_) _⟩
            go_wp2_with (fail)
            go_meet
            exact ⟨_, _, rfl, hF⟩
          · refine op_val (d := 9) (v := .pointer (some ⟨w1.heap.size, 0, none⟩)) (w' := w1.alloc (.cells #[.int .i64 0, .slice none 0 0] 82)) rfl rfl rfl (by go_simp; try rfl) ?_
            simp only [Act.put, List.setIfInBounds_toArray, List.set_cons_zero, List.set_cons_succ]
            refine ⟨hK2, wpAnyH_all (rs := [6]) (by kernel_rfl) (by simp) ?_⟩
            intro i hi
            obtain rfl : i = 6 := by simpa using hi
            refine op_val (d := 23) (v := .agg #[.int .i64 XK, .slice ga pv gc]) (w' := w1.alloc (.cells #[.int .i64 0, .slice none 0 0] 82)) rfl rfl rfl (by go_simp) ?_
            simp only [Act.put, List.setIfInBounds_toArray, List.set_cons_zero, List.set_cons_succ]
            refine ⟨hK2, wpAnyH_all (rs := [8]) (by kernel_rfl) (by simp) ?_⟩
            intro i hi
            obtain rfl : i = 8 := by simpa using hi
            refine op_store rfl rfl rfl _ _ _ rfl w1.heap.size #[.int .i64 XK, .slice ga pv gc] rfl rfl (there_two (heap_alloc_new w1 _)) (by kernel_rfl) (by simp [Value.oneCell']) ?_
            refine ⟨KS.of hF.1, wpAnyH_done (by kernel_rfl) (NoPanic.normal ?_) _⟩
            go_wp2_with (fail)
            go_meet
            exact ⟨_, _, rfl, hF⟩
        · refine op_val (d := 9) (v := .pointer (some ⟨W0.heap.size, 0, none⟩)) (w' := (W0.alloc (.cells #[.int .i64 0, .slice none 0 0] 82)).drew) rfl rfl rfl (by go_simp; try rfl) ?_
          simp only [Act.put, List.setIfInBounds_toArray, List.set_cons_zero, List.set_cons_succ]
          have hK1 : KS W0 (W0.alloc (.cells #[.int .i64 0, .slice none 0 0] 82)).drew := KS.of (by (repeat' (first | (with_reducible exact Below.refl _ _) | (with_reducible assumption) | (with_reducible refine Below.setCell ?_ ?_ _) | (with_reducible refine Below.alloc ?_ ?_ _) | (with_reducible refine below_drewN ?_ _) | (with_reducible refine Below.drew ?_) | (with_reducible exact Nat.le_refl _) | omega | (simp; done) | (simp; omega))))
          refine ⟨hK1, wpAnyH_all (rs := [5]) (by kernel_rfl) (by simp) ?_⟩
          intro i hi
          obtain rfl : i = 5 := by simpa using hi
          refine op_call (d := 22) rfl rfl rfl (by go_simp) ((HP.out _ (by (repeat' (first | (with_reducible exact Below.refl _ _) | (with_reducible assumption) | (with_reducible refine Below.setCell ?_ ?_ _) | (with_reducible refine Below.alloc ?_ ?_ _) | (with_reducible refine below_drewN ?_ _) | (with_reducible refine Below.drew ?_) | (with_reducible exact Nat.le_refl _) | omega | (simp; done) | (simp; omega))))).mono ?_)
          rintro e w1 ⟨pv', rfl, hi1, hb1⟩
          obtain ⟨ga, gc, rfl⟩ := hi1.form
          obtain ⟨pv, hpv⟩ : ∃ pv : Nat, pv = (rnP nets a[k].p).length := ⟨_, rfl⟩
          rw [← hpv] at hi1 ⊢
          clear hpv
          have hK2 : KS W0 w1 := hK1.call hb1
          have hz : w1.heap[W0.heap.size]? = some (.cells #[.int .i64 0, .slice none 0 0] 82) := (hb1.block _ (by simp)).trans (heap_alloc_new W0 _)
          have hF := fin_dev (XK := XK) hK2.2 (Nat.le_refl _) hz (hi1.low (by simp)) (fun g hg => by have := (IS.lt hi1 g hg).1; simp at this; omega)
          refine ⟨_, rfl, hK2, ?_⟩
          simp only [Act.put, List.setIfInBounds_toArray, List.set_cons_zero, List.set_cons_succ]
          refine wpAnyH_all (rs := [6]) (by kernel_rfl) (by simp) ?_
          intro i hi
          obtain rfl : i = 6 := by simpa using hi
          refine op_val (d := 23) (v := .agg #[.int .i64 XK, .slice ga pv gc]) (w' := w1) rfl rfl rfl (by go_simp) ?_
          simp only [Act.put, List.setIfInBounds_toArray, List.set_cons_zero, List.set_cons_succ]
          refine ⟨hK2, wpAnyH_all (rs := [8]) (by kernel_rfl) (by simp) ?_⟩
          intro i hi
          obtain rfl : i = 8 := by simpa using hi
          refine op_store rfl rfl rfl _ _ _ rfl W0.heap.size #[.int .i64 XK, .slice ga pv gc] rfl rfl (there_two hz) (by kernel_rfl) (by simp [Value.oneCell']) ?_
          refine ⟨KS.of hF.1, wpAnyH_done (by kernel_rfl) (NoPanic.normal ?_) _⟩
          go_wp2_with (fail)
          go_meet
          exact ⟨_, _, rfl, hF⟩
      case rest =>
        obtain ⟨q, pv, rfl, hC⟩ := hcut
        obtain ⟨ga, gc, rfl⟩ := hC.out.2.2.form
        obtain ⟨pl, hpl⟩ : ∃ pl : Nat, pl = (rnP nets a[k].p).length := ⟨_, rfl⟩
        rw [← hpl] at hC
        have hbw : Below wr.heap.size wr wc := HW0.out.trans (hC.out.1.mono HW0.out.size)
        have hbww : Below w.heap.size w wc := HR.out.2.1.trans (hbw.mono HR.out.2.1.size)
        obtain ⟨na0, na1, naf, nalt⟩ := two_at ((hbw.block _ (two_at HR.out.2.2.1).2.2.2).trans HR.out.2.2.1)
        obtain ⟨nb0, nb1, nbf, nblt⟩ := two_at ((hbw.block _ (two_at HR.out.2.2.2).2.2.2).trans HR.out.2.2.2)
        obtain ⟨e0, e1, ef, elt⟩ := two_at ((hC.out.1.block _ dlt).trans HD0.out)
        obtain ⟨f0, f1, ff, flt⟩ := two_at hC.out.2.1
        have HBX : Hid (Below w.heap.size w wc ∧ wc.heap[w.heap.size]? = some (.cells #[.int .i64 N, .slice (some ⟨g, o, none⟩) n ca] 42) ∧ wc.heap[w.heap.size + 1]? = some (.cells #[.int .i64 M, .slice ab m cb] 42)) := ⟨hbww, (hbw.block _ (two_at HR.out.2.2.1).2.2.2).trans HR.out.2.2.1, (hbw.block _ (two_at HR.out.2.2.2).2.2.2).trans HR.out.2.2.2⟩
        obtain ⟨t1, ht1⟩ : ∃ t1 : Nat, t1 = a.count a[k] := ⟨_, rfl⟩
        obtain ⟨t2, ht2⟩ : ∃ t2 : Nat, t2 = b.count (rnD nets a[k]) := ⟨_, rfl⟩
        have hc1 : Hid (∀ X : Und wc.heap.size wc, Calls Try.prog 77 #[.slice (some ⟨g, o, none⟩) n ca, .agg #[.int .i64 XK, .slice xa xn xc]] X.W fun e w' => e = .returned (.int .i64 (t1 : Int)) ∧ Below X.W.heap.size X.W w') := fun X => by
          rw [ht1]
          exact impl_count ⟨XK, xa, xn, xc⟩ a[k] H.out.2.2.1.len H.out.2.2.1.pl (by have := H.out.2.2.1.pl _ (List.getElem_mem hkl); omega) ⟨HX.out.1, (HX.out.2.1.below hbw).below X.below⟩ ((H.out.1.1.below hbww).below X.below)
        have hc2 : Hid (∀ X : Und wc.heap.size wc, Calls Try.prog 77 #[.slice ab m cb, .agg #[.int .i64 XK, .slice ga pl gc]] X.W fun e w' => e = .returned (.int .i64 (t2 : Int)) ∧ Below X.W.heap.size X.W w') := fun X => by
          rw [ht2]
          exact impl_count ⟨XK, ga, pl, gc⟩ (rnD nets a[k]) H.out.2.2.2.1.len H.out.2.2.2.1.pl (by have := H.out.2.2.1.pl _ (List.getElem_mem hkl); rw [rnD, rnP_len]; omega) ⟨HX.out.1, hC.out.2.2.rg.below X.below⟩ ((H.out.1.2.1.below hbww).below X.below)
        have HT : Hid (t1 = a.count a[k] ∧ t2 = b.count (rnD nets a[k])) := ⟨ht1, ht2⟩
        clear hC hbw hbww hpl d0 d1 df HD0 ht1 ht2
        go_wp2_with (fail)
        (refine wp_region_und (by kernel_rfl) (by kernel_rfl) (fun hund => ?_); (repeat (go_big_quiet_step (first | (go_at_call 77; with_reducible refine und_call ?_ (hc1.out _); exact Nat.le_refl _) | (go_at_call 77; with_reducible refine und_call ?_ (hc2.out _); exact Nat.le_refl _)))); with_reducible refine wpQuiet_nil ?_; clear hund; intro W1 hb1; obtain ⟨hc1, hf1⟩ := bcell hb1)
        have HBY : Hid (Below w.heap.size w W1 ∧ W1.heap[w.heap.size]? = some (.cells #[.int .i64 N, .slice (some ⟨g, o, none⟩) n ca] 42) ∧ W1.heap[w.heap.size + 1]? = some (.cells #[.int .i64 M, .slice ab m cb] 42)) := ⟨HBX.out.1.trans (hb1.mono HBX.out.1.size), (hb1.block _ nalt).trans HBX.out.2.1, (hb1.block _ nblt).trans HBX.out.2.2⟩
        clear hb1 hc1 hf1 hc2 na0 na1 naf nb0 nb1 nbf e0 e1 ef f0 f1 ff
        by_cases ht : t1 = t2
        · have HP2 : Hid (∀ j (h : j < a.length), j < k + 1 → a.count a[j] = b.count (rnD nets a[j])) := fun j hj hjk => by
            rcases (by omega : j < k ∨ j = k) with e | rfl
            · exact HR.out.1 j hj e
            · rw [← HT.out.1, ← HT.out.2]; exact ht
          subst ht
          go_wp2
          go_roundw
          case rel => exact ⟨k + 1, by omega, by go_num, HP2.out, HBY.out⟩
          case measure => simp [intOf]; omega
        · have HE : Hid (D = false) := by
            unfold Hid; rw [H.out.2.1.2.2.2]
            exact sdB_hit hkl (by rw [← HT.out.1, ← HT.out.2]; exact ht)
          have hti : ¬ (t1 : Int) = (t2 : Int) := by omega
          go_wp2
          go_returns
          exact ⟨by rw [HE.out]; rfl, HBY.out.1⟩
    · have HE : Hid (D = true ∧ Below w.heap.size w wr) := by
        refine ⟨?_, hR.out.2.1⟩
        rw [H.out.2.1.2.2.2]
        exact sdB_all (fun j hj => hR.out.1 j hj (by rw [← H.out.2.1.1] at hj; omega))
      clear hR
      go_wp2
      go_returns
      exact ⟨by rw [HE.out.1]; rfl, HE.out.2⟩

/-- Whether a naming matches two netlists. -/
def cmB (N M : Int) (a b : List Dv) (nets : List Int) : Bool := decide (nlF N a = 0) && decide (nlF M b = 0) && decide (N = M ∧ a.length = b.length) && nmB nets N && sdB nets a b

end Go.Proofs.Ytbfieehlekgjeaa
