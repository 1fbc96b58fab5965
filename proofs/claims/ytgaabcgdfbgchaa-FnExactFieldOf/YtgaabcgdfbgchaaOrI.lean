/- Proved here: the program's ordersIn, by value. -/
import Derived.Test.YtgaabcgdfbgchaaOrM
namespace Go.Proofs.Ytgaabcgdfbgchaa
open Go.RowKit
set_option linter.unusedVariables false
set_option linter.unusedSimpArgs false

/-- While the sums go on. -/
structure OrT (w wr : World) (gt gs n : Nat) (ts : List Zf) (cur : List Zv) : Prop where
  bl : Below w.heap.size w wr
  tu : OCs wr w.heap.size (.slice (some ⟨gt, 0, none⟩) n n) ts
  su : ∃ zs, OCs wr gs (.slice (some ⟨gs, 0, none⟩) n n) zs ∧ zs.map Zf.v = cur
  ord : w.heap.size ≤ gt ∧ gt < gs ∧ gs < wr.heap.size
theorem OrT.next {w wr wr' : World} {gt gs n : Nat} {ts : List Zf} {cur : List Zv} (h : OrT w wr gt gs n ts cur) (hb : Below wr.heap.size wr wr') : OrT w wr' gt gs n ts cur := by
  obtain ⟨zs, h1, h2⟩ := h.su
  exact ⟨h.bl.trans (hb.mono h.bl.size), OG.below h.tu hb, ⟨zs, OG.below h1 hb, h2⟩, by have := h.ord; have := hb.size; omega⟩
theorem OrT.put {w wr : World} {gt gs n : Nat} {ts : List Zf} {cur : List Zv} (h : OrT w wr gt gs n ts cur) (j : Nat) (z : Zf) : OrT w (wr.setCell ⟨gs, j, none⟩ (.complex .f64 z.re z.im)) gt gs n ts (cur.set j z.v) := by
  have hord := h.ord
  obtain ⟨zs, h1, h2⟩ := h.su
  refine ⟨h.bl.setCell (by simp; omega) _, ?_, ⟨zs.set j z, OCs.put h1 j z, by rw [List.map_set, h2]⟩, by simpa using hord⟩
  have ht := h.tu
  have hne : ∀ g, (Value.slice (some ⟨gt, 0, none⟩) n n).ownBlock = some g → (wr.setCell ⟨gs, j, none⟩ (.complex .f64 z.re z.im)).heap[g]? = wr.heap[g]? := fun g hg => by
    injection hg with hg
    have hg' : gt = g := hg
    exact heap_setCell_other _ _ _ _ (by simp; omega)
  refine ⟨ht.1, ?_⟩
  rcases ht.2 with hh | ⟨g, cap, cu, e1, e2, e3, e4⟩
  · exact Or.inl hh
  · refine Or.inr ⟨g, cap, cu, e1, e2, ?_, e4⟩
    rw [hne g (by rw [e1]; rfl)]
    exact e3

set_option maxRecDepth 10000 in
set_option maxHeartbeats 12800000 in
theorem impl_orders {w : World} {a : Option Addr} {n c : Nat} {mk : List Zf} (hm : RZs w (.slice a n c) mk) (h1 : 1 ≤ n) (h2 : n ≤ 24) :
    Calls Try.prog 48 #[.slice a n c] w fun e w' => ∃ g zs, e = .returned (.slice (some ⟨g, 0, none⟩) n n) ∧ OCs w' w.heap.size (.slice (some ⟨g, 0, none⟩) n n) zs ∧ zs.map Zf.v = orL (mk.map Zf.v) ∧ Below w.heap.size w w' := by
  have hml : n = mk.length := hm.len
  obtain ⟨ms, hms⟩ : ∃ ms, ms = mk.map Zf.v := ⟨_, rfl⟩
  have H : Hid (RZs w (.slice a n c) mk ∧ n = mk.length ∧ ms = mk.map Zf.v ∧ n = ms.length) := ⟨hm, hml, hms, by rw [hms, List.length_map]; exact hml⟩
  rw [← hms]
  clear hm hml hms
  obtain ⟨i0, hi, hz0, hz1, hz2⟩ := info_parts info_c
  have hnN : ¬ n = 0 := by omega
  have hn0 : ((n : Int) == 0) = false := by simp; omega
  have hn1 : ¬ (n : Int) = 0 := by omega
  go_enter Try.func48, Try.ntmps48
  go_wp2_with (fail)
  refine (impl_turns n h1 h2 (-1) (Or.inr rfl) _).mono ?_
  rintro e w1 ⟨gt, ts, rfl, ht1, ht2, hb1⟩
  have hlt1 := OG.lt ht1 gt rfl
  have HW1 : Hid (OCs w1 w.heap.size (.slice (some ⟨gt, 0, none⟩) n n) ts ∧ TuL n (-1) ts n ∧ Below w.heap.size w w1) := ⟨ht1, ht2, hb1⟩
  clear ht1 ht2 hb1
  go_wp2_with (at_make; refine wpList_make_full _ rfl _ _ 80 rfl w1.heap.size 68 i0 (.complex .f64 0 0) 1 Try.underlying80 hi hz0 hz1 _ _ _ _ n rfl rfl rfl rfl (by rw [hz2]; omega) (by unfold maxLen; omega) (Nat.le_refl _) ?_; intro w2 hown2 hgrow2)
  have HS2 : Hid (OrT w w2 gt w1.heap.size n ts (orS ms n 0 0)) := by
    obtain ⟨a1, a2, a3⟩ := HW1.out
    have hb2 : Below w1.heap.size w1 w2 := (Below.refl _ _).grown hgrow2 (Nat.le_refl _) (fun k h => by cases h)
    refine ⟨a3.trans (hb2.mono a3.size), OG.below a1 hb2, ⟨List.replicate n ⟨0, 0⟩, ?_, ?_⟩, hlt1.1, hlt1.2, (World.ownsRow.lt hown2 _ rfl).2⟩
    · show World.ownsRow _ _ _ _ _ _ _
      rw [cC_fm]
      have e : (madeCells (Value.cells (.complex .f64 0 0)) (n * 1)).toList = (List.replicate n (⟨0, 0⟩ : Zf)).map (fun z => Value.complex .f64 z.re z.im) := by
        rw [show (Value.complex .f64 0 0).cells = #[Value.complex .f64 0 0] from rfl, toList_madeCells_one]
        simp
      rw [e] at hown2
      simpa using hown2
    · rw [orS_zero, List.map_replicate]; rfl
  have HTU : Hid (TuL n (-1) ts n) := HW1.out.2.1
  obtain ⟨gs, hgs⟩ : ∃ g, g = w1.heap.size := ⟨_, rfl⟩
  rw [← hgs] at HS2 ⊢
  clear hown2 hgrow2 HW1 hgs hlt1
  go_loopw [16] (fun i wr => ∃ k : Nat, k ≤ n ∧ i = .int .i64 k ∧ Hid (OrT w wr gt gs n ts (orS ms n k 0))) (fun i _ => n - (intOf i).toNat)
  case atStart => exact ⟨0, Nat.zero_le _, rfl, HS2.out⟩
  case round =>
    clear HS2
    obtain ⟨k, hk, rfl, hR⟩ := hrel
    by_cases hltk : k < n
    · have bk : (k : Int) < (n : Int) := by omega
      have bk0 : (0 : Int) ≤ (k : Int) := by omega
      go_wp2
      go_loopw [21] (fun i wv => ∃ x : Nat, x ≤ n ∧ i = .int .i64 x ∧ Hid (OrT w wv gt gs n ts (orS ms n k x))) (fun i _ => n - (intOf i).toNat)
      case atStart => exact ⟨0, Nat.zero_le _, rfl, hR.out⟩
      case round =>
        clear hR
        obtain ⟨x, hx, rfl, hQ⟩ := hrel
        by_cases hltx : x < n
        · have bx : (x : Int) < (n : Int) := by omega
          have bx0 : (0 : Int) ≤ (x : Int) := by omega
          obtain ⟨gm, om, M, ham, hgm, hM, cm0, cm1⟩ := rz_at (H.out.1.below hQ.out.bl) hltx
          subst ham
          obtain ⟨E, hE⟩ : ∃ E, E = k * x % n := ⟨_, rfl⟩
          have hEn : E < n := by rw [hE]; exact Nat.mod_lt _ (by omega)
          have hkx : k * x ≤ 24 * 24 := Nat.mul_le_mul (by omega) (by omega)
          have e1 : IntKind.i64.wrap ((k : Int) * (x : Int)) = (k : Int) * (x : Int) := by
            have h3 : (k : Int) * (x : Int) = ((k * x : Nat) : Int) := by simp
            rw [h3, IntKind.wrap_i64]; omega
          have e2 : ((k : Int) * (x : Int)) % (n : Int) = (E : Int) := by rw [hE]; simp
          have e2' : ((k : Int) * (x : Int)).tmod (n : Int) = (E : Int) := by rw [Int.tmod_eq_emod_of_nonneg (Int.mul_nonneg bk0 bx0)]; exact e2
          have be0 : (0 : Int) ≤ (E : Int) := by omega
          have be1 : (E : Int) < (n : Int) := by omega
          obtain ⟨T, hT, hTv⟩ := HTU.out.2 E hEn
          obtain ⟨gt', ot', T', hat, hgt', hT2, cT⟩ := rc_at hQ.out.tu.rg hEn
          rw [hT] at hT2
          injection hT2 with hT2
          subst hT2
          injection hat with hat
          injection hat with hat1 hat2
          subst hat1 hat2
          rw [Nat.zero_add] at cT
          obtain ⟨zs, hzs, hzv⟩ := hQ.out.su
          obtain ⟨gs', os', O, has, hgs'', hO, cO⟩ := rc_at hzs.rg hltk
          injection has with has
          injection has with has1 has2
          subst has1 has2
          rw [Nat.zero_add] at cO
          have HOv : Hid (O.v = orK ms n k x) := by
            unfold Hid
            have h3 : (zs.map Zf.v)[k]? = some O.v := by rw [List.getElem?_map, hO]; rfl
            rw [hzv, orS_at hltk] at h3
            injection h3 with h3
            exact h3.symm
          have HMv : Hid (ms.getD x z0V = M.v ∧ T.v = trV (-prt n (k * x % n))) := by
            refine ⟨?_, ?_⟩
            · rw [H.out.2.2.1, List.getD_eq_getElem?_getD, List.getElem?_map, hM]; rfl
            · rw [hTv, hE, Int.neg_one_mul]
          have hfz := OCs.frz hzs k
          have hord := hQ.out.ord
          clear hE hT hTv hzs hzv hM hO hkx
          go_wp2_with (fail)
          obtain ⟨U, hU⟩ : ∃ U, U = wr.alloc (.cells #[.float .f64 M.re, .float .f64 M.im] 24) := ⟨_, rfl⟩
          rw [← hU]
          have hUw : Below wr.heap.size wr U := by rw [hU]; exact (Below.refl _ _).alloc (Nat.le_refl _) _
          have u0 : U.heap[wr.heap.size]? = some (.cells #[.float .f64 M.re, .float .f64 M.im] 24) := by rw [hU]; exact heap_alloc_new _ _
          have hgsU : gs < U.heap.size := by have := hUw.size; omega
          have hgtU : gt < U.heap.size := by have := hUw.size; omega
          obtain ⟨p0, p1, pf, pl⟩ := z_two u0
          have cO : U.cell? ⟨gs, k, none⟩ = some (.complex .f64 O.re O.im) := (World.cell?_of_block (w := wr) (hUw.block _ (by omega))).trans cO
          have cT : U.cell? ⟨gt, E, none⟩ = some (.complex .f64 T.re T.im) := (World.cell?_of_block (w := wr) (hUw.block _ (by omega))).trans cT
          have hfz : U.frozen? ⟨gs, k, none⟩ = false := (World.frozen?_of_block (w := wr) (hUw.block _ (by omega))).trans hfz
          have HQU : Hid (OrT w U gt gs n ts (orS ms n k x)) := hQ.out.next hUw
          have ne1 : ¬ gt = gs := by omega
          have ne2 : ¬ wr.heap.size = gs := by omega
          have BU : Below U.heap.size U U.drew := (Below.refl _ _).drew
          clear hU hUw u0 cm0 cm1 hQ hgm
          refine wp_region_holdsA (S := KX gs U) (by kernel_rfl) (KX.of BU) (fun hS => ?_)
          refine fl_takeA (i := 0) (d := 26) (v := .slice (some ⟨gs, 0, none⟩) n n) rfl rfl rfl (by kernel_rfl) (by kernel_rfl) (by kernel_rfl) hS ?_ ?_
          · intro w' hk; unfold KX at hk; go_simp
          simp only [Act.put, List.setIfInBounds_toArray, List.set_cons_zero, List.set_cons_succ]
          refine fl_takeA (i := 1) (d := 27) (v := .int .i64 k) rfl rfl rfl (by kernel_rfl) (by kernel_rfl) (by kernel_rfl) hS ?_ ?_
          · intro w' hk; unfold KX at hk; go_simp
          simp only [Act.put, List.setIfInBounds_toArray, List.set_cons_zero, List.set_cons_succ]
          refine fl_takeA (i := 2) (d := 28) (v := .pointer (some ⟨gs, k, none⟩)) rfl rfl rfl (by kernel_rfl) (by kernel_rfl) (by kernel_rfl) hS ?_ ?_
          · intro w' hk; unfold KX at hk; go_simp
          simp only [Act.put, List.setIfInBounds_toArray, List.set_cons_zero, List.set_cons_succ]
          refine fl_takeA (i := 4) (d := 30) (v := .agg #[.float .f64 M.re, .float .f64 M.im]) rfl rfl rfl (by kernel_rfl) (by kernel_rfl) (by kernel_rfl) hS ?_ ?_
          · intro w' hk; unfold KX at hk; go_simp
          simp only [Act.put, List.setIfInBounds_toArray, List.set_cons_zero, List.set_cons_succ]
          refine fl_takeA (i := 6) (d := 32) (v := .slice (some ⟨gt, 0, none⟩) n n) rfl rfl rfl (by kernel_rfl) (by kernel_rfl) (by kernel_rfl) hS ?_ ?_
          · intro w' hk; unfold KX at hk; go_simp
          simp only [Act.put, List.setIfInBounds_toArray, List.set_cons_zero, List.set_cons_succ]
          refine fl_takeA (i := 7) (d := 33) (v := .int .i64 k) rfl rfl rfl (by kernel_rfl) (by kernel_rfl) (by kernel_rfl) hS ?_ ?_
          · intro w' hk; unfold KX at hk; go_simp
          simp only [Act.put, List.setIfInBounds_toArray, List.set_cons_zero, List.set_cons_succ]
          refine fl_takeA (i := 8) (d := 34) (v := .int .i64 x) rfl rfl rfl (by kernel_rfl) (by kernel_rfl) (by kernel_rfl) hS ?_ ?_
          · intro w' hk; unfold KX at hk; go_simp
          simp only [Act.put, List.setIfInBounds_toArray, List.set_cons_zero, List.set_cons_succ]
          refine fl_takeA (i := 9) (d := 35) (v := .int .i64 ((k : Int) * (x : Int))) rfl rfl rfl (by kernel_rfl) (by kernel_rfl) (by kernel_rfl) hS ?_ ?_
          · intro w' hk; unfold KX at hk; go_simp
          simp only [Act.put, List.setIfInBounds_toArray, List.set_cons_zero, List.set_cons_succ]
          refine fl_takeA (i := 10) (d := 36) (v := .int .i64 n) rfl rfl rfl (by kernel_rfl) (by kernel_rfl) (by kernel_rfl) hS ?_ ?_
          · intro w' hk; unfold KX at hk; go_simp
          simp only [Act.put, List.setIfInBounds_toArray, List.set_cons_zero, List.set_cons_succ]
          refine fl_takeA (i := 11) (d := 37) (v := .int .i64 E) rfl rfl rfl (by kernel_rfl) (by kernel_rfl) (by kernel_rfl) hS ?_ ?_
          · intro w' hk; unfold KX at hk; go_simp
          simp only [Act.put, List.setIfInBounds_toArray, List.set_cons_zero, List.set_cons_succ]
          refine fl_takeA (i := 12) (d := 38) (v := .pointer (some ⟨gt, E, none⟩)) rfl rfl rfl (by kernel_rfl) (by kernel_rfl) (by kernel_rfl) hS ?_ ?_
          · intro w' hk; unfold KX at hk; go_simp
          simp only [Act.put, List.setIfInBounds_toArray, List.set_cons_zero, List.set_cons_succ]
          refine fl_takeA (i := 13) (d := 39) (v := .complex .f64 T.re T.im) rfl rfl rfl (by kernel_rfl) (by kernel_rfl) (by kernel_rfl) hS ?_ ?_
          · intro w' hk; unfold KX at hk; go_simp
          simp only [Act.put, List.setIfInBounds_toArray, List.set_cons_zero, List.set_cons_succ]
          refine wpAnyH_all (rs := [3, 5]) (by kernel_rfl) (by simp) ?_
          intro i hi
          rcases List.mem_cons.1 hi with rfl | hi
          · clear hi
            refine op_val (d := 29) (v := .complex .f64 O.re O.im) (w' := U.drew) rfl rfl rfl (by go_simp; try rfl) ?_
            simp only [Act.put, List.setIfInBounds_toArray, List.set_cons_zero, List.set_cons_succ]
            refine ⟨hS, wpAnyH_all (rs := [5]) (by kernel_rfl) (by simp) ?_⟩
            intro i hi; obtain rfl := List.mem_singleton.1 hi; clear hi
            refine op_call (d := 31) rfl rfl rfl (by go_simp) ((number_any M _).mono ?_)
            rintro e w4 ⟨rfl, hb4⟩
            have B4 : Below U.heap.size U w4 := Below.trans BU (hb4.mono (by simp))
            have c4 : w4.cell? ⟨gs, k, none⟩ = some (.complex .f64 O.re O.im) := (World.cell?_of_block (w := U) (B4.block _ hgsU)).trans cO
            refine ⟨_, rfl, KX.of B4, ?_⟩
            simp only [Act.put, List.setIfInBounds_toArray, List.set_cons_zero, List.set_cons_succ]
            refine wpAnyH_all (rs := [14]) (by kernel_rfl) (by simp) ?_
            intro i hi; obtain rfl := List.mem_singleton.1 hi; clear hi
            refine op_call (d := 40) rfl rfl rfl (by go_simp) ((product_any M T _).mono ?_)
            rintro e w5 ⟨y, rfl, hy, m5, rfl⟩
            have B5 : Below U.heap.size U (w4.drewN m5) := below_drewN B4 m5
            have c5 : (w4.drewN m5).cell? ⟨gs, k, none⟩ = some (.complex .f64 O.re O.im) := c4
            refine ⟨_, rfl, KX.of B5, ?_⟩
            simp only [Act.put, List.setIfInBounds_toArray, List.set_cons_zero, List.set_cons_succ]
            refine wpAnyH_all (rs := [15]) (by kernel_rfl) (by simp) ?_
            intro i hi; obtain rfl := List.mem_singleton.1 hi; clear hi
            refine op_val (d := 41) (v := .complex .f64 (fres .add O.re y.re (w4.drewN m5)) (fres .add O.im y.im ((w4.drewN m5).drewN (fnn .add O.re y.re)))) (w' := (((w4.drewN m5).drewN (fnn .add O.re y.re)).drewN (fnn .add O.im y.im))) rfl rfl rfl (by go_simp; try rfl) ?_
            simp only [Act.put, List.setIfInBounds_toArray, List.set_cons_zero, List.set_cons_succ]
            have BV : Below U.heap.size U (((w4.drewN m5).drewN (fnn .add O.re y.re)).drewN (fnn .add O.im y.im)) := below_drewN (below_drewN B5 _) _
            have HRV : Hid (Zf.v ⟨(fres .add O.re y.re (w4.drewN m5)), (fres .add O.im y.im ((w4.drewN m5).drewN (fnn .add O.re y.re)))⟩ = orK ms n k (x + 1)) := by
              unfold Hid
              rw [orK, HMv.out.1, ← HMv.out.2, ← HOv.out, ← hy]
              simp only [Zf.v, addV, fv_fres]
            generalize (fres .add O.re y.re (w4.drewN m5)) = R1 at HRV ⊢
            generalize (fres .add O.im y.im ((w4.drewN m5).drewN (fnn .add O.re y.re))) = R2 at HRV ⊢
            have fV : (((w4.drewN m5).drewN (fnn .add O.re y.re)).drewN (fnn .add O.im y.im)).frozen? ⟨gs, k, none⟩ = false := (World.frozen?_of_block (w := U) (BV.block _ hgsU)).trans hfz
            have cV : (((w4.drewN m5).drewN (fnn .add O.re y.re)).drewN (fnn .add O.im y.im)).cell? ⟨gs, k, none⟩ = some (.complex .f64 O.re O.im) := (World.cell?_of_block (w := U) (BV.block _ hgsU)).trans cO
            generalize (((w4.drewN m5).drewN (fnn .add O.re y.re)).drewN (fnn .add O.im y.im)) = V at BV fV cV ⊢
            refine ⟨KX.of BV, wpAnyH_all (rs := [16]) (by kernel_rfl) (by simp) ?_⟩
            intro i hi; obtain rfl := List.mem_singleton.1 hi; clear hi
            refine op_val (d := 42) (v := .pointer (some ⟨gs, k, none⟩)) (w' := V) rfl rfl rfl (by go_simp; try rfl) ?_
            simp only [Act.put, List.setIfInBounds_toArray, List.set_cons_zero, List.set_cons_succ]
            refine ⟨KX.of BV, wpAnyH_all (rs := [17]) (by kernel_rfl) (by simp) ?_⟩
            intro i hi; obtain rfl := List.mem_singleton.1 hi; clear hi
            refine op_skipN rfl rfl (w' := V.setCell ⟨gs, k, none⟩ (.complex .f64 R1 R2)) (by go_simp; try rfl) ?_
            refine ⟨KX.set (KX.of BV) k _, wpAnyH_done (by kernel_rfl) (NoPanic.normal ?_) _⟩
            have HN : Hid (OrT w (V.setCell ⟨gs, k, none⟩ (.complex .f64 R1 R2)) gt gs n ts (orS ms n k (x + 1))) := by
              unfold Hid
              rw [← orS_set hltk, ← HRV.out]
              exact (HQU.out.next BV).put k ⟨R1, R2⟩
            generalize V.setCell ⟨gs, k, none⟩ (.complex .f64 R1 R2) = V' at HN ⊢
            clear BV fV cV hS HRV HOv HMv
            go_wp2
            go_roundw
            case rel => exact ⟨x + 1, by omega, by go_num, HN.out⟩
            case measure => simp [intOf]; omega
          · obtain rfl := List.mem_singleton.1 hi
            clear hi
            refine op_call (d := 31) rfl rfl rfl (by go_simp) ((number_any M _).mono ?_)
            rintro e w4 ⟨rfl, hb4⟩
            have B4 : Below U.heap.size U w4 := Below.trans BU (hb4.mono (by simp))
            have c4 : w4.cell? ⟨gs, k, none⟩ = some (.complex .f64 O.re O.im) := (World.cell?_of_block (w := U) (B4.block _ hgsU)).trans cO
            refine ⟨_, rfl, KX.of B4, ?_⟩
            simp only [Act.put, List.setIfInBounds_toArray, List.set_cons_zero, List.set_cons_succ]
            refine wpAnyH_all (rs := [3, 14]) (by kernel_rfl) (by simp) ?_
            intro i hi
            rcases List.mem_cons.1 hi with rfl | hi
            · clear hi
              refine op_val (d := 29) (v := .complex .f64 O.re O.im) (w' := w4) rfl rfl rfl (by go_simp; try rfl) ?_
              simp only [Act.put, List.setIfInBounds_toArray, List.set_cons_zero, List.set_cons_succ]
              refine ⟨KX.of B4, wpAnyH_all (rs := [14]) (by kernel_rfl) (by simp) ?_⟩
              intro i hi; obtain rfl := List.mem_singleton.1 hi; clear hi
              refine op_call (d := 40) rfl rfl rfl (by go_simp) ((product_any M T _).mono ?_)
              rintro e w5 ⟨y, rfl, hy, m5, rfl⟩
              have B5 : Below U.heap.size U (w4.drewN m5) := below_drewN B4 m5
              have c5 : (w4.drewN m5).cell? ⟨gs, k, none⟩ = some (.complex .f64 O.re O.im) := c4
              refine ⟨_, rfl, KX.of B5, ?_⟩
              simp only [Act.put, List.setIfInBounds_toArray, List.set_cons_zero, List.set_cons_succ]
              refine wpAnyH_all (rs := [15]) (by kernel_rfl) (by simp) ?_
              intro i hi; obtain rfl := List.mem_singleton.1 hi; clear hi
              refine op_val (d := 41) (v := .complex .f64 (fres .add O.re y.re (w4.drewN m5)) (fres .add O.im y.im ((w4.drewN m5).drewN (fnn .add O.re y.re)))) (w' := (((w4.drewN m5).drewN (fnn .add O.re y.re)).drewN (fnn .add O.im y.im))) rfl rfl rfl (by go_simp; try rfl) ?_
              simp only [Act.put, List.setIfInBounds_toArray, List.set_cons_zero, List.set_cons_succ]
              have BV : Below U.heap.size U (((w4.drewN m5).drewN (fnn .add O.re y.re)).drewN (fnn .add O.im y.im)) := below_drewN (below_drewN B5 _) _
              have HRV : Hid (Zf.v ⟨(fres .add O.re y.re (w4.drewN m5)), (fres .add O.im y.im ((w4.drewN m5).drewN (fnn .add O.re y.re)))⟩ = orK ms n k (x + 1)) := by
                unfold Hid
                rw [orK, HMv.out.1, ← HMv.out.2, ← HOv.out, ← hy]
                simp only [Zf.v, addV, fv_fres]
              generalize (fres .add O.re y.re (w4.drewN m5)) = R1 at HRV ⊢
              generalize (fres .add O.im y.im ((w4.drewN m5).drewN (fnn .add O.re y.re))) = R2 at HRV ⊢
              have fV : (((w4.drewN m5).drewN (fnn .add O.re y.re)).drewN (fnn .add O.im y.im)).frozen? ⟨gs, k, none⟩ = false := (World.frozen?_of_block (w := U) (BV.block _ hgsU)).trans hfz
              have cV : (((w4.drewN m5).drewN (fnn .add O.re y.re)).drewN (fnn .add O.im y.im)).cell? ⟨gs, k, none⟩ = some (.complex .f64 O.re O.im) := (World.cell?_of_block (w := U) (BV.block _ hgsU)).trans cO
              generalize (((w4.drewN m5).drewN (fnn .add O.re y.re)).drewN (fnn .add O.im y.im)) = V at BV fV cV ⊢
              refine ⟨KX.of BV, wpAnyH_all (rs := [16]) (by kernel_rfl) (by simp) ?_⟩
              intro i hi; obtain rfl := List.mem_singleton.1 hi; clear hi
              refine op_val (d := 42) (v := .pointer (some ⟨gs, k, none⟩)) (w' := V) rfl rfl rfl (by go_simp; try rfl) ?_
              simp only [Act.put, List.setIfInBounds_toArray, List.set_cons_zero, List.set_cons_succ]
              refine ⟨KX.of BV, wpAnyH_all (rs := [17]) (by kernel_rfl) (by simp) ?_⟩
              intro i hi; obtain rfl := List.mem_singleton.1 hi; clear hi
              refine op_skipN rfl rfl (w' := V.setCell ⟨gs, k, none⟩ (.complex .f64 R1 R2)) (by go_simp; try rfl) ?_
              refine ⟨KX.set (KX.of BV) k _, wpAnyH_done (by kernel_rfl) (NoPanic.normal ?_) _⟩
              have HN : Hid (OrT w (V.setCell ⟨gs, k, none⟩ (.complex .f64 R1 R2)) gt gs n ts (orS ms n k (x + 1))) := by
                unfold Hid
                rw [← orS_set hltk, ← HRV.out]
                exact (HQU.out.next BV).put k ⟨R1, R2⟩
              generalize V.setCell ⟨gs, k, none⟩ (.complex .f64 R1 R2) = V' at HN ⊢
              clear BV fV cV hS HRV HOv HMv
              go_wp2
              go_roundw
              case rel => exact ⟨x + 1, by omega, by go_num, HN.out⟩
              case measure => simp [intOf]; omega
            · obtain rfl := List.mem_singleton.1 hi
              clear hi
              refine op_call (d := 40) rfl rfl rfl (by go_simp) ((product_any M T _).mono ?_)
              rintro e w5 ⟨y, rfl, hy, m5, rfl⟩
              have B5 : Below U.heap.size U (w4.drewN m5) := below_drewN B4 m5
              have c5 : (w4.drewN m5).cell? ⟨gs, k, none⟩ = some (.complex .f64 O.re O.im) := c4
              refine ⟨_, rfl, KX.of B5, ?_⟩
              simp only [Act.put, List.setIfInBounds_toArray, List.set_cons_zero, List.set_cons_succ]
              refine wpAnyH_all (rs := [3]) (by kernel_rfl) (by simp) ?_
              intro i hi; obtain rfl := List.mem_singleton.1 hi; clear hi
              refine op_val (d := 29) (v := .complex .f64 O.re O.im) (w' := (w4.drewN m5)) rfl rfl rfl (by go_simp; try rfl) ?_
              simp only [Act.put, List.setIfInBounds_toArray, List.set_cons_zero, List.set_cons_succ]
              refine ⟨KX.of B5, ?_⟩
              refine wpAnyH_all (rs := [15]) (by kernel_rfl) (by simp) ?_
              intro i hi; obtain rfl := List.mem_singleton.1 hi; clear hi
              refine op_val (d := 41) (v := .complex .f64 (fres .add O.re y.re (w4.drewN m5)) (fres .add O.im y.im ((w4.drewN m5).drewN (fnn .add O.re y.re)))) (w' := (((w4.drewN m5).drewN (fnn .add O.re y.re)).drewN (fnn .add O.im y.im))) rfl rfl rfl (by go_simp; try rfl) ?_
              simp only [Act.put, List.setIfInBounds_toArray, List.set_cons_zero, List.set_cons_succ]
              have BV : Below U.heap.size U (((w4.drewN m5).drewN (fnn .add O.re y.re)).drewN (fnn .add O.im y.im)) := below_drewN (below_drewN B5 _) _
              have HRV : Hid (Zf.v ⟨(fres .add O.re y.re (w4.drewN m5)), (fres .add O.im y.im ((w4.drewN m5).drewN (fnn .add O.re y.re)))⟩ = orK ms n k (x + 1)) := by
                unfold Hid
                rw [orK, HMv.out.1, ← HMv.out.2, ← HOv.out, ← hy]
                simp only [Zf.v, addV, fv_fres]
              generalize (fres .add O.re y.re (w4.drewN m5)) = R1 at HRV ⊢
              generalize (fres .add O.im y.im ((w4.drewN m5).drewN (fnn .add O.re y.re))) = R2 at HRV ⊢
              have fV : (((w4.drewN m5).drewN (fnn .add O.re y.re)).drewN (fnn .add O.im y.im)).frozen? ⟨gs, k, none⟩ = false := (World.frozen?_of_block (w := U) (BV.block _ hgsU)).trans hfz
              have cV : (((w4.drewN m5).drewN (fnn .add O.re y.re)).drewN (fnn .add O.im y.im)).cell? ⟨gs, k, none⟩ = some (.complex .f64 O.re O.im) := (World.cell?_of_block (w := U) (BV.block _ hgsU)).trans cO
              generalize (((w4.drewN m5).drewN (fnn .add O.re y.re)).drewN (fnn .add O.im y.im)) = V at BV fV cV ⊢
              refine ⟨KX.of BV, wpAnyH_all (rs := [16]) (by kernel_rfl) (by simp) ?_⟩
              intro i hi; obtain rfl := List.mem_singleton.1 hi; clear hi
              refine op_val (d := 42) (v := .pointer (some ⟨gs, k, none⟩)) (w' := V) rfl rfl rfl (by go_simp; try rfl) ?_
              simp only [Act.put, List.setIfInBounds_toArray, List.set_cons_zero, List.set_cons_succ]
              refine ⟨KX.of BV, wpAnyH_all (rs := [17]) (by kernel_rfl) (by simp) ?_⟩
              intro i hi; obtain rfl := List.mem_singleton.1 hi; clear hi
              refine op_skipN rfl rfl (w' := V.setCell ⟨gs, k, none⟩ (.complex .f64 R1 R2)) (by go_simp; try rfl) ?_
              refine ⟨KX.set (KX.of BV) k _, wpAnyH_done (by kernel_rfl) (NoPanic.normal ?_) _⟩
              have HN : Hid (OrT w (V.setCell ⟨gs, k, none⟩ (.complex .f64 R1 R2)) gt gs n ts (orS ms n k (x + 1))) := by
                unfold Hid
                rw [← orS_set hltk, ← HRV.out]
                exact (HQU.out.next BV).put k ⟨R1, R2⟩
              generalize V.setCell ⟨gs, k, none⟩ (.complex .f64 R1 R2) = V' at HN ⊢
              clear BV fV cV hS HRV HOv HMv
              go_wp2
              go_roundw
              case rel => exact ⟨x + 1, by omega, by go_num, HN.out⟩
              case measure => simp [intOf]; omega
        · have bx : ¬ (x : Int) < (n : Int) := by omega
          have HN : Hid (OrT w wr gt gs n ts (orS ms n (k + 1) 0)) := by
            unfold Hid
            rw [← orS_next]
            have h := hQ.out
            rw [show x = n by omega] at h
            exact h
          clear hQ
          go_wp2
          go_roundw
          case rel => exact ⟨k + 1, by omega, by go_num, HN.out⟩
          case measure => simp [intOf]; omega
    · have bk : ¬ (k : Int) < (n : Int) := by omega
      have HE : Hid (∃ zs, OCs wr w.heap.size (.slice (some ⟨gs, 0, none⟩) n n) zs ∧ zs.map Zf.v = orL ms ∧ Below w.heap.size w wr) := by
        have h := hR.out
        rw [show k = n by omega] at h
        obtain ⟨zs, a1, a2⟩ := h.su
        refine ⟨zs, OG.low a1 (by have := h.ord; omega), ?_, h.bl⟩
        have hn := H.out.2.2.2
        rw [a2, hn]
        exact orS_done 0
      clear hR
      go_wp2
      go_returns
      obtain ⟨zs, a1, a2, a3⟩ := HE.out
      exact ⟨gs, rfl, zs, a1, a2, a3⟩

end Go.Proofs.Ytgaabcgdfbgchaa
