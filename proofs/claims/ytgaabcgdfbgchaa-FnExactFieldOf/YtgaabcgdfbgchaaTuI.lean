/- Proved here: the program's turnsOf: turns by so many parts of n, by value. -/
import Derived.Test.YtgaabcgdfbgchaaCxB
import Derived.Test.YtgaabcgdfbgchaaTrI
namespace Go.Proofs.Ytgaabcgdfbgchaa
open Go.RowKit
set_option linter.unusedVariables false
set_option linter.unusedSimpArgs false

/-- The i-th of n parts of a turn. -/
def prt (n i : Nat) : Int := ((i * 1048576 / n : Nat) : Int)
theorem prt_bd {n i : Nat} (h : i < n) (hn : n ≤ 24) : 0 ≤ prt n i ∧ prt n i ≤ 1048576 := by
  unfold prt
  have : i * 1048576 / n ≤ 1048576 := Nat.div_le_of_le_mul (Nat.mul_le_mul_right 1048576 (Nat.le_of_lt h))
  exact ⟨Int.natCast_nonneg _, Int.ofNat_le.2 this⟩
/-- The turns, one way. -/
def TuL (n : Nat) (way : Int) (zs : List Zf) (i : Nat) : Prop := zs.length = n ∧ ∀ j, j < i → ∃ z, zs[j]? = some z ∧ z.v = trV (way * prt n j)
theorem TuL.put {n : Nat} {way : Int} {zs : List Zf} {i : Nat} (h : TuL n way zs i) (hi : i < n) {z : Zf} (hz : z.v = trV (way * prt n i)) : TuL n way (zs.set i z) (i + 1) := by
  refine ⟨by rw [List.length_set]; exact h.1, fun j hj => ?_⟩
  by_cases hji : i = j
  · subst hji
    exact ⟨z, by rw [List.getElem?_set_self (by rw [h.1]; exact hi)], hz⟩
  · obtain ⟨y, h1, h2⟩ := h.2 j (by omega)
    exact ⟨y, by rw [List.getElem?_set_ne hji]; exact h1, h2⟩

set_option maxRecDepth 10000 in
set_option maxHeartbeats 6400000 in
theorem impl_turns (n : Nat) (h1 : 1 ≤ n) (h2 : n ≤ 24) (way : Int) (hw : way = 1 ∨ way = -1) (w : World) :
    Calls Try.prog 78 #[.int .i64 n, .int .i64 way] w fun e w' => ∃ g zs, e = .returned (.slice (some ⟨g, 0, none⟩) n n) ∧ OCs w' w.heap.size (.slice (some ⟨g, 0, none⟩) n n) zs ∧ TuL n way zs n ∧ Below w.heap.size w w' := by
  obtain ⟨L, hL⟩ : ∃ L, L = (arK 20).toList := ⟨_, rfl⟩
  have hLA : arK 20 = L.toArray := by rw [hL]
  have hL40 : L.length = 40 := by rw [hL]; simp [arK]
  have hL1 : L.toArray.all (·.oneCell') = true := by rw [hL]; simpa using arK_one 20
  have HRT : Hid (∀ W, Calls Try.prog 41 #[] W fun e w' => e = .returned (.agg L.toArray) ∧ Below W.heap.size W w') := fun W => by rw [← hLA]; exact impl_roots W
  have HTU : Hid (∀ (p : Int) W, Calls Try.prog 40 #[.agg L.toArray, .int .i64 p] W fun e w' => ∃ z : Zf, e = .returned (.complex .f64 z.re z.im) ∧ z.v = trV p ∧ Below W.heap.size W w') := fun p W => by rw [← hLA]; exact impl_turn p W
  have hinf : (Try.prog.info? 72).map (·.size) = some L.length := by rw [hL40]; kernel_rfl
  have hinf2 : (Try.prog.info? 72).map (·.size) = some L.toArray.size := by rw [List.size_toArray]; exact hinf
  clear hL hLA
  obtain ⟨i0, hi, hz0, hz1, hz2⟩ := info_parts info_c
  have hn0 : ((n : Int) == 0) = false := by simp; omega
  have hn1 : ¬ (n : Int) = 0 := by omega
  go_enter Try.func78, Try.ntmps78
  go_wp2_with (fail)
  refine (HRT.out _).mono ?_
  rintro e w1 ⟨rfl, hb1⟩
  have HB1 : Hid (Below w.heap.size w w1) := hb1
  have hsz1 := hb1.size
  clear hb1
  have hth : (w1.alloc (Obj.cells (arK 0) 72)).there w1.heap.size 0 L.toArray.size := there_blk (heap_alloc_new w1 _) (by rw [arK_size, List.size_toArray, hL40])
  have hset : Hid (((w1.alloc (Obj.cells (arK 0) 72)).setCells w1.heap.size 0 L.toArray.toList).heap[w1.heap.size]? = some (.cells L.toArray 72) ∧ Below w1.heap.size w1 ((w1.alloc (Obj.cells (arK 0) 72)).setCells w1.heap.size 0 L.toArray.toList)) :=
    ⟨setCells_blk (heap_alloc_new w1 _) (by rw [arK_size, List.size_toArray, hL40]), below_setCells _ (Nat.le_refl _) _ _ _ ((Below.refl _ _).alloc (Nat.le_refl _) _)⟩
  obtain ⟨W, hW⟩ : ∃ W, W = (w1.alloc (Obj.cells (arK 0) 72)).setCells w1.heap.size 0 L.toArray.toList := ⟨_, rfl⟩
  have HWe : Hid ((w1.alloc (Obj.cells (arK 0) 72)).setCells w1.heap.size 0 L.toArray.toList = W) := hW.symm
  rw [← hW] at hset
  clear hW
  go_wp2_with (first | (refine wpList_store_mid rfl 72 _ _ rfl w1.heap.size 0 L.toArray rfl rfl hth hinf2 hL1 ?_; change wpList _ _ _ _ _ (World.setCells (w1.alloc (Obj.cells (arK 0) 72)) w1.heap.size 0 L.toArray.toList); rw [HWe.out]) | (at_make; refine wpList_make_full _ rfl _ _ 80 rfl W.heap.size 68 i0 (.complex .f64 0 0) 1 Try.underlying80 hi hz0 hz1 _ _ _ _ n rfl rfl rfl rfl (by rw [hz2]; omega) (by unfold maxLen; omega) (Nat.le_refl _) ?_; intro w2 hown2 hgrow2))
  have HS2 : Hid (∃ zs, OCs w2 W.heap.size (.slice (some ⟨W.heap.size, 0, none⟩) n n) zs ∧ TuL n way zs 0 ∧ w2.heap[w1.heap.size]? = some (.cells L.toArray 72) ∧ Below w.heap.size w w2 ∧ w1.heap.size < W.heap.size ∧ W.heap.size < w2.heap.size) := by
    have hb2 : Below W.heap.size W w2 := (Below.refl _ _).grown hgrow2 (Nat.le_refl _) (fun k h => by cases h)
    have hlW : w1.heap.size < W.heap.size := by
      rcases Nat.lt_or_ge w1.heap.size W.heap.size with h' | h'
      · exact h'
      · have := hset.out.1; rw [Array.getElem?_eq_none h'] at this; cases this
    refine ⟨List.replicate n ⟨0, 0⟩, ?_, ⟨by simp, fun j hj => by omega⟩, (hb2.block _ hlW).trans hset.out.1, (HB1.out.trans (hset.out.2.mono hsz1)).trans (hb2.mono (by omega)), hlW, (World.ownsRow.lt hown2 _ rfl).2⟩
    show World.ownsRow _ _ _ _ _ _ _
    rw [cC_fm]
    have e : (madeCells (Value.cells (.complex .f64 0 0)) (n * 1)).toList = (List.replicate n (⟨0, 0⟩ : Zf)).map (fun z => Value.complex .f64 z.re z.im) := by
      rw [show (Value.complex .f64 0 0).cells = #[Value.complex .f64 0 0] from rfl, toList_madeCells_one]
      simp
    rw [e] at hown2
    simpa using hown2
  obtain ⟨gt, hgt⟩ : ∃ g, g = W.heap.size := ⟨_, rfl⟩
  obtain ⟨gr, hgr⟩ : ∃ g, g = w1.heap.size := ⟨_, rfl⟩
  rw [← hgt, ← hgr] at HS2 ⊢
  have hg1 : w.heap.size ≤ gr := by omega
  clear hown2 hgrow2 hset hth HWe hgt hgr HRT hsz1
  go_loopw [12] (fun i wr => ∃ (k : Nat), k ≤ n ∧ i = .int .i64 k ∧ Hid (∃ zs, OCs wr gt (.slice (some ⟨gt, 0, none⟩) n n) zs ∧ TuL n way zs k ∧ wr.heap[gr]? = some (.cells L.toArray 72) ∧ Below w.heap.size w wr ∧ gr < gt ∧ gt < wr.heap.size)) (fun i _ => n - (intOf i).toNat)
  case atStart => exact ⟨0, Nat.zero_le _, rfl, HS2.out⟩
  case round =>
    clear HS2
    obtain ⟨k, hk, rfl, hR⟩ := hrel
    by_cases hlt : k < n
    · obtain ⟨zs, r1, r2, r3, r4, r5, r6⟩ := hR.out
      have b0 : (0 : Int) ≤ (k : Int) := by omega
      have b1 : (k : Int) < (n : Int) := by omega
      obtain ⟨pk, hpk⟩ : ∃ p, p = prt n k := ⟨_, rfl⟩
      have hpb : 0 ≤ pk ∧ pk ≤ 1048576 := by rw [hpk]; exact prt_bd hlt h2
      have e1 : IntKind.i64.wrap ((k : Int) * 1048576) = (k : Int) * 1048576 := by rw [IntKind.wrap_i64]; omega
      have e2 : ((k : Int) * 1048576).tdiv n = pk := by rw [hpk, Int.tdiv_eq_ediv_of_nonneg (by omega)]; rfl
      have e2' : ((k : Int) * 1048576) / (n : Int) = pk := by rw [hpk]; rfl
      have e3 : IntKind.i64.wrap pk = pk := by rw [IntKind.wrap_i64]; omega
      have e4 : IntKind.i64.wrap (way * pk) = way * pk := by rw [IntKind.wrap_i64]; rcases hw with rfl | rfl <;> omega
      have HPK : Hid (pk = prt n k) := hpk
      clear hpk
      have hnN : ¬ n = 0 := by omega
      have hfz := OCs.frz r1 k
      have hc0 : (wr.cell? ⟨gt, k, none⟩).isSome = true := by
        obtain ⟨g, o, z, ha, hg, hz, c0⟩ := rc_at r1.rg hlt
        injection ha with ha
        injection ha with ha1 ha2
        subst ha1 ha2
        rw [Nat.zero_add] at c0
        rw [c0]; rfl
      obtain ⟨vc, hvc⟩ := Option.isSome_iff_exists.1 hc0
      clear hc0
      go_wp2_with (fail)
      refine wp_region_holdsA (S := KA gt wr) (by kernel_rfl) (KA.of ((Below.refl _ _).drew)) (fun hS => ?_)
      refine fl_takeA (i := 0) (d := 15) (v := .slice (some ⟨gt, 0, none⟩) n n) rfl rfl rfl (by kernel_rfl) (by kernel_rfl) (by kernel_rfl) hS ?_ ?_
      · intro w' hk; unfold KA at hk; go_simp
      simp only [Act.put, List.setIfInBounds_toArray, List.set_cons_zero, List.set_cons_succ]
      refine fl_takeA (i := 1) (d := 16) (v := .int .i64 k) rfl rfl rfl (by kernel_rfl) (by kernel_rfl) (by kernel_rfl) hS ?_ ?_
      · intro w' hk; unfold KA at hk; go_simp
      simp only [Act.put, List.setIfInBounds_toArray, List.set_cons_zero, List.set_cons_succ]
      refine fl_takeA (i := 2) (d := 17) (v := .agg L.toArray) rfl rfl rfl (by kernel_rfl) (by kernel_rfl) (by kernel_rfl) hS ?_ ?_
      · intro w' hk
        refine exec_load rfl (b := gr) (by rfl) (fun j v hv => ?_) Try.underlying72 rfl hinf
        rw [Nat.zero_add, hk.1 gr j r5, cell_blk r3]
        simpa using hv
      simp only [Act.put, List.setIfInBounds_toArray, List.set_cons_zero, List.set_cons_succ]
      refine fl_takeA (i := 3) (d := 18) (v := .int .i64 way) rfl rfl rfl (by kernel_rfl) (by kernel_rfl) (by kernel_rfl) hS ?_ ?_
      · intro w' hk; unfold KA at hk; go_simp
      simp only [Act.put, List.setIfInBounds_toArray, List.set_cons_zero, List.set_cons_succ]
      refine fl_takeA (i := 4) (d := 19) (v := .int .i64 k) rfl rfl rfl (by kernel_rfl) (by kernel_rfl) (by kernel_rfl) hS ?_ ?_
      · intro w' hk; unfold KA at hk; go_simp
      simp only [Act.put, List.setIfInBounds_toArray, List.set_cons_zero, List.set_cons_succ]
      refine fl_takeA (i := 5) (d := 20) (v := .int .i64 ((k : Int) * 1048576)) rfl rfl rfl (by kernel_rfl) (by kernel_rfl) (by kernel_rfl) hS ?_ ?_
      · intro w' hk; unfold KA at hk; go_simp
      simp only [Act.put, List.setIfInBounds_toArray, List.set_cons_zero, List.set_cons_succ]
      refine fl_takeA (i := 6) (d := 21) (v := .int .i64 n) rfl rfl rfl (by kernel_rfl) (by kernel_rfl) (by kernel_rfl) hS ?_ ?_
      · intro w' hk; unfold KA at hk; go_simp
      simp only [Act.put, List.setIfInBounds_toArray, List.set_cons_zero, List.set_cons_succ]
      refine fl_takeA (i := 7) (d := 22) (v := .int .i64 pk) rfl rfl rfl (by kernel_rfl) (by kernel_rfl) (by kernel_rfl) hS ?_ ?_
      · intro w' hk; unfold KA at hk; go_simp
      simp only [Act.put, List.setIfInBounds_toArray, List.set_cons_zero, List.set_cons_succ]
      refine fl_takeA (i := 8) (d := 23) (v := .int .i64 (way * pk)) rfl rfl rfl (by kernel_rfl) (by kernel_rfl) (by kernel_rfl) hS ?_ ?_
      · intro w' hk; unfold KA at hk; go_simp
      simp only [Act.put, List.setIfInBounds_toArray, List.set_cons_zero, List.set_cons_succ]
      refine wpAnyH_all (rs := [9]) (by kernel_rfl) (by simp) ?_
      intro i hi; obtain rfl := List.mem_singleton.1 hi; clear hi
      refine op_call (d := 24) rfl rfl rfl (by go_simp) ((HTU.out (way * pk) _).mono ?_)
      rintro e w4 ⟨z, rfl, hz, hb4⟩
      have B4 : Below wr.heap.size wr w4 := ((Below.refl _ _).drew).trans (hb4.mono (by simp))
      have hfz4 : w4.frozen? ⟨gt, k, none⟩ = false := (World.frozen?_of_block (w := wr) (B4.block _ r6)).trans hfz
      have hvc4 : w4.cell? ⟨gt, k, none⟩ = some vc := (World.cell?_of_block (w := wr) (B4.block _ r6)).trans hvc
      refine ⟨_, rfl, KA.of (B4.mono (by omega)), ?_⟩
      simp only [Act.put, List.setIfInBounds_toArray, List.set_cons_zero, List.set_cons_succ]
      refine wpAnyH_all (rs := [10]) (by kernel_rfl) (by simp) ?_
      intro i hi; obtain rfl := List.mem_singleton.1 hi; clear hi
      refine op_val (d := 25) (v := .pointer (some ⟨gt, k, none⟩)) (w' := w4) rfl rfl rfl (by go_simp; try rfl) ?_
      simp only [Act.put, List.setIfInBounds_toArray, List.set_cons_zero, List.set_cons_succ]
      refine ⟨KA.of (B4.mono (by omega)), wpAnyH_all (rs := [11]) (by kernel_rfl) (by simp) ?_⟩
      intro i hi; obtain rfl := List.mem_singleton.1 hi; clear hi
      refine op_skipN rfl rfl (w' := w4.setCell ⟨gt, k, none⟩ (.complex .f64 z.re z.im)) (by go_simp; try rfl) ?_
      refine ⟨KA.of (Below.setCell (B4.mono (show gt ≤ wr.heap.size by omega)) (show gt ≤ gt from Nat.le_refl _) _), wpAnyH_done (by kernel_rfl) (NoPanic.normal ?_) _⟩
      have HN : Hid (∃ zs, OCs (w4.setCell ⟨gt, k, none⟩ (.complex .f64 z.re z.im)) gt (.slice (some ⟨gt, 0, none⟩) n n) zs ∧ TuL n way zs (k + 1) ∧ (w4.setCell ⟨gt, k, none⟩ (.complex .f64 z.re z.im)).heap[gr]? = some (.cells L.toArray 72) ∧ Below w.heap.size w (w4.setCell ⟨gt, k, none⟩ (.complex .f64 z.re z.im)) ∧ gr < gt ∧ gt < (w4.setCell ⟨gt, k, none⟩ (.complex .f64 z.re z.im)).heap.size) := by
        refine ⟨zs.set k z, OCs.put (OG.below r1 B4) k z, TuL.put r2 hlt (by rw [← HPK.out]; exact hz), ?_, (r4.trans (B4.mono r4.size)).setCell (by simp; omega) _, r5, by simp; have := B4.size; omega⟩
        rw [heap_setCell_other _ _ _ _ (by simp; omega), B4.block _ (by omega)]
        exact r3
      clear hS hb4 B4 hfz4 hvc4 hR r1 r2 r3 r4 hfz hvc hz
      go_wp2
      exact ⟨⟨k + 1, by omega, by go_num, HN.out⟩, by simp [intOf]; omega⟩
    · have b1 : ¬ (k : Int) < (n : Int) := by omega
      have HE : Hid (∃ zs, OCs wr w.heap.size (.slice (some ⟨gt, 0, none⟩) n n) zs ∧ TuL n way zs n ∧ Below w.heap.size w wr) := by
        obtain ⟨zs, r1, r2, r3, r4, r5, r6⟩ := hR.out
        exact ⟨zs, OG.low r1 (by omega), by rw [show n = k by omega]; rw [show k = n by omega] at r2 ⊢; exact r2, r4⟩
      clear hR
      go_wp2
      go_returns
      obtain ⟨zs, a1, a2, a3⟩ := HE.out
      exact ⟨gt, rfl, zs, a1, a2, a3⟩

end Go.Proofs.Ytgaabcgdfbgchaa
