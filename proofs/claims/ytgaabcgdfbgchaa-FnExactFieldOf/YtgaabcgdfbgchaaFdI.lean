/- Proved here: the program's field of a lens, by value. -/
import Derived.Test.YtgaabcgdfbgchaaOrI
import Derived.Test.YtgaabcgdfbgchaaFdM
import Derived.Test.YtgaabcgdfbgchaaMoI
namespace Go.Proofs.Ytgaabcgdfbgchaa
open Go.RowKit
set_option linter.unusedVariables false
set_option linter.unusedSimpArgs false

/-- While the sums go on. -/
structure FdT (w wr : World) (gs n : Nat) (o : Obj) (cur : List Zv) : Prop where
  bl : Below w.heap.size w wr
  bx : wr.heap[w.heap.size]? = some o
  su : ∃ zs, OCs wr gs (.slice (some ⟨gs, 0, none⟩) n n) zs ∧ zs.map Zf.v = cur
  ord : w.heap.size < gs ∧ gs < wr.heap.size
theorem FdT.next {w wr wr' : World} {gs n : Nat} {o : Obj} {cur : List Zv} (h : FdT w wr gs n o cur) (hb : Below wr.heap.size wr wr') : FdT w wr' gs n o cur := by
  obtain ⟨zs, h1, h2⟩ := h.su
  exact ⟨h.bl.trans (hb.mono h.bl.size), (hb.block _ (by have := h.ord; omega)).trans h.bx, ⟨zs, OG.below h1 hb, h2⟩, by have := h.ord; have := hb.size; omega⟩
theorem FdT.put {w wr : World} {gs n : Nat} {o : Obj} {cur : List Zv} (h : FdT w wr gs n o cur) (j : Nat) (z : Zf) : FdT w (wr.setCell ⟨gs, j, none⟩ (.complex .f64 z.re z.im)) gs n o (cur.set j z.v) := by
  have hord := h.ord
  obtain ⟨zs, h1, h2⟩ := h.su
  refine ⟨h.bl.setCell (by simp; omega) _, ?_, ⟨zs.set j z, OCs.put h1 j z, by rw [List.map_set, h2]⟩, by simpa using hord⟩
  rw [heap_setCell_other _ _ _ _ (by simp; omega)]
  exact h.bx
theorem five_at {w : World} {k : Nat} {a b c d e : Value} {T : TypeId} (h : w.heap[k]? = some (.cells #[a, b, c, d, e] T)) :
    w.cell? ⟨k, 0, none⟩ = some a ∧ w.cell? ⟨k, 1, none⟩ = some b ∧ w.cell? ⟨k, 2, none⟩ = some c ∧ w.cell? ⟨k, 3, none⟩ = some d ∧ w.cell? ⟨k, 4, none⟩ = some e ∧ k < w.heap.size := by
  refine ⟨by simp [World.cell?, h], by simp [World.cell?, h], by simp [World.cell?, h], by simp [World.cell?, h], by simp [World.cell?, h], ?_⟩
  rcases Nat.lt_or_ge k w.heap.size with h' | h'
  · exact h'
  · rw [Array.getElem?_eq_none h'] at h; cases h

theorem fld_two {w w2 : World} {a b c d e : Value} {T : TypeId} (h : (w.alloc (.cells #[a, b, c, d, e] T)).grownBy w2 none) : w2.cell? ⟨w.heap.size, 2, none⟩ = some c ∧ w.heap.size < w2.heap.size := by
  have hb : w2.heap[w.heap.size]? = some (.cells #[a, b, c, d, e] T) := (h.block w.heap.size (by simp) (by simp)).trans (heap_alloc_new w _)
  have := five_at hb
  exact ⟨this.2.2.1, this.2.2.2.2.2⟩

set_option maxRecDepth 10000 in
set_option maxHeartbeats 12800000 in
theorem impl_field {w : World} {ao aT ap : Option Addr} {n co ct m cp : Nat} {os ts : List Zf} {s : List Int} (C F sh : Int) (hos : RCs w (.slice ao n co) os) (hts : RCs w (.slice aT n ct) ts) (hs : RdI w (.slice ap m cp) s) (hT : TuL n 1 ts n) (h1 : 1 ≤ n) (h2 : n ≤ 24) (hC0 : 0 ≤ C) (hC1 : C ≤ 12) (hs0 : -12 ≤ sh) (hs1 : sh ≤ 12) :
    Calls Try.prog 63 #[.agg #[.slice ao n co, .slice aT n ct, .int .i64 C, .int .i64 F, .slice ap m cp], .int .i64 sh] w fun e w' => ∃ g zs, e = .returned (.slice (some ⟨g, 0, none⟩) n n) ∧ OCs w' w.heap.size (.slice (some ⟨g, 0, none⟩) n n) zs ∧ zs.map Zf.v = fdL (os.map Zf.v) n C F sh s ∧ Below w.heap.size w w' := by
  obtain ⟨ov, hov⟩ : ∃ ov, ov = os.map Zf.v := ⟨_, rfl⟩
  have H : Hid (RCs w (.slice ao n co) os ∧ RCs w (.slice aT n ct) ts ∧ RdI w (.slice ap m cp) s ∧ TuL n 1 ts n ∧ ov = os.map Zf.v) := ⟨hos, hts, hs, hT, hov⟩
  rw [← hov]
  clear hos hts hs hT hov
  obtain ⟨i0, hi, hz0, hz1, hz2⟩ := info_parts info_c
  have hnN : ¬ n = 0 := by omega
  have hn0 : ((n : Int) == 0) = false := by simp; omega
  have hn1 : ¬ (n : Int) = 0 := by omega
  have eC : IntKind.i64.wrap (-C) = -C := by rw [IntKind.wrap_i64]; omega
  go_enter Try.func63, Try.ntmps63
  go_wp2_with (at_make; refine wpList_make_full _ rfl _ _ 80 rfl (w.heap.size + 1) 68 i0 (.complex .f64 0 0) 1 Try.underlying80 hi hz0 hz1 _ _ _ _ n rfl rfl rfl rfl (by rw [hz2]; omega) (by unfold maxLen; omega) (by simp) ?_; intro w2 hown2 hgrow2; obtain ⟨p2, pl⟩ : w2.cell? ⟨w.heap.size, 2, none⟩ = some (.int .i64 C) ∧ w.heap.size < w2.heap.size := fld_two hgrow2)
  -- LOOPS
  have HS2 : Hid (FdT w w2 (w.heap.size + 1) n (.cells #[.slice ao n co, .slice aT n ct, .int .i64 C, .int .i64 F, .slice ap m cp] 92) (fdS ov n C F sh s 0 0)) := by
    have hb2 : Below (w.alloc (.cells #[.slice ao n co, .slice aT n ct, .int .i64 C, .int .i64 F, .slice ap m cp] 92)).heap.size (w.alloc (.cells #[.slice ao n co, .slice aT n ct, .int .i64 C, .int .i64 F, .slice ap m cp] 92)) w2 := (Below.refl _ _).grown hgrow2 (Nat.le_refl _) (fun k h => by cases h)
    have hl := (World.ownsRow.lt hown2 _ rfl)
    refine ⟨((Below.refl _ _).alloc (Nat.le_refl _) _).trans (hb2.mono (by simp)), (hb2.block _ (by simp)).trans (heap_alloc_new w _), ⟨List.replicate n ⟨0, 0⟩, ?_, ?_⟩, by omega, by simp at hl; omega⟩
    · show World.ownsRow _ _ _ _ _ _ _
      rw [cC_fm]
      have e : (madeCells (Value.cells (.complex .f64 0 0)) (n * 1)).toList = (List.replicate n (⟨0, 0⟩ : Zf)).map (fun z => Value.complex .f64 z.re z.im) := by
        rw [show (Value.complex .f64 0 0).cells = #[Value.complex .f64 0 0] from rfl, toList_madeCells_one]
        simp
      rw [e] at hown2
      simpa using hown2
    · rw [fdS_zero, List.map_replicate]; rfl
  obtain ⟨gs, hgs⟩ : ∃ g, g = w.heap.size + 1 := ⟨_, rfl⟩
  rw [← hgs] at HS2 ⊢
  clear hown2 hgrow2 hgs p2 pl
  go_loopw [7] (fun i wr => ∃ t : Nat, (t : Int) ≤ 2 * C + 1 ∧ i = .int .i64 (-C + (t : Int)) ∧ Hid (FdT w wr gs n (.cells #[.slice ao n co, .slice aT n ct, .int .i64 C, .int .i64 F, .slice ap m cp] 92) (fdS ov n C F sh s t 0))) (fun i _ => (C + 1 - intOf i).toNat)
  case atStart => exact ⟨0, by omega, by simp, HS2.out⟩
  case round =>
    clear HS2
    obtain ⟨t, ht, rfl, hR⟩ := hrel
    obtain ⟨b0, b1, b2, b3, b4, bl⟩ := five_at hR.out.bx
    obtain ⟨A, hA⟩ : ∃ A : Int, A = -C + (t : Int) := ⟨_, rfl⟩
    have HA : Hid (A = -C + (t : Int)) := hA
    have hA0 : -C ≤ A := by omega
    have hA1 : A ≤ C + 1 := by omega
    rw [← hA]
    clear hA
    by_cases hlt : A ≤ C
    · have e1 : IntKind.i64.wrap (A - sh) = A - sh := by rw [IntKind.wrap_i64]; omega
      obtain ⟨P, hP⟩ : ∃ P, P = fdP n sh A := ⟨_, rfl⟩
      have hPn : P < n := by rw [hP]; exact fdP_lt h1
      have HMd : Hid (∀ W, Calls Try.prog 74 #[.int .i64 (A - sh), .int .i64 n] W fun e w' => e = .returned (.int .i64 P) ∧ w' = W) := fun W => by rw [hP, ← fdP_int h1]; exact impl_mod (A - sh) n (by omega) (by omega) W
      have HP : Hid (P = fdP n sh A) := hP
      clear hP
      obtain ⟨go, oo, O1, hao, hgo, hO1, cO1⟩ := rc_at H.out.1 hPn
      subst hao
      have cO1 : wr.cell? ⟨go, oo + P, none⟩ = some (.complex .f64 O1.re O1.im) := (hR.out.bl.cell (p := ⟨go, oo + P, none⟩) hgo).trans cO1
      have HO1 : Hid (ov.getD P z0V = O1.v) := by
        unfold Hid
        rw [H.out.2.2.2.2, List.getD_eq_getElem?_getD, List.getElem?_map, hO1]; rfl
      have hgoU : go < wr.heap.size := by have := hR.out.bl.size; omega
      have hord := hR.out.ord
      have ne1 : ¬ go = gs := by omega
      have ne2 : ¬ w.heap.size = gs := by omega
      have bp0 : (0 : Int) ≤ (P : Int) := by omega
      have bp1 : (P : Int) < (n : Int) := by omega
      clear hO1
      go_wp2_with (fail)
      refine (HMd.out _).mono ?_
      rintro e w3 ⟨rfl, hw3⟩
      subst w3
      go_wp2_with (fail)
      have BU : Below wr.heap.size wr wr.drew := (Below.refl _ _).drew
      refine wp_region_holdsA (S := KX gs wr) (by kernel_rfl) (KX.of BU) (fun hS => ?_)
      refine fl_takeA (i := 0) (d := 32) (v := .pointer (some ⟨w.heap.size, 0, none⟩)) rfl rfl rfl (by kernel_rfl) (by kernel_rfl) (by kernel_rfl) hS ?_ ?_
      · intro w' hk; unfold KX at hk; go_simp
      simp only [Act.put, List.setIfInBounds_toArray, List.set_cons_zero, List.set_cons_succ]
      refine fl_takeA (i := 1) (d := 33) (v := .slice (some ⟨go, oo, none⟩) n co) rfl rfl rfl (by kernel_rfl) (by kernel_rfl) (by kernel_rfl) hS ?_ ?_
      · intro w' hk; unfold KX at hk; go_simp
      simp only [Act.put, List.setIfInBounds_toArray, List.set_cons_zero, List.set_cons_succ]
      refine fl_takeA (i := 2) (d := 34) (v := .int .i64 P) rfl rfl rfl (by kernel_rfl) (by kernel_rfl) (by kernel_rfl) hS ?_ ?_
      · intro w' hk; unfold KX at hk; go_simp
      simp only [Act.put, List.setIfInBounds_toArray, List.set_cons_zero, List.set_cons_succ]
      refine fl_takeA (i := 3) (d := 35) (v := .pointer (some ⟨go, oo + P, none⟩)) rfl rfl rfl (by kernel_rfl) (by kernel_rfl) (by kernel_rfl) hS ?_ ?_
      · intro w' hk; unfold KX at hk; go_simp
      simp only [Act.put, List.setIfInBounds_toArray, List.set_cons_zero, List.set_cons_succ]
      refine fl_takeA (i := 4) (d := 36) (v := .complex .f64 O1.re O1.im) rfl rfl rfl (by kernel_rfl) (by kernel_rfl) (by kernel_rfl) hS ?_ ?_
      · intro w' hk; unfold KX at hk; go_simp
      simp only [Act.put, List.setIfInBounds_toArray, List.set_cons_zero, List.set_cons_succ]
      refine fl_takeA (i := 5) (d := 37) (v := .pointer (some ⟨w.heap.size, 2, none⟩)) rfl rfl rfl (by kernel_rfl) (by kernel_rfl) (by kernel_rfl) hS ?_ ?_
      · intro w' hk; unfold KX at hk; go_simp
      simp only [Act.put, List.setIfInBounds_toArray, List.set_cons_zero, List.set_cons_succ]
      refine fl_takeA (i := 6) (d := 38) (v := .agg #[.int .i64 C, .int .i64 F, .slice ap m cp]) rfl rfl rfl (by kernel_rfl) (by kernel_rfl) (by kernel_rfl) hS ?_ ?_
      · intro w' hk; unfold KX at hk; go_simp
      simp only [Act.put, List.setIfInBounds_toArray, List.set_cons_zero, List.set_cons_succ]
      refine fl_takeA (i := 7) (d := 39) (v := .int .i64 A) rfl rfl rfl (by kernel_rfl) (by kernel_rfl) (by kernel_rfl) hS ?_ ?_
      · intro w' hk; unfold KX at hk; go_simp
      simp only [Act.put, List.setIfInBounds_toArray, List.set_cons_zero, List.set_cons_succ]
      refine wpAnyH_all (rs := [8]) (by kernel_rfl) (by simp) ?_
      intro i hi; obtain rfl := List.mem_singleton.1 hi; clear hi
      refine op_call (d := 40) rfl rfl rfl (by go_simp) ((impl_pa C F A (H.out.2.2.1.below (hR.out.bl.trans (BU.mono hR.out.bl.size)))).mono ?_)
      rintro e w3 ⟨Z, rfl, hZ, hb3⟩
      have B3 : Below wr.heap.size wr w3 := Below.trans BU (hb3.mono (by simp))
      refine ⟨_, rfl, KX.of B3, ?_⟩
      simp only [Act.put, List.setIfInBounds_toArray, List.set_cons_zero, List.set_cons_succ]
      refine wpAnyH_all (rs := [9]) (by kernel_rfl) (by simp) ?_
      intro i hi; obtain rfl := List.mem_singleton.1 hi; clear hi
      refine op_call (d := 41) rfl rfl rfl (by go_simp) ((number_any Z _).mono ?_)
      rintro e w4 ⟨rfl, hb4⟩
      have B4 : Below wr.heap.size wr w4 := Below.trans B3 (hb4.mono B3.size)
      refine ⟨_, rfl, KX.of B4, ?_⟩
      simp only [Act.put, List.setIfInBounds_toArray, List.set_cons_zero, List.set_cons_succ]
      refine wpAnyH_all (rs := [10]) (by kernel_rfl) (by simp) ?_
      intro i hi; obtain rfl := List.mem_singleton.1 hi; clear hi
      refine op_call (d := 42) rfl rfl rfl (by go_simp) ((product_any O1 Z _).mono ?_)
      rintro e w5 ⟨Y, rfl, hY, m5, rfl⟩
      have B5 : Below wr.heap.size wr (w4.drewN m5) := below_drewN B4 m5
      refine ⟨_, rfl, KX.of B5, ?_⟩
      simp only [Act.put, List.setIfInBounds_toArray, List.set_cons_zero, List.set_cons_succ]
      refine wpAnyH_all (rs := [11]) (by kernel_rfl) (by simp) ?_
      intro i hi; obtain rfl := List.mem_singleton.1 hi; clear hi
      refine op_val (d := 9) (v := .complex .f64 Y.re Y.im) (w' := w4.drewN m5) rfl rfl rfl (by go_simp; try rfl) ?_
      simp only [Act.put, List.setIfInBounds_toArray, List.set_cons_zero, List.set_cons_succ]
      refine ⟨KX.of B5, wpAnyH_done (by kernel_rfl) (NoPanic.normal ?_) _⟩
      have HY : Hid (Y.v = fdV ov n C F sh s A) := by
        unfold Hid fdV
        rw [← HP.out, HO1.out, hY, hZ]
      have hT5 := hR.out.next B5
      have HR5 : Hid (FdT w (w4.drewN m5) gs n (.cells #[.slice (some ⟨go, oo, none⟩) n co, .slice aT n ct, .int .i64 C, .int .i64 F, .slice ap m cp] 92) (fdS ov n C F sh s t 0)) := hT5
      generalize w4.drewN m5 = W5 at HR5 ⊢
      clear hT5 hR B5 B4 B3 hb3 hb4 hY hZ hS BU b0 b1 b2 b3 b4 bl cO1 hgoU HO1 HMd hord
      go_wp2
      go_loopw [44] (fun i wv => ∃ x : Nat, x ≤ n ∧ i = .int .i64 x ∧ Hid (FdT w wv gs n (.cells #[.slice (some ⟨go, oo, none⟩) n co, .slice aT n ct, .int .i64 C, .int .i64 F, .slice ap m cp] 92) (fdS ov n C F sh s t x))) (fun i _ => n - (intOf i).toNat)
      case atStart => exact ⟨0, Nat.zero_le _, rfl, HR5.out⟩
      case round =>
        clear HR5
        obtain ⟨x, hx, rfl, hQ⟩ := hrel
        obtain ⟨b0, b1, b2, b3, b4, bl⟩ := five_at hQ.out.bx
        by_cases hltx : x < n
        · have bx : (x : Int) < (n : Int) := by omega
          have bx0 : (0 : Int) ≤ (x : Int) := by omega
          obtain ⟨E, hE⟩ : ∃ E, E = P * x % n := ⟨_, rfl⟩
          have hEn : E < n := by rw [hE]; exact Nat.mod_lt _ (by omega)
          have hkx : P * x ≤ 24 * 24 := Nat.mul_le_mul (by omega) (by omega)
          have e2 : IntKind.i64.wrap ((P : Int) * (x : Int)) = (P : Int) * (x : Int) := by
            have h3 : (P : Int) * (x : Int) = ((P * x : Nat) : Int) := by simp
            rw [h3, IntKind.wrap_i64]; omega
          have e3 : ((P : Int) * (x : Int)) % (n : Int) = (E : Int) := by rw [hE]; simp
          have e3' : ((P : Int) * (x : Int)).tmod (n : Int) = (E : Int) := by rw [Int.tmod_eq_emod_of_nonneg (Int.mul_nonneg bp0 bx0)]; exact e3
          have be0 : (0 : Int) ≤ (E : Int) := by omega
          have be1 : (E : Int) < (n : Int) := by omega
          obtain ⟨gt, ot, T, hat, hgt, hT, cT⟩ := rc_at H.out.2.1 hEn
          subst hat
          have cT : wr.cell? ⟨gt, ot + E, none⟩ = some (.complex .f64 T.re T.im) := (hQ.out.bl.cell (p := ⟨gt, ot + E, none⟩) hgt).trans cT
          have HTv : Hid (Y.v = fdV ov n C F sh s (-C + (t : Int)) ∧ T.v = trV (prt n (fdP n sh (-C + (t : Int)) * x % n))) := by
            refine ⟨by rw [← HA.out]; exact HY.out, ?_⟩
            obtain ⟨T', hT', hTv⟩ := H.out.2.2.2.1.2 E hEn
            rw [hT] at hT'
            injection hT' with hT'
            subst hT'
            rw [hTv, hE, ← HA.out, ← HP.out, Int.one_mul]
          obtain ⟨zs, hzs, hzv⟩ := hQ.out.su
          obtain ⟨gs', os', O, has, hgs'', hO, cO⟩ := rc_at hzs.rg hltx
          injection has with has
          injection has with has1 has2
          subst has1 has2
          rw [Nat.zero_add] at cO
          have HOv : Hid (O.v = fdK ov n C F sh s x t) := by
            unfold Hid
            have h3 : (zs.map Zf.v)[x]? = some O.v := by rw [List.getElem?_map, hO]; rfl
            rw [hzv, fdS_at hltx] at h3
            injection h3 with h3
            exact h3.symm
          have hfz := OCs.frz hzs x
          have hord := hQ.out.ord
          have hgsU : gs < wr.heap.size := hord.2
          have hgtU : gt < wr.heap.size := by have := hQ.out.bl.size; omega
          have ne3 : ¬ gt = gs := by omega
          have BU : Below wr.heap.size wr wr.drew := (Below.refl _ _).drew
          clear hE hT hzs hzv hO hkx
          go_wp2_with (fail)
          refine wp_region_holdsA (S := KX gs wr) (by kernel_rfl) (KX.of BU) (fun hS => ?_)
          refine fl_takeA (i := 0) (d := 47) (v := .slice (some ⟨gs, 0, none⟩) n n) rfl rfl rfl (by kernel_rfl) (by kernel_rfl) (by kernel_rfl) hS ?_ ?_
          · intro w' hk; unfold KX at hk; go_simp
          simp only [Act.put, List.setIfInBounds_toArray, List.set_cons_zero, List.set_cons_succ]
          refine fl_takeA (i := 1) (d := 48) (v := .int .i64 x) rfl rfl rfl (by kernel_rfl) (by kernel_rfl) (by kernel_rfl) hS ?_ ?_
          · intro w' hk; unfold KX at hk; go_simp
          simp only [Act.put, List.setIfInBounds_toArray, List.set_cons_zero, List.set_cons_succ]
          refine fl_takeA (i := 2) (d := 49) (v := .pointer (some ⟨gs, x, none⟩)) rfl rfl rfl (by kernel_rfl) (by kernel_rfl) (by kernel_rfl) hS ?_ ?_
          · intro w' hk; unfold KX at hk; go_simp
          simp only [Act.put, List.setIfInBounds_toArray, List.set_cons_zero, List.set_cons_succ]
          refine fl_takeA (i := 4) (d := 51) (v := .complex .f64 Y.re Y.im) rfl rfl rfl (by kernel_rfl) (by kernel_rfl) (by kernel_rfl) hS ?_ ?_
          · intro w' hk; unfold KX at hk; go_simp
          simp only [Act.put, List.setIfInBounds_toArray, List.set_cons_zero, List.set_cons_succ]
          refine fl_takeA (i := 5) (d := 52) (v := .pointer (some ⟨w.heap.size, 1, none⟩)) rfl rfl rfl (by kernel_rfl) (by kernel_rfl) (by kernel_rfl) hS ?_ ?_
          · intro w' hk; unfold KX at hk; go_simp
          simp only [Act.put, List.setIfInBounds_toArray, List.set_cons_zero, List.set_cons_succ]
          refine fl_takeA (i := 6) (d := 53) (v := .slice (some ⟨gt, ot, none⟩) n ct) rfl rfl rfl (by kernel_rfl) (by kernel_rfl) (by kernel_rfl) hS ?_ ?_
          · intro w' hk; unfold KX at hk; go_simp
          simp only [Act.put, List.setIfInBounds_toArray, List.set_cons_zero, List.set_cons_succ]
          refine fl_takeA (i := 7) (d := 54) (v := .int .i64 P) rfl rfl rfl (by kernel_rfl) (by kernel_rfl) (by kernel_rfl) hS ?_ ?_
          · intro w' hk; unfold KX at hk; go_simp
          simp only [Act.put, List.setIfInBounds_toArray, List.set_cons_zero, List.set_cons_succ]
          refine fl_takeA (i := 8) (d := 55) (v := .int .i64 x) rfl rfl rfl (by kernel_rfl) (by kernel_rfl) (by kernel_rfl) hS ?_ ?_
          · intro w' hk; unfold KX at hk; go_simp
          simp only [Act.put, List.setIfInBounds_toArray, List.set_cons_zero, List.set_cons_succ]
          refine fl_takeA (i := 9) (d := 56) (v := .int .i64 ((P : Int) * (x : Int))) rfl rfl rfl (by kernel_rfl) (by kernel_rfl) (by kernel_rfl) hS ?_ ?_
          · intro w' hk; unfold KX at hk; go_simp
          simp only [Act.put, List.setIfInBounds_toArray, List.set_cons_zero, List.set_cons_succ]
          refine fl_takeA (i := 10) (d := 57) (v := .int .i64 n) rfl rfl rfl (by kernel_rfl) (by kernel_rfl) (by kernel_rfl) hS ?_ ?_
          · intro w' hk; unfold KX at hk; go_simp
          simp only [Act.put, List.setIfInBounds_toArray, List.set_cons_zero, List.set_cons_succ]
          refine fl_takeA (i := 11) (d := 58) (v := .int .i64 E) rfl rfl rfl (by kernel_rfl) (by kernel_rfl) (by kernel_rfl) hS ?_ ?_
          · intro w' hk; unfold KX at hk; go_simp
          simp only [Act.put, List.setIfInBounds_toArray, List.set_cons_zero, List.set_cons_succ]
          refine fl_takeA (i := 12) (d := 59) (v := .pointer (some ⟨gt, ot + E, none⟩)) rfl rfl rfl (by kernel_rfl) (by kernel_rfl) (by kernel_rfl) hS ?_ ?_
          · intro w' hk; unfold KX at hk; go_simp
          simp only [Act.put, List.setIfInBounds_toArray, List.set_cons_zero, List.set_cons_succ]
          refine fl_takeA (i := 13) (d := 60) (v := .complex .f64 T.re T.im) rfl rfl rfl (by kernel_rfl) (by kernel_rfl) (by kernel_rfl) hS ?_ ?_
          · intro w' hk; unfold KX at hk; go_simp
          simp only [Act.put, List.setIfInBounds_toArray, List.set_cons_zero, List.set_cons_succ]
          refine wpAnyH_all (rs := [3, 14]) (by kernel_rfl) (by simp) ?_
          intro i hi
          rcases List.mem_cons.1 hi with rfl | hi
          · clear hi
            refine op_val (d := 50) (v := .complex .f64 O.re O.im) (w' := wr.drew) rfl rfl rfl (by go_simp; try rfl) ?_
            simp only [Act.put, List.setIfInBounds_toArray, List.set_cons_zero, List.set_cons_succ]
            refine ⟨KX.of BU, ?_⟩
            refine wpAnyH_all (rs := [14]) (by kernel_rfl) (by simp) ?_
            intro i hi; obtain rfl := List.mem_singleton.1 hi; clear hi
            refine op_call (d := 61) rfl rfl rfl (by go_simp) ((product_any Y T _).mono ?_)
            rintro e w5 ⟨y2, rfl, hy2, m5, rfl⟩
            have B5 : Below wr.heap.size wr (wr.drew.drewN m5) := below_drewN BU m5
            refine ⟨_, rfl, KX.of B5, ?_⟩
            simp only [Act.put, List.setIfInBounds_toArray, List.set_cons_zero, List.set_cons_succ]
            refine wpAnyH_all (rs := [15]) (by kernel_rfl) (by simp) ?_
            intro i hi; obtain rfl := List.mem_singleton.1 hi; clear hi
            refine op_val (d := 62) (v := .complex .f64 (fres .add O.re y2.re (wr.drew.drewN m5)) (fres .add O.im y2.im ((wr.drew.drewN m5).drewN (fnn .add O.re y2.re)))) (w' := (((wr.drew.drewN m5).drewN (fnn .add O.re y2.re)).drewN (fnn .add O.im y2.im))) rfl rfl rfl (by go_simp; try rfl) ?_
            simp only [Act.put, List.setIfInBounds_toArray, List.set_cons_zero, List.set_cons_succ]
            have BV : Below wr.heap.size wr (((wr.drew.drewN m5).drewN (fnn .add O.re y2.re)).drewN (fnn .add O.im y2.im)) := below_drewN (below_drewN B5 _) _
            have HRV : Hid (Zf.v ⟨(fres .add O.re y2.re (wr.drew.drewN m5)), (fres .add O.im y2.im ((wr.drew.drewN m5).drewN (fnn .add O.re y2.re)))⟩ = fdK ov n C F sh s x (t + 1)) := by
              unfold Hid
              rw [fdK, ← HTv.out.1, ← HTv.out.2, ← HOv.out, ← hy2]
              simp only [Zf.v, addV, fv_fres]
            generalize (fres .add O.re y2.re (wr.drew.drewN m5)) = R1 at HRV ⊢
            generalize (fres .add O.im y2.im ((wr.drew.drewN m5).drewN (fnn .add O.re y2.re))) = R2 at HRV ⊢
            have fV : (((wr.drew.drewN m5).drewN (fnn .add O.re y2.re)).drewN (fnn .add O.im y2.im)).frozen? ⟨gs, x, none⟩ = false := (World.frozen?_of_block (w := wr) (BV.block _ hgsU)).trans hfz
            have cV : (((wr.drew.drewN m5).drewN (fnn .add O.re y2.re)).drewN (fnn .add O.im y2.im)).cell? ⟨gs, x, none⟩ = some (.complex .f64 O.re O.im) := (World.cell?_of_block (w := wr) (BV.block _ hgsU)).trans cO
            generalize (((wr.drew.drewN m5).drewN (fnn .add O.re y2.re)).drewN (fnn .add O.im y2.im)) = V at BV fV cV ⊢
            refine ⟨KX.of BV, wpAnyH_all (rs := [16]) (by kernel_rfl) (by simp) ?_⟩
            intro i hi; obtain rfl := List.mem_singleton.1 hi; clear hi
            refine op_val (d := 63) (v := .pointer (some ⟨gs, x, none⟩)) (w' := V) rfl rfl rfl (by go_simp; try rfl) ?_
            simp only [Act.put, List.setIfInBounds_toArray, List.set_cons_zero, List.set_cons_succ]
            refine ⟨KX.of BV, wpAnyH_all (rs := [17]) (by kernel_rfl) (by simp) ?_⟩
            intro i hi; obtain rfl := List.mem_singleton.1 hi; clear hi
            refine op_skipN rfl rfl (w' := V.setCell ⟨gs, x, none⟩ (.complex .f64 R1 R2)) (by go_simp; try rfl) ?_
            refine ⟨KX.set (KX.of BV) x _, wpAnyH_done (by kernel_rfl) (NoPanic.normal ?_) _⟩
            have HN : Hid (FdT w (V.setCell ⟨gs, x, none⟩ (.complex .f64 R1 R2)) gs n (.cells #[.slice (some ⟨go, oo, none⟩) n co, .slice (some ⟨gt, ot, none⟩) n ct, .int .i64 C, .int .i64 F, .slice ap m cp] 92) (fdS ov n C F sh s t (x + 1))) := by
              unfold Hid
              rw [← fdS_set hltx, ← HRV.out]
              exact (hQ.out.next BV).put x ⟨R1, R2⟩
            generalize V.setCell ⟨gs, x, none⟩ (.complex .f64 R1 R2) = V' at HN ⊢
            clear BV fV cV hS HRV HOv HTv hQ
            go_wp2
            go_roundw
            case rel => exact ⟨x + 1, by omega, by go_num, HN.out⟩
            case measure => simp [intOf]; omega
          · obtain rfl := List.mem_singleton.1 hi
            clear hi
            refine op_call (d := 61) rfl rfl rfl (by go_simp) ((product_any Y T _).mono ?_)
            rintro e w5 ⟨y2, rfl, hy2, m5, rfl⟩
            have B5 : Below wr.heap.size wr (wr.drew.drewN m5) := below_drewN BU m5
            refine ⟨_, rfl, KX.of B5, ?_⟩
            simp only [Act.put, List.setIfInBounds_toArray, List.set_cons_zero, List.set_cons_succ]
            refine wpAnyH_all (rs := [3]) (by kernel_rfl) (by simp) ?_
            intro i hi; obtain rfl := List.mem_singleton.1 hi; clear hi
            refine op_val (d := 50) (v := .complex .f64 O.re O.im) (w' := wr.drew.drewN m5) rfl rfl rfl (by go_simp; try rfl) ?_
            simp only [Act.put, List.setIfInBounds_toArray, List.set_cons_zero, List.set_cons_succ]
            refine ⟨KX.of B5, ?_⟩
            refine wpAnyH_all (rs := [15]) (by kernel_rfl) (by simp) ?_
            intro i hi; obtain rfl := List.mem_singleton.1 hi; clear hi
            refine op_val (d := 62) (v := .complex .f64 (fres .add O.re y2.re (wr.drew.drewN m5)) (fres .add O.im y2.im ((wr.drew.drewN m5).drewN (fnn .add O.re y2.re)))) (w' := (((wr.drew.drewN m5).drewN (fnn .add O.re y2.re)).drewN (fnn .add O.im y2.im))) rfl rfl rfl (by go_simp; try rfl) ?_
            simp only [Act.put, List.setIfInBounds_toArray, List.set_cons_zero, List.set_cons_succ]
            have BV : Below wr.heap.size wr (((wr.drew.drewN m5).drewN (fnn .add O.re y2.re)).drewN (fnn .add O.im y2.im)) := below_drewN (below_drewN B5 _) _
            have HRV : Hid (Zf.v ⟨(fres .add O.re y2.re (wr.drew.drewN m5)), (fres .add O.im y2.im ((wr.drew.drewN m5).drewN (fnn .add O.re y2.re)))⟩ = fdK ov n C F sh s x (t + 1)) := by
              unfold Hid
              rw [fdK, ← HTv.out.1, ← HTv.out.2, ← HOv.out, ← hy2]
              simp only [Zf.v, addV, fv_fres]
            generalize (fres .add O.re y2.re (wr.drew.drewN m5)) = R1 at HRV ⊢
            generalize (fres .add O.im y2.im ((wr.drew.drewN m5).drewN (fnn .add O.re y2.re))) = R2 at HRV ⊢
            have fV : (((wr.drew.drewN m5).drewN (fnn .add O.re y2.re)).drewN (fnn .add O.im y2.im)).frozen? ⟨gs, x, none⟩ = false := (World.frozen?_of_block (w := wr) (BV.block _ hgsU)).trans hfz
            have cV : (((wr.drew.drewN m5).drewN (fnn .add O.re y2.re)).drewN (fnn .add O.im y2.im)).cell? ⟨gs, x, none⟩ = some (.complex .f64 O.re O.im) := (World.cell?_of_block (w := wr) (BV.block _ hgsU)).trans cO
            generalize (((wr.drew.drewN m5).drewN (fnn .add O.re y2.re)).drewN (fnn .add O.im y2.im)) = V at BV fV cV ⊢
            refine ⟨KX.of BV, wpAnyH_all (rs := [16]) (by kernel_rfl) (by simp) ?_⟩
            intro i hi; obtain rfl := List.mem_singleton.1 hi; clear hi
            refine op_val (d := 63) (v := .pointer (some ⟨gs, x, none⟩)) (w' := V) rfl rfl rfl (by go_simp; try rfl) ?_
            simp only [Act.put, List.setIfInBounds_toArray, List.set_cons_zero, List.set_cons_succ]
            refine ⟨KX.of BV, wpAnyH_all (rs := [17]) (by kernel_rfl) (by simp) ?_⟩
            intro i hi; obtain rfl := List.mem_singleton.1 hi; clear hi
            refine op_skipN rfl rfl (w' := V.setCell ⟨gs, x, none⟩ (.complex .f64 R1 R2)) (by go_simp; try rfl) ?_
            refine ⟨KX.set (KX.of BV) x _, wpAnyH_done (by kernel_rfl) (NoPanic.normal ?_) _⟩
            have HN : Hid (FdT w (V.setCell ⟨gs, x, none⟩ (.complex .f64 R1 R2)) gs n (.cells #[.slice (some ⟨go, oo, none⟩) n co, .slice (some ⟨gt, ot, none⟩) n ct, .int .i64 C, .int .i64 F, .slice ap m cp] 92) (fdS ov n C F sh s t (x + 1))) := by
              unfold Hid
              rw [← fdS_set hltx, ← HRV.out]
              exact (hQ.out.next BV).put x ⟨R1, R2⟩
            generalize V.setCell ⟨gs, x, none⟩ (.complex .f64 R1 R2) = V' at HN ⊢
            clear BV fV cV hS HRV HOv HTv hQ
            go_wp2
            go_roundw
            case rel => exact ⟨x + 1, by omega, by go_num, HN.out⟩
            case measure => simp [intOf]; omega
        · have bx : ¬ (x : Int) < (n : Int) := by omega
          have HN : Hid (FdT w wr gs n (.cells #[.slice (some ⟨go, oo, none⟩) n co, .slice aT n ct, .int .i64 C, .int .i64 F, .slice ap m cp] 92) (fdS ov n C F sh s (t + 1) 0)) := by
            unfold Hid
            rw [← fdS_next]
            have h := hQ.out
            rw [show x = n by omega] at h
            exact h
          have e9 : IntKind.i64.wrap (A + 1) = A + 1 := by rw [IntKind.wrap_i64]; omega
          clear hQ
          go_wp2
          go_roundw
          case rel => exact ⟨t + 1, by have := HA.out; omega, by have := HA.out; rw [this]; congr 1; omega, HN.out⟩
          case measure => simp [intOf]; omega
    · have HE : Hid (∃ zs, OCs wr w.heap.size (.slice (some ⟨gs, 0, none⟩) n n) zs ∧ zs.map Zf.v = fdL ov n C F sh s ∧ Below w.heap.size w wr) := by
        have h := hR.out
        rw [show t = (2 * C + 1).toNat by have := HA.out; omega, fdS_done] at h
        obtain ⟨zs, a1, a2⟩ := h.su
        exact ⟨zs, OG.low a1 (by have := h.ord; omega), a2, h.bl⟩
      clear hR
      go_wp2
      go_returns
      obtain ⟨zs, a1, a2, a3⟩ := HE.out
      exact ⟨gs, rfl, zs, a1, a2, a3⟩

end Go.Proofs.Ytgaabcgdfbgchaa
