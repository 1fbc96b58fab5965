/- Proved here: the program's intensities: sumsK. -/
import Derived.Test.YtfjcebgknpccbabLnM
import Derived.StillTail
namespace Go.Proofs.Ytfjcebgknpccbab
open Go.RowKit
set_option linter.unusedVariables false
set_option linter.unusedSimpArgs false

set_option maxHeartbeats 800000 in
theorem impl_size (n : Int) (h1 : -1000 ≤ n) (h2 : n ≤ 1000) (w : World) : Calls Try.prog 54 #[.int .i64 n] w fun e w' => e = .returned (.int .i64 (n.natAbs : Nat)) ∧ w' = w := by
  have hw : IntKind.i64.wrap (-n) = -n := by rw [IntKind.wrap_i64]; omega
  by_cases h : n < 0
  · go_enter Try.func54, Try.ntmps54
    go_wp2
    go_returns
    exact ⟨by rw [show ((n.natAbs : Nat) : Int) = -n by omega]; rfl, rfl⟩
  · go_enter Try.func54, Try.ntmps54
    go_wp2
    go_returns
    exact ⟨by rw [show ((n.natAbs : Nat) : Int) = n by omega]; rfl, rfl⟩

theorem IS.setL {w : World} {B g n c : Nat} {xs : List Int} (h : IS w B (.slice (some ⟨g, 0, none⟩) n c) xs) (j : Nat) (y : Int) : IS (w.setCell ⟨g, j, none⟩ (.int .i64 y)) B (.slice (some ⟨g, 0, none⟩) n c) (xs.set j y) := by
  have hn : n = xs.length := by obtain ⟨_, _, e⟩ := h.form; injection e
  subst hn
  have := (World.ownsRow.stored h j (.int .i64 y)).1
  unfold IS
  rw [List.length_set, List.map_set]
  exact this
theorem IS.atL {w : World} {B g n c : Nat} {xs : List Int} (h : IS w B (.slice (some ⟨g, 0, none⟩) n c) xs) {j : Nat} (hj : j < n) : w.cell? ⟨g, j, none⟩ = some (.int .i64 (xs.getD j 0)) ∧ w.frozen? ⟨g, j, none⟩ = false := by
  have hn : n = xs.length := by obtain ⟨_, _, e⟩ := h.form; injection e
  subst hn
  refine ⟨?_, World.ownsRow.frozenAt h j⟩
  rw [World.ownsRow.cellAt h j (by omega)]
  simp [List.getElem?_map, List.getElem?_eq_getElem hj]

/-- Where the program stands: the sums lie in block gs. -/
structure InS (w wr : World) (gs L : Nat) (cur : List Int) : Prop where
  bl : Below w.heap.size w wr
  su : IS wr w.heap.size (.slice (some ⟨gs, 0, none⟩) L L) cur
theorem InS.next {w wr wv : World} {gs L : Nat} {cur : List Int} (h : InS w wr gs L cur) (hb : Below wr.heap.size wr wv) : InS w wv gs L cur :=
  ⟨h.bl.trans (hb.mono h.bl.size), h.su.bel hb⟩
theorem InS.lt {w wr : World} {gs L : Nat} {cur : List Int} (h : InS w wr gs L cur) : w.heap.size ≤ gs ∧ gs < wr.heap.size := IS.lt h.su gs rfl
theorem InS.set {w wr : World} {gs L : Nat} {cur : List Int} (h : InS w wr gs L cur) (x : Nat) (y : Int) : InS w (wr.setCell ⟨gs, x, none⟩ (.int .i64 y)) gs L (cur.set x y) :=
  ⟨h.bl.setCell h.lt.1 _, h.su.setL x y⟩
theorem InS.at {w wr : World} {gs L : Nat} {cur : List Int} (h : InS w wr gs L cur) {x : Nat} (hx : x < L) : wr.cell? ⟨gs, x, none⟩ = some (.int .i64 (cur.getD x 0)) ∧ wr.frozen? ⟨gs, x, none⟩ = false := h.su.atL hx

set_option maxRecDepth 10000 in
set_option maxHeartbeats 12800000 in
theorem impl_int {w : World} {v : Value} {s : List Ln} {len : Int} {u : Value} {ws : List Int} {L : Nat} (hL : len = (L : Int)) (hLb : L ≤ 60) (hn : s.length ≤ 12) (hr : Rise len (-1) s) (hw : OkW ws) (h : RG 2 lnC w v s) (hu : RdI w u ws) :
    Calls Try.prog 53 #[v, .int .i64 len, u] w fun e w' => ∃ r, e = .returned r ∧ IS w' w.heap.size r (sumsK s ws L) ∧ Below w.heap.size w w' := by
  subst hL
  obtain ⟨a, c, rfl⟩ := h.form
  obtain ⟨n, hnn⟩ : ∃ n, n = s.length := ⟨_, rfl⟩
  obtain ⟨b, d, rfl⟩ := hu.form
  obtain ⟨m, hmm⟩ : ∃ m, m = ws.length := ⟨_, rfl⟩
  rw [← hnn] at h ⊢
  rw [← hmm] at hu ⊢
  have hm8 : 0 < m ∧ m ≤ 8 := by rw [hmm]; exact ⟨hw.1, hw.2.1⟩
  have H : Hid (RG 2 lnC w (.slice a n c) s ∧ RdI w (.slice b m d) ws ∧ n = s.length ∧ m = ws.length ∧ OkW ws ∧ Rise (L : Int) (-1) s) := ⟨h, hu, hnn, hmm, hw, hr⟩
  have hn12 : n ≤ 12 := by omega
  clear h hu hnn hmm hw hn hr
  obtain ⟨R, hR⟩ : ∃ R : Nat, (m : Int) - 1 = (R : Int) := ⟨m - 1, by omega⟩
  have hRm : m = R + 1 := by omega
  have HRm : Hid (m = R + 1) := hRm
  have hw0 : IntKind.i64.wrap ((m : Int) - 1) = (R : Int) := by rw [IntKind.wrap_i64]; omega
  obtain ⟨i0, hi, hz0, hz1, hz2⟩ := info_parts info_i64
  have hRb : R ≤ 7 := by omega
  clear hRm hR
  go_enter Try.func53, Try.ntmps53
  go_wp2_with (at_make; refine wpList_make_full _ rfl _ _ 23 rfl w.heap.size 2 i0 (.int .i64 0) 1 Try.underlying23 hi hz0 hz1 _ _ _ _ L rfl rfl rfl rfl (by rw [hz2]; omega) (by unfold maxLen; omega) (Nat.le_refl _) ?_; intro w2 hown2 hgrow2)
  have HS2 : Hid (InS w w2 w.heap.size L (psL s ws L 0) ∧ Stand s (L : Int) 0 0) := by
    have hb2 : Below w.heap.size w w2 := (Below.refl _ _).grown hgrow2 (Nat.le_refl _) (fun k h => by cases h)
    refine ⟨⟨hb2, ?_⟩, Stand.start H.out.2.2.2.2.2 (by omega)⟩
    rw [psL_zero]
    unfold IS
    have e : (madeCells (Value.cells (.int .i64 0)) (L * 1)).toList = (List.replicate L (0 : Int)).map (Value.int .i64) := by
      rw [show (Value.int IntKind.i64 0).cells = #[Value.int IntKind.i64 0] from rfl, toList_madeCells_one]
      simp
    rw [e] at hown2
    simpa using hown2
  obtain ⟨gs, hgs⟩ : ∃ gs, gs = w.heap.size := ⟨_, rfl⟩
  have HS3 : Hid (InS w w2 gs L (psL s ws L 0) ∧ Stand s (L : Int) 0 0) := by unfold Hid; rw [hgs]; exact HS2.out
  rw [← hgs]
  clear hown2 hgrow2 hgs HS2
  go_loopw [20] (fun i wr => ∃ k : Nat, k ≤ n ∧ i = .int .i64 k ∧ Hid (∃ A : Nat, InS w wr gs L (psL s ws L A) ∧ Stand s (L : Int) k A)) (fun i _ => n - (intOf i).toNat)
  case atStart => exact ⟨0, Nat.zero_le _, rfl, 0, HS3.out⟩
  case round =>
    clear HS3
    obtain ⟨k, hk, rfl, hR⟩ := hrel
    by_cases hltk : k < n
    · have bk0 : (0 : Int) ≤ (k : Int) := by omega
      have bk1 : (k : Int) < (n : Int) := by omega
      have hkl : k < s.length := by rw [← H.out.2.2.1]; exact hltk
      obtain ⟨A, hIn, hSt⟩ := hR.out
      obtain ⟨F, T, hF, hT, hAF, hFT, hTL, hGap, hHas, hSt2⟩ := hSt.line hkl
      obtain ⟨g, o, c2, he, hg, hj⟩ := (H.out.1.below hIn.bl).pos (by omega)
      simp only [Value.slice.injEq] at he
      obtain ⟨rfl, hx1, hx2⟩ := he
      clear hx1 hx2
      obtain ⟨c0, c1⟩ := lnC_at (hj k hkl)
      rw [hF] at c0
      rw [hT] at c1
      obtain ⟨kb, hkb⟩ : ∃ kb, kb = wr.heap.size := ⟨_, rfl⟩
      have hkg : kb ≠ gs := by have := hIn.lt; omega
      have HB : Hid (InS w (wr.alloc (.cells #[.int .i64 F, .int .i64 T] 57)) gs L (psL s ws L F) ∧ (wr.alloc (.cells #[.int .i64 F, .int .i64 T] 57)).heap[kb]? = some (.cells #[.int .i64 F, .int .i64 T] 57)) := by
        refine ⟨?_, by rw [hkb]; exact heap_alloc_new _ _⟩
        rw [psL_gap hAF hGap]
        exact hIn.next (by (repeat' (first | (with_reducible exact Below.refl _ _) | (with_reducible assumption) | (with_reducible refine Below.setCell ?_ ?_ _) | (with_reducible refine Below.alloc ?_ ?_ _) | (with_reducible refine below_drewN ?_ _) | (with_reducible refine Below.drew ?_) | (with_reducible exact Nat.le_refl _) | omega | (simp; done) | (simp; omega))))
      have HST : Hid (Stand s (L : Int) (k + 1) T) := hSt2
      clear hR hIn hSt hGap hSt2 hj hF hT
      go_wp2
      rw [← hkb]
      clear hkb c0 c1
      go_loopw [11] (fun i wv => ∃ Y : Nat, F ≤ Y ∧ Y ≤ T ∧ i = .int .i64 Y ∧ Hid (InS w wv gs L (psL s ws L Y) ∧ wv.heap[kb]? = some (.cells #[.int .i64 F, .int .i64 T] 57))) (fun i _ => T - (intOf i).toNat)
      case atStart => exact ⟨F, Nat.le_refl _, by omega, rfl, HB.out⟩
      case round =>
        clear HB
        obtain ⟨Y, hFY, hYT, rfl, hV⟩ := hrel
        have t1 : wr.cell? ⟨kb, 1, none⟩ = some (.int .i64 T) := by simp [World.cell?, hV.out.2]
        by_cases hlty : Y < T
        · have by1 : (Y : Int) < (T : Int) := by omega
          by_cases hz : (0 : Int) < (Y : Int) - (R : Int)
          · have hs0 : ((Y - R : Nat) : Int) = (Y : Int) - (R : Int) := by omega
            have HV0 : Hid (InS w wr gs L (mixL s ws L Y (Y - R)) ∧ wr.heap[kb]? = some (.cells #[.int .i64 F, .int .i64 T] 57)) := by
              refine ⟨?_, hV.out.2⟩
              rw [mixL_start (by right; have := H.out.2.2.2.1; have := HRm.out; omega)]
              exact hV.out.1
            go_wp2
            clear t1
            go_loopw [12] (fun i wv => ∃ x : Nat, x ≤ L ∧ (Y : Int) ≤ (x : Int) + (R : Int) ∧ i = .int .i64 x ∧ Hid (InS w wv gs L (mixL s ws L Y x) ∧ wv.heap[kb]? = some (.cells #[.int .i64 F, .int .i64 T] 57))) (fun i _ => L - (intOf i).toNat)
            case atStart => exact ⟨Y - R, by omega, by omega, by rw [hs0], HV0.out⟩
            case round =>
              clear hV HV0
              obtain ⟨x, hxl, hxR, rfl, hW⟩ := hrel
              by_cases hc : (Y : Int) + (R : Int) < (L : Int) - 1
              · by_cases hx : (x : Int) ≤ (Y : Int) + (R : Int)
                ·
                  skip
                  have hxL : x < L := by omega
                  have hxY : (x : Int) ≤ (Y : Int) + (R : Int) := by omega
                  obtain ⟨q, hq⟩ : ∃ q, q = ((x : Int) - (Y : Int)).natAbs := ⟨_, rfl⟩
                  have hqm : q < m := by have := HRm.out; omega
                  obtain ⟨P, hP⟩ : ∃ P, P = psum s ws x Y := ⟨_, rfl⟩
                  have hPb : 0 ≤ P ∧ P ≤ 60000 := by rw [hP]; have := psum_bd (ls := s) H.out.2.2.2.2.1 x Y; omega
                  obtain ⟨X, hX⟩ : ∃ X, X = ws.getD q 0 := ⟨_, rfl⟩
                  have hXb : 0 ≤ X ∧ X ≤ 1000 := by rw [hX]; exact H.out.2.2.2.2.1.at q
                  obtain ⟨gw, ow, haw, hgw, hxw⟩ := rd_at (H.out.2.1.below hW.out.1.bl) hqm
                  subst haw
                  rw [← hX] at hxw
                  have HA : Hid (∀ W, Calls Try.prog 54 #[.int .i64 ((x : Int) - (Y : Int))] W fun e w' => e = .returned (.int .i64 (q : Nat)) ∧ w' = W) := fun W => by rw [hq]; exact impl_size _ (by omega) (by omega) W
                  obtain ⟨hcc, hcf⟩ := hW.out.1.at hxL
                  rw [mixL_at hxL, ← hP] at hcc
                  have HV : Hid (P + X = psum s ws x Y + wtA ws x Y) := by unfold Hid wtA; rw [hP, hX, hq]
                  have HN : Hid (InS w (wr.drew.setCell ⟨gs, x, none⟩ (.int .i64 (P + X))) gs L (mixL s ws L Y (x + 1)) ∧ (wr.drew.setCell ⟨gs, x, none⟩ (.int .i64 (P + X))).heap[kb]? = some (.cells #[.int .i64 F, .int .i64 T] 57)) := by
                    refine ⟨?_, ?_⟩
                    · have := (hW.out.1.next ((Below.refl _ _).drew)).set x (P + X)
                      rw [HV.out, mixL_set hxL (hHas Y (by omega) (by omega))] at this
                      rw [HV.out]; exact this
                    · rw [heap_setCell_other _ _ _ _ (by simpa using hkg)]
                      exact hW.out.2
                  have e1 : IntKind.i64.wrap ((x : Int) - (Y : Int)) = (x : Int) - (Y : Int) := by rw [IntKind.wrap_i64]; omega
                  have e2 : IntKind.i64.wrap (P + X) = P + X := by rw [IntKind.wrap_i64]; omega
                  have bq0 : (0 : Int) ≤ (q : Int) := by omega
                  have bq1 : (q : Int) < (m : Int) := by omega
                  have bx0 : (0 : Int) ≤ (x : Int) := by omega
                  have bx1 : (x : Int) < (L : Int) := by omega
                  have hgwr := hgw
                  clear hP hX hq hW
                  go_wp2_with (fail)
                  refine wp_region_still_tail 13 (by kernel_rfl) (by kernel_rfl) ?_
                  have hdw : ({ wr with drawn := wr.drawn + 1 } : World) = wr.drew := rfl
                  rw [hdw]
                  clear hdw
                  simp only [List.take_succ_cons, List.take_zero, List.drop_succ_cons, List.drop_zero]
                  iterate 8 still_step
                  still_call (HA.out _)
                  iterate 4 still_step
                  refine wpStill_nil ?_
                  go_wp2
                  go_roundw
                  case rel => exact ⟨x + 1, by omega, by omega, by go_num, HN.out⟩
                  case measure => simp [intOf]; omega
                ·
                  skip
                  have HN : Hid (InS w wr gs L (psL s ws L (Y + 1)) ∧ wr.heap[kb]? = some (.cells #[.int .i64 F, .int .i64 T] 57)) := by
                    refine ⟨?_, hW.out.2⟩
                    have := hW.out.1
                    rw [mixL_end (by have := H.out.2.2.2.1; have := HRm.out; omega)] at this
                    exact this
                  clear hW
                  go_wp2
                  go_roundw
                  case rel => exact ⟨Y + 1, by omega, by omega, by go_num, HN.out⟩
                  case measure => simp [intOf]; omega
              · by_cases hx : (x : Int) ≤ (L : Int) - 1
                ·
                  skip
                  have hxL : x < L := by omega
                  have hxY : (x : Int) ≤ (Y : Int) + (R : Int) := by omega
                  obtain ⟨q, hq⟩ : ∃ q, q = ((x : Int) - (Y : Int)).natAbs := ⟨_, rfl⟩
                  have hqm : q < m := by have := HRm.out; omega
                  obtain ⟨P, hP⟩ : ∃ P, P = psum s ws x Y := ⟨_, rfl⟩
                  have hPb : 0 ≤ P ∧ P ≤ 60000 := by rw [hP]; have := psum_bd (ls := s) H.out.2.2.2.2.1 x Y; omega
                  obtain ⟨X, hX⟩ : ∃ X, X = ws.getD q 0 := ⟨_, rfl⟩
                  have hXb : 0 ≤ X ∧ X ≤ 1000 := by rw [hX]; exact H.out.2.2.2.2.1.at q
                  obtain ⟨gw, ow, haw, hgw, hxw⟩ := rd_at (H.out.2.1.below hW.out.1.bl) hqm
                  subst haw
                  rw [← hX] at hxw
                  have HA : Hid (∀ W, Calls Try.prog 54 #[.int .i64 ((x : Int) - (Y : Int))] W fun e w' => e = .returned (.int .i64 (q : Nat)) ∧ w' = W) := fun W => by rw [hq]; exact impl_size _ (by omega) (by omega) W
                  obtain ⟨hcc, hcf⟩ := hW.out.1.at hxL
                  rw [mixL_at hxL, ← hP] at hcc
                  have HV : Hid (P + X = psum s ws x Y + wtA ws x Y) := by unfold Hid wtA; rw [hP, hX, hq]
                  have HN : Hid (InS w (wr.drew.setCell ⟨gs, x, none⟩ (.int .i64 (P + X))) gs L (mixL s ws L Y (x + 1)) ∧ (wr.drew.setCell ⟨gs, x, none⟩ (.int .i64 (P + X))).heap[kb]? = some (.cells #[.int .i64 F, .int .i64 T] 57)) := by
                    refine ⟨?_, ?_⟩
                    · have := (hW.out.1.next ((Below.refl _ _).drew)).set x (P + X)
                      rw [HV.out, mixL_set hxL (hHas Y (by omega) (by omega))] at this
                      rw [HV.out]; exact this
                    · rw [heap_setCell_other _ _ _ _ (by simpa using hkg)]
                      exact hW.out.2
                  have e1 : IntKind.i64.wrap ((x : Int) - (Y : Int)) = (x : Int) - (Y : Int) := by rw [IntKind.wrap_i64]; omega
                  have e2 : IntKind.i64.wrap (P + X) = P + X := by rw [IntKind.wrap_i64]; omega
                  have bq0 : (0 : Int) ≤ (q : Int) := by omega
                  have bq1 : (q : Int) < (m : Int) := by omega
                  have bx0 : (0 : Int) ≤ (x : Int) := by omega
                  have bx1 : (x : Int) < (L : Int) := by omega
                  have hgwr := hgw
                  clear hP hX hq hW
                  go_wp2_with (fail)
                  refine wp_region_still_tail 13 (by kernel_rfl) (by kernel_rfl) ?_
                  have hdw : ({ wr with drawn := wr.drawn + 1 } : World) = wr.drew := rfl
                  rw [hdw]
                  clear hdw
                  simp only [List.take_succ_cons, List.take_zero, List.drop_succ_cons, List.drop_zero]
                  iterate 8 still_step
                  still_call (HA.out _)
                  iterate 4 still_step
                  refine wpStill_nil ?_
                  go_wp2
                  go_roundw
                  case rel => exact ⟨x + 1, by omega, by omega, by go_num, HN.out⟩
                  case measure => simp [intOf]; omega
                ·
                  skip
                  have HN : Hid (InS w wr gs L (psL s ws L (Y + 1)) ∧ wr.heap[kb]? = some (.cells #[.int .i64 F, .int .i64 T] 57)) := by
                    refine ⟨?_, hW.out.2⟩
                    have := hW.out.1
                    rw [mixL_end (by have := H.out.2.2.2.1; have := HRm.out; omega)] at this
                    exact this
                  clear hW
                  go_wp2
                  go_roundw
                  case rel => exact ⟨Y + 1, by omega, by omega, by go_num, HN.out⟩
                  case measure => simp [intOf]; omega
          · have HV0 : Hid (InS w wr gs L (mixL s ws L Y 0) ∧ wr.heap[kb]? = some (.cells #[.int .i64 F, .int .i64 T] 57)) := by
              refine ⟨?_, hV.out.2⟩
              rw [mixL_start (Or.inl rfl)]
              exact hV.out.1
            go_wp2
            clear t1
            go_loopw [12] (fun i wv => ∃ x : Nat, x ≤ L ∧ (Y : Int) ≤ (x : Int) + (R : Int) ∧ i = .int .i64 x ∧ Hid (InS w wv gs L (mixL s ws L Y x) ∧ wv.heap[kb]? = some (.cells #[.int .i64 F, .int .i64 T] 57))) (fun i _ => L - (intOf i).toNat)
            case atStart => exact ⟨0, Nat.zero_le _, by omega, rfl, HV0.out⟩
            case round =>
              clear hV HV0
              obtain ⟨x, hxl, hxR, rfl, hW⟩ := hrel
              by_cases hc : (Y : Int) + (R : Int) < (L : Int) - 1
              · by_cases hx : (x : Int) ≤ (Y : Int) + (R : Int)
                ·
                  skip
                  have hxL : x < L := by omega
                  have hxY : (x : Int) ≤ (Y : Int) + (R : Int) := by omega
                  obtain ⟨q, hq⟩ : ∃ q, q = ((x : Int) - (Y : Int)).natAbs := ⟨_, rfl⟩
                  have hqm : q < m := by have := HRm.out; omega
                  obtain ⟨P, hP⟩ : ∃ P, P = psum s ws x Y := ⟨_, rfl⟩
                  have hPb : 0 ≤ P ∧ P ≤ 60000 := by rw [hP]; have := psum_bd (ls := s) H.out.2.2.2.2.1 x Y; omega
                  obtain ⟨X, hX⟩ : ∃ X, X = ws.getD q 0 := ⟨_, rfl⟩
                  have hXb : 0 ≤ X ∧ X ≤ 1000 := by rw [hX]; exact H.out.2.2.2.2.1.at q
                  obtain ⟨gw, ow, haw, hgw, hxw⟩ := rd_at (H.out.2.1.below hW.out.1.bl) hqm
                  subst haw
                  rw [← hX] at hxw
                  have HA : Hid (∀ W, Calls Try.prog 54 #[.int .i64 ((x : Int) - (Y : Int))] W fun e w' => e = .returned (.int .i64 (q : Nat)) ∧ w' = W) := fun W => by rw [hq]; exact impl_size _ (by omega) (by omega) W
                  obtain ⟨hcc, hcf⟩ := hW.out.1.at hxL
                  rw [mixL_at hxL, ← hP] at hcc
                  have HV : Hid (P + X = psum s ws x Y + wtA ws x Y) := by unfold Hid wtA; rw [hP, hX, hq]
                  have HN : Hid (InS w (wr.drew.setCell ⟨gs, x, none⟩ (.int .i64 (P + X))) gs L (mixL s ws L Y (x + 1)) ∧ (wr.drew.setCell ⟨gs, x, none⟩ (.int .i64 (P + X))).heap[kb]? = some (.cells #[.int .i64 F, .int .i64 T] 57)) := by
                    refine ⟨?_, ?_⟩
                    · have := (hW.out.1.next ((Below.refl _ _).drew)).set x (P + X)
                      rw [HV.out, mixL_set hxL (hHas Y (by omega) (by omega))] at this
                      rw [HV.out]; exact this
                    · rw [heap_setCell_other _ _ _ _ (by simpa using hkg)]
                      exact hW.out.2
                  have e1 : IntKind.i64.wrap ((x : Int) - (Y : Int)) = (x : Int) - (Y : Int) := by rw [IntKind.wrap_i64]; omega
                  have e2 : IntKind.i64.wrap (P + X) = P + X := by rw [IntKind.wrap_i64]; omega
                  have bq0 : (0 : Int) ≤ (q : Int) := by omega
                  have bq1 : (q : Int) < (m : Int) := by omega
                  have bx0 : (0 : Int) ≤ (x : Int) := by omega
                  have bx1 : (x : Int) < (L : Int) := by omega
                  have hgwr := hgw
                  clear hP hX hq hW
                  go_wp2_with (fail)
                  refine wp_region_still_tail 13 (by kernel_rfl) (by kernel_rfl) ?_
                  have hdw : ({ wr with drawn := wr.drawn + 1 } : World) = wr.drew := rfl
                  rw [hdw]
                  clear hdw
                  simp only [List.take_succ_cons, List.take_zero, List.drop_succ_cons, List.drop_zero]
                  iterate 8 still_step
                  still_call (HA.out _)
                  iterate 4 still_step
                  refine wpStill_nil ?_
                  go_wp2
                  go_roundw
                  case rel => exact ⟨x + 1, by omega, by omega, by go_num, HN.out⟩
                  case measure => simp [intOf]; omega
                ·
                  skip
                  have HN : Hid (InS w wr gs L (psL s ws L (Y + 1)) ∧ wr.heap[kb]? = some (.cells #[.int .i64 F, .int .i64 T] 57)) := by
                    refine ⟨?_, hW.out.2⟩
                    have := hW.out.1
                    rw [mixL_end (by have := H.out.2.2.2.1; have := HRm.out; omega)] at this
                    exact this
                  clear hW
                  go_wp2
                  go_roundw
                  case rel => exact ⟨Y + 1, by omega, by omega, by go_num, HN.out⟩
                  case measure => simp [intOf]; omega
              · by_cases hx : (x : Int) ≤ (L : Int) - 1
                ·
                  skip
                  have hxL : x < L := by omega
                  have hxY : (x : Int) ≤ (Y : Int) + (R : Int) := by omega
                  obtain ⟨q, hq⟩ : ∃ q, q = ((x : Int) - (Y : Int)).natAbs := ⟨_, rfl⟩
                  have hqm : q < m := by have := HRm.out; omega
                  obtain ⟨P, hP⟩ : ∃ P, P = psum s ws x Y := ⟨_, rfl⟩
                  have hPb : 0 ≤ P ∧ P ≤ 60000 := by rw [hP]; have := psum_bd (ls := s) H.out.2.2.2.2.1 x Y; omega
                  obtain ⟨X, hX⟩ : ∃ X, X = ws.getD q 0 := ⟨_, rfl⟩
                  have hXb : 0 ≤ X ∧ X ≤ 1000 := by rw [hX]; exact H.out.2.2.2.2.1.at q
                  obtain ⟨gw, ow, haw, hgw, hxw⟩ := rd_at (H.out.2.1.below hW.out.1.bl) hqm
                  subst haw
                  rw [← hX] at hxw
                  have HA : Hid (∀ W, Calls Try.prog 54 #[.int .i64 ((x : Int) - (Y : Int))] W fun e w' => e = .returned (.int .i64 (q : Nat)) ∧ w' = W) := fun W => by rw [hq]; exact impl_size _ (by omega) (by omega) W
                  obtain ⟨hcc, hcf⟩ := hW.out.1.at hxL
                  rw [mixL_at hxL, ← hP] at hcc
                  have HV : Hid (P + X = psum s ws x Y + wtA ws x Y) := by unfold Hid wtA; rw [hP, hX, hq]
                  have HN : Hid (InS w (wr.drew.setCell ⟨gs, x, none⟩ (.int .i64 (P + X))) gs L (mixL s ws L Y (x + 1)) ∧ (wr.drew.setCell ⟨gs, x, none⟩ (.int .i64 (P + X))).heap[kb]? = some (.cells #[.int .i64 F, .int .i64 T] 57)) := by
                    refine ⟨?_, ?_⟩
                    · have := (hW.out.1.next ((Below.refl _ _).drew)).set x (P + X)
                      rw [HV.out, mixL_set hxL (hHas Y (by omega) (by omega))] at this
                      rw [HV.out]; exact this
                    · rw [heap_setCell_other _ _ _ _ (by simpa using hkg)]
                      exact hW.out.2
                  have e1 : IntKind.i64.wrap ((x : Int) - (Y : Int)) = (x : Int) - (Y : Int) := by rw [IntKind.wrap_i64]; omega
                  have e2 : IntKind.i64.wrap (P + X) = P + X := by rw [IntKind.wrap_i64]; omega
                  have bq0 : (0 : Int) ≤ (q : Int) := by omega
                  have bq1 : (q : Int) < (m : Int) := by omega
                  have bx0 : (0 : Int) ≤ (x : Int) := by omega
                  have bx1 : (x : Int) < (L : Int) := by omega
                  have hgwr := hgw
                  clear hP hX hq hW
                  go_wp2_with (fail)
                  refine wp_region_still_tail 13 (by kernel_rfl) (by kernel_rfl) ?_
                  have hdw : ({ wr with drawn := wr.drawn + 1 } : World) = wr.drew := rfl
                  rw [hdw]
                  clear hdw
                  simp only [List.take_succ_cons, List.take_zero, List.drop_succ_cons, List.drop_zero]
                  iterate 8 still_step
                  still_call (HA.out _)
                  iterate 4 still_step
                  refine wpStill_nil ?_
                  go_wp2
                  go_roundw
                  case rel => exact ⟨x + 1, by omega, by omega, by go_num, HN.out⟩
                  case measure => simp [intOf]; omega
                ·
                  skip
                  have HN : Hid (InS w wr gs L (psL s ws L (Y + 1)) ∧ wr.heap[kb]? = some (.cells #[.int .i64 F, .int .i64 T] 57)) := by
                    refine ⟨?_, hW.out.2⟩
                    have := hW.out.1
                    rw [mixL_end (by have := H.out.2.2.2.1; have := HRm.out; omega)] at this
                    exact this
                  clear hW
                  go_wp2
                  go_roundw
                  case rel => exact ⟨Y + 1, by omega, by omega, by go_num, HN.out⟩
                  case measure => simp [intOf]; omega
        · have by1 : ¬ (Y : Int) < (T : Int) := by omega
          have HE : Hid (InS w wr gs L (psL s ws L T) ∧ Stand s (L : Int) (k + 1) T) := by
            obtain rfl : Y = T := by omega
            exact ⟨hV.out.1, HST.out⟩
          clear hV
          go_wp2
          go_roundw
          case rel => exact ⟨k + 1, by omega, by go_num, T, HE.out⟩
          case measure => simp [intOf]; omega
    · have bk1 : ¬ (k : Int) < (n : Int) := by omega
      have HE : Hid (InS w wr gs L (sumsK s ws L)) := by
        obtain ⟨A, hIn, hSt⟩ := hR.out
        unfold Hid sumsK
        rw [psL_gap (A := A) (by have := hSt.le; omega) (fun y h1 _ => hSt.done (by rw [← H.out.2.2.1]; omega) y h1)]
        exact hIn
      clear hR
      go_wp2
      go_returns
      exact ⟨_, rfl, HE.out.su, HE.out.bl⟩

end Go.Proofs.Ytfjcebgknpccbab
