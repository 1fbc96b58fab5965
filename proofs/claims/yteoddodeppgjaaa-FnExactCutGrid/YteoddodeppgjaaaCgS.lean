/- Proved here: CutGrid and OpenAt of the model. -/
import Derived.Test.YteoddodeppgjaaaCpS
import Derived.Test.YteoddodeppgjaaaGfS
import Derived.Test.YteoddodeppgjaaaCgM
import Derived.Test.YteoddodeppgjaaaReg
namespace Go.Proofs.Yteoddodeppgjaaa
open Go.RowKit
set_option linter.unusedVariables false
set_option linter.unusedSimpArgs false

set_option maxHeartbeats 800000 in
theorem spec_flag (b : Bool) (w : World) : Calls Try.prog 37 #[.bool b] w fun e w' => e = .returned (.int .i64 (if b = true then 1 else 0)) ∧ w' = w := by
  cases b with
  | true =>
    go_enter Try.func37, Try.ntmps37
    go_wp2
    go_returns
    exact ⟨rfl, rfl⟩
  | false =>
    go_enter Try.func37, Try.ntmps37
    go_wp2
    go_returns
    exact ⟨rfl, rfl⟩

set_option maxRecDepth 10000 in
set_option maxHeartbeats 12800000 in
theorem spec_cg (lv : Int) {w : World} {v : Value} {ls : List (List Int)} (hn : SmR ls) (h : RdR w v ls) :
    Calls Try.prog 17 #[v, .int .i64 lv] w fun e w' => ∃ v' vs, e = .returned (.agg #[.int .i64 (gfC ls 1000000), v']) ∧ RI w' w.heap.size v' (cgL ls lv) vs ∧ Below w.heap.size w w' := by
  obtain ⟨a, c, rfl⟩ := h.form
  obtain ⟨n, hnn⟩ : ∃ n, n = ls.length := ⟨_, rfl⟩
  obtain ⟨C, hC⟩ : ∃ C, C = gfC ls 1000000 := ⟨_, rfl⟩
  rw [← hnn] at h ⊢
  rw [← hC]
  have HF : Hid (∀ W, Below w.heap.size w W → Calls Try.prog 10 #[.slice a n c] W fun e w' => e = .returned (.int .i64 C) ∧ Below W.heap.size W w') := fun W hW => by rw [hC]; exact spec_gf hn (h.below hW)
  have H : Hid (RdR w (.slice a n c) ls ∧ n = ls.length ∧ C = gfC ls 1000000 ∧ cgL ls lv = (if C = 0 then tnL (cgT lv) ls else [])) := ⟨h, hnn, hC, by rw [hC]; rfl⟩
  have HO : Hid (∀ (b : Bool) (W : World), Calls Try.prog 37 #[.bool b] W fun e w' => e = .returned (.int .i64 (if b = true then 1 else 0)) ∧ w' = W) := spec_flag
  clear h hn hC hnn
  go_enter Try.func17, Try.ntmps17
  go_wp2_with (fail)
  refine (HF.out _ (by (repeat' (first | (with_reducible exact Below.refl _ _) | (with_reducible assumption) | (with_reducible refine Below.setCell ?_ ?_ _) | (with_reducible refine Below.alloc ?_ ?_ _) | (with_reducible refine below_drewN ?_ _) | (with_reducible refine Below.drew ?_) | (with_reducible exact Nat.le_refl _) | omega | (simp; done) | (simp; omega))))).mono ?_
  rintro e w1 ⟨rfl, hb1⟩
  have HB : Hid (w1.heap[w.heap.size]? = some (.cells #[.int .i64 0, .slice none 0 0] 33) ∧ Below w.heap.size w w1 ∧ w.heap.size < w1.heap.size) := by
    have k2 := (hb1.block w.heap.size (by simp)).trans (heap_alloc_new w (.cells #[.int .i64 0, .slice none 0 0] 33))
    exact ⟨k2, (show Below w.heap.size w _ from by (repeat' (first | (with_reducible exact Below.refl _ _) | (with_reducible assumption) | (with_reducible refine Below.setCell ?_ ?_ _) | (with_reducible refine Below.alloc ?_ ?_ _) | (with_reducible refine below_drewN ?_ _) | (with_reducible refine Below.drew ?_) | (with_reducible exact Nat.le_refl _) | omega | (simp; done) | (simp; omega)))).trans (hb1.mono (by simp)), ltOf k2⟩
  clear HF hb1
  by_cases hA0 : C = 0
  case neg =>
    obtain ⟨q0, q1, qf0, qf1, ql⟩ := two_of HB.out.1
    have HV : Hid (cgL ls lv = []) := by unfold Hid; rw [H.out.2.2.2, if_neg hA0]
    have hA1 : (C != 0) = true := by simpa using hA0
    go_wp2
    try simp only [Exit.inBlock, Exit.then]
    refine bodyPost_ret (by simp [results, Try.results17, go_sem, q0, q1, ql]; try rfl) rfl ⟨.slice none 0 0, [], rfl, ?_, ?_⟩
    · rw [HV.out]; exact RI.nil _ _
    · have hB := HB.out.2.1
      (repeat' (first | (with_reducible exact Below.refl _ _) | (with_reducible assumption) | (with_reducible refine Below.setCell ?_ ?_ _) | (with_reducible refine Below.alloc ?_ ?_ _) | (with_reducible refine below_drewN ?_ _) | (with_reducible refine Below.drew ?_) | (with_reducible exact Nat.le_refl _) | omega | (simp; done) | (simp; omega)))
  have hG := gfC_good (H.out.2.2.1.symm.trans hA0)
  obtain ⟨wd, hwd⟩ : ∃ n, n = (ls.getD 0 []).length := ⟨_, rfl⟩
  have HG : Hid (GG 1000000 ls ∧ n = ls.length ∧ Sh n wd ls ∧ cgL ls lv = tnL (cgT lv) ls ∧ RdR w1 (.slice a n c) ls) := ⟨hG, H.out.2.1, by rw [H.out.2.1, hwd]; exact hG.sh, by rw [H.out.2.2.2, if_pos hA0], H.out.1.below HB.out.2.1⟩
  have hn16 : n ≤ 16 := by rw [H.out.2.1]; exact hG.h1
  have hn0 : 0 < n := by rw [H.out.2.1]; exact hG.h0
  have hw16 : wd ≤ 16 := by rw [hwd]; exact hG.w1
  have hw0 : 0 < wd := by rw [hwd]; exact hG.w0
  have HCP : Hid (Calls Try.prog 36 #[.slice a n c] w1 fun e w' => ∃ v' vs, e = .returned v' ∧ RI w' w1.heap.size v' ls vs ∧ Below w1.heap.size w1 w') := spec_copy hG HG.out.2.2.2.2
  clear H hG hwd
  subst hA0
  go_wp2_with (fail)
  refine HCP.out.mono ?_
  rintro e w2 ⟨v2, vs, rfl, hri, hb2⟩
  obtain ⟨g, oc, rfl, _, _, _⟩ := hri.pos (by rw [← HG.out.2.1]; exact hn0)
  rw [← HG.out.2.1] at hri ⊢
  have HS : Hid (GV w2 w1.heap.size g n oc wd ls vs ∧ Below w1.heap.size w1 w2) := ⟨⟨hri, HG.out.2.2.1, hw0⟩, hb2⟩
  clear hri hb2 HCP
  go_wp2
  go_loopw [7] (fun i wr => ∃ (k : Nat), k ≤ n ∧ i = .int .i64 k ∧ Hid (∃ L, GV wr w1.heap.size g n oc wd L vs ∧ (∀ j m, j < n → m < wd → at2 L j m = if j < k then cgT lv (at2 ls j m) else at2 ls j m) ∧ Below w1.heap.size w1 wr)) (fun i _ => n - (intOf i).toNat)
  case atStart => exact ⟨0, Nat.zero_le _, rfl, ls, HS.out.1, fun j m _ _ => by rw [if_neg (by omega)], HS.out.2⟩
  case round =>
    clear HS
    obtain ⟨k, hk, rfl, hR⟩ := hrel
    by_cases hlt : k < n
    · have HR : Hid (∃ L, GV wr w1.heap.size g n oc wd L vs ∧ (∀ j m, j < n → m < wd → at2 L j m = if j < k ∨ (j = k ∧ m < 0) then cgT lv (at2 ls j m) else at2 ls j m) ∧ Below w1.heap.size w1 wr) := by
        obtain ⟨L, hGV, hL, hbl⟩ := hR.out
        exact ⟨L, hGV, fun j m hj hm => by rw [hL j m hj hm]; by_cases e : j < k <;> simp [e], hbl⟩
      clear hR
      have b0 : (0 : Int) ≤ (k : Int) := by omega
      have b1 : (k : Int) < (n : Int) := by omega
      go_wp2
      go_loopw [8] (fun i wr => ∃ (q : Nat), q ≤ wd ∧ i = .int .i64 q ∧ Hid (∃ L, GV wr w1.heap.size g n oc wd L vs ∧ (∀ j m, j < n → m < wd → at2 L j m = if j < k ∨ (j = k ∧ m < q) then cgT lv (at2 ls j m) else at2 ls j m) ∧ Below w1.heap.size w1 wr)) (fun i _ => wd - (intOf i).toNat)
      case atStart => exact ⟨0, Nat.zero_le _, rfl, HR.out⟩
      case round =>
        clear HR
        obtain ⟨q, hq, rfl, hR⟩ := hrel
        obtain ⟨L, hGV, hL, hbl⟩ := hR.out
        obtain ⟨gk, ck, hrk, c0, hgl, hgkl, hBk, hBg, hne, hcells⟩ := hGV.at hlt
        by_cases hlt2 : q < wd
        · obtain ⟨ag, ao, ra, rn, rc, rfl, hag, a0, hrn, hrd⟩ := (HG.out.2.2.2.2.below hbl).at hlt
          rw [HG.out.2.2.1.wd k hlt] at hrn
          subst hrn
          obtain ⟨rg, ro, rfl, hrg, r0⟩ := rd_at hrd hlt2
          obtain ⟨d0, d1⟩ := hcells q hlt2
          obtain ⟨x, hx⟩ : ∃ x, x = (ls.getD k []).getD q 0 := ⟨_, rfl⟩
          rw [← hx] at r0
          have HX : Hid (x = at2 ls k q) := hx
          have HS : Hid (rat vs k = .slice (some ⟨gk, 0, none⟩) rn ck ∧ GV wr w1.heap.size g n oc rn L vs ∧ (∀ j m, j < n → m < rn → at2 L j m = if j < k ∨ (j = k ∧ m < q) then cgT lv (at2 ls j m) else at2 ls j m) ∧ Below w1.heap.size w1 wr) := ⟨hrk, hGV, hL, hbl⟩
          clear hrd hx hcells hR hrk hGV hL hbl hBk hBg hne
          have b2 : (0 : Int) ≤ (q : Int) := by omega
          have b3 : (q : Int) < (rn : Int) := by omega
          go_wp2_with (fail)
          refine wp_region_holdsA (S := fun w' => w'.cell? ⟨g, k, none⟩ = some (.slice (some ⟨gk, 0, none⟩) rn ck) ∧ w'.cell? ⟨ag, ao + k, none⟩ = some (.slice (some ⟨rg, ro, none⟩) rn rc) ∧ w'.cell? ⟨rg, ro + q, none⟩ = some (.int .i64 x)) (by kernel_rfl) ⟨c0, a0, r0⟩ (fun hS => ?_)
          refine fl_takeA (i := 0) (d := 32) (v := .slice (some ⟨g, 0, none⟩) n oc) rfl rfl rfl (by kernel_rfl) (by kernel_rfl) (by kernel_rfl) hS ?_ ?_
          · intro w' hk; obtain ⟨hk0, hk1, hk2⟩ := hk; go_simp
          simp only [Act.put, List.setIfInBounds_toArray, List.set_cons_zero, List.set_cons_succ]
          refine fl_takeA (i := 1) (d := 33) (v := .int .i64 k) rfl rfl rfl (by kernel_rfl) (by kernel_rfl) (by kernel_rfl) hS ?_ ?_
          · intro w' hk; obtain ⟨hk0, hk1, hk2⟩ := hk; go_simp
          simp only [Act.put, List.setIfInBounds_toArray, List.set_cons_zero, List.set_cons_succ]
          refine fl_takeA (i := 2) (d := 34) (v := .pointer (some ⟨g, k, none⟩)) rfl rfl rfl (by kernel_rfl) (by kernel_rfl) (by kernel_rfl) hS ?_ ?_
          · intro w' hk; obtain ⟨hk0, hk1, hk2⟩ := hk; go_simp
          simp only [Act.put, List.setIfInBounds_toArray, List.set_cons_zero, List.set_cons_succ]
          refine fl_takeA (i := 3) (d := 35) (v := .slice (some ⟨gk, 0, none⟩) rn ck) rfl rfl rfl (by kernel_rfl) (by kernel_rfl) (by kernel_rfl) hS ?_ ?_
          · intro w' hk; obtain ⟨hk0, hk1, hk2⟩ := hk; go_simp
          simp only [Act.put, List.setIfInBounds_toArray, List.set_cons_zero, List.set_cons_succ]
          refine fl_takeA (i := 4) (d := 36) (v := .int .i64 q) rfl rfl rfl (by kernel_rfl) (by kernel_rfl) (by kernel_rfl) hS ?_ ?_
          · intro w' hk; obtain ⟨hk0, hk1, hk2⟩ := hk; go_simp
          simp only [Act.put, List.setIfInBounds_toArray, List.set_cons_zero, List.set_cons_succ]
          refine fl_takeA (i := 5) (d := 37) (v := .slice (some ⟨ag, ao, none⟩) n c) rfl rfl rfl (by kernel_rfl) (by kernel_rfl) (by kernel_rfl) hS ?_ ?_
          · intro w' hk; obtain ⟨hk0, hk1, hk2⟩ := hk; go_simp
          simp only [Act.put, List.setIfInBounds_toArray, List.set_cons_zero, List.set_cons_succ]
          refine fl_takeA (i := 6) (d := 38) (v := .int .i64 k) rfl rfl rfl (by kernel_rfl) (by kernel_rfl) (by kernel_rfl) hS ?_ ?_
          · intro w' hk; obtain ⟨hk0, hk1, hk2⟩ := hk; go_simp
          simp only [Act.put, List.setIfInBounds_toArray, List.set_cons_zero, List.set_cons_succ]
          refine fl_takeA (i := 7) (d := 39) (v := .pointer (some ⟨ag, ao + k, none⟩)) rfl rfl rfl (by kernel_rfl) (by kernel_rfl) (by kernel_rfl) hS ?_ ?_
          · intro w' hk; obtain ⟨hk0, hk1, hk2⟩ := hk; go_simp
          simp only [Act.put, List.setIfInBounds_toArray, List.set_cons_zero, List.set_cons_succ]
          refine fl_takeA (i := 8) (d := 40) (v := .slice (some ⟨rg, ro, none⟩) rn rc) rfl rfl rfl (by kernel_rfl) (by kernel_rfl) (by kernel_rfl) hS ?_ ?_
          · intro w' hk; obtain ⟨hk0, hk1, hk2⟩ := hk; go_simp
          simp only [Act.put, List.setIfInBounds_toArray, List.set_cons_zero, List.set_cons_succ]
          refine fl_takeA (i := 9) (d := 41) (v := .int .i64 q) rfl rfl rfl (by kernel_rfl) (by kernel_rfl) (by kernel_rfl) hS ?_ ?_
          · intro w' hk; obtain ⟨hk0, hk1, hk2⟩ := hk; go_simp
          simp only [Act.put, List.setIfInBounds_toArray, List.set_cons_zero, List.set_cons_succ]
          refine fl_takeA (i := 10) (d := 42) (v := .pointer (some ⟨rg, ro + q, none⟩)) rfl rfl rfl (by kernel_rfl) (by kernel_rfl) (by kernel_rfl) hS ?_ ?_
          · intro w' hk; obtain ⟨hk0, hk1, hk2⟩ := hk; go_simp
          simp only [Act.put, List.setIfInBounds_toArray, List.set_cons_zero, List.set_cons_succ]
          refine fl_takeA (i := 11) (d := 43) (v := .int .i64 x) rfl rfl rfl (by kernel_rfl) (by kernel_rfl) (by kernel_rfl) hS ?_ ?_
          · intro w' hk; obtain ⟨hk0, hk1, hk2⟩ := hk; go_simp
          simp only [Act.put, List.setIfInBounds_toArray, List.set_cons_zero, List.set_cons_succ]
          refine fl_takeA (i := 12) (d := 44) (v := .int .i64 lv) rfl rfl rfl (by kernel_rfl) (by kernel_rfl) (by kernel_rfl) hS ?_ ?_
          · intro w' hk; obtain ⟨hk0, hk1, hk2⟩ := hk; go_simp
          simp only [Act.put, List.setIfInBounds_toArray, List.set_cons_zero, List.set_cons_succ]
          refine fl_takeA (i := 13) (d := 45) (v := .bool (decide (lv ≤ x))) rfl rfl rfl (by kernel_rfl) (by kernel_rfl) (by kernel_rfl) hS ?_ ?_
          · intro w' hk; obtain ⟨hk0, hk1, hk2⟩ := hk; go_simp
          simp only [Act.put, List.setIfInBounds_toArray, List.set_cons_zero, List.set_cons_succ]
          refine wpAnyH_all (rs := [14]) (by kernel_rfl) (by simp) ?_
          intro i hi; obtain rfl := List.mem_singleton.1 hi; clear hi
          refine op_call (d := 46) rfl rfl rfl (by go_simp) ((HO.out (decide (lv ≤ x)) _).mono ?_)
          rintro e w5 ⟨rfl, rfl⟩
          obtain ⟨y, hy⟩ : ∃ y : Int, y = (if decide (lv ≤ x) = true then 1 else 0) := ⟨_, rfl⟩
          rw [← hy]
          have HY : Hid (y = cgT lv (at2 ls k q)) := by unfold Hid cgT; rw [hy, HX.out]; simp only [decide_eq_true_eq]
          clear hy
          refine ⟨_, rfl, hS, ?_⟩
          simp only [Act.put, List.setIfInBounds_toArray, List.set_cons_zero, List.set_cons_succ]
          refine wpAnyH_all (rs := [15]) (by kernel_rfl) (by simp) ?_
          intro i hi; obtain rfl := List.mem_singleton.1 hi; clear hi
          refine op_val (d := 47) (v := .pointer (some ⟨gk, q, none⟩)) (w' := wr.drew) rfl rfl rfl (by go_simp; try rfl) ?_
          simp only [Act.put, List.setIfInBounds_toArray, List.set_cons_zero, List.set_cons_succ]
          refine ⟨hS, wpAnyH_all (rs := [16]) (by kernel_rfl) (by simp) ?_⟩
          intro i hi; obtain rfl := List.mem_singleton.1 hi; clear hi
          have d0' : wr.drew.cell? ⟨gk, q, none⟩ = some (.int .i64 (at2 L k q)) := d0
          have d1' : wr.drew.frozen? ⟨gk, q, none⟩ = false := d1
          have hgkl' : gk < wr.drew.heap.size := hgkl
          refine op_skipN rfl rfl (w' := wr.drew.setCell ⟨gk, q, none⟩ (.int .i64 y)) (by go_simp; try rfl) ?_
          have HD : Hid (GV wr.drew w1.heap.size g n oc rn L vs ∧ Below w1.heap.size w1 wr.drew) := ⟨HS.out.2.1.below (Below.refl _ _).drew, HS.out.2.2.2.drew⟩
          have HP : Hid (∃ L, GV (wr.drew.setCell ⟨gk, q, none⟩ (.int .i64 y)) w1.heap.size g n oc rn L vs ∧ (∀ j m, j < n → m < rn → at2 L j m = if j < k ∨ (j = k ∧ m < q + 1) then cgT lv (at2 ls j m) else at2 ls j m) ∧ Below w1.heap.size w1 (wr.drew.setCell ⟨gk, q, none⟩ (.int .i64 y))) := by
            refine ⟨set2 L k q y, HD.out.1.set hlt HS.out.1 q y, fun j m hj hm => ?_, HD.out.1.bel hlt HS.out.1 q y HD.out.2⟩
            rw [at2_set2 HD.out.1.sh hlt hlt2]
            by_cases e : j = k ∧ m = q
            · rw [if_pos e, if_pos (by omega), HY.out, e.1, e.2]
            · rw [if_neg e, HS.out.2.2.1 j m hj hm]
              by_cases e2 : j < k ∨ (j = k ∧ m < q)
              · rw [if_pos e2, if_pos (by omega)]
              · rw [if_neg e2, if_neg (by omega)]
          obtain ⟨g5, c5, hr5, e0, e1, e2, e3, e4, e5, hc5⟩ := (HD.out.1.set hlt HS.out.1 q y).at hlt
          rw [HS.out.1] at hr5
          injection hr5 with t1 t2 t3
          injection t1 with t4
          injection t4 with t5
          subst t5 t3
          have a5 : (wr.drew.setCell ⟨gk, q, none⟩ (.int .i64 y)).cell? ⟨ag, ao + k, none⟩ = some (.slice (some ⟨rg, ro, none⟩) rn rc) := by
            have hb5 : Below w1.heap.size w1 (wr.drew.setCell ⟨gk, q, none⟩ (.int .i64 y)) := HD.out.1.bel hlt HS.out.1 q y HD.out.2
            obtain ⟨ag', ao', ra', rn', rc', f1, f2, f3, _⟩ := (HG.out.2.2.2.2).at hlt
            injection f1 with f1
            injection f1 with f4 f5
            subst f4 f5
            have g0 := (hb5.cell (p := ⟨ag, ao + k, none⟩) f2)
            have g1 := (HS.out.2.2.2.cell (p := ⟨ag, ao + k, none⟩) f2)
            rw [g0, ← g1]; exact a0
          have r5 : (wr.drew.setCell ⟨gk, q, none⟩ (.int .i64 y)).cell? ⟨rg, ro + q, none⟩ = some (.int .i64 x) := by
            obtain ⟨ag', ao', ra', rn', rc', f1, f2, f3, f6, f7⟩ := (HG.out.2.2.2.2).at hlt
            injection f1 with f1
            injection f1 with f4 f5
            subst f4 f5
            have g1 := (HS.out.2.2.2.cell (p := ⟨ag, ao + k, none⟩) f2)
            rw [f3, a0] at g1
            injection g1 with g1
            injection g1 with g2 g3 g4
            subst g2
            rw [HG.out.2.2.1.wd k hlt] at f6
            obtain ⟨rg', ro', h1, h2, h3⟩ := rd_at f7 (show q < rn' by omega)
            injection h1 with h1
            injection h1 with h4 h5
            subst h4 h5
            have hb5 : Below w1.heap.size w1 (wr.drew.setCell ⟨gk, q, none⟩ (.int .i64 y)) := HD.out.1.bel hlt HS.out.1 q y HD.out.2
            rw [hb5.cell (p := ⟨rg, ro + q, none⟩) h2, h3, HX.out]; rfl
          refine ⟨⟨e0, a5, r5⟩, wpAnyH_done (by kernel_rfl) (NoPanic.normal ?_) _⟩
          generalize wr.drew.setCell ⟨gk, q, none⟩ (.int .i64 y) = V' at HP ⊢
          clear a0 r0 c0 d0 d1 d0' d1' hgkl hgkl' hgl hag hrg HS HD HX HY hS e0 e1 e2 e3 e4 e5 hc5 a5 r5 t2
          go_wp2
          go_roundw
          case rel => exact ⟨q + 1, by omega, by go_num, HP.out⟩
          case measure => simp [intOf]; omega
        · have HP : Hid (∃ L, GV wr w1.heap.size g n oc wd L vs ∧ (∀ j m, j < n → m < wd → at2 L j m = if j < k + 1 then cgT lv (at2 ls j m) else at2 ls j m) ∧ Below w1.heap.size w1 wr) := by
            refine ⟨L, hGV, fun j m hj hm => ?_, hbl⟩
            rw [hL j m hj hm]
            by_cases e : j < k + 1
            · rw [if_pos (by omega), if_pos e]
            · rw [if_neg (by omega), if_neg e]
          clear hR hGV hL hbl hrk hBk hBg hne hcells
          go_wp2
          go_roundw
          case rel => exact ⟨k + 1, by omega, by go_num, HP.out⟩
          case measure => simp [intOf]; omega
    · have HP : Hid (RI wr w1.heap.size (.slice (some ⟨g, 0, none⟩) n oc) (tnL (cgT lv) ls) vs ∧ Below w.heap.size w wr ∧ wr.heap[w.heap.size]? = some (.cells #[.int .i64 0, .slice none 0 0] 33) ∧ w.heap.size < w1.heap.size) := by
        obtain ⟨L, h1, h2, h3⟩ := hR.out
        refine ⟨?_, HB.out.2.1.trans (h3.mono HB.out.2.1.size), (h3.block _ HB.out.2.2).trans HB.out.1, HB.out.2.2⟩
        have e : L = tnL (cgT lv) ls := grid_ext h1.sh (tnL_sh HG.out.2.2.1) fun j m hj hm => by
          rw [h2 j m hj hm, if_pos (by omega), tnL_at HG.out.2.2.1 hj hm]
        rw [← e]
        exact h1.ri
      obtain ⟨q0, q1, qf0, qf1, ql⟩ := two_of HP.out.2.2.1
      clear hR
      go_wp2
      try simp only [Exit.inBlock, Exit.then]
      refine bodyPost_ret (by simp [results, Try.results17, go_sem, q0, q1, ql]; try rfl) rfl ⟨.slice (some ⟨g, 0, none⟩) n oc, vs, rfl, ?_, ?_⟩
      · rw [HG.out.2.2.2.1]
        have hs := HP.out.2.2.2
        refine RI.low (B := w1.heap.size) ?_ (by omega)
        repeat' (refine ri_result (w := w) ?_ (by omega) _ _)
        exact HP.out.1
      · have hB := HP.out.2.1
        (repeat' (first | (with_reducible exact Below.refl _ _) | (with_reducible assumption) | (with_reducible refine Below.setCell ?_ ?_ _) | (with_reducible refine Below.alloc ?_ ?_ _) | (with_reducible refine below_drewN ?_ _) | (with_reducible refine Below.drew ?_) | (with_reducible exact Nat.le_refl _) | omega | (simp; done) | (simp; omega)))

set_option maxRecDepth 10000 in
set_option maxHeartbeats 12800000 in
theorem spec_op (lv : Int) {w : World} {v : Value} {ls : List (List Int)} (hn : SmR ls) (h : RdR w v ls) :
    Calls Try.prog 28 #[v, .int .i64 lv] w fun e w' => ∃ v' vs, e = .returned (.agg #[.int .i64 (gfC ls 256000000), v']) ∧ RI w' w.heap.size v' (opL ls lv) vs ∧ Below w.heap.size w w' := by
  obtain ⟨a, c, rfl⟩ := h.form
  obtain ⟨n, hnn⟩ : ∃ n, n = ls.length := ⟨_, rfl⟩
  obtain ⟨C, hC⟩ : ∃ C, C = gfC ls 256000000 := ⟨_, rfl⟩
  rw [← hnn] at h ⊢
  rw [← hC]
  have HF : Hid (∀ W, Below w.heap.size w W → Calls Try.prog 33 #[.slice a n c, .int .i64 256000000] W fun e w' => e = .returned (.int .i64 C) ∧ Below W.heap.size W w') := fun W hW => by rw [hC]; exact spec_l9Fault 256000000 hn (h.below hW)
  have H : Hid (RdR w (.slice a n c) ls ∧ n = ls.length ∧ C = gfC ls 256000000 ∧ opL ls lv = (if C = 0 then tnL (opT lv) ls else [])) := ⟨h, hnn, hC, by rw [hC]; rfl⟩
  have HO : Hid (∀ (b : Bool) (W : World), Calls Try.prog 37 #[.bool b] W fun e w' => e = .returned (.int .i64 (if b = true then 1 else 0)) ∧ w' = W) := spec_flag
  clear h hn hC hnn
  go_enter Try.func28, Try.ntmps28
  go_wp2_with (fail)
  refine (HF.out _ (by (repeat' (first | (with_reducible exact Below.refl _ _) | (with_reducible assumption) | (with_reducible refine Below.setCell ?_ ?_ _) | (with_reducible refine Below.alloc ?_ ?_ _) | (with_reducible refine below_drewN ?_ _) | (with_reducible refine Below.drew ?_) | (with_reducible exact Nat.le_refl _) | omega | (simp; done) | (simp; omega))))).mono ?_
  rintro e w1 ⟨rfl, hb1⟩
  have HB : Hid (w1.heap[w.heap.size]? = some (.cells #[.int .i64 0, .slice none 0 0] 33) ∧ Below w.heap.size w w1 ∧ w.heap.size < w1.heap.size) := by
    have k2 := (hb1.block w.heap.size (by simp)).trans (heap_alloc_new w (.cells #[.int .i64 0, .slice none 0 0] 33))
    exact ⟨k2, (show Below w.heap.size w _ from by (repeat' (first | (with_reducible exact Below.refl _ _) | (with_reducible assumption) | (with_reducible refine Below.setCell ?_ ?_ _) | (with_reducible refine Below.alloc ?_ ?_ _) | (with_reducible refine below_drewN ?_ _) | (with_reducible refine Below.drew ?_) | (with_reducible exact Nat.le_refl _) | omega | (simp; done) | (simp; omega)))).trans (hb1.mono (by simp)), ltOf k2⟩
  clear HF hb1
  by_cases hA0 : C = 0
  case neg =>
    obtain ⟨q0, q1, qf0, qf1, ql⟩ := two_of HB.out.1
    have HV : Hid (opL ls lv = []) := by unfold Hid; rw [H.out.2.2.2, if_neg hA0]
    have hA1 : (C != 0) = true := by simpa using hA0
    go_wp2
    try simp only [Exit.inBlock, Exit.then]
    refine bodyPost_ret (by simp [results, Try.results28, go_sem, q0, q1, ql]; try rfl) rfl ⟨.slice none 0 0, [], rfl, ?_, ?_⟩
    · rw [HV.out]; exact RI.nil _ _
    · have hB := HB.out.2.1
      (repeat' (first | (with_reducible exact Below.refl _ _) | (with_reducible assumption) | (with_reducible refine Below.setCell ?_ ?_ _) | (with_reducible refine Below.alloc ?_ ?_ _) | (with_reducible refine below_drewN ?_ _) | (with_reducible refine Below.drew ?_) | (with_reducible exact Nat.le_refl _) | omega | (simp; done) | (simp; omega)))
  have hG := gfC_good (H.out.2.2.1.symm.trans hA0)
  obtain ⟨wd, hwd⟩ : ∃ n, n = (ls.getD 0 []).length := ⟨_, rfl⟩
  have HG : Hid (GG 256000000 ls ∧ n = ls.length ∧ Sh n wd ls ∧ opL ls lv = tnL (opT lv) ls ∧ RdR w1 (.slice a n c) ls) := ⟨hG, H.out.2.1, by rw [H.out.2.1, hwd]; exact hG.sh, by rw [H.out.2.2.2, if_pos hA0], H.out.1.below HB.out.2.1⟩
  have hn16 : n ≤ 16 := by rw [H.out.2.1]; exact hG.h1
  have hn0 : 0 < n := by rw [H.out.2.1]; exact hG.h0
  have hw16 : wd ≤ 16 := by rw [hwd]; exact hG.w1
  have hw0 : 0 < wd := by rw [hwd]; exact hG.w0
  have HCP : Hid (Calls Try.prog 36 #[.slice a n c] w1 fun e w' => ∃ v' vs, e = .returned v' ∧ RI w' w1.heap.size v' ls vs ∧ Below w1.heap.size w1 w') := spec_copy hG HG.out.2.2.2.2
  clear H hG hwd
  subst hA0
  go_wp2_with (fail)
  refine HCP.out.mono ?_
  rintro e w2 ⟨v2, vs, rfl, hri, hb2⟩
  obtain ⟨g, oc, rfl, _, _, _⟩ := hri.pos (by rw [← HG.out.2.1]; exact hn0)
  rw [← HG.out.2.1] at hri ⊢
  have HS : Hid (GV w2 w1.heap.size g n oc wd ls vs ∧ Below w1.heap.size w1 w2) := ⟨⟨hri, HG.out.2.2.1, hw0⟩, hb2⟩
  clear hri hb2 HCP
  go_wp2
  go_loopw [7] (fun i wr => ∃ (k : Nat), k ≤ n ∧ i = .int .i64 k ∧ Hid (∃ L, GV wr w1.heap.size g n oc wd L vs ∧ (∀ j m, j < n → m < wd → at2 L j m = if j < k then opT lv (at2 ls j m) else at2 ls j m) ∧ Below w1.heap.size w1 wr)) (fun i _ => n - (intOf i).toNat)
  case atStart => exact ⟨0, Nat.zero_le _, rfl, ls, HS.out.1, fun j m _ _ => by rw [if_neg (by omega)], HS.out.2⟩
  case round =>
    clear HS
    obtain ⟨k, hk, rfl, hR⟩ := hrel
    by_cases hlt : k < n
    · have HR : Hid (∃ L, GV wr w1.heap.size g n oc wd L vs ∧ (∀ j m, j < n → m < wd → at2 L j m = if j < k ∨ (j = k ∧ m < 0) then opT lv (at2 ls j m) else at2 ls j m) ∧ Below w1.heap.size w1 wr) := by
        obtain ⟨L, hGV, hL, hbl⟩ := hR.out
        exact ⟨L, hGV, fun j m hj hm => by rw [hL j m hj hm]; by_cases e : j < k <;> simp [e], hbl⟩
      clear hR
      have b0 : (0 : Int) ≤ (k : Int) := by omega
      have b1 : (k : Int) < (n : Int) := by omega
      go_wp2
      go_loopw [8] (fun i wr => ∃ (q : Nat), q ≤ wd ∧ i = .int .i64 q ∧ Hid (∃ L, GV wr w1.heap.size g n oc wd L vs ∧ (∀ j m, j < n → m < wd → at2 L j m = if j < k ∨ (j = k ∧ m < q) then opT lv (at2 ls j m) else at2 ls j m) ∧ Below w1.heap.size w1 wr)) (fun i _ => wd - (intOf i).toNat)
      case atStart => exact ⟨0, Nat.zero_le _, rfl, HR.out⟩
      case round =>
        clear HR
        obtain ⟨q, hq, rfl, hR⟩ := hrel
        obtain ⟨L, hGV, hL, hbl⟩ := hR.out
        obtain ⟨gk, ck, hrk, c0, hgl, hgkl, hBk, hBg, hne, hcells⟩ := hGV.at hlt
        by_cases hlt2 : q < wd
        · obtain ⟨ag, ao, ra, rn, rc, rfl, hag, a0, hrn, hrd⟩ := (HG.out.2.2.2.2.below hbl).at hlt
          rw [HG.out.2.2.1.wd k hlt] at hrn
          subst hrn
          obtain ⟨rg, ro, rfl, hrg, r0⟩ := rd_at hrd hlt2
          obtain ⟨d0, d1⟩ := hcells q hlt2
          obtain ⟨x, hx⟩ : ∃ x, x = (ls.getD k []).getD q 0 := ⟨_, rfl⟩
          rw [← hx] at r0
          have HX : Hid (x = at2 ls k q) := hx
          have HS : Hid (rat vs k = .slice (some ⟨gk, 0, none⟩) rn ck ∧ GV wr w1.heap.size g n oc rn L vs ∧ (∀ j m, j < n → m < rn → at2 L j m = if j < k ∨ (j = k ∧ m < q) then opT lv (at2 ls j m) else at2 ls j m) ∧ Below w1.heap.size w1 wr) := ⟨hrk, hGV, hL, hbl⟩
          clear hrd hx hcells hR hrk hGV hL hbl hBk hBg hne
          have b2 : (0 : Int) ≤ (q : Int) := by omega
          have b3 : (q : Int) < (rn : Int) := by omega
          go_wp2_with (fail)
          refine wp_region_holdsA (S := fun w' => w'.cell? ⟨g, k, none⟩ = some (.slice (some ⟨gk, 0, none⟩) rn ck) ∧ w'.cell? ⟨ag, ao + k, none⟩ = some (.slice (some ⟨rg, ro, none⟩) rn rc) ∧ w'.cell? ⟨rg, ro + q, none⟩ = some (.int .i64 x)) (by kernel_rfl) ⟨c0, a0, r0⟩ (fun hS => ?_)
          refine fl_takeA (i := 0) (d := 32) (v := .slice (some ⟨g, 0, none⟩) n oc) rfl rfl rfl (by kernel_rfl) (by kernel_rfl) (by kernel_rfl) hS ?_ ?_
          · intro w' hk; obtain ⟨hk0, hk1, hk2⟩ := hk; go_simp
          simp only [Act.put, List.setIfInBounds_toArray, List.set_cons_zero, List.set_cons_succ]
          refine fl_takeA (i := 1) (d := 33) (v := .int .i64 k) rfl rfl rfl (by kernel_rfl) (by kernel_rfl) (by kernel_rfl) hS ?_ ?_
          · intro w' hk; obtain ⟨hk0, hk1, hk2⟩ := hk; go_simp
          simp only [Act.put, List.setIfInBounds_toArray, List.set_cons_zero, List.set_cons_succ]
          refine fl_takeA (i := 2) (d := 34) (v := .pointer (some ⟨g, k, none⟩)) rfl rfl rfl (by kernel_rfl) (by kernel_rfl) (by kernel_rfl) hS ?_ ?_
          · intro w' hk; obtain ⟨hk0, hk1, hk2⟩ := hk; go_simp
          simp only [Act.put, List.setIfInBounds_toArray, List.set_cons_zero, List.set_cons_succ]
          refine fl_takeA (i := 3) (d := 35) (v := .slice (some ⟨gk, 0, none⟩) rn ck) rfl rfl rfl (by kernel_rfl) (by kernel_rfl) (by kernel_rfl) hS ?_ ?_
          · intro w' hk; obtain ⟨hk0, hk1, hk2⟩ := hk; go_simp
          simp only [Act.put, List.setIfInBounds_toArray, List.set_cons_zero, List.set_cons_succ]
          refine fl_takeA (i := 4) (d := 36) (v := .int .i64 q) rfl rfl rfl (by kernel_rfl) (by kernel_rfl) (by kernel_rfl) hS ?_ ?_
          · intro w' hk; obtain ⟨hk0, hk1, hk2⟩ := hk; go_simp
          simp only [Act.put, List.setIfInBounds_toArray, List.set_cons_zero, List.set_cons_succ]
          refine fl_takeA (i := 5) (d := 37) (v := .slice (some ⟨ag, ao, none⟩) n c) rfl rfl rfl (by kernel_rfl) (by kernel_rfl) (by kernel_rfl) hS ?_ ?_
          · intro w' hk; obtain ⟨hk0, hk1, hk2⟩ := hk; go_simp
          simp only [Act.put, List.setIfInBounds_toArray, List.set_cons_zero, List.set_cons_succ]
          refine fl_takeA (i := 6) (d := 38) (v := .int .i64 k) rfl rfl rfl (by kernel_rfl) (by kernel_rfl) (by kernel_rfl) hS ?_ ?_
          · intro w' hk; obtain ⟨hk0, hk1, hk2⟩ := hk; go_simp
          simp only [Act.put, List.setIfInBounds_toArray, List.set_cons_zero, List.set_cons_succ]
          refine fl_takeA (i := 7) (d := 39) (v := .pointer (some ⟨ag, ao + k, none⟩)) rfl rfl rfl (by kernel_rfl) (by kernel_rfl) (by kernel_rfl) hS ?_ ?_
          · intro w' hk; obtain ⟨hk0, hk1, hk2⟩ := hk; go_simp
          simp only [Act.put, List.setIfInBounds_toArray, List.set_cons_zero, List.set_cons_succ]
          refine fl_takeA (i := 8) (d := 40) (v := .slice (some ⟨rg, ro, none⟩) rn rc) rfl rfl rfl (by kernel_rfl) (by kernel_rfl) (by kernel_rfl) hS ?_ ?_
          · intro w' hk; obtain ⟨hk0, hk1, hk2⟩ := hk; go_simp
          simp only [Act.put, List.setIfInBounds_toArray, List.set_cons_zero, List.set_cons_succ]
          refine fl_takeA (i := 9) (d := 41) (v := .int .i64 q) rfl rfl rfl (by kernel_rfl) (by kernel_rfl) (by kernel_rfl) hS ?_ ?_
          · intro w' hk; obtain ⟨hk0, hk1, hk2⟩ := hk; go_simp
          simp only [Act.put, List.setIfInBounds_toArray, List.set_cons_zero, List.set_cons_succ]
          refine fl_takeA (i := 10) (d := 42) (v := .pointer (some ⟨rg, ro + q, none⟩)) rfl rfl rfl (by kernel_rfl) (by kernel_rfl) (by kernel_rfl) hS ?_ ?_
          · intro w' hk; obtain ⟨hk0, hk1, hk2⟩ := hk; go_simp
          simp only [Act.put, List.setIfInBounds_toArray, List.set_cons_zero, List.set_cons_succ]
          refine fl_takeA (i := 11) (d := 43) (v := .int .i64 x) rfl rfl rfl (by kernel_rfl) (by kernel_rfl) (by kernel_rfl) hS ?_ ?_
          · intro w' hk; obtain ⟨hk0, hk1, hk2⟩ := hk; go_simp
          simp only [Act.put, List.setIfInBounds_toArray, List.set_cons_zero, List.set_cons_succ]
          refine fl_takeA (i := 12) (d := 44) (v := .int .i64 lv) rfl rfl rfl (by kernel_rfl) (by kernel_rfl) (by kernel_rfl) hS ?_ ?_
          · intro w' hk; obtain ⟨hk0, hk1, hk2⟩ := hk; go_simp
          simp only [Act.put, List.setIfInBounds_toArray, List.set_cons_zero, List.set_cons_succ]
          refine fl_takeA (i := 13) (d := 45) (v := .bool (decide (x ≤ lv))) rfl rfl rfl (by kernel_rfl) (by kernel_rfl) (by kernel_rfl) hS ?_ ?_
          · intro w' hk; obtain ⟨hk0, hk1, hk2⟩ := hk; go_simp
          simp only [Act.put, List.setIfInBounds_toArray, List.set_cons_zero, List.set_cons_succ]
          refine wpAnyH_all (rs := [14]) (by kernel_rfl) (by simp) ?_
          intro i hi; obtain rfl := List.mem_singleton.1 hi; clear hi
          refine op_call (d := 46) rfl rfl rfl (by go_simp) ((HO.out (decide (x ≤ lv)) _).mono ?_)
          rintro e w5 ⟨rfl, rfl⟩
          obtain ⟨y, hy⟩ : ∃ y : Int, y = (if decide (x ≤ lv) = true then 1 else 0) := ⟨_, rfl⟩
          rw [← hy]
          have HY : Hid (y = opT lv (at2 ls k q)) := by unfold Hid opT; rw [hy, HX.out]; simp only [decide_eq_true_eq]
          clear hy
          refine ⟨_, rfl, hS, ?_⟩
          simp only [Act.put, List.setIfInBounds_toArray, List.set_cons_zero, List.set_cons_succ]
          refine wpAnyH_all (rs := [15]) (by kernel_rfl) (by simp) ?_
          intro i hi; obtain rfl := List.mem_singleton.1 hi; clear hi
          refine op_val (d := 47) (v := .pointer (some ⟨gk, q, none⟩)) (w' := wr.drew) rfl rfl rfl (by go_simp; try rfl) ?_
          simp only [Act.put, List.setIfInBounds_toArray, List.set_cons_zero, List.set_cons_succ]
          refine ⟨hS, wpAnyH_all (rs := [16]) (by kernel_rfl) (by simp) ?_⟩
          intro i hi; obtain rfl := List.mem_singleton.1 hi; clear hi
          have d0' : wr.drew.cell? ⟨gk, q, none⟩ = some (.int .i64 (at2 L k q)) := d0
          have d1' : wr.drew.frozen? ⟨gk, q, none⟩ = false := d1
          have hgkl' : gk < wr.drew.heap.size := hgkl
          refine op_skipN rfl rfl (w' := wr.drew.setCell ⟨gk, q, none⟩ (.int .i64 y)) (by go_simp; try rfl) ?_
          have HD : Hid (GV wr.drew w1.heap.size g n oc rn L vs ∧ Below w1.heap.size w1 wr.drew) := ⟨HS.out.2.1.below (Below.refl _ _).drew, HS.out.2.2.2.drew⟩
          have HP : Hid (∃ L, GV (wr.drew.setCell ⟨gk, q, none⟩ (.int .i64 y)) w1.heap.size g n oc rn L vs ∧ (∀ j m, j < n → m < rn → at2 L j m = if j < k ∨ (j = k ∧ m < q + 1) then opT lv (at2 ls j m) else at2 ls j m) ∧ Below w1.heap.size w1 (wr.drew.setCell ⟨gk, q, none⟩ (.int .i64 y))) := by
            refine ⟨set2 L k q y, HD.out.1.set hlt HS.out.1 q y, fun j m hj hm => ?_, HD.out.1.bel hlt HS.out.1 q y HD.out.2⟩
            rw [at2_set2 HD.out.1.sh hlt hlt2]
            by_cases e : j = k ∧ m = q
            · rw [if_pos e, if_pos (by omega), HY.out, e.1, e.2]
            · rw [if_neg e, HS.out.2.2.1 j m hj hm]
              by_cases e2 : j < k ∨ (j = k ∧ m < q)
              · rw [if_pos e2, if_pos (by omega)]
              · rw [if_neg e2, if_neg (by omega)]
          obtain ⟨g5, c5, hr5, e0, e1, e2, e3, e4, e5, hc5⟩ := (HD.out.1.set hlt HS.out.1 q y).at hlt
          rw [HS.out.1] at hr5
          injection hr5 with t1 t2 t3
          injection t1 with t4
          injection t4 with t5
          subst t5 t3
          have a5 : (wr.drew.setCell ⟨gk, q, none⟩ (.int .i64 y)).cell? ⟨ag, ao + k, none⟩ = some (.slice (some ⟨rg, ro, none⟩) rn rc) := by
            have hb5 : Below w1.heap.size w1 (wr.drew.setCell ⟨gk, q, none⟩ (.int .i64 y)) := HD.out.1.bel hlt HS.out.1 q y HD.out.2
            obtain ⟨ag', ao', ra', rn', rc', f1, f2, f3, _⟩ := (HG.out.2.2.2.2).at hlt
            injection f1 with f1
            injection f1 with f4 f5
            subst f4 f5
            have g0 := (hb5.cell (p := ⟨ag, ao + k, none⟩) f2)
            have g1 := (HS.out.2.2.2.cell (p := ⟨ag, ao + k, none⟩) f2)
            rw [g0, ← g1]; exact a0
          have r5 : (wr.drew.setCell ⟨gk, q, none⟩ (.int .i64 y)).cell? ⟨rg, ro + q, none⟩ = some (.int .i64 x) := by
            obtain ⟨ag', ao', ra', rn', rc', f1, f2, f3, f6, f7⟩ := (HG.out.2.2.2.2).at hlt
            injection f1 with f1
            injection f1 with f4 f5
            subst f4 f5
            have g1 := (HS.out.2.2.2.cell (p := ⟨ag, ao + k, none⟩) f2)
            rw [f3, a0] at g1
            injection g1 with g1
            injection g1 with g2 g3 g4
            subst g2
            rw [HG.out.2.2.1.wd k hlt] at f6
            obtain ⟨rg', ro', h1, h2, h3⟩ := rd_at f7 (show q < rn' by omega)
            injection h1 with h1
            injection h1 with h4 h5
            subst h4 h5
            have hb5 : Below w1.heap.size w1 (wr.drew.setCell ⟨gk, q, none⟩ (.int .i64 y)) := HD.out.1.bel hlt HS.out.1 q y HD.out.2
            rw [hb5.cell (p := ⟨rg, ro + q, none⟩) h2, h3, HX.out]; rfl
          refine ⟨⟨e0, a5, r5⟩, wpAnyH_done (by kernel_rfl) (NoPanic.normal ?_) _⟩
          generalize wr.drew.setCell ⟨gk, q, none⟩ (.int .i64 y) = V' at HP ⊢
          clear a0 r0 c0 d0 d1 d0' d1' hgkl hgkl' hgl hag hrg HS HD HX HY hS e0 e1 e2 e3 e4 e5 hc5 a5 r5 t2
          go_wp2
          go_roundw
          case rel => exact ⟨q + 1, by omega, by go_num, HP.out⟩
          case measure => simp [intOf]; omega
        · have HP : Hid (∃ L, GV wr w1.heap.size g n oc wd L vs ∧ (∀ j m, j < n → m < wd → at2 L j m = if j < k + 1 then opT lv (at2 ls j m) else at2 ls j m) ∧ Below w1.heap.size w1 wr) := by
            refine ⟨L, hGV, fun j m hj hm => ?_, hbl⟩
            rw [hL j m hj hm]
            by_cases e : j < k + 1
            · rw [if_pos (by omega), if_pos e]
            · rw [if_neg (by omega), if_neg e]
          clear hR hGV hL hbl hrk hBk hBg hne hcells
          go_wp2
          go_roundw
          case rel => exact ⟨k + 1, by omega, by go_num, HP.out⟩
          case measure => simp [intOf]; omega
    · have HP : Hid (RI wr w1.heap.size (.slice (some ⟨g, 0, none⟩) n oc) (tnL (opT lv) ls) vs ∧ Below w.heap.size w wr ∧ wr.heap[w.heap.size]? = some (.cells #[.int .i64 0, .slice none 0 0] 33) ∧ w.heap.size < w1.heap.size) := by
        obtain ⟨L, h1, h2, h3⟩ := hR.out
        refine ⟨?_, HB.out.2.1.trans (h3.mono HB.out.2.1.size), (h3.block _ HB.out.2.2).trans HB.out.1, HB.out.2.2⟩
        have e : L = tnL (opT lv) ls := grid_ext h1.sh (tnL_sh HG.out.2.2.1) fun j m hj hm => by
          rw [h2 j m hj hm, if_pos (by omega), tnL_at HG.out.2.2.1 hj hm]
        rw [← e]
        exact h1.ri
      obtain ⟨q0, q1, qf0, qf1, ql⟩ := two_of HP.out.2.2.1
      clear hR
      go_wp2
      try simp only [Exit.inBlock, Exit.then]
      refine bodyPost_ret (by simp [results, Try.results28, go_sem, q0, q1, ql]; try rfl) rfl ⟨.slice (some ⟨g, 0, none⟩) n oc, vs, rfl, ?_, ?_⟩
      · rw [HG.out.2.2.2.1]
        have hs := HP.out.2.2.2
        refine RI.low (B := w1.heap.size) ?_ (by omega)
        repeat' (refine ri_result (w := w) ?_ (by omega) _ _)
        exact HP.out.1
      · have hB := HP.out.2.1
        (repeat' (first | (with_reducible exact Below.refl _ _) | (with_reducible assumption) | (with_reducible refine Below.setCell ?_ ?_ _) | (with_reducible refine Below.alloc ?_ ?_ _) | (with_reducible refine below_drewN ?_ _) | (with_reducible refine Below.drew ?_) | (with_reducible exact Nat.le_refl _) | omega | (simp; done) | (simp; omega)))

end Go.Proofs.Yteoddodeppgjaaa
