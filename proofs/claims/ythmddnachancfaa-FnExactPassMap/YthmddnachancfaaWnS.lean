/- Proved here: PassMap of the model. -/
import Derived.Test.YthmddnachancfaaCpS
import Derived.Test.YthmddnachancfaaGfS
import Derived.Test.YthmddnachancfaaCgM
import Derived.Test.YthmddnachancfaaReg
import Derived.Test.YthmddnachancfaaSuL
import Derived.Test.YthmddnachancfaaWnE
namespace Go.Proofs.Ythmddnachancfaa
open Go.RowKit
set_option linter.unusedVariables false
set_option linter.unusedSimpArgs false

set_option maxHeartbeats 800000 in
theorem spec_flag10 (b : Bool) (w : World) : Calls Try.prog 34 #[.bool b] w fun e w' => e = .returned (.int .i64 (if b = true then 1 else 0)) ∧ w' = w := by
  cases b with
  | true =>
    go_enter Try.func34, Try.ntmps34
    go_wp2
    go_returns
    exact ⟨rfl, rfl⟩
  | false =>
    go_enter Try.func34, Try.ntmps34
    go_wp2
    go_returns
    exact ⟨rfl, rfl⟩

set_option maxHeartbeats 800000 in
theorem spec_in10 (n a b : Int) (w : World) : Calls Try.prog 35 #[.int .i64 n, .int .i64 a, .int .i64 b] w fun e w' => e = .returned (.bool (decide (a ≤ n ∧ n ≤ b))) ∧ w' = w := by
  obtain ⟨r, hr⟩ : ∃ r, r = decide (a ≤ n ∧ n ≤ b) := ⟨_, rfl⟩
  rw [← hr]
  have H : Hid ((¬ a ≤ n → r = false) ∧ (a ≤ n → n ≤ b → r = true) ∧ (a ≤ n → ¬ n ≤ b → r = false)) := by
    unfold Hid; rw [hr]
    exact ⟨fun h => by simp [h], fun h1 h2 => by simp [h1, h2], fun h1 h2 => by simp [h1, h2]⟩
  clear hr
  by_cases h1 : a ≤ n
  · by_cases h2 : n ≤ b
    · obtain rfl := H.out.2.1 h1 h2
      go_enter Try.func35, Try.ntmps35
      go_wp2
      go_returns
      exact ⟨rfl, rfl⟩
    · obtain rfl := H.out.2.2 h1 h2
      go_enter Try.func35, Try.ntmps35
      go_wp2
      go_returns
      exact ⟨rfl, rfl⟩
  · obtain rfl := H.out.1 h1
    go_enter Try.func35, Try.ntmps35
    go_wp2
    go_returns
    exact ⟨rfl, rfl⟩

def ppT (lo hi x : Int) : Int := if lo ≤ x ∧ x ≤ hi then 1 else 0
theorem pp_tn {M lo hi : Int} {ls : List (List Int)} (h : GG M ls) : mpL ls.length (ls.getD 0 []).length (fun y x => decide (lo ≤ at2 ls y x ∧ at2 ls y x ≤ hi)) = tnL (ppT lo hi) ls := by
  refine grid_ext (mpL_sh _ _ _) (tnL_sh h.sh) fun j m hj hm => ?_
  rw [mpL_at hj hm, tnL_at h.sh hj hm]
  unfold ppT
  simp only [decide_eq_true_eq]
theorem tn_gg {M lo hi : Int} {ls : List (List Int)} (h : GG M ls) : GG 1000000 (tnL (ppT lo hi) ls) := by
  have hl : (tnL (ppT lo hi) ls).length = ls.length := by simp [tnL]
  have hw : ∀ j, ((tnL (ppT lo hi) ls).getD j []).length = (ls.getD j []).length := fun j => by rw [tnL_row, List.length_map]
  refine ⟨by rw [hl]; exact h.h0, by rw [hl]; exact h.h1, by rw [hw]; exact h.w0, by rw [hw]; exact h.w1, fun r hr => ?_, fun r hr x hx => ?_⟩
  · rw [hw]
    obtain ⟨s, hs, rfl⟩ := List.mem_map.1 hr
    rw [List.length_map]; exact h.wd s hs
  · obtain ⟨s, hs, rfl⟩ := List.mem_map.1 hr
    obtain ⟨y, hy, rfl⟩ := List.mem_map.1 hx
    unfold ppT; split <;> omega

set_option maxRecDepth 10000 in
set_option maxHeartbeats 12800000 in
theorem spec_pp (lo hi : Int) {w : World} {v : Value} {ls : List (List Int)} (hn : SmR ls) (h : RdR w v ls) :
    Calls Try.prog 10 #[v, .int .i64 lo, .int .i64 hi] w fun e w' => ∃ v' vs, e = .returned (.agg #[.int .i64 (ppC ls lo hi), v', .int .i64 (psV (ppL ls lo hi))]) ∧ RI w' w.heap.size v' (ppL ls lo hi) vs ∧ Below w.heap.size w w' := by
  obtain ⟨a, c, rfl⟩ := h.form
  obtain ⟨n, hnn⟩ : ∃ n, n = ls.length := ⟨_, rfl⟩
  obtain ⟨C, hC⟩ : ∃ C, C = gfC ls 1000000 := ⟨_, rfl⟩
  obtain ⟨D, hD⟩ : ∃ C, C = ppC ls lo hi := ⟨_, rfl⟩
  obtain ⟨LL, hLL⟩ : ∃ C, C = ppL ls lo hi := ⟨_, rfl⟩
  rw [← hD, ← hLL]
  rw [← hnn] at h ⊢
  have HF : Hid (∀ W, Below w.heap.size w W → Calls Try.prog 32 #[.slice a n c] W fun e w' => e = .returned (.int .i64 C) ∧ Below W.heap.size W w') := fun W hW => by rw [hC]; exact spec_gf hn (h.below hW)
  have H : Hid (RdR w (.slice a n c) ls ∧ n = ls.length ∧ C = gfC ls 1000000 ∧ (D = (if C = 0 then (if hi < lo then 3 else 0) else C) ∧ LL = if D = 0 then mpL n (ls.getD 0 []).length (fun y x => decide (lo ≤ at2 ls y x ∧ at2 ls y x ≤ hi)) else [])) := ⟨h, hnn, hC, by rw [hD, hC]; rfl, by rw [hLL, hD, hnn]; rfl⟩
  have HO : Hid (∀ (b : Bool) (W : World), Calls Try.prog 34 #[.bool b] W fun e w' => e = .returned (.int .i64 (if b = true then 1 else 0)) ∧ w' = W) := spec_flag10
  have HIN : Hid (∀ (x : Int) (W : World), Calls Try.prog 35 #[.int .i64 x, .int .i64 lo, .int .i64 hi] W fun e w' => e = .returned (.bool (decide (lo ≤ x ∧ x ≤ hi))) ∧ w' = W) := fun x W => spec_in10 x lo hi W
  clear h hn hC hnn hD hLL
  go_enter Try.func10, Try.ntmps10
  go_wp2_with (fail)
  refine (HF.out _ (by (repeat' (first | (with_reducible exact Below.refl _ _) | (with_reducible assumption) | (with_reducible refine Below.setCell ?_ ?_ _) | (with_reducible refine Below.alloc ?_ ?_ _) | (with_reducible refine below_drewN ?_ _) | (with_reducible refine Below.drew ?_) | (with_reducible exact Nat.le_refl _) | omega | (simp; done) | (simp; omega))))).mono ?_
  rintro e w1 ⟨rfl, hb1⟩
  have HB : Hid (w1.heap[w.heap.size]? = some (.cells #[.int .i64 0, .slice none 0 0, .int .i64 0] 25) ∧ Below w.heap.size w w1 ∧ w.heap.size < w1.heap.size) := by
    have k2 := (hb1.block w.heap.size (by simp)).trans (heap_alloc_new w (.cells #[.int .i64 0, .slice none 0 0, .int .i64 0] 25))
    exact ⟨k2, (show Below w.heap.size w _ from by (repeat' (first | (with_reducible exact Below.refl _ _) | (with_reducible assumption) | (with_reducible refine Below.setCell ?_ ?_ _) | (with_reducible refine Below.alloc ?_ ?_ _) | (with_reducible refine below_drewN ?_ _) | (with_reducible refine Below.drew ?_) | (with_reducible exact Nat.le_refl _) | omega | (simp; done) | (simp; omega)))).trans (hb1.mono (by simp)), ltOf k2⟩
  clear HF hb1
  by_cases hA0 : C = 0
  case neg =>
    obtain ⟨q0, q1, q2, qf0, qf1, qf2, ql⟩ := three_of HB.out.1
    have HV : Hid (D = C ∧ LL = []) := by
      have := H.out.2.2.2; rw [if_neg hA0] at this; refine ⟨this.1, ?_⟩; rw [this.2, if_neg (by rw [this.1]; exact hA0)]
    have hA1 : (C != 0) = true := by simpa using hA0
    go_wp2
    try simp only [Exit.inBlock, Exit.then]
    refine bodyPost_ret (by simp [results, Try.results10, go_sem, q0, q1, q2, ql]; try rfl) rfl ⟨.slice none 0 0, [], by rw [HV.out.1, HV.out.2]; rfl, ?_, ?_⟩
    · rw [HV.out.2]; exact RI.nil _ _
    · have hB := HB.out.2.1
      (repeat' (first | (with_reducible exact Below.refl _ _) | (with_reducible assumption) | (with_reducible refine Below.setCell ?_ ?_ _) | (with_reducible refine Below.alloc ?_ ?_ _) | (with_reducible refine below_drewN ?_ _) | (with_reducible refine Below.drew ?_) | (with_reducible exact Nat.le_refl _) | omega | (simp; done) | (simp; omega)))
  by_cases hlh : hi < lo
  · obtain ⟨q0, q1, q2, qf0, qf1, qf2, ql⟩ := three_of HB.out.1
    have HV : Hid (D = 3 ∧ LL = []) := by
      have := H.out.2.2.2; rw [if_pos hA0, if_pos hlh] at this; refine ⟨this.1, ?_⟩; rw [this.2, if_neg (by rw [this.1]; decide)]
    subst hA0
    go_wp2
    try simp only [Exit.inBlock, Exit.then]
    refine bodyPost_ret (by simp [results, Try.results10, go_sem, q0, q1, q2, ql]; try rfl) rfl ⟨.slice none 0 0, [], by rw [HV.out.1, HV.out.2]; rfl, ?_, ?_⟩
    · rw [HV.out.2]; exact RI.nil _ _
    · have hB := HB.out.2.1
      (repeat' (first | (with_reducible exact Below.refl _ _) | (with_reducible assumption) | (with_reducible refine Below.setCell ?_ ?_ _) | (with_reducible refine Below.alloc ?_ ?_ _) | (with_reducible refine below_drewN ?_ _) | (with_reducible refine Below.drew ?_) | (with_reducible exact Nat.le_refl _) | omega | (simp; done) | (simp; omega)))
  have hG := gfC_good (H.out.2.2.1.symm.trans hA0)
  obtain ⟨wd, hwd⟩ : ∃ n, n = (ls.getD 0 []).length := ⟨_, rfl⟩
  have HG : Hid (GG 1000000 ls ∧ n = ls.length ∧ Sh n wd ls ∧ (D = 0 ∧ LL = tnL (ppT lo hi) ls) ∧ RdR w1 (.slice a n c) ls) := ⟨hG, H.out.2.1, by rw [H.out.2.1, hwd]; exact hG.sh, by
    have := H.out.2.2.2; rw [if_pos hA0, if_neg hlh] at this; refine ⟨this.1, ?_⟩; rw [this.2, if_pos this.1, H.out.2.1]; exact pp_tn hG, H.out.1.below HB.out.2.1⟩
  have hn16 : n ≤ 16 := by rw [H.out.2.1]; exact hG.h1
  have hn0 : 0 < n := by rw [H.out.2.1]; exact hG.h0
  have hw16 : wd ≤ 16 := by rw [hwd]; exact hG.w1
  have hw0 : 0 < wd := by rw [hwd]; exact hG.w0
  have HCP : Hid (Calls Try.prog 33 #[.slice a n c] w1 fun e w' => ∃ v' vs, e = .returned v' ∧ RI w' w1.heap.size v' ls vs ∧ Below w1.heap.size w1 w') := spec_copy hG HG.out.2.2.2.2
  clear H hG hwd
  subst hA0
  go_wp2_with (fail)
  refine HCP.out.mono ?_
  rintro e w2 ⟨v2, vs, rfl, hri, hb2⟩
  obtain ⟨g, oc, rfl, _, _, _⟩ := hri.pos (by rw [← HG.out.2.1]; exact hn0)
  rw [← HG.out.2.1] at hri ⊢
  have HS : Hid (GV w2 w1.heap.size g n oc wd ls vs ∧ Below w1.heap.size w1 w2) := ⟨⟨hri, HG.out.2.2.1, hw0⟩, hb2⟩
  clear hri hb2 HCP
  go_wp2
  go_loopw [9] (fun i wr => ∃ (k : Nat), k ≤ n ∧ i = .int .i64 k ∧ Hid (∃ L, GV wr w1.heap.size g n oc wd L vs ∧ (∀ j m, j < n → m < wd → at2 L j m = if j < k then ppT lo hi (at2 ls j m) else at2 ls j m) ∧ Below w1.heap.size w1 wr)) (fun i _ => n - (intOf i).toNat)
  case atStart => exact ⟨0, Nat.zero_le _, rfl, ls, HS.out.1, fun j m _ _ => by rw [if_neg (by omega)], HS.out.2⟩
  case round =>
    clear HS
    obtain ⟨k, hk, rfl, hR⟩ := hrel
    by_cases hlt : k < n
    · have HR : Hid (∃ L, GV wr w1.heap.size g n oc wd L vs ∧ (∀ j m, j < n → m < wd → at2 L j m = if j < k ∨ (j = k ∧ m < 0) then ppT lo hi (at2 ls j m) else at2 ls j m) ∧ Below w1.heap.size w1 wr) := by
        obtain ⟨L, hGV, hL, hbl⟩ := hR.out
        exact ⟨L, hGV, fun j m hj hm => by rw [hL j m hj hm]; by_cases e : j < k <;> simp [e], hbl⟩
      clear hR
      have b0 : (0 : Int) ≤ (k : Int) := by omega
      have b1 : (k : Int) < (n : Int) := by omega
      go_wp2
      go_loopw [10] (fun i wr => ∃ (q : Nat), q ≤ wd ∧ i = .int .i64 q ∧ Hid (∃ L, GV wr w1.heap.size g n oc wd L vs ∧ (∀ j m, j < n → m < wd → at2 L j m = if j < k ∨ (j = k ∧ m < q) then ppT lo hi (at2 ls j m) else at2 ls j m) ∧ Below w1.heap.size w1 wr)) (fun i _ => wd - (intOf i).toNat)
      case atStart => exact ⟨0, Nat.zero_le _, rfl, HR.out⟩
      case round =>
        clear HR
        obtain ⟨q, hq, rfl, hR⟩ := hrel
        obtain ⟨L, hGV, hL, hbl⟩ := hR.out
        obtain ⟨gk, ck, hrk, c0, hgl, hgkl, hBk, hBg, hne, hcells⟩ := hGV.at hlt
        by_cases hlt2 : q < wd
        · obtain ⟨ag, ao, ra, rn, rc, rfl, hag, a0, hrn, hrd⟩ := (HG.out.2.2.2.2.below hbl).at hlt
          rw [HG.out.2.2.1.wd k hlt] at hrn
          subst hrn
          obtain ⟨rg, ro, rfl, hrg, r0⟩ := rd_at hrd hlt2
          obtain ⟨d0, d1⟩ := hcells q hlt2
          obtain ⟨x, hx⟩ : ∃ x, x = (ls.getD k []).getD q 0 := ⟨_, rfl⟩
          rw [← hx] at r0
          have HX : Hid (x = at2 ls k q) := hx
          have HS : Hid (rat vs k = .slice (some ⟨gk, 0, none⟩) rn ck ∧ GV wr w1.heap.size g n oc rn L vs ∧ (∀ j m, j < n → m < rn → at2 L j m = if j < k ∨ (j = k ∧ m < q) then ppT lo hi (at2 ls j m) else at2 ls j m) ∧ Below w1.heap.size w1 wr) := ⟨hrk, hGV, hL, hbl⟩
          clear hrd hx hcells hR hrk hGV hL hbl hBk hBg hne
          have b2 : (0 : Int) ≤ (q : Int) := by omega
          have b3 : (q : Int) < (rn : Int) := by omega
          go_wp2_with (fail)
          refine wp_region_holdsA (S := fun w' => w'.cell? ⟨g, k, none⟩ = some (.slice (some ⟨gk, 0, none⟩) rn ck) ∧ w'.cell? ⟨ag, ao + k, none⟩ = some (.slice (some ⟨rg, ro, none⟩) rn rc) ∧ w'.cell? ⟨rg, ro + q, none⟩ = some (.int .i64 x)) (by kernel_rfl) ⟨c0, a0, r0⟩ (fun hS => ?_)
          refine fl_takeA (i := 0) (d := 38) (v := .slice (some ⟨g, 0, none⟩) n oc) rfl rfl rfl (by kernel_rfl) (by kernel_rfl) (by kernel_rfl) hS ?_ ?_
          · intro w' hk; obtain ⟨hk0, hk1, hk2⟩ := hk; go_simp
          simp only [Act.put, List.setIfInBounds_toArray, List.set_cons_zero, List.set_cons_succ]
          refine fl_takeA (i := 1) (d := 39) (v := .int .i64 k) rfl rfl rfl (by kernel_rfl) (by kernel_rfl) (by kernel_rfl) hS ?_ ?_
          · intro w' hk; obtain ⟨hk0, hk1, hk2⟩ := hk; go_simp
          simp only [Act.put, List.setIfInBounds_toArray, List.set_cons_zero, List.set_cons_succ]
          refine fl_takeA (i := 2) (d := 40) (v := .pointer (some ⟨g, k, none⟩)) rfl rfl rfl (by kernel_rfl) (by kernel_rfl) (by kernel_rfl) hS ?_ ?_
          · intro w' hk; obtain ⟨hk0, hk1, hk2⟩ := hk; go_simp
          simp only [Act.put, List.setIfInBounds_toArray, List.set_cons_zero, List.set_cons_succ]
          refine fl_takeA (i := 3) (d := 41) (v := .slice (some ⟨gk, 0, none⟩) rn ck) rfl rfl rfl (by kernel_rfl) (by kernel_rfl) (by kernel_rfl) hS ?_ ?_
          · intro w' hk; obtain ⟨hk0, hk1, hk2⟩ := hk; go_simp
          simp only [Act.put, List.setIfInBounds_toArray, List.set_cons_zero, List.set_cons_succ]
          refine fl_takeA (i := 4) (d := 42) (v := .int .i64 q) rfl rfl rfl (by kernel_rfl) (by kernel_rfl) (by kernel_rfl) hS ?_ ?_
          · intro w' hk; obtain ⟨hk0, hk1, hk2⟩ := hk; go_simp
          simp only [Act.put, List.setIfInBounds_toArray, List.set_cons_zero, List.set_cons_succ]
          refine fl_takeA (i := 5) (d := 43) (v := .slice (some ⟨ag, ao, none⟩) n c) rfl rfl rfl (by kernel_rfl) (by kernel_rfl) (by kernel_rfl) hS ?_ ?_
          · intro w' hk; obtain ⟨hk0, hk1, hk2⟩ := hk; go_simp
          simp only [Act.put, List.setIfInBounds_toArray, List.set_cons_zero, List.set_cons_succ]
          refine fl_takeA (i := 6) (d := 44) (v := .int .i64 k) rfl rfl rfl (by kernel_rfl) (by kernel_rfl) (by kernel_rfl) hS ?_ ?_
          · intro w' hk; obtain ⟨hk0, hk1, hk2⟩ := hk; go_simp
          simp only [Act.put, List.setIfInBounds_toArray, List.set_cons_zero, List.set_cons_succ]
          refine fl_takeA (i := 7) (d := 45) (v := .pointer (some ⟨ag, ao + k, none⟩)) rfl rfl rfl (by kernel_rfl) (by kernel_rfl) (by kernel_rfl) hS ?_ ?_
          · intro w' hk; obtain ⟨hk0, hk1, hk2⟩ := hk; go_simp
          simp only [Act.put, List.setIfInBounds_toArray, List.set_cons_zero, List.set_cons_succ]
          refine fl_takeA (i := 8) (d := 46) (v := .slice (some ⟨rg, ro, none⟩) rn rc) rfl rfl rfl (by kernel_rfl) (by kernel_rfl) (by kernel_rfl) hS ?_ ?_
          · intro w' hk; obtain ⟨hk0, hk1, hk2⟩ := hk; go_simp
          simp only [Act.put, List.setIfInBounds_toArray, List.set_cons_zero, List.set_cons_succ]
          refine fl_takeA (i := 9) (d := 47) (v := .int .i64 q) rfl rfl rfl (by kernel_rfl) (by kernel_rfl) (by kernel_rfl) hS ?_ ?_
          · intro w' hk; obtain ⟨hk0, hk1, hk2⟩ := hk; go_simp
          simp only [Act.put, List.setIfInBounds_toArray, List.set_cons_zero, List.set_cons_succ]
          refine fl_takeA (i := 10) (d := 48) (v := .pointer (some ⟨rg, ro + q, none⟩)) rfl rfl rfl (by kernel_rfl) (by kernel_rfl) (by kernel_rfl) hS ?_ ?_
          · intro w' hk; obtain ⟨hk0, hk1, hk2⟩ := hk; go_simp
          simp only [Act.put, List.setIfInBounds_toArray, List.set_cons_zero, List.set_cons_succ]
          refine fl_takeA (i := 11) (d := 49) (v := .int .i64 x) rfl rfl rfl (by kernel_rfl) (by kernel_rfl) (by kernel_rfl) hS ?_ ?_
          · intro w' hk; obtain ⟨hk0, hk1, hk2⟩ := hk; go_simp
          simp only [Act.put, List.setIfInBounds_toArray, List.set_cons_zero, List.set_cons_succ]
          refine fl_takeA (i := 12) (d := 50) (v := .int .i64 lo) rfl rfl rfl (by kernel_rfl) (by kernel_rfl) (by kernel_rfl) hS ?_ ?_
          · intro w' hk; obtain ⟨hk0, hk1, hk2⟩ := hk; go_simp
          simp only [Act.put, List.setIfInBounds_toArray, List.set_cons_zero, List.set_cons_succ]
          refine fl_takeA (i := 13) (d := 51) (v := .int .i64 hi) rfl rfl rfl (by kernel_rfl) (by kernel_rfl) (by kernel_rfl) hS ?_ ?_
          · intro w' hk; obtain ⟨hk0, hk1, hk2⟩ := hk; go_simp
          simp only [Act.put, List.setIfInBounds_toArray, List.set_cons_zero, List.set_cons_succ]
          refine wpAnyH_all (rs := [14]) (by kernel_rfl) (by simp) ?_
          intro i hi9; obtain rfl := List.mem_singleton.1 hi9; clear hi9
          refine op_call (d := 52) rfl rfl rfl (by go_simp) ((HIN.out x _).mono ?_)
          rintro e w5 ⟨rfl, rfl⟩
          refine ⟨_, rfl, hS, ?_⟩
          simp only [Act.put, List.setIfInBounds_toArray, List.set_cons_zero, List.set_cons_succ]
          refine wpAnyH_all (rs := [15]) (by kernel_rfl) (by simp) ?_
          intro i hi9; obtain rfl := List.mem_singleton.1 hi9; clear hi9
          refine op_call (d := 53) rfl rfl rfl (by go_simp) ((HO.out (decide (lo ≤ x ∧ x ≤ hi)) _).mono ?_)
          rintro e w5 ⟨rfl, rfl⟩
          obtain ⟨y, hy⟩ : ∃ y : Int, y = (if decide (lo ≤ x ∧ x ≤ hi) = true then 1 else 0) := ⟨_, rfl⟩
          rw [← hy]
          have HY : Hid (y = ppT lo hi (at2 ls k q)) := by unfold Hid ppT; rw [hy, HX.out]; simp only [decide_eq_true_eq]
          clear hy
          refine ⟨_, rfl, hS, ?_⟩
          simp only [Act.put, List.setIfInBounds_toArray, List.set_cons_zero, List.set_cons_succ]
          refine wpAnyH_all (rs := [16]) (by kernel_rfl) (by simp) ?_
          intro i hi9; obtain rfl := List.mem_singleton.1 hi9; clear hi9
          refine op_val (d := 54) (v := .pointer (some ⟨gk, q, none⟩)) (w' := wr.drew) rfl rfl rfl (by go_simp; try rfl) ?_
          simp only [Act.put, List.setIfInBounds_toArray, List.set_cons_zero, List.set_cons_succ]
          refine ⟨hS, wpAnyH_all (rs := [17]) (by kernel_rfl) (by simp) ?_⟩
          intro i hi9; obtain rfl := List.mem_singleton.1 hi9; clear hi9
          have d0' : wr.drew.cell? ⟨gk, q, none⟩ = some (.int .i64 (at2 L k q)) := d0
          have d1' : wr.drew.frozen? ⟨gk, q, none⟩ = false := d1
          have hgkl' : gk < wr.drew.heap.size := hgkl
          refine op_skipN rfl rfl (w' := wr.drew.setCell ⟨gk, q, none⟩ (.int .i64 y)) (by go_simp; try rfl) ?_
          have HD : Hid (GV wr.drew w1.heap.size g n oc rn L vs ∧ Below w1.heap.size w1 wr.drew) := ⟨HS.out.2.1.below (Below.refl _ _).drew, HS.out.2.2.2.drew⟩
          have HP : Hid (∃ L, GV (wr.drew.setCell ⟨gk, q, none⟩ (.int .i64 y)) w1.heap.size g n oc rn L vs ∧ (∀ j m, j < n → m < rn → at2 L j m = if j < k ∨ (j = k ∧ m < q + 1) then ppT lo hi (at2 ls j m) else at2 ls j m) ∧ Below w1.heap.size w1 (wr.drew.setCell ⟨gk, q, none⟩ (.int .i64 y))) := by
            refine ⟨set2 L k q y, HD.out.1.set hlt HS.out.1 q y, fun j m hj hm => ?_, HD.out.1.bel hlt HS.out.1 q y HD.out.2⟩
            rw [at2_set2 HD.out.1.sh hlt hlt2]
            by_cases e : j = k ∧ m = q
            · rw [if_pos e, if_pos (by omega), HY.out, e.1, e.2]
            · rw [if_neg e, HS.out.2.2.1 j m hj hm]
              by_cases e2 : j < k ∨ (j = k ∧ m < q)
              · rw [if_pos e2, if_pos (by omega)]
              · rw [if_neg e2, if_neg (by omega)]
          obtain ⟨g5, c5, hr5, e0, e1, e2, e3, e4, e5, hc5⟩ := (HD.out.1.set hlt HS.out.1 q y).at hlt
          rw [HS.out.1] at hr5
          injection hr5 with t1 t2 t3
          injection t1 with t4
          injection t4 with t5
          subst t5 t3
          have a5 : (wr.drew.setCell ⟨gk, q, none⟩ (.int .i64 y)).cell? ⟨ag, ao + k, none⟩ = some (.slice (some ⟨rg, ro, none⟩) rn rc) := by
            have hb5 : Below w1.heap.size w1 (wr.drew.setCell ⟨gk, q, none⟩ (.int .i64 y)) := HD.out.1.bel hlt HS.out.1 q y HD.out.2
            obtain ⟨ag', ao', ra', rn', rc', f1, f2, f3, _⟩ := (HG.out.2.2.2.2).at hlt
            injection f1 with f1
            injection f1 with f4 f5
            subst f4 f5
            have g0 := (hb5.cell (p := ⟨ag, ao + k, none⟩) f2)
            have g1 := (HS.out.2.2.2.cell (p := ⟨ag, ao + k, none⟩) f2)
            rw [g0, ← g1]; exact a0
          have r5 : (wr.drew.setCell ⟨gk, q, none⟩ (.int .i64 y)).cell? ⟨rg, ro + q, none⟩ = some (.int .i64 x) := by
            obtain ⟨ag', ao', ra', rn', rc', f1, f2, f3, f6, f7⟩ := (HG.out.2.2.2.2).at hlt
            injection f1 with f1
            injection f1 with f4 f5
            subst f4 f5
            have g1 := (HS.out.2.2.2.cell (p := ⟨ag, ao + k, none⟩) f2)
            rw [f3, a0] at g1
            injection g1 with g1
            injection g1 with g2 g3 g4
            subst g2
            rw [HG.out.2.2.1.wd k hlt] at f6
            obtain ⟨rg', ro', h1, h2, h3⟩ := rd_at f7 (show q < rn' by omega)
            injection h1 with h1
            injection h1 with h4 h5
            subst h4 h5
            have hb5 : Below w1.heap.size w1 (wr.drew.setCell ⟨gk, q, none⟩ (.int .i64 y)) := HD.out.1.bel hlt HS.out.1 q y HD.out.2
            rw [hb5.cell (p := ⟨rg, ro + q, none⟩) h2, h3, HX.out]; rfl
          refine ⟨⟨e0, a5, r5⟩, wpAnyH_done (by kernel_rfl) (NoPanic.normal ?_) _⟩
          generalize wr.drew.setCell ⟨gk, q, none⟩ (.int .i64 y) = V' at HP ⊢
          clear a0 r0 c0 d0 d1 d0' d1' hgkl hgkl' hgl hag hrg HS HD HX HY hS e0 e1 e2 e3 e4 e5 hc5 a5 r5 t2
          go_wp2
          go_roundw
          case rel => exact ⟨q + 1, by omega, by go_num, HP.out⟩
          case measure => simp [intOf]; omega
        · have HP : Hid (∃ L, GV wr w1.heap.size g n oc wd L vs ∧ (∀ j m, j < n → m < wd → at2 L j m = if j < k + 1 then ppT lo hi (at2 ls j m) else at2 ls j m) ∧ Below w1.heap.size w1 wr) := by
            refine ⟨L, hGV, fun j m hj hm => ?_, hbl⟩
            rw [hL j m hj hm]
            by_cases e : j < k + 1
            · rw [if_pos (by omega), if_pos e]
            · rw [if_neg (by omega), if_neg e]
          clear hR hGV hL hbl hrk hBk hBg hne hcells
          go_wp2
          go_roundw
          case rel => exact ⟨k + 1, by omega, by go_num, HP.out⟩
          case measure => simp [intOf]; omega
    · have HP : Hid (RI wr w1.heap.size (.slice (some ⟨g, 0, none⟩) n oc) (tnL (ppT lo hi) ls) vs ∧ Below w.heap.size w wr ∧ wr.heap[w.heap.size]? = some (.cells #[.int .i64 0, .slice none 0 0, .int .i64 0] 25) ∧ w.heap.size < w1.heap.size) := by
        obtain ⟨L, h1, h2, h3⟩ := hR.out
        refine ⟨?_, HB.out.2.1.trans (h3.mono HB.out.2.1.size), (h3.block _ HB.out.2.2).trans HB.out.1, HB.out.2.2⟩
        have e : L = tnL (ppT lo hi) ls := grid_ext h1.sh (tnL_sh HG.out.2.2.1) fun j m hj hm => by
          rw [h2 j m hj hm, if_pos (by omega), tnL_at HG.out.2.2.1 hj hm]
        rw [← e]
        exact h1.ri
      obtain ⟨q0, q1, q2, qf0, qf1, qf2, ql⟩ := three_of HP.out.2.2.1
      obtain ⟨Q, hQ⟩ : ∃ Q, Q = psV LL := ⟨_, rfl⟩
      have HSUM : Hid (Calls Try.prog 36 #[.slice (some ⟨g, 0, none⟩) n oc] wr fun e w' => e = .returned (.int .i64 Q) ∧ w' = wr) := by
        rw [hQ, HG.out.2.2.2.1.2]
        exact spec_l9Sum (tn_gg HG.out.1) (HP.out.1.rd)
      have HQ : Hid (psV LL = Q) := hQ.symm
      clear hR hQ
      go_wp2_with (fail)
      refine HSUM.out.mono ?_
      rintro e w9 ⟨rfl, rfl⟩
      clear HSUM
      go_wp2
      try simp only [Exit.inBlock, Exit.then]
      refine bodyPost_ret (by simp [results, Try.results10, go_sem, q0, q1, q2, ql]; try rfl) rfl ⟨.slice (some ⟨g, 0, none⟩) n oc, vs, by rw [HG.out.2.2.2.1.1, HQ.out], ?_, ?_⟩
      · rw [HG.out.2.2.2.1.2]
        have hs := HP.out.2.2.2
        refine RI.low (B := w1.heap.size) ?_ (by omega)
        repeat' (refine ri_result (w := w) ?_ (by omega) _ _)
        exact HP.out.1
      · have hB := HP.out.2.1
        (repeat' (first | (with_reducible exact Below.refl _ _) | (with_reducible assumption) | (with_reducible refine Below.setCell ?_ ?_ _) | (with_reducible refine Below.alloc ?_ ?_ _) | (with_reducible refine below_drewN ?_ _) | (with_reducible refine Below.drew ?_) | (with_reducible exact Nat.le_refl _) | omega | (simp; done) | (simp; omega)))

end Go.Proofs.Ythmddnachancfaa
