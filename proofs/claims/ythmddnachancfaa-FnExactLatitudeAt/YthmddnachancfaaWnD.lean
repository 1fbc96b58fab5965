/- Proved here: the longest run, and with it DepthAt and LatitudeAt, of the program. -/
import Derived.Test.YthmddnachancfaaWnR
import Derived.Test.YthmddnachancfaaWnP
import Derived.Test.YthmddnachancfaaReg
namespace Go.Proofs.Ythmddnachancfaa
open Go.RowKit
set_option linter.unusedVariables false
set_option linter.unusedSimpArgs false

set_option maxRecDepth 10000 in
set_option maxHeartbeats 6400000 in
theorem impl_run {F : Nat} {r : Value} {n W : Nat} {P : Nat → Nat → Bool} {w : World} (row : Int) (hn0 : 0 < n) (hn : n ≤ 16) (hW : W ≤ 16) (hK : Kd F r n W P w) :
    Calls Try.prog 59 #[.int .i64 row, .agg #[.int .i64 W, .int .i64 n], .func (.func F) #[r] #[]] w fun e w' => e = .returned (.agg #[.int .i64 (if 0 ≤ row ∧ row ≤ (n : Int) - 1 then 0 else 4), .int .i64 (if 0 ≤ row ∧ row ≤ (n : Int) - 1 then (rnF (fun x => P row.toNat x) W).1 else 0)]) ∧ Below w.heap.size w w' := by
  obtain ⟨C, hC⟩ : ∃ C : Int, C = if 0 ≤ row ∧ row ≤ (n : Int) - 1 then 0 else 4 := ⟨_, rfl⟩
  obtain ⟨D, hD⟩ : ∃ D, D = if 0 ≤ row ∧ row ≤ (n : Int) - 1 then (rnF (fun x => P row.toNat x) W).1 else 0 := ⟨_, rfl⟩
  rw [← hC, ← hD]
  have HCD : Hid (C = (if 0 ≤ row ∧ row ≤ (n : Int) - 1 then 0 else 4) ∧ D = if 0 ≤ row ∧ row ≤ (n : Int) - 1 then (rnF (fun x => P row.toNat x) W).1 else 0) := ⟨hC, hD⟩
  clear hC hD
  obtain ⟨q, hq⟩ : ∃ q, q = decide (0 ≤ row ∧ row ≤ (n : Int) - 1) := ⟨_, rfl⟩
  have HI : Hid (∀ V, Calls Try.prog 65 #[.int .i64 row, .int .i64 0, .int .i64 ((n : Int) - 1)] V fun e w' => e = .returned (.bool q) ∧ w' = V) := fun V => impl_insC row 0 ((n : Int) - 1) q hq V
  have HK : Hid (Kd F r n W P w) := hK
  have hent := hK.enter
  have hw1 : IntKind.i64.wrap ((n : Int) - 1) = (n : Int) - 1 := by rw [IntKind.wrap_i64]; omega
  clear hK
  obtain ⟨V, hV⟩ : ∃ V, V = (w.alloc (.cells #[.int .i64 W, .int .i64 n] 61)).alloc (.cells #[.int .i64 0, .int .i64 0] 47) := ⟨_, rfl⟩
  obtain ⟨k0, k1, hb, hs⟩ := al2 hV
  have HB : Hid (V.heap[w.heap.size]? = some (.cells #[.int .i64 W, .int .i64 n] 61) ∧ V.heap[w.heap.size + 1]? = some (.cells #[.int .i64 0, .int .i64 0] 47) ∧ Below w.heap.size w V) := ⟨k0, k1, hb⟩
  clear k0 k1 hb hs
  obtain ⟨p0, p1, pf0, pf1, pl⟩ := two_of HB.out.1
  obtain ⟨q0, q1, qf0, qf1, ql⟩ := two_of HB.out.2.1
  go_enter Try.func59, Try.ntmps59
  go_wp2_with (fail)
  rw [← hV]
  refine (HI.out _).mono ?_
  rintro e w1 ⟨rfl, hw⟩
  subst hw
  clear HI hV
  by_cases hin : 0 ≤ row ∧ row ≤ (n : Int) - 1
  case neg =>
    obtain rfl : q = false := by rw [hq]; exact decide_eq_false hin
    have HZ : Hid (C = 4 ∧ D = 0) := by have := HCD.out; rw [if_neg hin, if_neg hin] at this; exact this
    clear hin hq
    go_wp2
    try simp only [Exit.inBlock, Exit.then]
    refine bodyPost_ret (by simp [results, Try.results59, go_sem, q0, q1, ql]; try rfl) rfl ⟨by rw [HZ.out.1, HZ.out.2]; try rfl, ?_⟩
    have hb := HB.out.2.2
    (repeat' (first | (with_reducible exact Below.refl _ _) | (with_reducible assumption) | (with_reducible refine Below.setCell ?_ ?_ _) | (with_reducible refine Below.alloc ?_ ?_ _) | (with_reducible refine below_drewN ?_ _) | (with_reducible refine Below.drew ?_) | (with_reducible exact Nat.le_refl _) | omega | (simp; done) | (simp; omega)))
  obtain rfl : q = true := by rw [hq]; exact decide_eq_true hin
  obtain ⟨y, hy⟩ : ∃ y : Nat, (y : Int) = row := ⟨row.toNat, by omega⟩
  have hyn : y < n := by omega
  obtain ⟨p, hp⟩ : ∃ p, p = (fun x => P y x) := ⟨_, rfl⟩
  have HZ : Hid (C = 0 ∧ D = (rnF p W).1) := by
    have := HCD.out; rw [if_pos hin, if_pos hin] at this; rw [hp]; rw [← hy, Int.toNat_natCast] at this; exact this
  subst hy
  have HP : Hid (∀ x, P y x = p x) := fun x => by rw [hp]
  clear hin hq hp HCD
  go_wp2
  go_loopw [7, 8, 19] (fun q t i wr => ∃ (k : Nat) (b u : Int), k ≤ W ∧ i = .int .i64 k ∧ q = .int .i64 b ∧ t = .int .i64 u ∧ 0 ≤ u ∧ u ≤ k ∧ 0 ≤ b ∧ Hid ((rnF p k).1 = b ∧ (rnF p k).2 = u ∧ Below w1.heap.size w1 wr)) (fun _ _ i _ => W - (intOf i).toNat)
  case atStart => exact ⟨0, 0, 0, Nat.zero_le _, rfl, rfl, rfl, by omega, by omega, by omega, rfl, rfl, Below.refl _ _⟩
  case round =>
    clear p0 p1 pf0 pf1 pl q0 q1 qf0 qf1 ql
    obtain ⟨k, b, u, hk, rfl, rfl, rfl, hu0, hu1, hb0, hR⟩ := hrel
    by_cases hlt : k < W
    · have HC : Hid (Calls Try.prog F #[r, .agg #[.int .i64 k, .int .i64 y]] wr fun e w' => e = .returned (.bool (p k)) ∧ Below wr.heap.size wr w') := by
        have := HK.out.calls wr y k (HB.out.2.2.trans (hR.out.2.2.mono HB.out.2.2.size)) hyn hlt
        rw [HP.out] at this
        exact this
      have HN : Hid ((rnF p (k + 1)).2 = (if p k = true then u + 1 else 0) ∧ (rnF p (k + 1)).1 = (if (if p k = true then u + 1 else 0) > b then (if p k = true then u + 1 else 0) else b)) := by
        have e1 := hR.out.1; have e2 := hR.out.2.1
        constructor
        · simp only [rnF, e1, e2]
        · simp only [rnF, e1, e2]
      have b1 : (k : Int) < (W : Int) := by omega
      have hw3 : IntKind.i64.wrap (u + 1) = u + 1 := by rw [IntKind.wrap_i64]; omega
      go_wp2_with (fail)
      refine HC.out.mono ?_
      rintro e w3 ⟨rfl, hb3⟩
      have HB3 : Hid (Below w1.heap.size w1 w3) := hR.out.2.2.trans (hb3.mono hR.out.2.2.size)
      clear hR hb3 HC
      cases hpk : p k with
      | true =>
        rw [hpk] at HN
        have HN1 : Hid ((rnF p (k + 1)).2 = u + 1 ∧ (rnF p (k + 1)).1 = if u + 1 > b then u + 1 else b) := by have := HN.out; unfold Hid; simpa using this
        clear HN hpk
        by_cases hgt : u + 1 > b
        · have HN2 : Hid ((rnF p (k + 1)).1 = u + 1) := by have := HN1.out.2; rw [if_pos hgt] at this; exact this
          go_wp2
          go_roundw
          case rel => exact ⟨k + 1, u + 1, u + 1, by omega, by go_num, by first | rfl | go_num, by first | rfl | go_num, by omega, by omega, by omega, HN2.out, HN1.out.1, HB3.out⟩
          case measure => simp [intOf]; omega
        · have HN2 : Hid ((rnF p (k + 1)).1 = b) := by have := HN1.out.2; rw [if_neg hgt] at this; exact this
          go_wp2
          go_roundw
          case rel => exact ⟨k + 1, b, u + 1, by omega, by go_num, by first | rfl | go_num, by first | rfl | go_num, by omega, by omega, by omega, HN2.out, HN1.out.1, HB3.out⟩
          case measure => simp [intOf]; omega
      | false =>
        rw [hpk] at HN
        have HN1 : Hid ((rnF p (k + 1)).2 = 0 ∧ (rnF p (k + 1)).1 = b) := by
          have := HN.out
          refine ⟨by simpa using this.1, ?_⟩
          have h2 := this.2
          rw [if_neg (show ¬ ((if false = true then u + 1 else 0) > b) by simp; omega)] at h2
          exact h2
        have hgt : ¬ (0 : Int) > b := by omega
        clear HN hpk
        go_wp2
        go_roundw
        case rel => exact ⟨k + 1, b, 0, by omega, by go_num, by first | rfl | go_num, by first | rfl | go_num, by omega, by omega, by omega, HN1.out.2, HN1.out.1, HB3.out⟩
        case measure => simp [intOf]; omega
    · have HE : Hid ((rnF p W).1 = b) := by rw [show k = W by omega] at hR; exact hR.out.1
      have HB3 : Hid (Below w1.heap.size w1 wr) := hR.out.2.2
      clear hR
      obtain ⟨q0, q1, qf0, qf1, ql⟩ := two_of ((HB3.out.block _ (ltOf HB.out.2.1)).trans HB.out.2.1)
      go_wp2
      try simp only [Exit.inBlock, Exit.then]
      refine bodyPost_ret (by simp [results, Try.results59, go_sem, q0, q1, ql]; try rfl) rfl ⟨by rw [HZ.out.1, HZ.out.2, HE.out]; try rfl, ?_⟩
      have hb : Below w.heap.size w wr := HB.out.2.2.trans (HB3.out.mono HB.out.2.2.size)
      (repeat' (first | (with_reducible exact Below.refl _ _) | (with_reducible assumption) | (with_reducible refine Below.setCell ?_ ?_ _) | (with_reducible refine Below.alloc ?_ ?_ _) | (with_reducible refine below_drewN ?_ _) | (with_reducible refine Below.drew ?_) | (with_reducible exact Nat.le_refl _) | omega | (simp; done) | (simp; omega)))

set_option maxRecDepth 10000 in
set_option maxHeartbeats 6400000 in
theorem impl_dp (row : Int) {w : World} {v : Value} {ls : List (List Int)} (hn : SmR ls) (h : RdR w v ls) :
    Calls Try.prog 27 #[v, .int .i64 row] w fun e w' => e = .returned (.agg #[.int .i64 (dpC ls row ls.length), .int .i64 (dpV ls row)]) ∧ Below w.heap.size w w' := by
  obtain ⟨a, c, rfl⟩ := h.form
  obtain ⟨n, hnn⟩ : ∃ n, n = ls.length := ⟨_, rfl⟩
  obtain ⟨C, hC⟩ : ∃ C, C = pmC ls := ⟨_, rfl⟩
  obtain ⟨D, hD⟩ : ∃ C, C = dpC ls row ls.length := ⟨_, rfl⟩
  obtain ⟨E, hE⟩ : ∃ C, C = dpV ls row := ⟨_, rfl⟩
  rw [← hD, ← hE]
  have HDE : Hid (D = (if C = 0 then (if 0 ≤ row ∧ row ≤ (n : Int) - 1 then 0 else 4) else C) ∧ E = if D = 0 then (rnF (fun x => oneP ls row.toNat x) (ls.getD 0 []).length).1 else 0) := ⟨by rw [hD, hC, hnn]; rfl, by rw [hE, hD]; rfl⟩
  rw [← hnn] at h ⊢
  have HF : Hid (∀ W, Below w.heap.size w W → Calls Try.prog 46 #[.slice a n c] W fun e w' => e = .returned (.int .i64 C) ∧ w' = W) := fun W hW => by rw [hC]; exact impl_pm hn (h.below hW)
  have H : Hid (RdR w (.slice a n c) ls ∧ n = ls.length ∧ C = pmC ls) := ⟨h, hnn, hC⟩
  clear h hn hC hnn hD hE
  go_enter Try.func27, Try.ntmps27
  go_wp2_with (fail)
  refine (HF.out _ (by (repeat' (first | (with_reducible exact Below.refl _ _) | (with_reducible assumption) | (with_reducible refine Below.setCell ?_ ?_ _) | (with_reducible refine Below.alloc ?_ ?_ _) | (with_reducible refine below_drewN ?_ _) | (with_reducible refine Below.drew ?_) | (with_reducible exact Nat.le_refl _) | omega | (simp; done) | (simp; omega))))).mono ?_
  rintro e w1 ⟨rfl, hw⟩
  subst hw
  clear HF
  by_cases hA0 : C = 0
  case neg =>
    have HV : Hid (D = C ∧ E = 0) := by
      have := HDE.out; rw [if_neg hA0] at this; refine ⟨this.1, ?_⟩; rw [this.2, if_neg (by rw [this.1]; exact hA0)]
    have hA1 : (C != 0) = true := by simpa using hA0
    go_wp2
    go_returns
    exact ⟨by rw [HV.out.1, HV.out.2], by (repeat' (first | (with_reducible exact Below.refl _ _) | (with_reducible assumption) | (with_reducible refine Below.setCell ?_ ?_ _) | (with_reducible refine Below.alloc ?_ ?_ _) | (with_reducible refine below_drewN ?_ _) | (with_reducible refine Below.drew ?_) | (with_reducible exact Nat.le_refl _) | omega | (simp; done) | (simp; omega)))⟩
  have hG := pmC_good (H.out.2.2.symm.trans hA0)
  obtain ⟨wd, hwd⟩ : ∃ n, n = (ls.getD 0 []).length := ⟨_, rfl⟩
  have hn16 : n ≤ 16 := by rw [H.out.2.1]; exact hG.h1
  have hn0 : 0 < n := by rw [H.out.2.1]; exact hG.h0
  have hw16 : wd ≤ 16 := by rw [hwd]; exact hG.w1
  have HV : Hid (D = (if 0 ≤ row ∧ row ≤ (n : Int) - 1 then 0 else 4) ∧ E = if 0 ≤ row ∧ row ≤ (n : Int) - 1 then (rnF (fun x => oneP ls row.toNat x) wd).1 else 0) := by
    have := HDE.out; rw [if_pos hA0] at this
    refine ⟨this.1, ?_⟩
    rw [this.2, this.1, hwd]
    by_cases h : 0 ≤ row ∧ row ≤ (n : Int) - 1
    · rw [if_pos h, if_pos rfl, if_pos h]
    · rw [if_neg h, if_neg (by decide), if_neg h]
  have HEND : Hid (∀ V, Below w.heap.size w V → Calls Try.prog 40 #[.agg #[.slice a n c, .slice none 0 0, .int .i64 0, .int .i64 0]] V fun e w' => e = .returned (.agg #[.int .i64 wd, .int .i64 n]) ∧ Below V.heap.size V w') := fun V hV => by
    rw [hwd]; exact impl_end hn0 (by omega) (H.out.1.below hV)
  have HRUN : Hid (∀ V, Below w.heap.size w V → Calls Try.prog 59 #[.int .i64 row, .agg #[.int .i64 wd, .int .i64 n], .func (.func 50) #[.agg #[.slice a n c, .slice none 0 0, .int .i64 0, .int .i64 0]] #[]] V fun e w' => e = .returned (.agg #[.int .i64 D, .int .i64 E]) ∧ Below V.heap.size V w') := fun V hV => by
    rw [HV.out.1, HV.out.2]
    have := kd_one (oa := none) (on := 0) (oc := 0) (lo := 0) (hi := 0) hG (H.out.1.below hV)
    rw [← hwd] at this
    exact impl_run row hn0 hn16 hw16 this
  clear hG hwd HDE HV
  go_wp2_with (fail)
  obtain ⟨V, hV⟩ : ∃ V, V = (w.alloc (.cells #[.int .i64 0, .int .i64 0] 47)).alloc (.cells #[.slice a n c, .slice none 0 0, .int .i64 0, .int .i64 0] 58) := ⟨_, rfl⟩
  rw [← hV]
  obtain ⟨k0, k1, hb, hs⟩ := al2 hV
  clear hV
  refine wp_region_holdsA (S := fun w' => w'.heap[w.heap.size + 1]? = some (.cells #[.slice a n c, .slice none 0 0, .int .i64 0, .int .i64 0] 58)) (by kernel_rfl) k1 (fun hS => ?_)
  refine fl_takeA (i := 0) (d := 15) (v := .int .i64 row) rfl rfl rfl (by kernel_rfl) (by kernel_rfl) (by kernel_rfl) hS ?_ ?_
  · intro w' hk; obtain ⟨hk0, hk1, hk2, hk3, hkl⟩ := four_of hk; go_simp
  simp only [Act.put, List.setIfInBounds_toArray, List.set_cons_zero, List.set_cons_succ]
  refine fl_takeA (i := 1) (d := 16) (v := .agg #[.slice a n c, .slice none 0 0, .int .i64 0, .int .i64 0]) rfl rfl rfl (by kernel_rfl) (by kernel_rfl) (by kernel_rfl) hS ?_ ?_
  · intro w' hk; obtain ⟨hk0, hk1, hk2, hk3, hkl⟩ := four_of hk; go_simp
  simp only [Act.put, List.setIfInBounds_toArray, List.set_cons_zero, List.set_cons_succ]
  refine fl_takeA (i := 3) (d := 18) (v := .agg #[.slice a n c, .slice none 0 0, .int .i64 0, .int .i64 0]) rfl rfl rfl (by kernel_rfl) (by kernel_rfl) (by kernel_rfl) hS ?_ ?_
  · intro w' hk; obtain ⟨hk0, hk1, hk2, hk3, hkl⟩ := four_of hk; go_simp
  simp only [Act.put, List.setIfInBounds_toArray, List.set_cons_zero, List.set_cons_succ]
  refine fl_takeA (i := 4) (d := 19) (v := .func (.func 50) #[.agg #[.slice a n c, .slice none 0 0, .int .i64 0, .int .i64 0]] #[]) rfl rfl rfl (by kernel_rfl) (by kernel_rfl) (by kernel_rfl) hS ?_ ?_
  · intro w' hk; obtain ⟨hk0, hk1, hk2, hk3, hkl⟩ := four_of hk; go_simp
  simp only [Act.put, List.setIfInBounds_toArray, List.set_cons_zero, List.set_cons_succ]
  refine wpAnyH_all (rs := [2]) (by kernel_rfl) (by simp) ?_
  intro i hi; obtain rfl := List.mem_singleton.1 hi; clear hi
  refine op_call (d := 17) rfl rfl rfl (by go_simp) ((HEND.out _ hb.drew).mono ?_)
  rintro e y1 ⟨rfl, hy1⟩
  have hb1 : Below w.heap.size w y1 := hb.drew.trans (hy1.mono hb.size)
  have s1 := (hy1.block _ (by show _ < V.heap.size; omega)).trans k1
  have r1 := (hy1.block _ (by show _ < V.heap.size; omega)).trans k0
  refine ⟨_, rfl, s1, ?_⟩
  simp only [Act.put, List.setIfInBounds_toArray, List.set_cons_zero, List.set_cons_succ]
  refine wpAnyH_all (rs := [5]) (by kernel_rfl) (by simp) ?_
  intro i hi; obtain rfl := List.mem_singleton.1 hi; clear hi
  refine op_call (d := 20) rfl rfl rfl (by go_simp) ((HRUN.out _ hb1).mono ?_)
  rintro e y2 ⟨rfl, hy2⟩
  have hb2 : Below w.heap.size w y2 := hb1.trans (hy2.mono hb1.size)
  have s2 := (hy2.block _ (ltOf s1)).trans s1
  have r2 := (hy2.block _ (ltOf r1)).trans r1
  refine ⟨_, rfl, s2, ?_⟩
  simp only [Act.put, List.setIfInBounds_toArray, List.set_cons_zero, List.set_cons_succ]
  refine wpAnyH_all (rs := [6]) (by kernel_rfl) (by simp) ?_
  intro i hi; obtain rfl := List.mem_singleton.1 hi; clear hi
  refine op_store rfl rfl rfl _ _ _ rfl w.heap.size #[.int .i64 D, .int .i64 E] rfl rfl (there_n r2 rfl) (by kernel_rfl) (by simp [Value.oneCell']) ?_
  obtain ⟨q0, q1, qf0, qf1, ql⟩ := two_of (st_same2 (c := .int .i64 D) (d := .int .i64 E) r2)
  have HB : Hid (Below w.heap.size w (y2.setCells w.heap.size 0 [.int .i64 D, .int .i64 E])) := st_below (Nat.le_refl _) _ _ hb2
  refine ⟨(setCells_other _ _ _ _ _ (by omega)).trans s2, wpAnyH_done (by kernel_rfl) (NoPanic.normal ?_) _⟩
  generalize y2.setCells w.heap.size 0 [.int .i64 D, .int .i64 E] = V' at HB q0 q1 qf0 qf1 ql ⊢
  clear k0 k1 hb hs hS hy1 hb1 s1 r1 hy2 hb2 s2 r2 HEND HRUN
  go_wp2
  try simp only [Exit.inBlock, Exit.then]
  refine bodyPost_ret (by simp [results, Try.results27, go_sem, q0, q1, ql]; try rfl) rfl ⟨rfl, HB.out⟩

set_option maxRecDepth 10000 in
set_option maxHeartbeats 6400000 in
theorem impl_lt (row : Int) {w : World} {v : Value} {ls : List (List Int)} (hn : SmR ls) (h : RdR w v ls) :
    Calls Try.prog 30 #[v, .int .i64 row] w fun e w' => e = .returned (.agg #[.int .i64 (dpC ls row (ls.getD 0 []).length), .int .i64 (ltV ls row)]) ∧ Below w.heap.size w w' := by
  obtain ⟨a, c, rfl⟩ := h.form
  obtain ⟨n, hnn⟩ : ∃ n, n = ls.length := ⟨_, rfl⟩
  obtain ⟨wd, hwd⟩ : ∃ n, n = (ls.getD 0 []).length := ⟨_, rfl⟩
  have HWD : Hid (wd = (ls.getD 0 []).length) := hwd
  obtain ⟨C, hC⟩ : ∃ C, C = pmC ls := ⟨_, rfl⟩
  obtain ⟨D, hD⟩ : ∃ C, C = dpC ls row (ls.getD 0 []).length := ⟨_, rfl⟩
  obtain ⟨E, hE⟩ : ∃ C, C = ltV ls row := ⟨_, rfl⟩
  rw [← hD, ← hE]
  have HDE : Hid (D = (if C = 0 then (if 0 ≤ row ∧ row ≤ (wd : Int) - 1 then 0 else 4) else C) ∧ E = if D = 0 then (rnF (fun y => oneP ls y row.toNat) ls.length).1 else 0) := ⟨by rw [hD, hC, hwd]; rfl, by rw [hE, hD]; rfl⟩
  rw [← hnn] at h ⊢
  have HF : Hid (∀ W, Below w.heap.size w W → Calls Try.prog 46 #[.slice a n c] W fun e w' => e = .returned (.int .i64 C) ∧ w' = W) := fun W hW => by rw [hC]; exact impl_pm hn (h.below hW)
  have H : Hid (RdR w (.slice a n c) ls ∧ n = ls.length ∧ C = pmC ls) := ⟨h, hnn, hC⟩
  clear h hn hC hnn hD hE hwd
  go_enter Try.func30, Try.ntmps30
  go_wp2_with (fail)
  refine (HF.out _ (by (repeat' (first | (with_reducible exact Below.refl _ _) | (with_reducible assumption) | (with_reducible refine Below.setCell ?_ ?_ _) | (with_reducible refine Below.alloc ?_ ?_ _) | (with_reducible refine below_drewN ?_ _) | (with_reducible refine Below.drew ?_) | (with_reducible exact Nat.le_refl _) | omega | (simp; done) | (simp; omega))))).mono ?_
  rintro e w1 ⟨rfl, hw⟩
  subst hw
  clear HF
  by_cases hA0 : C = 0
  case neg =>
    have HV : Hid (D = C ∧ E = 0) := by
      have := HDE.out; rw [if_neg hA0] at this; refine ⟨this.1, ?_⟩; rw [this.2, if_neg (by rw [this.1]; exact hA0)]
    have hA1 : (C != 0) = true := by simpa using hA0
    go_wp2
    go_returns
    exact ⟨by rw [HV.out.1, HV.out.2], by (repeat' (first | (with_reducible exact Below.refl _ _) | (with_reducible assumption) | (with_reducible refine Below.setCell ?_ ?_ _) | (with_reducible refine Below.alloc ?_ ?_ _) | (with_reducible refine below_drewN ?_ _) | (with_reducible refine Below.drew ?_) | (with_reducible exact Nat.le_refl _) | omega | (simp; done) | (simp; omega)))⟩
  have hG := pmC_good (H.out.2.2.symm.trans hA0)
  have hwd := HWD.out
  have hw0 : 0 < wd := by rw [hwd]; exact hG.w0
  have hn16 : n ≤ 16 := by rw [H.out.2.1]; exact hG.h1
  have hn0 : 0 < n := by rw [H.out.2.1]; exact hG.h0
  have hw16 : wd ≤ 16 := by rw [hwd]; exact hG.w1
  have HV : Hid (D = (if 0 ≤ row ∧ row ≤ (wd : Int) - 1 then 0 else 4) ∧ E = if 0 ≤ row ∧ row ≤ (wd : Int) - 1 then (rnF (fun y => oneP ls y row.toNat) n).1 else 0) := by
    have := HDE.out; rw [if_pos hA0] at this
    refine ⟨this.1, ?_⟩
    rw [this.2, this.1, ← H.out.2.1]
    by_cases h : 0 ≤ row ∧ row ≤ (wd : Int) - 1
    · rw [if_pos h, if_pos rfl, if_pos h]
    · rw [if_neg h, if_neg (by decide), if_neg h]
  have HEND : Hid (∀ V, Below w.heap.size w V → Calls Try.prog 40 #[.agg #[.slice a n c, .slice none 0 0, .int .i64 0, .int .i64 0]] V fun e w' => e = .returned (.agg #[.int .i64 wd, .int .i64 n]) ∧ Below V.heap.size V w') := fun V hV => by
    rw [hwd]; exact impl_end hn0 (by omega) (H.out.1.below hV)
  have HRUN : Hid (∀ V, Below w.heap.size w V → Calls Try.prog 59 #[.int .i64 row, .agg #[.int .i64 n, .int .i64 wd], .func (.func 61) #[.agg #[.slice a n c, .slice none 0 0, .int .i64 0, .int .i64 0]] #[]] V fun e w' => e = .returned (.agg #[.int .i64 D, .int .i64 E]) ∧ Below V.heap.size V w') := fun V hV => by
    rw [HV.out.1, HV.out.2]
    have := kd_flip (oa := none) (on := 0) (oc := 0) (lo := 0) (hi := 0) hG (H.out.1.below hV)
    rw [← hwd] at this
    exact impl_run row hw0 hw16 hn16 this
  have HFL : Hid (∀ V, Calls Try.prog 60 #[.agg #[.int .i64 wd, .int .i64 n]] V fun e w' => e = .returned (.agg #[.int .i64 n, .int .i64 wd]) ∧ Below V.heap.size V w') := fun V => impl_flipped wd n V
  clear hG hwd HDE HV HWD
  go_wp2_with (fail)
  obtain ⟨V, hV⟩ : ∃ V, V = (w.alloc (.cells #[.int .i64 0, .int .i64 0] 47)).alloc (.cells #[.slice a n c, .slice none 0 0, .int .i64 0, .int .i64 0] 58) := ⟨_, rfl⟩
  rw [← hV]
  obtain ⟨k0, k1, hb, hs⟩ := al2 hV
  clear hV
  refine wp_region_holdsA (S := fun w' => w'.heap[w.heap.size + 1]? = some (.cells #[.slice a n c, .slice none 0 0, .int .i64 0, .int .i64 0] 58)) (by kernel_rfl) k1 (fun hS => ?_)
  refine fl_takeA (i := 0) (d := 15) (v := .int .i64 row) rfl rfl rfl (by kernel_rfl) (by kernel_rfl) (by kernel_rfl) hS ?_ ?_
  · intro w' hk; obtain ⟨hk0, hk1, hk2, hk3, hkl⟩ := four_of hk; go_simp
  simp only [Act.put, List.setIfInBounds_toArray, List.set_cons_zero, List.set_cons_succ]
  refine fl_takeA (i := 1) (d := 16) (v := .agg #[.slice a n c, .slice none 0 0, .int .i64 0, .int .i64 0]) rfl rfl rfl (by kernel_rfl) (by kernel_rfl) (by kernel_rfl) hS ?_ ?_
  · intro w' hk; obtain ⟨hk0, hk1, hk2, hk3, hkl⟩ := four_of hk; go_simp
  simp only [Act.put, List.setIfInBounds_toArray, List.set_cons_zero, List.set_cons_succ]
  refine fl_takeA (i := 4) (d := 19) (v := .agg #[.slice a n c, .slice none 0 0, .int .i64 0, .int .i64 0]) rfl rfl rfl (by kernel_rfl) (by kernel_rfl) (by kernel_rfl) hS ?_ ?_
  · intro w' hk; obtain ⟨hk0, hk1, hk2, hk3, hkl⟩ := four_of hk; go_simp
  simp only [Act.put, List.setIfInBounds_toArray, List.set_cons_zero, List.set_cons_succ]
  refine fl_takeA (i := 5) (d := 20) (v := .func (.func 61) #[.agg #[.slice a n c, .slice none 0 0, .int .i64 0, .int .i64 0]] #[]) rfl rfl rfl (by kernel_rfl) (by kernel_rfl) (by kernel_rfl) hS ?_ ?_
  · intro w' hk; obtain ⟨hk0, hk1, hk2, hk3, hkl⟩ := four_of hk; go_simp
  simp only [Act.put, List.setIfInBounds_toArray, List.set_cons_zero, List.set_cons_succ]
  refine wpAnyH_all (rs := [2]) (by kernel_rfl) (by simp) ?_
  intro i hi; obtain rfl := List.mem_singleton.1 hi; clear hi
  refine op_call (d := 17) rfl rfl rfl (by go_simp) ((HEND.out _ hb.drew).mono ?_)
  rintro e y1 ⟨rfl, hy1⟩
  have hb1 : Below w.heap.size w y1 := hb.drew.trans (hy1.mono hb.size)
  have s1 := (hy1.block _ (by show _ < V.heap.size; omega)).trans k1
  have r1 := (hy1.block _ (by show _ < V.heap.size; omega)).trans k0
  refine ⟨_, rfl, s1, ?_⟩
  simp only [Act.put, List.setIfInBounds_toArray, List.set_cons_zero, List.set_cons_succ]
  refine wpAnyH_all (rs := [3]) (by kernel_rfl) (by simp) ?_
  intro i hi; obtain rfl := List.mem_singleton.1 hi; clear hi
  refine op_call (d := 18) rfl rfl rfl (by go_simp) ((HFL.out _).mono ?_)
  rintro e y3 ⟨rfl, hy3⟩
  have hb3 : Below w.heap.size w y3 := hb1.trans (hy3.mono hb1.size)
  have s3 := (hy3.block _ (ltOf s1)).trans s1
  have r3 := (hy3.block _ (ltOf r1)).trans r1
  clear hb1 s1 r1 hy1 hy3
  refine ⟨_, rfl, s3, ?_⟩
  simp only [Act.put, List.setIfInBounds_toArray, List.set_cons_zero, List.set_cons_succ]
  refine wpAnyH_all (rs := [6]) (by kernel_rfl) (by simp) ?_
  intro i hi; obtain rfl := List.mem_singleton.1 hi; clear hi
  refine op_call (d := 21) rfl rfl rfl (by go_simp) ((HRUN.out _ hb3).mono ?_)
  rintro e y2 ⟨rfl, hy2⟩
  have hb2 : Below w.heap.size w y2 := hb3.trans (hy2.mono hb3.size)
  have s2 := (hy2.block _ (ltOf s3)).trans s3
  have r2 := (hy2.block _ (ltOf r3)).trans r3
  refine ⟨_, rfl, s2, ?_⟩
  simp only [Act.put, List.setIfInBounds_toArray, List.set_cons_zero, List.set_cons_succ]
  refine wpAnyH_all (rs := [7]) (by kernel_rfl) (by simp) ?_
  intro i hi; obtain rfl := List.mem_singleton.1 hi; clear hi
  refine op_store rfl rfl rfl _ _ _ rfl w.heap.size #[.int .i64 D, .int .i64 E] rfl rfl (there_n r2 rfl) (by kernel_rfl) (by simp [Value.oneCell']) ?_
  obtain ⟨q0, q1, qf0, qf1, ql⟩ := two_of (st_same2 (c := .int .i64 D) (d := .int .i64 E) r2)
  have HB : Hid (Below w.heap.size w (y2.setCells w.heap.size 0 [.int .i64 D, .int .i64 E])) := st_below (Nat.le_refl _) _ _ hb2
  refine ⟨(setCells_other _ _ _ _ _ (by omega)).trans s2, wpAnyH_done (by kernel_rfl) (NoPanic.normal ?_) _⟩
  generalize y2.setCells w.heap.size 0 [.int .i64 D, .int .i64 E] = V' at HB q0 q1 qf0 qf1 ql ⊢
  clear k0 k1 hb hs hS hb3 s3 r3 hy2 hb2 s2 r2 HEND HRUN HFL
  go_wp2
  try simp only [Exit.inBlock, Exit.then]
  refine bodyPost_ret (by simp [results, Try.results30, go_sem, q0, q1, ql]; try rfl) rfl ⟨rfl, HB.out⟩

end Go.Proofs.Ythmddnachancfaa
