/- Proved here: DepthAt and LatitudeAt of the model. -/
import Derived.Test.YthmddnachancfaaWnP
import Derived.Test.YthmddnachancfaaWnE
import Derived.Test.YthmddnachancfaaCpB
namespace Go.Proofs.Ythmddnachancfaa
open Go.RowKit
set_option linter.unusedVariables false
set_option linter.unusedSimpArgs false

set_option maxHeartbeats 400000 in
theorem spec_mx (a b : Int) (w : World) : Calls Try.prog 68 #[.int .i64 a, .int .i64 b] w fun e w' => e = .returned (.int .i64 (if b > a then b else a)) ∧ w' = w := by
  by_cases h : b < a
  · rw [if_neg (by omega)]
    go_enter Try.func68, Try.ntmps68
    go_wp2
    go_returns
    exact ⟨rfl, rfl⟩
  · rw [show (if b > a then b else a) = b by split <;> omega]
    go_enter Try.func68, Try.ntmps68
    go_wp2
    go_returns
    exact ⟨rfl, rfl⟩

set_option maxRecDepth 10000 in
set_option maxHeartbeats 3200000 in
theorem spec_run {w : World} {v : Value} {s : List Int} (hl : s.length ≤ 16) (hs : ∀ m, m < s.length → s.getD m 0 = 0 ∨ s.getD m 0 = 1) (h : RdI w v s) :
    Calls Try.prog 58 #[v] w fun e w' => e = .returned (.int .i64 (rnF (fun m => s.getD m 0 == 1) s.length).1) ∧ w' = w := by
  obtain ⟨a, c, rfl⟩ := h.form
  obtain ⟨n, hnn⟩ : ∃ n, n = s.length := ⟨_, rfl⟩
  rw [← hnn] at h hl ⊢
  obtain ⟨p, hp⟩ : ∃ p : Nat → Bool, p = fun m => s.getD m 0 == 1 := ⟨_, rfl⟩
  rw [← hp]
  have H : Hid (RdI w (.slice a n c) s ∧ (∀ m, m < n → s.getD m 0 = 0 ∨ s.getD m 0 = 1) ∧ ∀ m, p m = (s.getD m 0 == 1)) := ⟨h, by rw [hnn]; exact hs, fun m => by rw [hp]⟩
  have HM : Hid (∀ a b V, Calls Try.prog 68 #[.int .i64 a, .int .i64 b] V fun e w' => e = .returned (.int .i64 (if b > a then b else a)) ∧ w' = V) := spec_mx
  clear h hs hnn hp
  go_enter Try.func58, Try.ntmps58
  go_wp2
  go_loopw [3, 4, 5] (fun q t i wr => ∃ (k : Nat) (b u : Int), k ≤ n ∧ i = .int .i64 k ∧ q = .int .i64 b ∧ t = .int .i64 u ∧ 0 ≤ u ∧ u ≤ k ∧ 0 ≤ b ∧ b ≤ k ∧ wr = w ∧ Hid ((rnF p k).1 = b ∧ (rnF p k).2 = u)) (fun _ _ i _ => n - (intOf i).toNat)
  case atStart => exact ⟨0, 0, 0, Nat.zero_le _, rfl, rfl, rfl, by omega, by omega, by omega, by omega, rfl, rfl, rfl⟩
  case round =>
    obtain ⟨k, b, u, hk, rfl, rfl, rfl, hu0, hu1, hb0, hb1, rfl, hR⟩ := hrel
    by_cases hlt : k < n
    · obtain ⟨g, o, rfl, hg, c0⟩ := rd_at H.out.1 hlt
      have h01 := H.out.2.1 k hlt
      have hpk := H.out.2.2 k
      obtain ⟨x, hx⟩ : ∃ x, x = s.getD k 0 := ⟨_, rfl⟩
      rw [← hx] at c0 h01 hpk
      have b1 : (k : Int) < (n : Int) := by omega
      have b0 : (0 : Int) ≤ (k : Int) := by omega
      have hw3 : IntKind.i64.wrap (u + 1) = u + 1 := by rw [IntKind.wrap_i64]; omega
      obtain ⟨r, hr⟩ : ∃ r : Int, r = if p k = true then u + 1 else 0 := ⟨_, rfl⟩
      have hw4 : IntKind.i64.wrap ((u + 1) * x) = r := by
        rcases h01 with h | h
        · rw [hr, hpk, h]; simp [IntKind.wrap_i64]
        · rw [hr, hpk, h]; simp [hw3]
      have hr0 : 0 ≤ r ∧ r ≤ k + 1 := by rw [hr]; split <;> omega
      have HN : Hid ((rnF p (k + 1)).2 = r ∧ (rnF p (k + 1)).1 = if r > b then r else b) := by
        have e1 := hR.out.1; have e2 := hR.out.2
        constructor
        · simp only [rnF, e1, e2, hr]
        · simp only [rnF, e1, e2, hr]
      clear hr hpk hx h01 hR
      go_wp2_with (fail)
      refine (HM.out b r _).mono ?_
      rintro e w3 ⟨rfl, rfl⟩
      obtain ⟨m, hm⟩ : ∃ m, m = if r > b then r else b := ⟨_, rfl⟩
      rw [← hm]
      have HN2 : Hid ((rnF p (k + 1)).2 = r ∧ (rnF p (k + 1)).1 = m) := by rw [hm]; exact HN.out
      have hm0 : 0 ≤ m ∧ m ≤ k + 1 := by rw [hm]; split <;> omega
      clear hm HN
      go_wp2
      go_roundw
      case rel => exact ⟨k + 1, m, r, by omega, by go_num, rfl, rfl, hr0.1, by omega, hm0.1, by omega, by first | rfl | trivial, HN2.out.2, HN2.out.1⟩
      case measure => simp [intOf]; omega
    · have HE : Hid ((rnF p n).1 = b) := by rw [show k = n by omega] at hR; exact hR.out.1
      clear hR
      go_wp2
      go_returns
      exact ⟨by rw [HE.out]; rfl, rfl⟩

set_option maxRecDepth 10000 in
set_option maxHeartbeats 6400000 in
theorem spec_dp (row : Int) {w : World} {v : Value} {ls : List (List Int)} (hn : SmR ls) (h : RdR w v ls) :
    Calls Try.prog 26 #[v, .int .i64 row] w fun e w' => e = .returned (.agg #[.int .i64 (dpC ls row ls.length), .int .i64 (dpV ls row)]) ∧ Below w.heap.size w w' := by
  obtain ⟨a, c, rfl⟩ := h.form
  obtain ⟨n, hnn⟩ : ∃ n, n = ls.length := ⟨_, rfl⟩
  obtain ⟨C, hC⟩ : ∃ C, C = pmC ls := ⟨_, rfl⟩
  obtain ⟨D, hD⟩ : ∃ C, C = dpC ls row ls.length := ⟨_, rfl⟩
  obtain ⟨E, hE⟩ : ∃ C, C = dpV ls row := ⟨_, rfl⟩
  rw [← hD, ← hE]
  have HDE : Hid (D = (if C = 0 then (if 0 ≤ row ∧ row ≤ (n : Int) - 1 then 0 else 4) else C) ∧ E = if D = 0 then (rnF (fun x => oneP ls row.toNat x) (ls.getD 0 []).length).1 else 0) := ⟨by rw [hD, hC, hnn]; rfl, by rw [hE, hD]; rfl⟩
  rw [← hnn] at h ⊢
  have hn' : n ≤ 1048576 := by rw [hnn]; exact hn.len
  have HF : Hid (∀ W, Below w.heap.size w W → Calls Try.prog 45 #[.slice a n c] W fun e w' => e = .returned (.int .i64 C) ∧ Below W.heap.size W w') := fun W hW => by rw [hC]; exact spec_pm hn (h.below hW)
  have H : Hid (RdR w (.slice a n c) ls ∧ n = ls.length ∧ C = pmC ls) := ⟨h, hnn, hC⟩
  clear h hn hC hnn hD hE
  go_enter Try.func26, Try.ntmps26
  go_wp2_with (fail)
  refine (HF.out _ (by (repeat' (first | (with_reducible exact Below.refl _ _) | (with_reducible assumption) | (with_reducible refine Below.setCell ?_ ?_ _) | (with_reducible refine Below.alloc ?_ ?_ _) | (with_reducible refine below_drewN ?_ _) | (with_reducible refine Below.drew ?_) | (with_reducible exact Nat.le_refl _) | omega | (simp; done) | (simp; omega))))).mono ?_
  rintro e w1 ⟨rfl, hb1⟩
  have k2 := (hb1.block w.heap.size (by simp)).trans (heap_alloc_new w (.cells #[.int .i64 0, .int .i64 0] 47))
  have HB : Hid (Below w.heap.size w w1) := (show Below w.heap.size w _ from by (repeat' (first | (with_reducible exact Below.refl _ _) | (with_reducible assumption) | (with_reducible refine Below.setCell ?_ ?_ _) | (with_reducible refine Below.alloc ?_ ?_ _) | (with_reducible refine below_drewN ?_ _) | (with_reducible refine Below.drew ?_) | (with_reducible exact Nat.le_refl _) | omega | (simp; done) | (simp; omega)))).trans (hb1.mono (by simp))
  obtain ⟨q0, q1, qf0, qf1, ql⟩ := two_of k2
  clear HF hb1 k2
  by_cases hA0 : C = 0
  case neg =>
    have HV : Hid (D = C ∧ E = 0) := by
      have := HDE.out; rw [if_neg hA0] at this; refine ⟨this.1, ?_⟩; rw [this.2, if_neg (by rw [this.1]; exact hA0)]
    have hA1 : (C != 0) = true := by simpa using hA0
    go_wp2
    try simp only [Exit.inBlock, Exit.then]
    refine bodyPost_ret (by simp [results, Try.results26, go_sem, q0, q1, ql]; try rfl) rfl ⟨by rw [HV.out.1, HV.out.2]; try rfl, ?_⟩
    have hb := HB.out
    (repeat' (first | (with_reducible exact Below.refl _ _) | (with_reducible assumption) | (with_reducible refine Below.setCell ?_ ?_ _) | (with_reducible refine Below.alloc ?_ ?_ _) | (with_reducible refine below_drewN ?_ _) | (with_reducible refine Below.drew ?_) | (with_reducible exact Nat.le_refl _) | omega | (simp; done) | (simp; omega)))
  by_cases hr0 : row < 0
  · have HV : Hid (D = 4 ∧ E = 0) := by
      have := HDE.out; rw [if_pos hA0, if_neg (by omega)] at this; refine ⟨this.1, ?_⟩; rw [this.2, if_neg (by rw [this.1]; decide)]
    subst hA0
    go_wp2
    try simp only [Exit.inBlock, Exit.then]
    refine bodyPost_ret (by simp [results, Try.results26, go_sem, q0, q1, ql]; try rfl) rfl ⟨by rw [HV.out.1, HV.out.2]; try rfl, ?_⟩
    have hb := HB.out
    (repeat' (first | (with_reducible exact Below.refl _ _) | (with_reducible assumption) | (with_reducible refine Below.setCell ?_ ?_ _) | (with_reducible refine Below.alloc ?_ ?_ _) | (with_reducible refine below_drewN ?_ _) | (with_reducible refine Below.drew ?_) | (with_reducible exact Nat.le_refl _) | omega | (simp; done) | (simp; omega)))
  by_cases hr1 : (n : Int) ≤ row
  · have HV : Hid (D = 4 ∧ E = 0) := by
      have := HDE.out; rw [if_pos hA0, if_neg (by omega)] at this; refine ⟨this.1, ?_⟩; rw [this.2, if_neg (by rw [this.1]; decide)]
    subst hA0
    go_wp2
    try simp only [Exit.inBlock, Exit.then]
    refine bodyPost_ret (by simp [results, Try.results26, go_sem, q0, q1, ql]; try rfl) rfl ⟨by rw [HV.out.1, HV.out.2]; try rfl, ?_⟩
    have hb := HB.out
    (repeat' (first | (with_reducible exact Below.refl _ _) | (with_reducible assumption) | (with_reducible refine Below.setCell ?_ ?_ _) | (with_reducible refine Below.alloc ?_ ?_ _) | (with_reducible refine below_drewN ?_ _) | (with_reducible refine Below.drew ?_) | (with_reducible exact Nat.le_refl _) | omega | (simp; done) | (simp; omega)))
  have hG := pmC_good (H.out.2.2.symm.trans hA0)
  obtain ⟨y, hy⟩ : ∃ y : Nat, (y : Int) = row := ⟨row.toNat, by omega⟩
  have hyn : y < n := by omega
  obtain ⟨g, o, ua, un, uc, rfl, hg, c0, hun, hrd⟩ := (H.out.1.below HB.out).at hyn
  have hwd : (ls.getD y []).length = (ls.getD 0 []).length := hG.row (by rw [← H.out.2.1]; exact hyn)
  have HV : Hid (D = 0 ∧ E = (rnF (fun m => (ls.getD y []).getD m 0 == 1) un).1) := by
    have := HDE.out; rw [if_pos hA0, if_pos (by omega)] at this; refine ⟨this.1, ?_⟩
    rw [this.2, if_pos this.1, ← hy, Int.toNat_natCast, hun, hwd]; rfl
  have HR : Hid (Calls Try.prog 58 #[.slice ua un uc] w1 fun e w' => e = .returned (.int .i64 E) ∧ w' = w1) := by
    unfold Hid
    rw [HV.out.2, hun]
    rw [hun] at hrd
    refine spec_run (by rw [hwd]; exact hG.w1) (fun m _ => ?_) hrd
    exact hG.bit y m
  have HV2 : Hid (D = 0) := HV.out.1
  clear hG hun hrd hwd HV HDE
  subst hy hA0
  have b0 : (0 : Int) ≤ (y : Int) := by omega
  have b1 : (y : Int) < (n : Int) := by omega
  go_wp2_with (fail)
  refine HR.out.mono ?_
  rintro e w3 ⟨rfl, rfl⟩
  clear HR
  go_wp2
  try simp only [Exit.inBlock, Exit.then]
  refine bodyPost_ret (by simp [results, Try.results26, go_sem, q0, q1, ql]; try rfl) rfl ⟨by rw [HV2.out]; try rfl, ?_⟩
  have hb := HB.out
  (repeat' (first | (with_reducible exact Below.refl _ _) | (with_reducible assumption) | (with_reducible refine Below.setCell ?_ ?_ _) | (with_reducible refine Below.alloc ?_ ?_ _) | (with_reducible refine below_drewN ?_ _) | (with_reducible refine Below.drew ?_) | (with_reducible exact Nat.le_refl _) | omega | (simp; done) | (simp; omega)))

/-- A column's numbers. -/
def colI (ls : List (List Int)) (x : Nat) (k : Nat) : List Int := (List.range k).map fun y => at2 ls y x
theorem colI_len (ls : List (List Int)) (x k : Nat) : (colI ls x k).length = k := by simp [colI]
theorem colI_next (ls : List (List Int)) (x k : Nat) : colI ls x (k + 1) = colI ls x k ++ [at2 ls k x] := by simp [colI, List.range_succ]
theorem colI_at (ls : List (List Int)) (x : Nat) {k m : Nat} (h : m < k) : (colI ls x k).getD m 0 = at2 ls m x := by
  unfold colI; rw [getD_lt (by simpa using h)]; simp

set_option maxRecDepth 10000 in
set_option maxHeartbeats 12800000 in
theorem spec_lt (row : Int) {w : World} {v : Value} {ls : List (List Int)} (hn : SmR ls) (h : RdR w v ls) :
    Calls Try.prog 29 #[v, .int .i64 row] w fun e w' => e = .returned (.agg #[.int .i64 (dpC ls row (ls.getD 0 []).length), .int .i64 (ltV ls row)]) ∧ Below w.heap.size w w' := by
  obtain ⟨a, c, rfl⟩ := h.form
  obtain ⟨n, hnn⟩ : ∃ n, n = ls.length := ⟨_, rfl⟩
  obtain ⟨wd, hwd⟩ : ∃ n, n = (ls.getD 0 []).length := ⟨_, rfl⟩
  obtain ⟨C, hC⟩ : ∃ C, C = pmC ls := ⟨_, rfl⟩
  obtain ⟨D, hD⟩ : ∃ C, C = dpC ls row (ls.getD 0 []).length := ⟨_, rfl⟩
  obtain ⟨E, hE⟩ : ∃ C, C = ltV ls row := ⟨_, rfl⟩
  rw [← hD, ← hE]
  have HDE : Hid (D = (if C = 0 then (if 0 ≤ row ∧ row ≤ (wd : Int) - 1 then 0 else 4) else C) ∧ E = if D = 0 then (rnF (fun y => oneP ls y row.toNat) n).1 else 0) := ⟨by rw [hD, hC, hwd]; rfl, by rw [hE, hD, hnn]; rfl⟩
  rw [← hnn] at h ⊢
  have hn' : n ≤ 1048576 := by rw [hnn]; exact hn.len
  have HF : Hid (∀ W, Below w.heap.size w W → Calls Try.prog 45 #[.slice a n c] W fun e w' => e = .returned (.int .i64 C) ∧ Below W.heap.size W w') := fun W hW => by rw [hC]; exact spec_pm hn (h.below hW)
  have H : Hid (RdR w (.slice a n c) ls ∧ n = ls.length ∧ C = pmC ls ∧ wd = (ls.getD 0 []).length) := ⟨h, hnn, hC, hwd⟩
  clear h hn hC hnn hD hE hwd
  go_enter Try.func29, Try.ntmps29
  go_wp2_with (fail)
  refine (HF.out _ (by (repeat' (first | (with_reducible exact Below.refl _ _) | (with_reducible assumption) | (with_reducible refine Below.setCell ?_ ?_ _) | (with_reducible refine Below.alloc ?_ ?_ _) | (with_reducible refine below_drewN ?_ _) | (with_reducible refine Below.drew ?_) | (with_reducible exact Nat.le_refl _) | omega | (simp; done) | (simp; omega))))).mono ?_
  rintro e w1 ⟨rfl, hb1⟩
  have k2 := (hb1.block w.heap.size (by simp)).trans (heap_alloc_new w (.cells #[.int .i64 0, .int .i64 0] 47))
  have HB : Hid (Below w.heap.size w w1 ∧ w1.heap[w.heap.size]? = some (.cells #[.int .i64 0, .int .i64 0] 47)) := ⟨(show Below w.heap.size w _ from by (repeat' (first | (with_reducible exact Below.refl _ _) | (with_reducible assumption) | (with_reducible refine Below.setCell ?_ ?_ _) | (with_reducible refine Below.alloc ?_ ?_ _) | (with_reducible refine below_drewN ?_ _) | (with_reducible refine Below.drew ?_) | (with_reducible exact Nat.le_refl _) | omega | (simp; done) | (simp; omega)))).trans (hb1.mono (by simp)), k2⟩
  obtain ⟨q0, q1, qf0, qf1, ql⟩ := two_of k2
  clear HF hb1 k2
  by_cases hA0 : C = 0
  case neg =>
    have HV : Hid (D = C ∧ E = 0) := by
      have := HDE.out; rw [if_neg hA0] at this; refine ⟨this.1, ?_⟩; rw [this.2, if_neg (by rw [this.1]; exact hA0)]
    have hA1 : (C != 0) = true := by simpa using hA0
    go_wp2
    try simp only [Exit.inBlock, Exit.then]
    refine bodyPost_ret (by simp [results, Try.results29, go_sem, q0, q1, ql]; try rfl) rfl ⟨by rw [HV.out.1, HV.out.2]; try rfl, ?_⟩
    have hb := HB.out.1
    (repeat' (first | (with_reducible exact Below.refl _ _) | (with_reducible assumption) | (with_reducible refine Below.setCell ?_ ?_ _) | (with_reducible refine Below.alloc ?_ ?_ _) | (with_reducible refine below_drewN ?_ _) | (with_reducible refine Below.drew ?_) | (with_reducible exact Nat.le_refl _) | omega | (simp; done) | (simp; omega)))
  have hG := pmC_good (H.out.2.2.1.symm.trans hA0)
  have hn16 : n ≤ 16 := by rw [H.out.2.1]; exact hG.h1
  have hn0 : 0 < n := by rw [H.out.2.1]; exact hG.h0
  have hw16 : wd ≤ 16 := by rw [H.out.2.2.2]; exact hG.w1
  by_cases hr0 : row < 0
  · have HV : Hid (D = 4 ∧ E = 0) := by
      have := HDE.out; rw [if_pos hA0, if_neg (by omega)] at this; refine ⟨this.1, ?_⟩; rw [this.2, if_neg (by rw [this.1]; decide)]
    subst hA0
    go_wp2
    try simp only [Exit.inBlock, Exit.then]
    refine bodyPost_ret (by simp [results, Try.results29, go_sem, q0, q1, ql]; try rfl) rfl ⟨by rw [HV.out.1, HV.out.2]; try rfl, ?_⟩
    have hb := HB.out.1
    (repeat' (first | (with_reducible exact Below.refl _ _) | (with_reducible assumption) | (with_reducible refine Below.setCell ?_ ?_ _) | (with_reducible refine Below.alloc ?_ ?_ _) | (with_reducible refine below_drewN ?_ _) | (with_reducible refine Below.drew ?_) | (with_reducible exact Nat.le_refl _) | omega | (simp; done) | (simp; omega)))
  obtain ⟨g, o, ua, un, uc, rfl, hg, c0, hun, hrd⟩ := (H.out.1.below HB.out.1).at hn0
  rw [← H.out.2.2.2] at hun
  subst hun
  simp only [Nat.add_zero] at c0
  have z1 : (0 : Int) < (n : Int) := by omega
  clear hrd
  by_cases hr1 : (un : Int) ≤ row
  · have HV : Hid (D = 4 ∧ E = 0) := by
      have := HDE.out; rw [if_pos hA0, if_neg (by omega)] at this; refine ⟨this.1, ?_⟩; rw [this.2, if_neg (by rw [this.1]; decide)]
    subst hA0
    go_wp2
    try simp only [Exit.inBlock, Exit.then]
    refine bodyPost_ret (by simp [results, Try.results29, go_sem, q0, q1, ql]; try rfl) rfl ⟨by rw [HV.out.1, HV.out.2]; try rfl, ?_⟩
    have hb := HB.out.1
    (repeat' (first | (with_reducible exact Below.refl _ _) | (with_reducible assumption) | (with_reducible refine Below.setCell ?_ ?_ _) | (with_reducible refine Below.alloc ?_ ?_ _) | (with_reducible refine below_drewN ?_ _) | (with_reducible refine Below.drew ?_) | (with_reducible exact Nat.le_refl _) | omega | (simp; done) | (simp; omega)))
  obtain ⟨y, hy⟩ : ∃ y : Nat, (y : Int) = row := ⟨row.toNat, by omega⟩
  have hyn : y < un := by omega
  have HV : Hid (D = 0 ∧ E = (rnF (fun m => (colI ls y n).getD m 0 == 1) n).1) := by
    have := HDE.out; rw [if_pos hA0, if_pos (by omega)] at this; refine ⟨this.1, ?_⟩
    rw [this.2, if_pos this.1, ← hy, Int.toNat_natCast]
    rw [rnF_congr fun m hm => ?_]
    show oneP ls m y = _
    rw [colI_at ls y hm]; rfl
  have HR : Hid (∀ V v, RdI V v (colI ls y n) → Calls Try.prog 58 #[v] V fun e w' => e = .returned (.int .i64 E) ∧ w' = V) := fun V v hv => by
    rw [HV.out.2]
    have := spec_run (by rw [colI_len]; exact hn16) (fun m hm => by rw [colI_at ls y (by rw [colI_len] at hm; exact hm)]; exact hG.bit m y) hv
    rw [colI_len] at this
    exact this
  have HV2 : Hid (D = 0) := HV.out.1
  have HG : Hid (GG 1 ls ∧ Sh n un ls) := ⟨hG, by have := hG.sh; rw [← H.out.2.1, ← H.out.2.2.2] at this; exact this⟩
  clear hG HV HDE
  subst hy hA0
  have b0 : (0 : Int) ≤ (y : Int) := by omega
  have b1 : (y : Int) < (un : Int) := by omega
  obtain ⟨i1, hi1, hy0, hy1, hy2⟩ := info_parts info_i64
  go_wp2
  clear q0 q1 qf0 qf1 ql c0 hg
  go_loopw [6, 7] (fun v i wr => ∃ (k : Nat), k ≤ n ∧ i = .int .i64 k ∧ Hid (IS wr w1.heap.size v (colI ls y k) ∧ Below w1.heap.size w1 wr)) (fun _ i _ => n - (intOf i).toNat)
  case atStart => exact ⟨0, Nat.zero_le _, rfl, is_lit0 w1 _ (Nat.le_refl _), by (repeat' (first | (with_reducible exact Below.refl _ _) | (with_reducible assumption) | (with_reducible refine Below.setCell ?_ ?_ _) | (with_reducible refine Below.alloc ?_ ?_ _) | (with_reducible refine below_drewN ?_ _) | (with_reducible refine Below.drew ?_) | (with_reducible exact Nat.le_refl _) | omega | (simp; done) | (simp; omega)))⟩
  case round =>
    obtain ⟨k, hk, rfl, hR⟩ := hrel
    by_cases hlt : k < n
    · obtain ⟨g', o', ra, rn, rc, he, hg, c0, hrn, hrd⟩ := ((H.out.1.below HB.out.1).below hR.out.2).at hlt
      injection he with he1
      injection he1 with he2 he3
      subst he2 he3
      rw [HG.out.2.wd k hlt] at hrn
      subst hrn
      obtain ⟨rg, ro, rfl, hrg, d0⟩ := rd_at hrd hyn
      obtain ⟨x, hx⟩ : ∃ x, x = (ls.getD k []).getD y 0 := ⟨_, rfl⟩
      rw [← hx] at d0
      have HX : Hid (colI ls y (k + 1) = colI ls y k ++ [x]) := by unfold Hid; rw [colI_next, hx]; rfl
      obtain ⟨oa, oc, hof⟩ := hR.out.1.form
      rw [colI_len] at hof
      subst hof
      have HQ : Hid (wr.ownsRow w1.heap.size 2 1 (.slice oa k oc) k ((colI ls y k).map (Value.int .i64)) ∧ Below w1.heap.size w1 wr) := ⟨by have := hR.out.1; unfold IS at this; rw [colI_len] at this; exact this, hR.out.2⟩
      have hsz := HQ.out.2.size
      clear hR hrd hx
      have e0 : (0 : Int) ≤ (k : Int) := by omega
      have e1 : (k : Int) < (n : Int) := by omega
      go_wp2_with (at_builtin; refine wpList_append_own _ rfl _ _ 52 rfl w1.heap.size 2 i1 (.int .i64 0) 1 8 Try.underlying52 hi1 hy0 hy1 hy2 rfl (by decide) (.slice oa k oc) k ((colI ls y k).map (Value.int .i64)) rfl (World.ownsRow.alloc HQ.out.1 _) ⟨wr.heap.size, 0, none⟩ 1 1 [.int .i64 x] rfl rfl (World.news_of_block (cs := #[.int .i64 x]) (t := 2) (fr := (0, 0)) (heap_alloc_new wr _)) (by simp [Value.oneCell']) (by unfold maxLen; omega) (by omega) (by simp; omega) ?_; intro v6 w6 hown6 hgrow6 _)
      have R : Hid (IS w6 w1.heap.size v6 (colI ls y (k + 1)) ∧ Below w1.heap.size w1 w6) := by
        unfold Hid
        rw [HX.out]
        exact ⟨IS.snocR (by rw [colI_len]; exact hown6), (HQ.out.2.alloc hsz _).grown hgrow6 (by simp; omega) (fun k hk => (World.ownsRow.lt HQ.out.1 k hk).1)⟩
      clear hown6 hgrow6 HQ HX c0 d0 hg hrg
      go_wp2
      go_roundw
      case rel => exact ⟨k + 1, by omega, by go_num, R.out⟩
      case measure => simp [intOf]; omega
    · have hkn : k = n := by omega
      obtain ⟨oa, oc, hof⟩ := hR.out.1.form
      rw [colI_len] at hof
      subst hof
      have HRd : Hid (Calls Try.prog 58 #[.slice oa k oc] wr fun e w' => e = .returned (.int .i64 E) ∧ w' = wr) := HR.out wr _ (by have h := hR.out.1; rw [hkn] at h ⊢; exact IS.rg h)
      have HB2 : Hid (Below w.heap.size w wr) := HB.out.1.trans (hR.out.2.mono HB.out.1.size)
      obtain ⟨q0, q1, qf0, qf1, ql⟩ := two_of ((hR.out.2.block _ (ltOf HB.out.2)).trans HB.out.2)
      clear hR HR hkn
      go_wp2_with (fail)
      refine HRd.out.mono ?_
      rintro e w3 ⟨rfl, rfl⟩
      clear HRd
      go_wp2
      try simp only [Exit.inBlock, Exit.then]
      refine bodyPost_ret (by simp [results, Try.results29, go_sem, q0, q1, ql]; try rfl) rfl ⟨by rw [HV2.out]; try rfl, ?_⟩
      have hb := HB2.out
      (repeat' (first | (with_reducible exact Below.refl _ _) | (with_reducible assumption) | (with_reducible refine Below.setCell ?_ ?_ _) | (with_reducible refine Below.alloc ?_ ?_ _) | (with_reducible refine below_drewN ?_ _) | (with_reducible refine Below.drew ?_) | (with_reducible exact Nat.le_refl _) | omega | (simp; done) | (simp; omega)))

end Go.Proofs.Ythmddnachancfaa
