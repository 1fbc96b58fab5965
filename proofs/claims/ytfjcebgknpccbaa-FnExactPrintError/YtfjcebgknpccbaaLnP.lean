/- Proved here: printFault and l8Fault, IntensityOf of both. -/
import Derived.Test.YtfjcebgknpccbaaLnS
import Derived.Test.YtfjcebgknpccbaaLnI
namespace Go.Proofs.Ytfjcebgknpccbaa
open Go.RowKit
set_option linter.unusedVariables false
set_option linter.unusedSimpArgs false

def lpF (s : List Ln) (len : Int) (ws : List Int) (K : Int) : Int := if lnF s len = 0 then knF ws K else lnF s len
def itL (s : List Ln) (len : Int) (ws : List Int) (K : Int) : List Int := if lpF s len ws K = 0 then sumsK s ws len.toNat else []
theorem lpF_good {s : List Ln} {len : Int} {ws : List Int} {K : Int} (h : lpF s len ws K = 0) : (1 ≤ len ∧ len ≤ 60 ∧ s.length ≤ 12 ∧ Rise len (-1) s) ∧ OkW ws ∧ 1 ≤ K ∧ K ≤ 100000 := by
  unfold lpF at h
  split at h
  · rename_i h1
    obtain ⟨k1, k2, k3, k4⟩ := knF_good h
    exact ⟨lnF_good h1, ⟨k1, k2, wtG_good k3⟩, k4⟩
  · rename_i h1; exact absurd h h1
theorem itL_len (s : List Ln) (len : Int) (ws : List Int) (K : Int) : (itL s len ws K).length ≤ 60 := by
  unfold itL
  split
  · rename_i h
    have := (lpF_good h).1
    rw [sumsK_len]; omega
  · simp

set_option maxHeartbeats 3200000 in
theorem impl_pf8 (K len : Int) {w : World} {v u : Value} {s : List Ln} {ws : List Int} (hn : s.length ≤ 1048576) (h : RG 2 lnC w v s) (hu : RdI w u ws) :
    Calls Try.prog 45 #[v, .int .i64 len, .agg #[u, .int .i64 K]] w fun e w' => e = .returned (.int .i64 (lpF s len ws K)) ∧ Below w.heap.size w w' := by
  obtain ⟨a, c, rfl⟩ := h.form
  obtain ⟨b, d, rfl⟩ := hu.form
  obtain ⟨n, hnn⟩ : ∃ n, n = s.length := ⟨_, rfl⟩
  obtain ⟨m, hmm⟩ : ∃ m, m = ws.length := ⟨_, rfl⟩
  rw [← hnn] at h ⊢
  rw [← hmm] at hu ⊢
  obtain ⟨C, hC⟩ : ∃ C, C = lpF s len ws K := ⟨_, rfl⟩
  obtain ⟨A, hA⟩ : ∃ A, A = lnF s len := ⟨_, rfl⟩
  obtain ⟨B, hB⟩ : ∃ B, B = knF ws K := ⟨_, rfl⟩
  rw [← hC]
  have H : Hid (RG 2 lnC w (.slice a n c) s ∧ RdI w (.slice b m d) ws ∧ C = (if A = 0 then B else A) ∧ s.length ≤ 1048576) := ⟨h, hu, by rw [hC, hA, hB]; rfl, hn⟩
  have HL : Hid (∀ W, Below w.heap.size w W → Calls Try.prog 12 #[.slice a n c, .int .i64 len] W fun e w' => e = .returned (.int .i64 A) ∧ Below W.heap.size W w') := fun W hW => by rw [hA]; exact impl_lf len hn (h.below hW)
  have HK : Hid (∀ W, Below w.heap.size w W → Calls Try.prog 17 #[.agg #[.slice b m d, .int .i64 K]] W fun e w' => e = .returned (.int .i64 B) ∧ Below W.heap.size W w') := fun W hW => by rw [hB]; exact impl_kf K (hu.below hW)
  clear h hu hn hC hA hB hnn hmm
  go_enter Try.func45, Try.ntmps45
  go_wp2_with (fail)
  refine (HL.out _ (by (repeat' (first | (with_reducible exact Below.refl _ _) | (with_reducible assumption) | (with_reducible refine Below.setCell ?_ ?_ _) | (with_reducible refine Below.alloc ?_ ?_ _) | (with_reducible refine below_drewN ?_ _) | (with_reducible refine Below.drew ?_) | (with_reducible exact Nat.le_refl _) | omega | (simp; done) | (simp; omega))))).mono ?_
  rintro e w1 ⟨rfl, hb1⟩
  have k1 := (hb1.block w.heap.size (by simp)).trans (heap_alloc_new w _)
  have HB : Hid (Below w.heap.size w w1) := (show Below w.heap.size w _ from by (repeat' (first | (with_reducible exact Below.refl _ _) | (with_reducible assumption) | (with_reducible refine Below.setCell ?_ ?_ _) | (with_reducible refine Below.alloc ?_ ?_ _) | (with_reducible refine below_drewN ?_ _) | (with_reducible refine Below.drew ?_) | (with_reducible exact Nat.le_refl _) | omega | (simp; done) | (simp; omega)))).trans (hb1.mono (by simp))
  obtain ⟨p0, p1, pf, pl⟩ := kn_two k1
  clear hb1 k1 pf
  by_cases hA0 : A = 0
  · have HC : Hid (C = B) := by unfold Hid; rw [H.out.2.2.1, if_pos hA0]
    subst hA0
    go_wp2_with (fail)
    refine (HK.out _ HB.out).mono ?_
    rintro e w2 ⟨rfl, hb2⟩
    have HB2 : Hid (Below w.heap.size w w2) := HB.out.trans (hb2.mono HB.out.size)
    clear hb2
    go_wp2
    go_returns
    exact ⟨by rw [HC.out]; rfl, HB2.out⟩
  · have HC : Hid (C = A) := by unfold Hid; rw [H.out.2.2.1, if_neg hA0]
    have hA1 : (A != 0) = true := by simpa using hA0
    go_wp2
    go_returns
    exact ⟨by rw [HC.out]; rfl, HB.out⟩

set_option maxHeartbeats 3200000 in
theorem spec_pf8 (K len : Int) {w : World} {v u : Value} {s : List Ln} {ws : List Int} (hn : s.length ≤ 1048576) (h : RG 2 lnC w v s) (hu : RdI w u ws) :
    Calls Try.prog 43 #[v, .int .i64 len, .agg #[u, .int .i64 K]] w fun e w' => e = .returned (.int .i64 (lpF s len ws K)) ∧ Below w.heap.size w w' := by
  obtain ⟨a, c, rfl⟩ := h.form
  obtain ⟨b, d, rfl⟩ := hu.form
  obtain ⟨n, hnn⟩ : ∃ n, n = s.length := ⟨_, rfl⟩
  obtain ⟨m, hmm⟩ : ∃ m, m = ws.length := ⟨_, rfl⟩
  rw [← hnn] at h ⊢
  rw [← hmm] at hu ⊢
  obtain ⟨C, hC⟩ : ∃ C, C = lpF s len ws K := ⟨_, rfl⟩
  obtain ⟨A, hA⟩ : ∃ A, A = lnF s len := ⟨_, rfl⟩
  obtain ⟨B, hB⟩ : ∃ B, B = knF ws K := ⟨_, rfl⟩
  rw [← hC]
  have H : Hid (RG 2 lnC w (.slice a n c) s ∧ RdI w (.slice b m d) ws ∧ C = (if A = 0 then B else A) ∧ s.length ≤ 1048576) := ⟨h, hu, by rw [hC, hA, hB]; rfl, hn⟩
  have HL : Hid (∀ W, Below w.heap.size w W → Calls Try.prog 10 #[.slice a n c, .int .i64 len] W fun e w' => e = .returned (.int .i64 A) ∧ Below W.heap.size W w') := fun W hW => by rw [hA]; exact spec_lf len hn (h.below hW)
  have HK : Hid (∀ W, Below w.heap.size w W → Calls Try.prog 15 #[.agg #[.slice b m d, .int .i64 K]] W fun e w' => e = .returned (.int .i64 B) ∧ Below W.heap.size W w') := fun W hW => by rw [hB]; exact spec_kf K (hu.below hW)
  clear h hu hn hC hA hB hnn hmm
  go_enter Try.func43, Try.ntmps43
  go_wp2_with (fail)
  refine (HL.out _ (by (repeat' (first | (with_reducible exact Below.refl _ _) | (with_reducible assumption) | (with_reducible refine Below.setCell ?_ ?_ _) | (with_reducible refine Below.alloc ?_ ?_ _) | (with_reducible refine below_drewN ?_ _) | (with_reducible refine Below.drew ?_) | (with_reducible exact Nat.le_refl _) | omega | (simp; done) | (simp; omega))))).mono ?_
  rintro e w1 ⟨rfl, hb1⟩
  have k1 := (hb1.block w.heap.size (by simp)).trans (heap_alloc_new w _)
  have HB : Hid (Below w.heap.size w w1) := (show Below w.heap.size w _ from by (repeat' (first | (with_reducible exact Below.refl _ _) | (with_reducible assumption) | (with_reducible refine Below.setCell ?_ ?_ _) | (with_reducible refine Below.alloc ?_ ?_ _) | (with_reducible refine below_drewN ?_ _) | (with_reducible refine Below.drew ?_) | (with_reducible exact Nat.le_refl _) | omega | (simp; done) | (simp; omega)))).trans (hb1.mono (by simp))
  obtain ⟨p0, p1, pf, pl⟩ := kn_two k1
  clear hb1 k1 pf
  by_cases hA0 : A = 0
  · have HC : Hid (C = B) := by unfold Hid; rw [H.out.2.2.1, if_pos hA0]
    subst hA0
    go_wp2_with (fail)
    refine (HK.out _ HB.out).mono ?_
    rintro e w2 ⟨rfl, hb2⟩
    have HB2 : Hid (Below w.heap.size w w2) := HB.out.trans (hb2.mono HB.out.size)
    clear hb2
    go_wp2
    go_returns
    exact ⟨by rw [HC.out]; rfl, HB2.out⟩
  · have HC : Hid (C = A) := by unfold Hid; rw [H.out.2.2.1, if_neg hA0]
    have hA1 : (A != 0) = true := by simpa using hA0
    go_wp2
    go_returns
    exact ⟨by rw [HC.out]; rfl, HB.out⟩

set_option maxRecDepth 10000 in
set_option maxHeartbeats 6400000 in
theorem impl_it (K len : Int) {w : World} {v u : Value} {s : List Ln} {ws : List Int} (hn : s.length ≤ 1048576) (h : RG 2 lnC w v s) (hu : RdI w u ws) :
    Calls Try.prog 20 #[v, .int .i64 len, .agg #[u, .int .i64 K]] w fun e w' => ∃ r, e = .returned (.agg #[.int .i64 (lpF s len ws K), r]) ∧ IS w' w.heap.size r (itL s len ws K) ∧ Below w.heap.size w w' := by
  obtain ⟨a, c, rfl⟩ := h.form
  obtain ⟨b, d, rfl⟩ := hu.form
  obtain ⟨n, hnn⟩ : ∃ n, n = s.length := ⟨_, rfl⟩
  obtain ⟨m, hmm⟩ : ∃ m, m = ws.length := ⟨_, rfl⟩
  rw [← hnn] at h ⊢
  rw [← hmm] at hu ⊢
  obtain ⟨C, hC⟩ : ∃ C, C = lpF s len ws K := ⟨_, rfl⟩
  rw [← hC]
  have H : Hid (RG 2 lnC w (.slice a n c) s ∧ RdI w (.slice b m d) ws ∧ C = lpF s len ws K) := ⟨h, hu, hC⟩
  have HL : Hid (∀ W, Below w.heap.size w W → Calls Try.prog 45 #[.slice a n c, .int .i64 len, .agg #[.slice b m d, .int .i64 K]] W fun e w' => e = .returned (.int .i64 C) ∧ Below W.heap.size W w') := fun W hW => by rw [hC]; exact impl_pf8 K len hn (h.below hW) (hu.below hW)
  clear h hu hn hC hnn hmm
  go_enter Try.func20, Try.ntmps20
  go_wp2_with (fail)
  refine (HL.out _ (by (repeat' (first | (with_reducible exact Below.refl _ _) | (with_reducible assumption) | (with_reducible refine Below.setCell ?_ ?_ _) | (with_reducible refine Below.alloc ?_ ?_ _) | (with_reducible refine below_drewN ?_ _) | (with_reducible refine Below.drew ?_) | (with_reducible exact Nat.le_refl _) | omega | (simp; done) | (simp; omega))))).mono ?_
  rintro e w1 ⟨rfl, hb1⟩
  have k1 := (hb1.block w.heap.size (by simp; omega)).trans ((Below.heap_alloc _ _ _ (by simp)).trans (heap_alloc_new w _))
  have k2 := (hb1.block (w.heap.size + 1) (by simp)).trans (kn_at1 w _ _)
  have HB : Hid (Below w.heap.size w w1) := (show Below w.heap.size w _ from by (repeat' (first | (with_reducible exact Below.refl _ _) | (with_reducible assumption) | (with_reducible refine Below.setCell ?_ ?_ _) | (with_reducible refine Below.alloc ?_ ?_ _) | (with_reducible refine below_drewN ?_ _) | (with_reducible refine Below.drew ?_) | (with_reducible exact Nat.le_refl _) | omega | (simp; done) | (simp; omega)))).trans (hb1.mono (by simp; omega))
  have HK2 : Hid (w1.heap[w.heap.size + 1]? = some (.cells #[.int .i64 0, .slice none 0 0] 39)) := k2
  obtain ⟨p0, p1, pf, pl⟩ := kn_two k1
  obtain ⟨q0, q1, qf, ql⟩ := kn_two k2
  have qf0 := qf 0
  have qf1 := qf 1
  clear hb1 k1 k2 pf qf
  by_cases hC0 : C = 0
  · obtain ⟨h1, h2⟩ := lpF_good (H.out.2.2.symm.trans hC0)
    obtain ⟨L, hL⟩ : ∃ L : Nat, len = (L : Int) := ⟨len.toNat, by omega⟩
    have hLb : L ≤ 60 := by omega
    have HI : Hid (∀ W, Below w.heap.size w W → Calls Try.prog 46 #[.slice a n c, .int .i64 len, .slice b m d] W fun e w' => ∃ r, e = .returned r ∧ IS w' W.heap.size r (itL s len ws K) ∧ Below W.heap.size W w') := fun W hW => by
      have e : itL s len ws K = sumsK s ws L := by unfold itL; rw [← H.out.2.2, if_pos hC0, hL]; rfl
      rw [e]
      exact impl_int hL hLb h1.2.2.1 h1.2.2.2 h2.1 (H.out.1.below hW) (H.out.2.1.below hW)
    clear h1 h2 hL hLb
    subst hC0
    go_wp2_with (fail)
    refine (HI.out _ HB.out).mono ?_
    rintro e w2 ⟨r, rfl, hr2, hb2⟩
    have k2 := (hb2.block (w.heap.size + 1) ql).trans HK2.out
    obtain ⟨va, vc, rfl⟩ := hr2.form
    have HR2 : Hid (IS w2 w1.heap.size (.slice va (itL s len ws K).length vc) (itL s len ws K) ∧ Below w.heap.size w w2 ∧ w.heap.size + 1 < w1.heap.size) := ⟨hr2, HB.out.trans (hb2.mono HB.out.size), ql⟩
    obtain ⟨t0, t1, tf, tl⟩ := kn_two k2
    have tf0 := tf 0
    have tf1 := tf 1
    clear hr2 hb2 k2 tf p0 p1 pl q0 q1 qf0 qf1
    go_wp2
    try simp only [Exit.inBlock, Exit.then]
    refine bodyPost_ret (by simp [results, Try.results20, go_sem, t0, t1]; try rfl) rfl ⟨_, rfl, ?_, ?_⟩
    · refine (HR2.out.1.low (by have := HB.out.size; omega)).kept fun g hg => ?_
      have := (IS.lt HR2.out.1 g hg).1
      have := HR2.out.2.2
      rw [heap_setCell_other _ _ _ _ (by simp; omega), heap_setCell_other _ _ _ _ (by simp; omega)]
    · have hB := HR2.out.2.1
      (repeat' (first | (with_reducible exact Below.refl _ _) | (with_reducible assumption) | (with_reducible refine Below.setCell ?_ ?_ _) | (with_reducible refine Below.alloc ?_ ?_ _) | (with_reducible refine below_drewN ?_ _) | (with_reducible refine Below.drew ?_) | (with_reducible exact Nat.le_refl _) | omega | (simp; done) | (simp; omega)))
  · have hC1 : (C != 0) = true := by simpa using hC0
    have HN : Hid (itL s len ws K = []) := by unfold Hid itL; rw [← H.out.2.2, if_neg hC0]
    go_wp2
    try simp only [Exit.inBlock, Exit.then]
    refine bodyPost_ret (by simp [results, Try.results20, go_sem, q0, q1]; try rfl) rfl ⟨_, rfl, ?_, ?_⟩
    · rw [HN.out]; exact World.ownsRow_nil _ _ _ _
    · have hB := HB.out
      (repeat' (first | (with_reducible exact Below.refl _ _) | (with_reducible assumption) | (with_reducible refine Below.setCell ?_ ?_ _) | (with_reducible refine Below.alloc ?_ ?_ _) | (with_reducible refine below_drewN ?_ _) | (with_reducible refine Below.drew ?_) | (with_reducible exact Nat.le_refl _) | omega | (simp; done) | (simp; omega)))

set_option maxRecDepth 10000 in
set_option maxHeartbeats 6400000 in
theorem spec_it (K len : Int) {w : World} {v u : Value} {s : List Ln} {ws : List Int} (hn : s.length ≤ 1048576) (h : RG 2 lnC w v s) (hu : RdI w u ws) :
    Calls Try.prog 19 #[v, .int .i64 len, .agg #[u, .int .i64 K]] w fun e w' => ∃ r, e = .returned (.agg #[.int .i64 (lpF s len ws K), r]) ∧ IS w' w.heap.size r (itL s len ws K) ∧ Below w.heap.size w w' := by
  obtain ⟨a, c, rfl⟩ := h.form
  obtain ⟨b, d, rfl⟩ := hu.form
  obtain ⟨n, hnn⟩ : ∃ n, n = s.length := ⟨_, rfl⟩
  obtain ⟨m, hmm⟩ : ∃ m, m = ws.length := ⟨_, rfl⟩
  rw [← hnn] at h ⊢
  rw [← hmm] at hu ⊢
  obtain ⟨C, hC⟩ : ∃ C, C = lpF s len ws K := ⟨_, rfl⟩
  rw [← hC]
  have H : Hid (RG 2 lnC w (.slice a n c) s ∧ RdI w (.slice b m d) ws ∧ C = lpF s len ws K) := ⟨h, hu, hC⟩
  have HL : Hid (∀ W, Below w.heap.size w W → Calls Try.prog 43 #[.slice a n c, .int .i64 len, .agg #[.slice b m d, .int .i64 K]] W fun e w' => e = .returned (.int .i64 C) ∧ Below W.heap.size W w') := fun W hW => by rw [hC]; exact spec_pf8 K len hn (h.below hW) (hu.below hW)
  clear h hu hn hC hnn hmm
  go_enter Try.func19, Try.ntmps19
  go_wp2_with (fail)
  refine (HL.out _ (by (repeat' (first | (with_reducible exact Below.refl _ _) | (with_reducible assumption) | (with_reducible refine Below.setCell ?_ ?_ _) | (with_reducible refine Below.alloc ?_ ?_ _) | (with_reducible refine below_drewN ?_ _) | (with_reducible refine Below.drew ?_) | (with_reducible exact Nat.le_refl _) | omega | (simp; done) | (simp; omega))))).mono ?_
  rintro e w1 ⟨rfl, hb1⟩
  have k1 := (hb1.block w.heap.size (by simp; omega)).trans ((Below.heap_alloc _ _ _ (by simp)).trans (heap_alloc_new w _))
  have k2 := (hb1.block (w.heap.size + 1) (by simp)).trans (kn_at1 w _ _)
  have HB : Hid (Below w.heap.size w w1) := (show Below w.heap.size w _ from by (repeat' (first | (with_reducible exact Below.refl _ _) | (with_reducible assumption) | (with_reducible refine Below.setCell ?_ ?_ _) | (with_reducible refine Below.alloc ?_ ?_ _) | (with_reducible refine below_drewN ?_ _) | (with_reducible refine Below.drew ?_) | (with_reducible exact Nat.le_refl _) | omega | (simp; done) | (simp; omega)))).trans (hb1.mono (by simp; omega))
  have HK2 : Hid (w1.heap[w.heap.size + 1]? = some (.cells #[.int .i64 0, .slice none 0 0] 39)) := k2
  obtain ⟨p0, p1, pf, pl⟩ := kn_two k1
  obtain ⟨q0, q1, qf, ql⟩ := kn_two k2
  have qf0 := qf 0
  have qf1 := qf 1
  clear hb1 k1 k2 pf qf
  by_cases hC0 : C = 0
  · obtain ⟨h1, h2⟩ := lpF_good (H.out.2.2.symm.trans hC0)
    obtain ⟨L, hL⟩ : ∃ L : Nat, len = (L : Int) := ⟨len.toNat, by omega⟩
    have hLb : L ≤ 60 := by omega
    have HI : Hid (∀ W, Below w.heap.size w W → Calls Try.prog 44 #[.slice a n c, .int .i64 len, .agg #[.slice b m d, .int .i64 K]] W fun e w' => ∃ r, e = .returned r ∧ IS w' W.heap.size r (itL s len ws K) ∧ Below W.heap.size W w') := fun W hW => by
      have e : itL s len ws K = sumsK s ws L := by unfold itL; rw [← H.out.2.2, if_pos hC0, hL]; rfl
      rw [e]
      exact spec_sums K hL hLb h1.2.2.1 h2.1 (H.out.1.below hW) (H.out.2.1.below hW)
    clear h1 h2 hL hLb
    subst hC0
    go_wp2_with (fail)
    refine (HI.out _ HB.out).mono ?_
    rintro e w2 ⟨r, rfl, hr2, hb2⟩
    have k2 := (hb2.block (w.heap.size + 1) ql).trans HK2.out
    obtain ⟨va, vc, rfl⟩ := hr2.form
    have HR2 : Hid (IS w2 w1.heap.size (.slice va (itL s len ws K).length vc) (itL s len ws K) ∧ Below w.heap.size w w2 ∧ w.heap.size + 1 < w1.heap.size) := ⟨hr2, HB.out.trans (hb2.mono HB.out.size), ql⟩
    obtain ⟨t0, t1, tf, tl⟩ := kn_two k2
    have tf0 := tf 0
    have tf1 := tf 1
    clear hr2 hb2 k2 tf p0 p1 pl q0 q1 qf0 qf1
    go_wp2
    try simp only [Exit.inBlock, Exit.then]
    refine bodyPost_ret (by simp [results, Try.results19, go_sem, t0, t1]; try rfl) rfl ⟨_, rfl, ?_, ?_⟩
    · refine (HR2.out.1.low (by have := HB.out.size; omega)).kept fun g hg => ?_
      have := (IS.lt HR2.out.1 g hg).1
      have := HR2.out.2.2
      rw [heap_setCell_other _ _ _ _ (by simp; omega), heap_setCell_other _ _ _ _ (by simp; omega)]
    · have hB := HR2.out.2.1
      (repeat' (first | (with_reducible exact Below.refl _ _) | (with_reducible assumption) | (with_reducible refine Below.setCell ?_ ?_ _) | (with_reducible refine Below.alloc ?_ ?_ _) | (with_reducible refine below_drewN ?_ _) | (with_reducible refine Below.drew ?_) | (with_reducible exact Nat.le_refl _) | omega | (simp; done) | (simp; omega)))
  · have hC1 : (C != 0) = true := by simpa using hC0
    have HN : Hid (itL s len ws K = []) := by unfold Hid itL; rw [← H.out.2.2, if_neg hC0]
    go_wp2
    try simp only [Exit.inBlock, Exit.then]
    refine bodyPost_ret (by simp [results, Try.results19, go_sem, q0, q1]; try rfl) rfl ⟨_, rfl, ?_, ?_⟩
    · rw [HN.out]; exact World.ownsRow_nil _ _ _ _
    · have hB := HB.out
      (repeat' (first | (with_reducible exact Below.refl _ _) | (with_reducible assumption) | (with_reducible refine Below.setCell ?_ ?_ _) | (with_reducible refine Below.alloc ?_ ?_ _) | (with_reducible refine below_drewN ?_ _) | (with_reducible refine Below.drew ?_) | (with_reducible exact Nat.le_refl _) | omega | (simp; done) | (simp; omega)))

end Go.Proofs.Ytfjcebgknpccbaa
