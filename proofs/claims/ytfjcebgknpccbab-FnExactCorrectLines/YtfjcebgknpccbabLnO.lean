/- Proved here: printFault and l8Fault. -/
import Derived.Test.YtfjcebgknpccbabLnS
import Derived.Test.YtfjcebgknpccbabLnI
namespace Go.Proofs.Ytfjcebgknpccbab
open Go.RowKit
set_option linter.unusedVariables false
set_option linter.unusedSimpArgs false

def lpF (s : List Ln) (len : Int) (ws : List Int) (K : Int) : Int := if lnF s len = 0 then knF ws K else lnF s len
def itL (s : List Ln) (len : Int) (ws : List Int) (K : Int) : List Int := if lpF s len ws K = 0 then sumsK s ws len.toNat else []
theorem lpF_good {s : List Ln} {len : Int} {ws : List Int} {K : Int} (h : lpF s len ws K = 0) : (1 ≤ len ∧ len ≤ 60 ∧ s.length ≤ 12 ∧ Rise len (-1) s) ∧ OkW ws ∧ 1 ≤ K ∧ K ≤ 100000 := by
  unfold lpF at h
  split at h
  · rename_i h1
    obtain ⟨k1, k2, k3, k4⟩ := knF_good h
    exact ⟨lnF_good h1, ⟨k1, k2, wtG_good k3⟩, k4⟩
  · rename_i h1; exact absurd h h1
theorem itL_len (s : List Ln) (len : Int) (ws : List Int) (K : Int) : (itL s len ws K).length ≤ 60 := by
  unfold itL
  split
  · rename_i h
    have := (lpF_good h).1
    rw [sumsK_len]; omega
  · simp

set_option maxHeartbeats 3200000 in
theorem impl_pf8 (K len : Int) {w : World} {v u : Value} {s : List Ln} {ws : List Int} (hn : s.length ≤ 1048576) (h : RG 2 lnC w v s) (hu : RdI w u ws) :
    Calls Try.prog 46 #[v, .int .i64 len, .agg #[u, .int .i64 K]] w fun e w' => e = .returned (.int .i64 (lpF s len ws K)) ∧ Below w.heap.size w w' := by
  obtain ⟨a, c, rfl⟩ := h.form
  obtain ⟨b, d, rfl⟩ := hu.form
  obtain ⟨n, hnn⟩ : ∃ n, n = s.length := ⟨_, rfl⟩
  obtain ⟨m, hmm⟩ : ∃ m, m = ws.length := ⟨_, rfl⟩
  rw [← hnn] at h ⊢
  rw [← hmm] at hu ⊢
  obtain ⟨C, hC⟩ : ∃ C, C = lpF s len ws K := ⟨_, rfl⟩
  obtain ⟨A, hA⟩ : ∃ A, A = lnF s len := ⟨_, rfl⟩
  obtain ⟨B, hB⟩ : ∃ B, B = knF ws K := ⟨_, rfl⟩
  rw [← hC]
  have H : Hid (RG 2 lnC w (.slice a n c) s ∧ RdI w (.slice b m d) ws ∧ C = (if A = 0 then B else A) ∧ s.length ≤ 1048576) := ⟨h, hu, by rw [hC, hA, hB]; rfl, hn⟩
  have HL : Hid (∀ W, Below w.heap.size w W → Calls Try.prog 45 #[.slice a n c, .int .i64 len] W fun e w' => e = .returned (.int .i64 A) ∧ Below W.heap.size W w') := fun W hW => by rw [hA]; exact impl_lf len hn (h.below hW)
  have HK : Hid (∀ W, Below w.heap.size w W → Calls Try.prog 52 #[.agg #[.slice b m d, .int .i64 K]] W fun e w' => e = .returned (.int .i64 B) ∧ Below W.heap.size W w') := fun W hW => by rw [hB]; exact impl_kf K (hu.below hW)
  clear h hu hn hC hA hB hnn hmm
  go_enter Try.func46, Try.ntmps46
  go_wp2_with (fail)
  refine (HL.out _ (by (repeat' (first | (with_reducible exact Below.refl _ _) | (with_reducible assumption) | (with_reducible refine Below.setCell ?_ ?_ _) | (with_reducible refine Below.alloc ?_ ?_ _) | (with_reducible refine below_drewN ?_ _) | (with_reducible refine Below.drew ?_) | (with_reducible exact Nat.le_refl _) | omega | (simp; done) | (simp; omega))))).mono ?_
  rintro e w1 ⟨rfl, hb1⟩
  have k1 := (hb1.block w.heap.size (by simp)).trans (heap_alloc_new w _)
  have HB : Hid (Below w.heap.size w w1) := (show Below w.heap.size w _ from by (repeat' (first | (with_reducible exact Below.refl _ _) | (with_reducible assumption) | (with_reducible refine Below.setCell ?_ ?_ _) | (with_reducible refine Below.alloc ?_ ?_ _) | (with_reducible refine below_drewN ?_ _) | (with_reducible refine Below.drew ?_) | (with_reducible exact Nat.le_refl _) | omega | (simp; done) | (simp; omega)))).trans (hb1.mono (by simp))
  obtain ⟨p0, p1, pf, pl⟩ := kn_two k1
  clear hb1 k1 pf
  by_cases hA0 : A = 0
  · have HC : Hid (C = B) := by unfold Hid; rw [H.out.2.2.1, if_pos hA0]
    subst hA0
    go_wp2_with (fail)
    refine (HK.out _ HB.out).mono ?_
    rintro e w2 ⟨rfl, hb2⟩
    have HB2 : Hid (Below w.heap.size w w2) := HB.out.trans (hb2.mono HB.out.size)
    clear hb2
    go_wp2
    go_returns
    exact ⟨by rw [HC.out]; rfl, HB2.out⟩
  · have HC : Hid (C = A) := by unfold Hid; rw [H.out.2.2.1, if_neg hA0]
    have hA1 : (A != 0) = true := by simpa using hA0
    go_wp2
    go_returns
    exact ⟨by rw [HC.out]; rfl, HB.out⟩

set_option maxHeartbeats 3200000 in
theorem spec_pf8 (K len : Int) {w : World} {v u : Value} {s : List Ln} {ws : List Int} (hn : s.length ≤ 1048576) (h : RG 2 lnC w v s) (hu : RdI w u ws) :
    Calls Try.prog 42 #[v, .int .i64 len, .agg #[u, .int .i64 K]] w fun e w' => e = .returned (.int .i64 (lpF s len ws K)) ∧ Below w.heap.size w w' := by
  obtain ⟨a, c, rfl⟩ := h.form
  obtain ⟨b, d, rfl⟩ := hu.form
  obtain ⟨n, hnn⟩ : ∃ n, n = s.length := ⟨_, rfl⟩
  obtain ⟨m, hmm⟩ : ∃ m, m = ws.length := ⟨_, rfl⟩
  rw [← hnn] at h ⊢
  rw [← hmm] at hu ⊢
  obtain ⟨C, hC⟩ : ∃ C, C = lpF s len ws K := ⟨_, rfl⟩
  obtain ⟨A, hA⟩ : ∃ A, A = lnF s len := ⟨_, rfl⟩
  obtain ⟨B, hB⟩ : ∃ B, B = knF ws K := ⟨_, rfl⟩
  rw [← hC]
  have H : Hid (RG 2 lnC w (.slice a n c) s ∧ RdI w (.slice b m d) ws ∧ C = (if A = 0 then B else A) ∧ s.length ≤ 1048576) := ⟨h, hu, by rw [hC, hA, hB]; rfl, hn⟩
  have HL : Hid (∀ W, Below w.heap.size w W → Calls Try.prog 26 #[.slice a n c, .int .i64 len] W fun e w' => e = .returned (.int .i64 A) ∧ Below W.heap.size W w') := fun W hW => by rw [hA]; exact spec_lf len hn (h.below hW)
  have HK : Hid (∀ W, Below w.heap.size w W → Calls Try.prog 50 #[.agg #[.slice b m d, .int .i64 K]] W fun e w' => e = .returned (.int .i64 B) ∧ Below W.heap.size W w') := fun W hW => by rw [hB]; exact spec_kf K (hu.below hW)
  clear h hu hn hC hA hB hnn hmm
  go_enter Try.func42, Try.ntmps42
  go_wp2_with (fail)
  refine (HL.out _ (by (repeat' (first | (with_reducible exact Below.refl _ _) | (with_reducible assumption) | (with_reducible refine Below.setCell ?_ ?_ _) | (with_reducible refine Below.alloc ?_ ?_ _) | (with_reducible refine below_drewN ?_ _) | (with_reducible refine Below.drew ?_) | (with_reducible exact Nat.le_refl _) | omega | (simp; done) | (simp; omega))))).mono ?_
  rintro e w1 ⟨rfl, hb1⟩
  have k1 := (hb1.block w.heap.size (by simp)).trans (heap_alloc_new w _)
  have HB : Hid (Below w.heap.size w w1) := (show Below w.heap.size w _ from by (repeat' (first | (with_reducible exact Below.refl _ _) | (with_reducible assumption) | (with_reducible refine Below.setCell ?_ ?_ _) | (with_reducible refine Below.alloc ?_ ?_ _) | (with_reducible refine below_drewN ?_ _) | (with_reducible refine Below.drew ?_) | (with_reducible exact Nat.le_refl _) | omega | (simp; done) | (simp; omega)))).trans (hb1.mono (by simp))
  obtain ⟨p0, p1, pf, pl⟩ := kn_two k1
  clear hb1 k1 pf
  by_cases hA0 : A = 0
  · have HC : Hid (C = B) := by unfold Hid; rw [H.out.2.2.1, if_pos hA0]
    subst hA0
    go_wp2_with (fail)
    refine (HK.out _ HB.out).mono ?_
    rintro e w2 ⟨rfl, hb2⟩
    have HB2 : Hid (Below w.heap.size w w2) := HB.out.trans (hb2.mono HB.out.size)
    clear hb2
    go_wp2
    go_returns
    exact ⟨by rw [HC.out]; rfl, HB2.out⟩
  · have HC : Hid (C = A) := by unfold Hid; rw [H.out.2.2.1, if_neg hA0]
    have hA1 : (A != 0) = true := by simpa using hA0
    go_wp2
    go_returns
    exact ⟨by rw [HC.out]; rfl, HB.out⟩

end Go.Proofs.Ytfjcebgknpccbab
