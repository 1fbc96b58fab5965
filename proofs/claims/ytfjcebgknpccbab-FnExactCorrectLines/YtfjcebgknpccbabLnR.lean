/- Proved here: PrintError of both. -/
import Derived.Test.YtfjcebgknpccbabLnE
namespace Go.Proofs.Ytfjcebgknpccbab
open Go.RowKit
set_option linter.unusedVariables false
set_option linter.unusedSimpArgs false

set_option maxRecDepth 10000 in
set_option maxHeartbeats 12800000 in
theorem spec_pe (K len : Int) {w : World} {vt v u : Value} {t s : List Ln} {ws : List Int} (hnt : t.length ≤ 1048576) (hn : s.length ≤ 1048576) (ht : RG 2 lnC w vt t) (h : RG 2 lnC w v s) (hu : RdI w u ws) :
    Calls Try.prog 23 #[vt, v, .int .i64 len, .agg #[u, .int .i64 K]] w fun e w' => e = .returned (.agg #[.int .i64 (peC t s len ws K), .int .i64 (peV t s len ws K)]) ∧ Below w.heap.size w w' := by
  obtain ⟨a, c, rfl⟩ := h.form
  obtain ⟨b, d, rfl⟩ := hu.form
  obtain ⟨ta, tc, rfl⟩ := ht.form
  obtain ⟨n, hnn⟩ : ∃ n, n = s.length := ⟨_, rfl⟩
  obtain ⟨m, hmm⟩ : ∃ m, m = ws.length := ⟨_, rfl⟩
  obtain ⟨tn, htn⟩ : ∃ n, n = t.length := ⟨_, rfl⟩
  rw [← hnn] at h ⊢
  rw [← hmm] at hu ⊢
  rw [← htn] at ht ⊢
  obtain ⟨C, hC⟩ : ∃ C, C = peC t s len ws K := ⟨_, rfl⟩
  obtain ⟨V, hV⟩ : ∃ V, V = peV t s len ws K := ⟨_, rfl⟩
  obtain ⟨A, hA⟩ : ∃ A, A = lnF t len := ⟨_, rfl⟩
  obtain ⟨P, hP⟩ : ∃ P, P = lpF s len ws K := ⟨_, rfl⟩
  rw [← hC, ← hV]
  have H : Hid (RG 2 lnC w (.slice ta tn tc) t ∧ RG 2 lnC w (.slice a n c) s ∧ RdI w (.slice b m d) ws ∧ C = (if A = 0 then P else A) ∧ V = (if C = 0 then (erN t s ws K len.toNat : Int) else 0) ∧ A = lnF t len ∧ P = lpF s len ws K) := ⟨ht, h, hu, by rw [hC, hA, hP]; rfl, by rw [hV, hC]; rfl, hA, hP⟩
  have HL : Hid (∀ W, Below w.heap.size w W → Calls Try.prog 26 #[.slice ta tn tc, .int .i64 len] W fun e w' => e = .returned (.int .i64 A) ∧ Below W.heap.size W w') := fun W hW => by rw [hA]; exact spec_lf len hnt (ht.below hW)
  have HP : Hid (∀ W, Below w.heap.size w W → Calls Try.prog 42 #[.slice a n c, .int .i64 len, .agg #[.slice b m d, .int .i64 K]] W fun e w' => e = .returned (.int .i64 P) ∧ Below W.heap.size W w') := fun W hW => by rw [hP]; exact spec_pf8 K len hn (h.below hW) (hu.below hW)
  clear h hu hn hC hV hA hP hnn hmm ht hnt htn
  go_enter Try.func23, Try.ntmps23
  go_wp2_with (fail)
  refine (HL.out _ (by (repeat' (first | (with_reducible exact Below.refl _ _) | (with_reducible assumption) | (with_reducible refine Below.setCell ?_ ?_ _) | (with_reducible refine Below.alloc ?_ ?_ _) | (with_reducible refine below_drewN ?_ _) | (with_reducible refine Below.drew ?_) | (with_reducible exact Nat.le_refl _) | omega | (simp; done) | (simp; omega))))).mono ?_
  rintro e w1 ⟨rfl, hb1⟩
  have k1 := (hb1.block w.heap.size (by simp; omega)).trans ((Below.heap_alloc _ _ _ (by simp)).trans (heap_alloc_new w _))
  have k2 := (hb1.block (w.heap.size + 1) (by simp)).trans (kn_at1 w _ _)
  have HB : Hid (Below w.heap.size w w1 ∧ w1.heap[w.heap.size]? = some (.cells #[.slice b m d, .int .i64 K] 33) ∧ w1.heap[w.heap.size + 1]? = some (.cells #[.int .i64 0, .int .i64 0] 50)) := ⟨(show Below w.heap.size w _ from by (repeat' (first | (with_reducible exact Below.refl _ _) | (with_reducible assumption) | (with_reducible refine Below.setCell ?_ ?_ _) | (with_reducible refine Below.alloc ?_ ?_ _) | (with_reducible refine below_drewN ?_ _) | (with_reducible refine Below.drew ?_) | (with_reducible exact Nat.le_refl _) | omega | (simp; done) | (simp; omega)))).trans (hb1.mono (by simp; omega)), k1, k2⟩
  obtain ⟨p0, p1, pf, pl⟩ := kn_two k1
  obtain ⟨q0, q1, qf, ql⟩ := kn_two k2
  have qf0 := qf 0
  have qf1 := qf 1
  clear hb1 k1 k2 pf qf
  by_cases hA0 : A = 0
  case neg =>
    have HC : Hid (C = A ∧ V = 0) := by
      have e : C = A := by rw [H.out.2.2.2.1, if_neg hA0]
      exact ⟨e, by rw [H.out.2.2.2.2.1, if_neg (by rw [e]; exact hA0)]⟩
    have hA1 : (A != 0) = true := by simpa using hA0
    go_wp2
    try simp only [Exit.inBlock, Exit.then]
    refine bodyPost_ret (by simp [results, Try.results23, go_sem, q0, q1]; try rfl) rfl ⟨by rw [HC.out.1, HC.out.2], ?_⟩
    have hB := HB.out.1
    (repeat' (first | (with_reducible exact Below.refl _ _) | (with_reducible assumption) | (with_reducible refine Below.setCell ?_ ?_ _) | (with_reducible refine Below.alloc ?_ ?_ _) | (with_reducible refine below_drewN ?_ _) | (with_reducible refine Below.drew ?_) | (with_reducible exact Nat.le_refl _) | omega | (simp; done) | (simp; omega)))
  have HCP : Hid (C = P) := by unfold Hid; rw [H.out.2.2.2.1, if_pos hA0]
  have HA0 : Hid (lnF t len = 0) := H.out.2.2.2.2.2.1.symm.trans hA0
  subst hA0
  go_wp2_with (fail)
  refine (HP.out _ HB.out.1).mono ?_
  rintro e w2 ⟨rfl, hb2⟩
  have HB2 : Hid (Below w.heap.size w w2 ∧ w2.heap[w.heap.size]? = some (.cells #[.slice b m d, .int .i64 K] 33) ∧ w2.heap[w.heap.size + 1]? = some (.cells #[.int .i64 0, .int .i64 0] 50)) := ⟨HB.out.1.trans (hb2.mono HB.out.1.size), (hb2.block _ pl).trans HB.out.2.1, (hb2.block _ ql).trans HB.out.2.2⟩
  clear p0 p1 pl q0 q1 qf0 qf1 ql hb2 HB
  obtain ⟨p0, p1, pf, pl⟩ := kn_two HB2.out.2.1
  obtain ⟨q0, q1, qf, ql⟩ := kn_two HB2.out.2.2
  have qf0 := qf 0
  have qf1 := qf 1
  clear pf qf
  by_cases hP0 : P = 0
  case neg =>
    have HC : Hid (C = P ∧ V = 0) := ⟨HCP.out, by rw [H.out.2.2.2.2.1, if_neg (by rw [HCP.out]; exact hP0)]⟩
    have hP1 : (P != 0) = true := by simpa using hP0
    go_wp2
    try simp only [Exit.inBlock, Exit.then]
    refine bodyPost_ret (by simp [results, Try.results23, go_sem, q0, q1]; try rfl) rfl ⟨by rw [HC.out.1, HC.out.2], ?_⟩
    have hB := HB2.out.1
    (repeat' (first | (with_reducible exact Below.refl _ _) | (with_reducible assumption) | (with_reducible refine Below.setCell ?_ ?_ _) | (with_reducible refine Below.alloc ?_ ?_ _) | (with_reducible refine below_drewN ?_ _) | (with_reducible refine Below.drew ?_) | (with_reducible exact Nat.le_refl _) | omega | (simp; done) | (simp; omega)))
  obtain ⟨g1, g2⟩ := lpF_good (H.out.2.2.2.2.2.2.symm.trans hP0)
  have g3 := lnF_good HA0.out
  obtain ⟨L, hL⟩ : ∃ L : Nat, len = (L : Int) := ⟨len.toNat, by omega⟩
  have hLb : L ≤ 60 := by omega
  have HV : Hid (C = 0 ∧ V = (erN t s ws K L : Int)) := by
    have e : C = 0 := by rw [HCP.out, hP0]
    exact ⟨e, by rw [H.out.2.2.2.2.1, if_pos e, hL]; rfl⟩
  have HE : Hid (∀ W, Below w.heap.size w W → Calls Try.prog 27 #[.slice ta tn tc, .slice a n c, .int .i64 len, .agg #[.slice b m d, .int .i64 K]] W fun e w' => e = .returned (.int .i64 V) ∧ Below W.heap.size W w') := fun W hW => by rw [HV.out.2]; exact spec_er K hL hLb g3.2.2.1 g1.2.2.1 g2.1 (H.out.1.below hW) (H.out.2.1.below hW) (H.out.2.2.1.below hW)
  clear g1 g2 g3 hL hLb
  subst hP0
  go_wp2_with (fail)
  refine (HE.out _ HB2.out.1).mono ?_
  rintro e w3 ⟨rfl, hb3⟩
  have HB3 : Hid (Below w.heap.size w w3) := HB2.out.1.trans (hb3.mono HB2.out.1.size)
  have k2 := (hb3.block _ ql).trans HB2.out.2.2
  clear p0 p1 pl q0 q1 qf0 qf1 ql hb3
  obtain ⟨q0, q1, qf, ql⟩ := kn_two k2
  have qf0 := qf 0
  have qf1 := qf 1
  clear qf k2
  go_wp2
  try simp only [Exit.inBlock, Exit.then]
  refine bodyPost_ret (by simp [results, Try.results23, go_sem, q0, q1]; try rfl) rfl ⟨by rw [HV.out.1], ?_⟩
  have hB := HB3.out
  (repeat' (first | (with_reducible exact Below.refl _ _) | (with_reducible assumption) | (with_reducible refine Below.setCell ?_ ?_ _) | (with_reducible refine Below.alloc ?_ ?_ _) | (with_reducible refine below_drewN ?_ _) | (with_reducible refine Below.drew ?_) | (with_reducible exact Nat.le_refl _) | omega | (simp; done) | (simp; omega)))

set_option maxRecDepth 10000 in
set_option maxHeartbeats 12800000 in
theorem impl_pe (K len : Int) {w : World} {vt v u : Value} {t s : List Ln} {ws : List Int} (hnt : t.length ≤ 1048576) (hn : s.length ≤ 1048576) (ht : RG 2 lnC w vt t) (h : RG 2 lnC w v s) (hu : RdI w u ws) :
    Calls Try.prog 31 #[vt, v, .int .i64 len, .agg #[u, .int .i64 K]] w fun e w' => e = .returned (.agg #[.int .i64 (peC t s len ws K), .int .i64 (peV t s len ws K)]) ∧ Below w.heap.size w w' := by
  obtain ⟨a, c, rfl⟩ := h.form
  obtain ⟨b, d, rfl⟩ := hu.form
  obtain ⟨ta, tc, rfl⟩ := ht.form
  obtain ⟨n, hnn⟩ : ∃ n, n = s.length := ⟨_, rfl⟩
  obtain ⟨m, hmm⟩ : ∃ m, m = ws.length := ⟨_, rfl⟩
  obtain ⟨tn, htn⟩ : ∃ n, n = t.length := ⟨_, rfl⟩
  rw [← hnn] at h ⊢
  rw [← hmm] at hu ⊢
  rw [← htn] at ht ⊢
  obtain ⟨C, hC⟩ : ∃ C, C = peC t s len ws K := ⟨_, rfl⟩
  obtain ⟨V, hV⟩ : ∃ V, V = peV t s len ws K := ⟨_, rfl⟩
  obtain ⟨A, hA⟩ : ∃ A, A = lnF t len := ⟨_, rfl⟩
  obtain ⟨P, hP⟩ : ∃ P, P = lpF s len ws K := ⟨_, rfl⟩
  rw [← hC, ← hV]
  have H : Hid (RG 2 lnC w (.slice ta tn tc) t ∧ RG 2 lnC w (.slice a n c) s ∧ RdI w (.slice b m d) ws ∧ C = (if A = 0 then P else A) ∧ V = (if C = 0 then (erN t s ws K len.toNat : Int) else 0) ∧ A = lnF t len ∧ P = lpF s len ws K) := ⟨ht, h, hu, by rw [hC, hA, hP]; rfl, by rw [hV, hC]; rfl, hA, hP⟩
  have HL : Hid (∀ W, Below w.heap.size w W → Calls Try.prog 45 #[.slice ta tn tc, .int .i64 len] W fun e w' => e = .returned (.int .i64 A) ∧ Below W.heap.size W w') := fun W hW => by rw [hA]; exact impl_lf len hnt (ht.below hW)
  have HP : Hid (∀ W, Below w.heap.size w W → Calls Try.prog 46 #[.slice a n c, .int .i64 len, .agg #[.slice b m d, .int .i64 K]] W fun e w' => e = .returned (.int .i64 P) ∧ Below W.heap.size W w') := fun W hW => by rw [hP]; exact impl_pf8 K len hn (h.below hW) (hu.below hW)
  clear h hu hn hC hV hA hP hnn hmm ht hnt htn
  go_enter Try.func31, Try.ntmps31
  go_wp2_with (fail)
  refine (HL.out _ (by (repeat' (first | (with_reducible exact Below.refl _ _) | (with_reducible assumption) | (with_reducible refine Below.setCell ?_ ?_ _) | (with_reducible refine Below.alloc ?_ ?_ _) | (with_reducible refine below_drewN ?_ _) | (with_reducible refine Below.drew ?_) | (with_reducible exact Nat.le_refl _) | omega | (simp; done) | (simp; omega))))).mono ?_
  rintro e w1 ⟨rfl, hb1⟩
  have k1 := (hb1.block w.heap.size (by simp; omega)).trans ((Below.heap_alloc _ _ _ (by simp)).trans (heap_alloc_new w _))
  have k2 := (hb1.block (w.heap.size + 1) (by simp)).trans (kn_at1 w _ _)
  have HB : Hid (Below w.heap.size w w1 ∧ w1.heap[w.heap.size]? = some (.cells #[.slice b m d, .int .i64 K] 33) ∧ w1.heap[w.heap.size + 1]? = some (.cells #[.int .i64 0, .int .i64 0] 50)) := ⟨(show Below w.heap.size w _ from by (repeat' (first | (with_reducible exact Below.refl _ _) | (with_reducible assumption) | (with_reducible refine Below.setCell ?_ ?_ _) | (with_reducible refine Below.alloc ?_ ?_ _) | (with_reducible refine below_drewN ?_ _) | (with_reducible refine Below.drew ?_) | (with_reducible exact Nat.le_refl _) | omega | (simp; done) | (simp; omega)))).trans (hb1.mono (by simp; omega)), k1, k2⟩
  obtain ⟨p0, p1, pf, pl⟩ := kn_two k1
  obtain ⟨q0, q1, qf, ql⟩ := kn_two k2
  have qf0 := qf 0
  have qf1 := qf 1
  clear hb1 k1 k2 pf qf
  by_cases hA0 : A = 0
  case neg =>
    have HC : Hid (C = A ∧ V = 0) := by
      have e : C = A := by rw [H.out.2.2.2.1, if_neg hA0]
      exact ⟨e, by rw [H.out.2.2.2.2.1, if_neg (by rw [e]; exact hA0)]⟩
    have hA1 : (A != 0) = true := by simpa using hA0
    go_wp2
    try simp only [Exit.inBlock, Exit.then]
    refine bodyPost_ret (by simp [results, Try.results31, go_sem, q0, q1]; try rfl) rfl ⟨by rw [HC.out.1, HC.out.2], ?_⟩
    have hB := HB.out.1
    (repeat' (first | (with_reducible exact Below.refl _ _) | (with_reducible assumption) | (with_reducible refine Below.setCell ?_ ?_ _) | (with_reducible refine Below.alloc ?_ ?_ _) | (with_reducible refine below_drewN ?_ _) | (with_reducible refine Below.drew ?_) | (with_reducible exact Nat.le_refl _) | omega | (simp; done) | (simp; omega)))
  have HCP : Hid (C = P) := by unfold Hid; rw [H.out.2.2.2.1, if_pos hA0]
  have HA0 : Hid (lnF t len = 0) := H.out.2.2.2.2.2.1.symm.trans hA0
  subst hA0
  go_wp2_with (fail)
  refine (HP.out _ HB.out.1).mono ?_
  rintro e w2 ⟨rfl, hb2⟩
  have HB2 : Hid (Below w.heap.size w w2 ∧ w2.heap[w.heap.size]? = some (.cells #[.slice b m d, .int .i64 K] 33) ∧ w2.heap[w.heap.size + 1]? = some (.cells #[.int .i64 0, .int .i64 0] 50)) := ⟨HB.out.1.trans (hb2.mono HB.out.1.size), (hb2.block _ pl).trans HB.out.2.1, (hb2.block _ ql).trans HB.out.2.2⟩
  clear p0 p1 pl q0 q1 qf0 qf1 ql hb2 HB
  obtain ⟨p0, p1, pf, pl⟩ := kn_two HB2.out.2.1
  obtain ⟨q0, q1, qf, ql⟩ := kn_two HB2.out.2.2
  have qf0 := qf 0
  have qf1 := qf 1
  clear pf qf
  by_cases hP0 : P = 0
  case neg =>
    have HC : Hid (C = P ∧ V = 0) := ⟨HCP.out, by rw [H.out.2.2.2.2.1, if_neg (by rw [HCP.out]; exact hP0)]⟩
    have hP1 : (P != 0) = true := by simpa using hP0
    go_wp2
    try simp only [Exit.inBlock, Exit.then]
    refine bodyPost_ret (by simp [results, Try.results31, go_sem, q0, q1]; try rfl) rfl ⟨by rw [HC.out.1, HC.out.2], ?_⟩
    have hB := HB2.out.1
    (repeat' (first | (with_reducible exact Below.refl _ _) | (with_reducible assumption) | (with_reducible refine Below.setCell ?_ ?_ _) | (with_reducible refine Below.alloc ?_ ?_ _) | (with_reducible refine below_drewN ?_ _) | (with_reducible refine Below.drew ?_) | (with_reducible exact Nat.le_refl _) | omega | (simp; done) | (simp; omega)))
  obtain ⟨g1, g2⟩ := lpF_good (H.out.2.2.2.2.2.2.symm.trans hP0)
  have g3 := lnF_good HA0.out
  obtain ⟨L, hL⟩ : ∃ L : Nat, len = (L : Int) := ⟨len.toNat, by omega⟩
  have hLb : L ≤ 60 := by omega
  have HV : Hid (C = 0 ∧ V = (erN t s ws K L : Int)) := by
    have e : C = 0 := by rw [HCP.out, hP0]
    exact ⟨e, by rw [H.out.2.2.2.2.1, if_pos e, hL]; rfl⟩
  have HU : Hid (∀ W, Below w.heap.size w W → Calls Try.prog 47 #[.slice ta tn tc, .int .i64 len] W fun e w' => ∃ r, e = .returned r ∧ BO w' W.heap.size r (unK t L) ∧ Below W.heap.size W w') := fun W hW => impl_un hL hLb g3.2.2.1 g3.2.2.2 (H.out.1.below hW)
  have HQ : Hid (∀ W, Below w.heap.size w W → Calls Try.prog 48 #[.slice a n c, .int .i64 len, .agg #[.slice b m d, .int .i64 K]] W fun e w' => ∃ r, e = .returned r ∧ BO w' W.heap.size r (prK s ws K L) ∧ Below W.heap.size W w') := fun W hW => impl_pr K hL hLb g1.2.2.1 g1.2.2.2 g2.1 (H.out.2.1.below hW) (H.out.2.2.1.below hW)
  clear g1 g2 g3 hL
  subst hP0
  go_wp2_with (fail)
  refine (HU.out _ HB2.out.1).mono ?_
  rintro e w3 ⟨r3, rfl, hr3, hb3⟩
  have HB3 : Hid (Below w.heap.size w w3 ∧ w3.heap[w.heap.size]? = some (.cells #[.slice b m d, .int .i64 K] 33) ∧ w3.heap[w.heap.size + 1]? = some (.cells #[.int .i64 0, .int .i64 0] 50) ∧ BO w3 w2.heap.size r3 (unK t L)) := ⟨HB2.out.1.trans (hb3.mono HB2.out.1.size), (hb3.block _ pl).trans HB2.out.2.1, (hb3.block _ ql).trans HB2.out.2.2, hr3⟩
  clear p0 p1 pl q0 q1 qf0 qf1 hb3 hr3
  obtain ⟨p0, p1, pf, pl⟩ := kn_two HB3.out.2.1
  clear pf
  go_wp2_with (fail)
  refine (HQ.out _ HB3.out.1).mono ?_
  rintro e w4 ⟨r4, rfl, hr4, hb4⟩
  have HB4 : Hid (Below w.heap.size w w4 ∧ w4.heap[w.heap.size + 1]? = some (.cells #[.int .i64 0, .int .i64 0] 50) ∧ BO w4 w2.heap.size r3 (unK t L) ∧ BO w4 w3.heap.size r4 (prK s ws K L)) := ⟨HB3.out.1.trans (hb4.mono HB3.out.1.size), (hb4.block _ (kn_two HB3.out.2.2.1).2.2.2).trans HB3.out.2.2.1, HB3.out.2.2.2.bel hb4, hr4⟩
  clear p0 p1 pl hb4 hr4 HB3 HB2 ql
  obtain ⟨ra, rc, hrf⟩ := HB4.out.2.2.1.form
  obtain ⟨ua, uc, huf⟩ := HB4.out.2.2.2.form
  rw [unK_len] at hrf
  rw [prK_len] at huf
  subst hrf huf
  go_wp2
  go_loopw [12, 38] (fun q i wr => ∃ k : Nat, k ≤ L ∧ i = .int .i64 k ∧ q = .int .i64 (erC (erf t s ws K L) k : Nat) ∧ Hid (w4 = wr)) (fun _ i _ => L - (intOf i).toNat)
  case atStart => exact ⟨0, Nat.zero_le _, rfl, rfl, rfl⟩
  case round =>
    obtain ⟨k, hk, rfl, rfl, hR⟩ := hrel
    obtain rfl := hR.out
    clear hR
    by_cases hltk : k < L
    · have bk0 : (0 : Int) ≤ (k : Int) := by omega
      have bk1 : (k : Int) < (L : Int) := by omega
      obtain ⟨g, haw, hgw, hxw⟩ := HB4.out.2.2.1.at hltk
      obtain ⟨gu, hau, hgu, hxu⟩ := HB4.out.2.2.2.at hltk
      subst haw hau
      rw [unK_at hltk] at hxw
      rw [prK_at hltk] at hxu
      obtain ⟨N, hN⟩ : ∃ N, N = erC (erf t s ws K L) k := ⟨_, rfl⟩
      have hNb : N ≤ 60 := by rw [hN]; have := erC_le (erf t s ws K L) k; omega
      obtain ⟨X, hX⟩ : ∃ X, X = decide (K ≤ psum s ws k L) := ⟨_, rfl⟩
      obtain ⟨B, hB⟩ : ∃ B, B = hasB t (k : Int) := ⟨_, rfl⟩
      have HNx : Hid (erC (erf t s ws K L) (k + 1) = N + (if (X != B) = true then 1 else 0)) := by unfold Hid; rw [erC, hN, hX, hB]; rfl
      have HR : Hid (w4 = w4) := rfl
      rw [← hN]
      rw [← hX] at hxu
      rw [← hB] at hxw
      clear hX hB hN
      cases X with
      | true =>
        cases B with
        | true =>
          have HE : Hid (N = erC (erf t s ws K L) (k + 1)) := by unfold Hid; rw [HNx.out]; rfl
          go_wp2
          go_roundw
          case rel => exact ⟨k + 1, by omega, by go_num, by rw [← HE.out], (by trivial : True)⟩
          case measure => simp [intOf]; omega
        | false =>
          have HE : Hid (N + 1 = erC (erf t s ws K L) (k + 1)) := by unfold Hid; rw [HNx.out]; rfl
          go_wp2
          go_roundw
          case rel => exact ⟨k + 1, by omega, by go_num, by rw [← HE.out]; go_num, (by trivial : True)⟩
          case measure => simp [intOf]; omega
      | false =>
        cases B with
        | true =>
          have HE : Hid (N + 1 = erC (erf t s ws K L) (k + 1)) := by unfold Hid; rw [HNx.out]; rfl
          go_wp2
          go_roundw
          case rel => exact ⟨k + 1, by omega, by go_num, by rw [← HE.out]; go_num, (by trivial : True)⟩
          case measure => simp [intOf]; omega
        | false =>
          have HE : Hid (N = erC (erf t s ws K L) (k + 1)) := by unfold Hid; rw [HNx.out]; rfl
          go_wp2
          go_roundw
          case rel => exact ⟨k + 1, by omega, by go_num, by rw [← HE.out], (by trivial : True)⟩
          case measure => simp [intOf]; omega
    · have bk1 : ¬ (k : Int) < (L : Int) := by omega
      obtain rfl : k = L := by omega
      obtain ⟨q0, q1, qf, ql⟩ := kn_two HB4.out.2.1
      have qf0 := qf 0
      have qf1 := qf 1
      clear qf
      have HVV : Hid (V = ((erC (erf t s ws K k) k : Nat) : Int)) := HV.out.2
      go_wp2
      try simp only [Exit.inBlock, Exit.then]
      refine bodyPost_ret (by simp [results, Try.results31, go_sem, q0, q1]; try rfl) rfl ⟨by rw [HV.out.1, HVV.out], ?_⟩
      have hB := HB4.out.1
      (repeat' (first | (with_reducible exact Below.refl _ _) | (with_reducible assumption) | (with_reducible refine Below.setCell ?_ ?_ _) | (with_reducible refine Below.alloc ?_ ?_ _) | (with_reducible refine below_drewN ?_ _) | (with_reducible refine Below.drew ?_) | (with_reducible exact Nat.le_refl _) | omega | (simp; done) | (simp; omega)))

end Go.Proofs.Ytfjcebgknpccbab
