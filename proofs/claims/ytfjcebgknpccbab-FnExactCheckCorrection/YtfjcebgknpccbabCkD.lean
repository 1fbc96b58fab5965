/- Proved here: CheckCorrection of the program. -/
import Derived.Test.YtfjcebgknpccbabCkC
namespace Go.Proofs.Ytfjcebgknpccbab
open Go.RowKit
set_option linter.unusedVariables false
set_option linter.unusedSimpArgs false

set_option maxRecDepth 10000 in
set_option maxHeartbeats 12800000 in
theorem impl_ck (K len C : Int) {w : World} {vt va vb u : Value} {t s : List Ln} {ws es : List Int} (hnt : t.length ≤ 1048576) (hn : s.length ≤ 1048576) (hne : es.length ≤ 1048576) (ht : RG 2 lnC w vt t) (hu : RdI w u ws) (h : RdCR w va vb s es) :
    Calls Try.prog 21 #[vt, .int .i64 len, .agg #[u, .int .i64 K], .agg #[.int .i64 C, va, vb]] w fun e w' => e = .returned (.bool (ckB t s len ws K C es)) ∧ Below w.heap.size w w' := by
  obtain ⟨a, c, rfl⟩ := h.ln.form
  obtain ⟨eb, ed, rfl⟩ := h.er.form
  obtain ⟨b, d, rfl⟩ := hu.form
  obtain ⟨ta, tc, rfl⟩ := ht.form
  obtain ⟨n, hnn⟩ : ∃ n, n = s.length := ⟨_, rfl⟩
  obtain ⟨m, hmm⟩ : ∃ m, m = ws.length := ⟨_, rfl⟩
  obtain ⟨tn, htn⟩ : ∃ n, n = t.length := ⟨_, rfl⟩
  obtain ⟨en, hen⟩ : ∃ n, n = es.length := ⟨_, rfl⟩
  rw [← hnn, ← hen] at h ⊢
  rw [← hmm] at hu ⊢
  rw [← htn] at ht ⊢
  obtain ⟨A, hA⟩ : ∃ C, C = peC t s len ws K := ⟨_, rfl⟩
  obtain ⟨V, hV⟩ : ∃ V, V = peV t s len ws K := ⟨_, rfl⟩
  obtain ⟨A2, hA2⟩ : ∃ C, C = peC t t len ws K := ⟨_, rfl⟩
  obtain ⟨V2, hV2⟩ : ∃ V, V = peV t t len ws K := ⟨_, rfl⟩
  obtain ⟨B, hB⟩ : ∃ B, B = ckB t s len ws K C es := ⟨_, rfl⟩
  rw [← hB]
  have H : Hid (RdI w (.slice eb en ed) es ∧ en = es.length ∧ B = (decide (C = 0) && decide (A = 0) && decide (0 < en) && decide (es.getD (en - 1) 0 = V) && faK es en && decide (es.getD 0 0 = V2))) := ⟨h.er, hen, by rw [hB, ckB, ← hA, ← hV, ← hV2, ← hen]⟩
  have HP1 : Hid (∀ W, Below w.heap.size w W → Calls Try.prog 31 #[.slice ta tn tc, .slice a n c, .int .i64 len, .agg #[.slice b m d, .int .i64 K]] W fun e w' => e = .returned (.agg #[.int .i64 A, .int .i64 V]) ∧ Below W.heap.size W w') := fun W hW => by rw [hA, hV]; exact impl_pe K len hnt hn (ht.below hW) (h.ln.below hW) (hu.below hW)
  have HP2 : Hid (∀ W, Below w.heap.size w W → Calls Try.prog 31 #[.slice ta tn tc, .slice ta tn tc, .int .i64 len, .agg #[.slice b m d, .int .i64 K]] W fun e w' => e = .returned (.agg #[.int .i64 A2, .int .i64 V2]) ∧ Below W.heap.size W w') := fun W hW => by rw [hA2, hV2]; exact impl_pe K len hnt hnt (ht.below hW) (ht.below hW) (hu.below hW)
  have hen20 : en ≤ 1048576 := by omega
  clear h hu hn hA hV hA2 hV2 hB hnn hmm ht hnt htn hne hen
  go_enter Try.func21, Try.ntmps21
  go_wp2_with (fail)
  refine (HP1.out _ (by (repeat' (first | (with_reducible exact Below.refl _ _) | (with_reducible assumption) | (with_reducible refine Below.setCell ?_ ?_ _) | (with_reducible refine Below.alloc ?_ ?_ _) | (with_reducible refine below_drewN ?_ _) | (with_reducible refine Below.drew ?_) | (with_reducible exact Nat.le_refl _) | omega | (simp; done) | (simp; omega))))).mono ?_
  rintro e w1 ⟨rfl, hb1⟩
  have k1 := (hb1.block w.heap.size (by simp; omega)).trans ((Below.heap_alloc _ _ _ (by simp)).trans (heap_alloc_new w _))
  have k2 := (hb1.block (w.heap.size + 1) (by simp)).trans (kn_at1 w _ _)
  have HB : Hid (Below w.heap.size w w1 ∧ w1.heap[w.heap.size]? = some (.cells #[.slice b m d, .int .i64 K] 33) ∧ w1.heap[w.heap.size + 1]? = some (.cells #[.int .i64 C, .slice a n c, .slice eb en ed] 30)) := ⟨(show Below w.heap.size w _ from by (repeat' (first | (with_reducible exact Below.refl _ _) | (with_reducible assumption) | (with_reducible refine Below.setCell ?_ ?_ _) | (with_reducible refine Below.alloc ?_ ?_ _) | (with_reducible refine below_drewN ?_ _) | (with_reducible refine Below.drew ?_) | (with_reducible exact Nat.le_refl _) | omega | (simp; done) | (simp; omega)))).trans (hb1.mono (by simp; omega)), k1, k2⟩
  obtain ⟨p0, p1, pf, pl⟩ := kn_two k1
  obtain ⟨q0, q1, q2, qf, ql⟩ := cr_three k2
  have hsz1 : w.heap.size ≤ w1.heap.size := by omega
  clear hb1 k1 k2 pf qf
  by_cases hC0 : C = 0
  case neg =>
    have HN : Hid (B = false) := by unfold Hid; rw [H.out.2.2]; simp [hC0]
    have hC1 : (C != 0) = true := by simpa using hC0
    go_wp2
    go_returns
    exact ⟨by rw [HN.out]; rfl, by have hB := HB.out.1; (repeat' (first | (with_reducible exact Below.refl _ _) | (with_reducible assumption) | (with_reducible refine Below.setCell ?_ ?_ _) | (with_reducible refine Below.alloc ?_ ?_ _) | (with_reducible refine below_drewN ?_ _) | (with_reducible refine Below.drew ?_) | (with_reducible exact Nat.le_refl _) | omega | (simp; done) | (simp; omega)))⟩
  subst hC0
  by_cases hA0 : A = 0
  case neg =>
    have HN : Hid (B = false) := by unfold Hid; rw [H.out.2.2]; simp [hA0]
    have hA1 : (A != 0) = true := by simpa using hA0
    go_wp2
    go_returns
    exact ⟨by rw [HN.out]; rfl, by have hB := HB.out.1; (repeat' (first | (with_reducible exact Below.refl _ _) | (with_reducible assumption) | (with_reducible refine Below.setCell ?_ ?_ _) | (with_reducible refine Below.alloc ?_ ?_ _) | (with_reducible refine below_drewN ?_ _) | (with_reducible refine Below.drew ?_) | (with_reducible exact Nat.le_refl _) | omega | (simp; done) | (simp; omega)))⟩
  subst hA0
  by_cases hE0 : 0 < en
  case neg =>
    have HN : Hid (B = false) := by unfold Hid; rw [H.out.2.2]; simp [hE0]
    obtain rfl : en = 0 := by omega
    go_wp2
    go_returns
    exact ⟨by rw [HN.out]; rfl, by have hB := HB.out.1; (repeat' (first | (with_reducible exact Below.refl _ _) | (with_reducible assumption) | (with_reducible refine Below.setCell ?_ ?_ _) | (with_reducible refine Below.alloc ?_ ?_ _) | (with_reducible refine below_drewN ?_ _) | (with_reducible refine Below.drew ?_) | (with_reducible exact Nat.le_refl _) | omega | (simp; done) | (simp; omega)))⟩
  have hE1 : ¬ (en : Int) = 0 := by omega
  have hE2 : ((en : Int) == 0) = false := by simp; omega
  go_wp2_with (fail)
  refine (HP2.out _ (by have hB := HB.out.1; (repeat' (first | (with_reducible exact Below.refl _ _) | (with_reducible assumption) | (with_reducible refine Below.setCell ?_ ?_ _) | (with_reducible refine Below.alloc ?_ ?_ _) | (with_reducible refine below_drewN ?_ _) | (with_reducible refine Below.drew ?_) | (with_reducible exact Nat.le_refl _) | omega | (simp; done) | (simp; omega))))).mono ?_
  rintro e w2 ⟨rfl, hb2⟩
  have hz1 : w1.heap.size < w2.heap.size := by have := hb2.size; simp at this; omega
  have kl : w2.heap[w1.heap.size]? = some (.cells #[.int .i64 0, .int .i64 V] 50) := (hb2.block w1.heap.size (by simp)).trans (heap_alloc_new w1 _)
  have kr : w2.heap[w.heap.size + 1]? = some (.cells #[.int .i64 0, .slice a n c, .slice eb en ed] 30) := (hb2.block _ (by simp; omega)).trans ((Below.heap_alloc _ _ _ ql).trans HB.out.2.2)
  have hbw2 : Below w.heap.size w w2 := HB.out.1.trans ((show Below w.heap.size w1 _ from by (repeat' (first | (with_reducible exact Below.refl _ _) | (with_reducible assumption) | (with_reducible refine Below.setCell ?_ ?_ _) | (with_reducible refine Below.alloc ?_ ?_ _) | (with_reducible refine below_drewN ?_ _) | (with_reducible refine Below.drew ?_) | (with_reducible exact Nat.le_refl _) | omega | (simp; done) | (simp; omega)))).trans (hb2.mono (by simp; omega)))
  obtain ⟨W3, hW3⟩ : ∃ W, W = w2.alloc (.cells #[.int .i64 A2, .int .i64 V2] 50) := ⟨_, rfl⟩
  obtain ⟨kf, hkf⟩ : ∃ k, k = w2.heap.size := ⟨_, rfl⟩
  have HW3 : Hid (Below w.heap.size w W3 ∧ W3.heap[w1.heap.size]? = some (.cells #[.int .i64 0, .int .i64 V] 50) ∧ W3.heap[w.heap.size + 1]? = some (.cells #[.int .i64 0, .slice a n c, .slice eb en ed] 30) ∧ W3.heap[kf]? = some (.cells #[.int .i64 A2, .int .i64 V2] 50)) := by
    rw [hW3, hkf]
    exact ⟨by (repeat' (first | (with_reducible exact Below.refl _ _) | (with_reducible assumption) | (with_reducible refine Below.setCell ?_ ?_ _) | (with_reducible refine Below.alloc ?_ ?_ _) | (with_reducible refine below_drewN ?_ _) | (with_reducible refine Below.drew ?_) | (with_reducible exact Nat.le_refl _) | omega | (simp; done) | (simp; omega))), (Below.heap_alloc _ _ _ hz1).trans kl, (Below.heap_alloc _ _ _ (by omega)).trans kr, heap_alloc_new _ _⟩
  clear kl kr hb2 p0 p1 pl q0 q1 q2 ql hbw2
  go_wp2
  rw [← hW3, ← hkf]
  clear hW3 hkf
  obtain ⟨l0, l1, lf, ll⟩ := kn_two HW3.out.2.1
  obtain ⟨r0, r1, r2, rf, rl⟩ := cr_three HW3.out.2.2.1
  obtain ⟨f0, f1, ff, fl⟩ := kn_two HW3.out.2.2.2
  obtain ⟨ge, oe, hae, hge, hx0⟩ := rd_at (j := 0) (H.out.1.below HW3.out.1) hE0
  obtain ⟨en', rfl⟩ : ∃ e, en = e + 1 := ⟨en - 1, by omega⟩
  obtain ⟨ge', oe', hae', _, hx1⟩ := rd_at (j := en') (H.out.1.below HW3.out.1) (by omega)
  subst hae
  injection hae' with hae'
  injection hae' with e1 e2
  subst e1 e2
  obtain ⟨X, hX⟩ : ∃ X, X = es.getD 0 0 := ⟨_, rfl⟩
  obtain ⟨Y, hY⟩ : ∃ X, X = es.getD en' 0 := ⟨_, rfl⟩
  rw [← hX] at hx0
  rw [← hY] at hx1
  obtain ⟨FB, hFB⟩ : ∃ F, F = faK es (en' + 1) := ⟨_, rfl⟩
  have HFB : Hid (∀ q : Nat, Calls Try.prog 41 #[.slice (some ⟨ge, oe, none⟩) (en' + 1) ed] (W3.drewN q) fun e w' => e = .returned (.bool FB) ∧ ∃ k, w' = (W3.drewN q).drewN k) := fun q => by
    have h9 := impl_falls (H.out.1.below (below_drewN HW3.out.1 q)) (by have := H.out.2.1; omega)
    rw [← H.out.2.1, ← hFB] at h9
    exact h9
  have HBB : Hid (B = (decide (Y = V) && FB && decide (X = V2))) := by
    unfold Hid; rw [H.out.2.2, hX, hY, hFB]; simp
  have e9 : (((en' + 1 : Nat) : Int) - 1) = (en' : Int) := by omega
  have hx0' : W3.cell? ⟨ge, oe, none⟩ = some (.int .i64 X) := by simpa using hx0
  clear hX hY hFB hx0 lf rf ff
  by_cases hXV : X = V2
  · by_cases hYV : Y = V
    · have HE : Hid (B = FB) := by unfold Hid; rw [HBB.out]; simp [hXV, hYV]
      have d1 : (X == V2) = true := by simp [hXV]
      have d2 : (Y == V) = true := by simp [hYV]
      subst hXV hYV
      go_quiet (first | (go_at_call 41; refine (HFB.out _).mono ?_; rintro e w' ⟨rfl, hw'⟩; exact ⟨rfl, _, hw'.choose_spec.trans (World.drewN_drewN _ _ _)⟩))
      go_wp2
      go_returns
      exact ⟨by rw [HE.out]; rfl, below_drewN HW3.out.1 _⟩
    · have HE : Hid (B = false) := by unfold Hid; rw [HBB.out]; simp [hYV]
      have d2 : (Y == V) = false := by simpa using hYV
      subst hXV
      go_quiet (fail)
      go_wp2
      go_returns
      exact ⟨by rw [HE.out]; rfl, below_drewN HW3.out.1 _⟩
  · have HE : Hid (B = false) := by unfold Hid; rw [HBB.out]; simp [hXV]
    have d1 : (X == V2) = false := by simpa using hXV
    go_quiet (fail)
    go_wp2
    go_returns
    exact ⟨by rw [HE.out]; rfl, below_drewN HW3.out.1 _⟩

end Go.Proofs.Ytfjcebgknpccbab
