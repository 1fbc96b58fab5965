/- Proved here: BoundOf of the model: bnC, bnV. -/
import Derived.Test.YtcdpaokmjoklcaaBnM
import Derived.Test.YtcdpaokmjoklcaaLpS
import Derived.Deep.DeepCutAuto
namespace Go.Proofs.Ytcdpaokmjoklcaa
open Go.RowKit
set_option linter.unusedVariables false
set_option linter.unusedSimpArgs false

set_option maxHeartbeats 800000 in
theorem spec_mx16 (a b : Int) (w : World) : Calls Try.prog 16 #[.int .i64 a, .int .i64 b] w fun e w' => e = .returned (.int .i64 (if a < b then b else a)) ∧ w' = w := by
  rcases (by omega : b < a ∨ a = b ∨ a < b) with h | h | h
  · rw [if_neg (by omega)]
    go_enter Try.func16, Try.ntmps16
    go_wp2
    go_returns
    exact ⟨rfl, rfl⟩
  · subst h
    rw [if_neg (by omega)]
    go_enter Try.func16, Try.ntmps16
    go_wp2
    go_returns
    exact ⟨rfl, rfl⟩
  · rw [if_pos h]
    go_enter Try.func16, Try.ntmps16
    go_wp2
    go_returns
    exact ⟨rfl, rfl⟩

set_option maxRecDepth 10000 in
set_option maxHeartbeats 3200000 in
theorem spec_bn (T N D S f st : Int) (w : World) :
    Calls Try.prog 5 #[.agg #[.int .i64 T, .int .i64 N, .int .i64 D, .int .i64 S], .int .i64 f, .int .i64 st] w fun e w' => e = .returned (.agg #[.int .i64 (bnC T N D S f st), .int .i64 (bnV T N D S f st)]) ∧ Below w.heap.size w w' := by
  obtain ⟨C, hC⟩ : ∃ C, C = bnC T N D S f st := ⟨_, rfl⟩
  obtain ⟨V, hVV⟩ : ∃ C, C = bnV T N D S f st := ⟨_, rfl⟩
  obtain ⟨Fl, hFl⟩ : ∃ F, F = loF T N D S := ⟨_, rfl⟩
  obtain ⟨q1, hq1⟩ : ∃ b, b = decide (0 ≤ f ∧ f ≤ 1000000) := ⟨_, rfl⟩
  obtain ⟨q2, hq2⟩ : ∃ b, b = decide (0 ≤ st ∧ st ≤ 1000000) := ⟨_, rfl⟩
  rw [← hC, ← hVV]
  have HC : Hid (C = (if Fl = 0 then (if q1 && q2 then 0 else 3) else Fl) ∧ V = if C = 0 then (if f < ((st + 1) * D + N - 1) / N then ((st + 1) * D + N - 1) / N else f) else 0) := by
    refine ⟨?_, by rw [hVV, hC]; rfl⟩
    rw [hC, bnC, hFl, hq1, hq2]; simp only [Bool.and_eq_true, decide_eq_true_eq]
  have HFL : Hid (∀ W, Calls Try.prog 14 #[.agg #[.int .i64 T, .int .i64 N, .int .i64 D, .int .i64 S]] W fun e w' => e = .returned (.int .i64 Fl) ∧ Below W.heap.size W w') := fun W => by rw [hFl]; exact spec_lo T N D S W
  have H1 : Hid (∀ W, Calls Try.prog 15 #[.int .i64 f, .int .i64 0, .int .i64 1000000] W fun e w' => e = .returned (.bool q1) ∧ w' = W) := fun W => by rw [hq1]; exact spec_in10 f 0 1000000 W
  have H2 : Hid (∀ W, Calls Try.prog 15 #[.int .i64 st, .int .i64 0, .int .i64 1000000] W fun e w' => e = .returned (.bool q2) ∧ w' = W) := fun W => by rw [hq2]; exact spec_in10 st 0 1000000 W
  have H : Hid (Fl = loF T N D S ∧ q1 = decide (0 ≤ f ∧ f ≤ 1000000) ∧ q2 = decide (0 ≤ st ∧ st ≤ 1000000)) := ⟨hFl, hq1, hq2⟩
  clear hC hVV hFl hq1 hq2
  obtain ⟨W0, hW0⟩ : ∃ W, W = (w.alloc (.cells #[.int .i64 T, .int .i64 N, .int .i64 D, .int .i64 S] 27)).alloc (.cells #[.int .i64 0, .int .i64 0] 25) := ⟨_, rfl⟩
  have HW0 : Hid (Below w.heap.size w W0 ∧ W0.heap[w.heap.size]? = some (.cells #[.int .i64 T, .int .i64 N, .int .i64 D, .int .i64 S] 27) ∧ W0.heap[w.heap.size + 1]? = some (.cells #[.int .i64 0, .int .i64 0] 25) ∧ W0.heap.size = w.heap.size + 2) := by
    rw [hW0]
    refine ⟨by (repeat' (first | (with_reducible exact Below.refl _ _) | (with_reducible assumption) | (with_reducible refine Below.setCell ?_ ?_ _) | (with_reducible refine Below.alloc ?_ ?_ _) | (with_reducible refine below_drewN ?_ _) | (with_reducible refine Below.drew ?_) | (with_reducible exact Nat.le_refl _) | omega | (simp; done) | (simp; omega))), (Below.heap_alloc _ _ _ (by simp)).trans (heap_alloc_new w _), ?_, by simp⟩
    have := heap_alloc_new (w.alloc (.cells #[.int .i64 T, .int .i64 N, .int .i64 D, .int .i64 S] 27)) (.cells #[.int .i64 0, .int .i64 0] 25)
    simpa using this
  obtain ⟨l0, l1, l2, l3, ll⟩ := bn_four HW0.out.2.1
  go_enter Try.func5, Try.ntmps5
  go_upto_region 1 with fail
  rw [← hW0]
  clear hW0
  go_wp2_with (fail)
  refine (HFL.out _).mono ?_
  rintro e w1 ⟨rfl, hb1⟩
  have HW1 : Hid (Below w.heap.size w w1 ∧ w1.heap[w.heap.size]? = some (.cells #[.int .i64 T, .int .i64 N, .int .i64 D, .int .i64 S] 27) ∧ w1.heap[w.heap.size + 1]? = some (.cells #[.int .i64 0, .int .i64 0] 25)) :=
    ⟨HW0.out.1.trans (hb1.mono HW0.out.1.size), (hb1.block _ (ltOf HW0.out.2.1)).trans HW0.out.2.1, (hb1.block _ (ltOf HW0.out.2.2.1)).trans HW0.out.2.2.1⟩
  clear hb1 HW0 HFL l0 l1 l2 l3 ll
  obtain ⟨p0, p1, pf0, pf1, pl⟩ := bn_two HW1.out.2.2
  obtain ⟨l0, l1, l2, l3, ll⟩ := bn_four HW1.out.2.1
  by_cases hF0 : Fl = 0
  case neg =>
    have HZ : Hid (C = Fl ∧ V = 0) := by
      have h1 := HC.out; rw [if_neg hF0] at h1; exact ⟨h1.1, by rw [h1.2, h1.1, if_neg hF0]⟩
    have hA : (Fl != 0) = true := by simpa using hF0
    clear HC
    clear H
    go_wp2
    try simp only [Exit.inBlock, Exit.then]
    refine bodyPost_ret (by simp [results, Try.results5, go_sem, p0, p1, pl]; try rfl) rfl ⟨by rw [HZ.out.1, HZ.out.2], ?_⟩
    have hb := HW1.out.1
    (repeat' (first | (with_reducible exact Below.refl _ _) | (with_reducible assumption) | (with_reducible refine Below.setCell ?_ ?_ _) | (with_reducible refine Below.alloc ?_ ?_ _) | (with_reducible refine below_drewN ?_ _) | (with_reducible refine Below.drew ?_) | (with_reducible exact Nat.le_refl _) | omega | (simp; done) | (simp; omega)))
  have hA : (Fl != 0) = false := by rw [hF0]; rfl
  have HL0 : Hid (Fl = 0) := hF0
  clear hF0
  go_wp2_with (fail)
  refine (H1.out _).mono ?_
  rintro e w1 ⟨rfl, hw⟩
  subst w1
  cases q1
  · have HZ : Hid (C = 3 ∧ V = 0) := by
      have h1 := HC.out; rw [if_pos HL0.out] at h1; simp only [Bool.and_false, Bool.false_and, Bool.and_true, Bool.true_and, Bool.false_eq_true, if_false] at h1; exact ⟨h1.1, by rw [h1.2, h1.1, if_neg (by decide)]⟩
    clear HC
    clear H
    go_wp2
    try simp only [Exit.inBlock, Exit.then]
    refine bodyPost_ret (by simp [results, Try.results5, go_sem, p0, p1, pl]; try rfl) rfl ⟨by rw [HZ.out.1, HZ.out.2], ?_⟩
    have hb := HW1.out.1
    (repeat' (first | (with_reducible exact Below.refl _ _) | (with_reducible assumption) | (with_reducible refine Below.setCell ?_ ?_ _) | (with_reducible refine Below.alloc ?_ ?_ _) | (with_reducible refine below_drewN ?_ _) | (with_reducible refine Below.drew ?_) | (with_reducible exact Nat.le_refl _) | omega | (simp; done) | (simp; omega)))
  go_wp2_with (fail)
  refine (H2.out _).mono ?_
  rintro e w1 ⟨rfl, hw⟩
  subst w1
  cases q2
  · have HZ : Hid (C = 3 ∧ V = 0) := by
      have h1 := HC.out; rw [if_pos HL0.out] at h1; simp only [Bool.and_false, Bool.false_and, Bool.and_true, Bool.true_and, Bool.false_eq_true, if_false] at h1; exact ⟨h1.1, by rw [h1.2, h1.1, if_neg (by decide)]⟩
    clear HC
    clear H
    go_wp2
    try simp only [Exit.inBlock, Exit.then]
    refine bodyPost_ret (by simp [results, Try.results5, go_sem, p0, p1, pl]; try rfl) rfl ⟨by rw [HZ.out.1, HZ.out.2], ?_⟩
    have hb := HW1.out.1
    (repeat' (first | (with_reducible exact Below.refl _ _) | (with_reducible assumption) | (with_reducible refine Below.setCell ?_ ?_ _) | (with_reducible refine Below.alloc ?_ ?_ _) | (with_reducible refine below_drewN ?_ _) | (with_reducible refine Below.drew ?_) | (with_reducible exact Nat.le_refl _) | omega | (simp; done) | (simp; omega)))
  have hlo := loF_good (H.out.1.symm.trans HL0.out)
  have hf : 0 ≤ f ∧ f ≤ 1000000 := by simpa using H.out.2.1.symm
  have hst : 0 ≤ st ∧ st ≤ 1000000 := by simpa using H.out.2.2.symm
  have hbd := bn_bd hlo.1 hlo.2.1 hst
  obtain ⟨X, hX⟩ : ∃ X, X = (st + 1) * D := ⟨_, rfl⟩
  obtain ⟨Q, hQ⟩ : ∃ Q, Q = (X + N - 1) / N := ⟨_, rfl⟩
  rw [← hX] at hbd
  rw [← hQ] at hbd
  have HZ : Hid (C = 0 ∧ V = if f < Q then Q else f) := by
    have h1 := HC.out; rw [if_pos HL0.out] at h1; simp only [Bool.and_true, if_true] at h1; exact ⟨h1.1, by rw [h1.2, h1.1, if_pos rfl, hQ, hX]⟩
  clear HC HL0 H1 H2
  have HMX : Hid (∀ W, Calls Try.prog 16 #[.int .i64 f, .int .i64 Q] W fun e w' => e = .returned (.int .i64 V) ∧ w' = W) := fun W => by
    rw [HZ.out.2]; exact spec_mx16 f Q W
  have e1 : IntKind.i64.wrap (st + 1) = st + 1 := by rw [IntKind.wrap_i64]; omega
  have e2 : IntKind.i64.wrap ((st + 1) * D) = X := by rw [← hX, IntKind.wrap_i64]; omega
  have e3 : IntKind.i64.wrap (X + N) = X + N := by rw [IntKind.wrap_i64]; omega
  have e4 : IntKind.i64.wrap (X + N - 1) = X + N - 1 := by rw [IntKind.wrap_i64]; omega
  have e5 : Int.tdiv (X + N - 1) N = Q := by rw [hQ, Int.tdiv_eq_ediv_of_nonneg (by omega)]
  have e6 : IntKind.i64.wrap Q = Q := by rw [IntKind.wrap_i64]; omega
  have hN0 : (N == 0) = false := by simp; omega
  clear hX hQ
  go_wp2_with (fail)
  refine (HMX.out _).mono ?_
  rintro e w2 ⟨rfl, hw⟩
  subst w2
  go_wp2
  try simp only [Exit.inBlock, Exit.then]
  refine bodyPost_ret (by simp [results, Try.results5, go_sem, p0, p1, pl]; try rfl) rfl ⟨by rw [HZ.out.1], ?_⟩
  have hb := HW1.out.1
  (repeat' (first | (with_reducible exact Below.refl _ _) | (with_reducible assumption) | (with_reducible refine Below.setCell ?_ ?_ _) | (with_reducible refine Below.alloc ?_ ?_ _) | (with_reducible refine below_drewN ?_ _) | (with_reducible refine Below.drew ?_) | (with_reducible exact Nat.le_refl _) | omega | (simp; done) | (simp; omega)))

end Go.Proofs.Ytcdpaokmjoklcaa
