/- Proved here: EwmaOf of the program: ewC, ewL. -/
import Derived.Test.YtiipepddlbgodaaEwT
import Derived.Test.YtiipepddlbgodaaChI
import Derived.Test.YtiipepddlbgodaaDnI
import Derived.Test.YtiipepddlbgodaaInsC
import Derived.Deep.DeepCutAuto
namespace Go.Proofs.Ytiipepddlbgodaa
open Go.RowKit
set_option linter.unusedVariables false
set_option linter.unusedSimpArgs false

set_option maxRecDepth 10000 in
set_option maxHeartbeats 3200000 in
theorem impl_ew (q d : Int) {w : World} {v : Value} {s : List Int} (hn : s.length ≤ 1048576) (h : RdI w v s) :
    Calls Try.prog 20 #[v, .int .i64 q, .int .i64 d] w fun e w' => ∃ v, e = .returned (.agg #[.int .i64 (ewC q d s), v]) ∧ IS w' w.heap.size v (ewL q d s) ∧ Below w.heap.size w w' := by
  obtain ⟨i0, hi, hz0, hz1, hz2⟩ := info_parts info_i64
  obtain ⟨a, c, rfl⟩ := h.form
  obtain ⟨n, hnn⟩ : ∃ n, n = s.length := ⟨_, rfl⟩
  obtain ⟨C, hC⟩ : ∃ C, C = ewC q d s := ⟨_, rfl⟩
  obtain ⟨LL, hLL⟩ : ∃ L, L = ewL q d s := ⟨_, rfl⟩
  rw [← hnn] at hn h ⊢
  rw [← hC, ← hLL]
  obtain ⟨Fa, hFa⟩ : ∃ F, F = chF s := ⟨_, rfl⟩
  obtain ⟨q1, hq1⟩ : ∃ b, b = decide (1 ≤ d ∧ d ≤ 1000) := ⟨_, rfl⟩
  obtain ⟨q2, hq2⟩ : ∃ b, b = decide (0 ≤ q ∧ q ≤ d) := ⟨_, rfl⟩
  have HC : Hid (C = (if Fa = 0 then (if q1 && q2 then 0 else 1) else Fa) ∧ LL = if C = 0 then rgL (fun j => ewE q d s (j + 1)) s.length else []) := by
    refine ⟨?_, by rw [hLL, hC]; rfl⟩
    rw [hC, ewC, hFa, hq1, hq2]; simp only [Bool.and_eq_true, decide_eq_true_eq]
  have HF : Hid (∀ W, Below w.heap.size w W → Calls Try.prog 11 #[.slice a n c] W fun e w' => e = .returned (.int .i64 Fa) ∧ w' = W) := fun W hW => by rw [hFa]; exact impl_ch (by omega) (h.below hW)
  have H1 : Hid (∀ W, Calls Try.prog 39 #[.int .i64 d, .int .i64 1, .int .i64 1000] W fun e w' => e = .returned (.bool q1) ∧ w' = W) := impl_insC d 1 1000 q1 hq1
  have H2 : Hid (∀ W, Calls Try.prog 39 #[.int .i64 q, .int .i64 0, .int .i64 d] W fun e w' => e = .returned (.bool q2) ∧ w' = W) := impl_insC q 0 d q2 hq2
  have H : Hid (RdI w (.slice a n c) s ∧ n = s.length ∧ Fa = chF s ∧ q1 = decide (1 ≤ d ∧ d ≤ 1000) ∧ q2 = decide (0 ≤ q ∧ q ≤ d)) := ⟨h, hnn, hFa, hq1, hq2⟩
  clear h hnn hC hLL hFa hq1 hq2
  obtain ⟨W0, hW0⟩ : ∃ W, W = w.alloc (.cells #[.int .i64 0, .slice none 0 0] 36) := ⟨_, rfl⟩
  have HW0 : Hid (Below w.heap.size w W0 ∧ W0.heap[w.heap.size]? = some (.cells #[.int .i64 0, .slice none 0 0] 36) ∧ W0.heap.size = w.heap.size + 1) := by
    rw [hW0]; exact ⟨by (repeat' (first | (with_reducible exact Below.refl _ _) | (with_reducible assumption) | (with_reducible refine Below.setCell ?_ ?_ _) | (with_reducible refine Below.alloc ?_ ?_ _) | (with_reducible refine below_drewN ?_ _) | (with_reducible refine Below.drew ?_) | (with_reducible exact Nat.le_refl _) | omega | (simp; done) | (simp; omega))), heap_alloc_new _ _, by simp⟩
  go_enter Try.func20, Try.ntmps20
  go_wp2_with (fail)
  rw [← hW0]
  clear hW0
  refine (HF.out _ HW0.out.1).mono ?_
  rintro e w1 ⟨rfl, hw⟩
  subst w1
  clear HF
  by_cases hF0 : Fa = 0
  case neg =>
    have HZ : Hid (C = Fa ∧ LL = []) := by
      have h1 := HC.out; rw [if_neg hF0] at h1; exact ⟨h1.1, by rw [h1.2, h1.1, if_neg hF0]⟩
    have hA : (Fa != 0) = true := by simpa using hF0
    clear HC
    obtain ⟨p0, p1, pf0, pf1, pl⟩ := ew_two HW0.out.2.1
    clear H
    go_wp2
    try simp only [Exit.inBlock, Exit.then]
    refine bodyPost_ret (by simp [results, Try.results20, go_sem, p0, p1, pl]; try rfl) rfl ⟨.slice none 0 0, by rw [HZ.out.1], by rw [HZ.out.2]; exact is_nil _ _, ?_⟩
    have hb := HW0.out.1
    (repeat' (first | (with_reducible exact Below.refl _ _) | (with_reducible assumption) | (with_reducible refine Below.setCell ?_ ?_ _) | (with_reducible refine Below.alloc ?_ ?_ _) | (with_reducible refine below_drewN ?_ _) | (with_reducible refine Below.drew ?_) | (with_reducible exact Nat.le_refl _) | omega | (simp; done) | (simp; omega)))
  have hA : (Fa != 0) = false := by rw [hF0]; rfl
  have HF0 : Hid (Fa = 0) := hF0
  clear hF0
  go_wp2_with (fail)
  refine (H2.out _).mono ?_
  rintro e w1 ⟨rfl, hw⟩
  subst w1
  cases q2
  · have HZ : Hid (C = 1 ∧ LL = []) := by
      have h1 := HC.out; rw [if_pos HF0.out] at h1; simp only [Bool.and_false, Bool.false_and, Bool.and_true, Bool.true_and, Bool.false_eq_true, if_false] at h1; exact ⟨h1.1, by rw [h1.2, h1.1, if_neg (by decide)]⟩
    clear HC
    obtain ⟨p0, p1, pf0, pf1, pl⟩ := ew_two HW0.out.2.1
    clear H
    go_wp2
    try simp only [Exit.inBlock, Exit.then]
    refine bodyPost_ret (by simp [results, Try.results20, go_sem, p0, p1, pl]; try rfl) rfl ⟨.slice none 0 0, by rw [HZ.out.1], by rw [HZ.out.2]; exact is_nil _ _, ?_⟩
    have hb := HW0.out.1
    (repeat' (first | (with_reducible exact Below.refl _ _) | (with_reducible assumption) | (with_reducible refine Below.setCell ?_ ?_ _) | (with_reducible refine Below.alloc ?_ ?_ _) | (with_reducible refine below_drewN ?_ _) | (with_reducible refine Below.drew ?_) | (with_reducible exact Nat.le_refl _) | omega | (simp; done) | (simp; omega)))
  go_wp2_with (fail)
  refine (H1.out _).mono ?_
  rintro e w1 ⟨rfl, hw⟩
  subst w1
  cases q1
  · have HZ : Hid (C = 1 ∧ LL = []) := by
      have h1 := HC.out; rw [if_pos HF0.out] at h1; simp only [Bool.and_false, Bool.false_and, Bool.and_true, Bool.true_and, Bool.false_eq_true, if_false] at h1; exact ⟨h1.1, by rw [h1.2, h1.1, if_neg (by decide)]⟩
    clear HC
    obtain ⟨p0, p1, pf0, pf1, pl⟩ := ew_two HW0.out.2.1
    clear H
    go_wp2
    try simp only [Exit.inBlock, Exit.then]
    refine bodyPost_ret (by simp [results, Try.results20, go_sem, p0, p1, pl]; try rfl) rfl ⟨.slice none 0 0, by rw [HZ.out.1], by rw [HZ.out.2]; exact is_nil _ _, ?_⟩
    have hb := HW0.out.1
    (repeat' (first | (with_reducible exact Below.refl _ _) | (with_reducible assumption) | (with_reducible refine Below.setCell ?_ ?_ _) | (with_reducible refine Below.alloc ?_ ?_ _) | (with_reducible refine below_drewN ?_ _) | (with_reducible refine Below.drew ?_) | (with_reducible exact Nat.le_refl _) | omega | (simp; done) | (simp; omega)))
  have HZ : Hid (C = 0 ∧ LL = rgL (fun j => ewE q d s (j + 1)) n) := by
    have h1 := HC.out; rw [if_pos HF0.out] at h1; simp only [Bool.and_true, if_true] at h1; exact ⟨h1.1, by rw [h1.2, h1.1, if_pos rfl, H.out.2.1]⟩
  have hd : 1 ≤ d ∧ d ≤ 1000 := by simpa using H.out.2.2.2.1.symm
  have hq : 0 ≤ q ∧ q ≤ d := by simpa using H.out.2.2.2.2.symm
  have hg := chL_good (H.out.2.2.1.symm.trans HF0.out)
  have hn200 : n ≤ 200 := by rw [H.out.2.1]; exact hg.1
  have HG : Hid ((∀ k, k < s.length → -1000000 ≤ s.getD k 0 ∧ s.getD k 0 ≤ 1000000) ∧ ∀ k, k ≤ s.length → -64000000 ≤ ewE q d s k ∧ ewE q d s k ≤ 64000000) := ⟨hg.2, ewE_bd hq hd.1 hg.2⟩
  have hWs : w.heap.size + 1 ≤ W0.heap.size := by have := HW0.out.2.2; omega
  clear hg HC HF0 H1 H2
  go_wp2_with (at_make; refine wpList_make_own _ rfl _ _ 22 rfl (w.heap.size + 1) 2 i0 (.int .i64 0) 1 Try.underlying22 hi hz0 hz1 _ _ _ n rfl rfl rfl (by rw [hz2]; omega) (by unfold maxLen; omega) (by omega) ?_; intro w2 hown2 hgrow2)
  have HS : Hid (EwT w w2 (.cells #[.int .i64 0, .slice none 0 0] 36) (.slice (some ⟨W0.heap.size, 0, none⟩) 0 n) []) := by
    refine ⟨HW0.out.1.grown hgrow2 HW0.out.1.size (fun k h => by cases h), ?_, hown2⟩
    rw [hgrow2.block _ (by omega) (by simp)]; exact HW0.out.2.1
  clear hown2 hgrow2
  go_wp2
  go_loopw [8, 9, 33] (fun l e i wr => ∃ (k : Nat) (v : Value), k ≤ n ∧ v = l ∧ e = .int .i64 (if k = 0 then 0 else ewE q d s k) ∧ i = .int .i64 k ∧ Hid (EwT w wr (.cells #[.int .i64 0, .slice none 0 0] 36) v (rgL (fun j => ewE q d s (j + 1)) k))) (fun _ _ i _ => n - (intOf i).toNat)
  case atStart => exact ⟨0, _, Nat.zero_le _, rfl, rfl, rfl, HS.out⟩
  case round =>
    clear HS
    obtain ⟨k, v, hk, rfl, rfl, rfl, hQ⟩ := hrel
    obtain ⟨E0, hE0⟩ : ∃ E0, E0 = (if k = 0 then (0 : Int) else ewE q d s k) := ⟨_, rfl⟩
    rw [← hE0]
    have HE0 : Hid (E0 = (if k = 0 then (0 : Int) else ewE q d s k)) := hE0
    clear hE0
    obtain ⟨cur, hcur⟩ : ∃ c, c = rgL (fun j => ewE q d s (j + 1)) k := ⟨_, rfl⟩
    obtain ⟨m, hm⟩ : ∃ m, m = cur.length := ⟨_, rfl⟩
    rw [← hcur] at hQ
    obtain ⟨va, vc, hvf⟩ := hQ.out.form
    rw [← hm] at hvf
    subst hvf
    have hmb : m ≤ 200 := by rw [hm, hcur, rgL_len]; omega
    have HQc : Hid (m = cur.length ∧ cur = rgL (fun j => ewE q d s (j + 1)) k) := ⟨hm, hcur⟩
    by_cases hlt : k < n
    · have hkl : k < s.length := by rw [← H.out.2.1]; exact hlt
      obtain ⟨g, o, c2, he, hg, hj⟩ := (H.out.1.below hQ.out.bl).ri (by omega)
      simp only [Value.slice.injEq] at he
      obtain ⟨rfl, hx1, hx2⟩ := he
      clear hx1 hx2
      have c0 := hj k hkl
      obtain ⟨x, hx⟩ : ∃ x, x = s.getD k 0 := ⟨_, rfl⟩
      rw [← hx] at c0
      obtain ⟨E, hE⟩ : ∃ E, E = ewE q d s k := ⟨_, rfl⟩
      obtain ⟨D, hD⟩ : ∃ D, D = (64 * x - E) * q / d := ⟨_, rfl⟩
      obtain ⟨Y, hY⟩ : ∃ Y, Y = ewE q d s (k + 1) := ⟨_, rfl⟩
      have hYE : Y = E + D := by rw [hY, hD, hE, hx]; rfl
      have hxb := HG.out.1 k hkl
      have hEb := HG.out.2 k (by omega)
      have hYb := HG.out.2 (k + 1) (by omega)
      rw [← hx] at hxb
      rw [← hE] at hEb
      rw [← hY] at hYb
      obtain ⟨P, hP⟩ : ∃ P, P = (64 * x - E) * q := ⟨_, rfl⟩
      have hPb : -4000000000000 ≤ P ∧ P ≤ 4000000000000 := by
        rw [hP]
        rcases Int.le_total 0 (64 * x - E) with h9 | h9
        · have a1 := Int.mul_nonneg h9 hq.1
          have a2 := Int.mul_le_mul (show 64 * x - E ≤ 128000000 by omega) (show q ≤ 1000 by omega) hq.1 (by omega)
          omega
        · have a1 := Int.mul_nonneg (show 0 ≤ -(64 * x - E) by omega) hq.1
          have a2 := Int.mul_le_mul (show -(64 * x - E) ≤ 128000000 by omega) (show q ≤ 1000 by omega) hq.1 (by omega)
          rw [Int.neg_mul] at a1 a2
          omega
      have HDN : Hid (∀ W, Calls Try.prog 44 #[.int .i64 P, .int .i64 d] W fun e w' => e = .returned (.int .i64 D) ∧ w' = W) := fun W => by rw [hD, ← hP]; exact impl_dn16 P d hd.1 (by omega) W
      have HST : Hid (rgL (fun j => ewE q d s (j + 1)) (k + 1) = cur ++ [Y] ∧ Y = E + D ∧ (k = 0 → E = 64 * x ∧ P = 0 ∧ D = 0 ∧ Y = 64 * x) ∧ E = ewE q d s k ∧ Y = ewE q d s (k + 1)) := ⟨by rw [rgL_succ, hcur, hY], hYE, fun h => by
        have h1 : E = 64 * x := by subst h; rw [hE, ewE, hx]
        have h2 : P = 0 := by rw [hP, h1, Int.sub_self, Int.zero_mul]
        have h3 : D = 0 := by rw [hD, ← hP, h2]; simp
        exact ⟨h1, h2, h3, by rw [hYE, h1, h3]; omega⟩, hE, hY⟩
      have HOW : Hid (wr.ownsRow (w.heap.size + 1) 2 1 (.slice va m vc) m (cur.map (Value.int .i64))) := hQ.out.own hm
      have hws := hQ.out.sz
      have HQ2 : Hid (EwT w wr (.cells #[.int .i64 0, .slice none 0 0] 36) (.slice va m vc) cur) := hQ.out
      have e1 : IntKind.i64.wrap (64 * x) = 64 * x := by rw [IntKind.wrap_i64]; omega
      have e2 : IntKind.i64.wrap (64 * x - E) = 64 * x - E := by rw [IntKind.wrap_i64]; omega
      have e3 : IntKind.i64.wrap ((64 * x - E) * q) = P := by rw [← hP, IntKind.wrap_i64]; omega
      have e4 : IntKind.i64.wrap (E + D) = Y := by rw [← hYE, IntKind.wrap_i64]; omega
      have b0 : (0 : Int) ≤ (k : Int) := by omega
      have b1 : (k : Int) < (n : Int) := by omega
      clear hj hx hE hD hY hYE hP hQ hm hcur
      by_cases hk0 : k = 0
      · obtain ⟨hE, hP, hD, hY⟩ := HST.out.2.2.1 hk0
        clear e2 e3 e4 hPb
        subst hk0
        subst hE hP hD hY
        simp only [Nat.add_zero] at c0
        have z0 : (0 : Int) < (n : Int) := by omega
        go_wp2_with (fail)
        refine (HDN.out _).mono ?_
        rintro e w1 ⟨rfl, hw⟩
        subst w1
        go_wp2_with (at_builtin; refine wpList_append_own _ rfl _ _ 22 rfl (w.heap.size + 1) 2 i0 (.int .i64 0) 1 8 Try.underlying22 hi hz0 hz1 hz2 rfl (by decide) _ _ _ rfl (World.ownsRow.alloc HOW.out _) ⟨wr.heap.size, 0, none⟩ 1 1 [.int .i64 (64 * x)] rfl rfl (World.news_of_block (cs := #[.int .i64 (64 * x)]) (t := 2) (fr := (0, 0)) (heap_alloc_new wr _)) (by simp [Value.oneCell']) (by unfold maxLen; omega) (by omega) (by simp; omega) ?_; intro v6 w6 hown6 hgrow6 _)
        have R6 : Hid (EwT w w6 (.cells #[.int .i64 0, .slice none 0 0] 36) v6 (rgL (fun j => ewE q d s (j + 1)) (0 + 1))) := by unfold Hid; rw [HST.out.1]; exact HQ2.out.push HQc.out.1 hown6 hgrow6
        clear hown6 hgrow6 HOW HQ2
        go_wp2
        go_roundw
        case rel => exact ⟨0 + 1, v6, by omega, rfl, by rw [if_neg (by omega)]; first | rw [← HST.out.2.2.2.2] | exact congrArg _ HST.out.2.2.2.2, by go_num, R6.out⟩
        case measure => simp [intOf]; omega
      · obtain rfl : E0 = E := by rw [HE0.out, if_neg hk0]; exact HST.out.2.2.2.1.symm
        have hk1 : ((k : Int) == 0) = false := by simp; omega
        have hk2 : ¬ (k : Int) = 0 := by omega
        go_wp2_with (fail)
        refine (HDN.out _).mono ?_
        rintro e w1 ⟨rfl, hw⟩
        subst w1
        go_wp2_with (at_builtin; refine wpList_append_own _ rfl _ _ 22 rfl (w.heap.size + 1) 2 i0 (.int .i64 0) 1 8 Try.underlying22 hi hz0 hz1 hz2 rfl (by decide) _ _ _ rfl (World.ownsRow.alloc HOW.out _) ⟨wr.heap.size, 0, none⟩ 1 1 [.int .i64 (Y)] rfl rfl (World.news_of_block (cs := #[.int .i64 (Y)]) (t := 2) (fr := (0, 0)) (heap_alloc_new wr _)) (by simp [Value.oneCell']) (by unfold maxLen; omega) (by omega) (by simp; omega) ?_; intro v6 w6 hown6 hgrow6 _)
        have R6 : Hid (EwT w w6 (.cells #[.int .i64 0, .slice none 0 0] 36) v6 (rgL (fun j => ewE q d s (j + 1)) (k + 1))) := by unfold Hid; rw [HST.out.1]; exact HQ2.out.push HQc.out.1 hown6 hgrow6
        clear hown6 hgrow6 HOW HQ2
        go_wp2
        go_roundw
        case rel => exact ⟨k + 1, v6, by omega, rfl, by rw [if_neg (by omega)]; first | rw [← HST.out.2.2.2.2] | exact congrArg _ HST.out.2.2.2.2, by go_num, R6.out⟩
        case measure => simp [intOf]; omega
    · have HE : Hid (C = 0 ∧ LL = cur) := ⟨HZ.out.1, by rw [HZ.out.2, hcur, show k = n by omega]⟩
      obtain ⟨q0, q1, qf0, qf1, ql⟩ := ew_two hQ.out.bx
      have HQ : Hid (EwT w wr (.cells #[.int .i64 0, .slice none 0 0] 36) (.slice va m vc) cur) := hQ.out
      clear hQ hm hcur HQc
      go_wp2
      try simp only [Exit.inBlock, Exit.then]
      refine bodyPost_ret (by simp [results, Try.results20, go_sem, q0, q1, ql]; try rfl) rfl ⟨.slice va m vc, by rw [HE.out.1], by rw [HE.out.2]; exact HQ.out.done, ?_⟩
      have hb := HQ.out.bl
      (repeat' (first | (with_reducible exact Below.refl _ _) | (with_reducible assumption) | (with_reducible refine Below.setCell ?_ ?_ _) | (with_reducible refine Below.alloc ?_ ?_ _) | (with_reducible refine below_drewN ?_ _) | (with_reducible refine Below.drew ?_) | (with_reducible exact Nat.le_refl _) | omega | (simp; done) | (simp; omega)))

end Go.Proofs.Ytiipepddlbgodaa
