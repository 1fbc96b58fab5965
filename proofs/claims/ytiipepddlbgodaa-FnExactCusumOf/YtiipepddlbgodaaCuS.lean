/- Proved here: CusumOf of the model: cuC, cuL. -/
import Derived.Test.YtiipepddlbgodaaCuT
import Derived.Test.YtiipepddlbgodaaChS
import Derived.Test.YtiipepddlbgodaaInS
import Derived.Deep.DeepCutAuto
namespace Go.Proofs.Ytiipepddlbgodaa
open Go.RowKit
set_option linter.unusedVariables false
set_option linter.unusedSimpArgs false

set_option maxHeartbeats 800000 in
theorem spec_mx0 (x : Int) (w : World) : Calls Try.prog 37 #[.int .i64 0, .int .i64 x] w fun e w' => e = .returned (.int .i64 (mx0 x)) ∧ w' = w := by
  unfold mx0
  rcases (by omega : x < 0 ∨ x = 0 ∨ 0 < x) with h | h | h
  · rw [if_neg (by omega)]
    go_enter Try.func37, Try.ntmps37
    go_wp2
    go_returns
    exact ⟨rfl, rfl⟩
  · subst h
    go_enter Try.func37, Try.ntmps37
    go_wp2
    go_returns
    exact ⟨rfl, rfl⟩
  · rw [if_pos h]
    go_enter Try.func37, Try.ntmps37
    go_wp2
    go_returns
    exact ⟨rfl, rfl⟩

set_option maxRecDepth 10000 in
set_option maxHeartbeats 12800000 in
theorem spec_cu (ce sl d : Int) {w : World} {v : Value} {s : List Int} (hn : s.length ≤ 1048576) (h : RdI w v s) :
    Calls Try.prog 13 #[v, .int .i64 ce, .int .i64 sl, .int .i64 d] w fun e w' => ∃ v, e = .returned (.agg #[.int .i64 (cuC ce sl d s), v]) ∧ OG 60 2 alC w' w.heap.size v (cuL ce sl d s) ∧ Below w.heap.size w w' := by
  obtain ⟨i0, hi, hz0, hz1, hz2⟩ := info_parts info_Alarm
  obtain ⟨a, c, rfl⟩ := h.form
  obtain ⟨n, hnn⟩ : ∃ n, n = s.length := ⟨_, rfl⟩
  obtain ⟨C, hC⟩ : ∃ C, C = cuC ce sl d s := ⟨_, rfl⟩
  obtain ⟨LL, hLL⟩ : ∃ L, L = cuL ce sl d s := ⟨_, rfl⟩
  rw [← hnn] at hn h ⊢
  rw [← hC, ← hLL]
  obtain ⟨q0, hq0⟩ : ∃ b, b = decide (-1000000 ≤ ce ∧ ce ≤ 1000000) := ⟨_, rfl⟩
  obtain ⟨q1, hq1⟩ : ∃ b, b = decide (0 ≤ sl ∧ sl ≤ 1000000) := ⟨_, rfl⟩
  obtain ⟨q2, hq2⟩ : ∃ b, b = decide (1 ≤ d ∧ d ≤ 1000000) := ⟨_, rfl⟩
  have HC : Hid (C = (if chF s = 0 then (if q0 && (q1 && q2) then 0 else 3) else chF s) ∧ LL = if C = 0 then cuA ce sl d s s.length else []) := by
    refine ⟨?_, by rw [hLL, hC]; rfl⟩
    rw [hC, cuC, hq0, hq1, hq2]; simp only [Bool.and_eq_true, decide_eq_true_eq]
  obtain ⟨Fa, hFa⟩ : ∃ F, F = chF s := ⟨_, rfl⟩
  have HF : Hid (∀ W, Below w.heap.size w W → Calls Try.prog 9 #[.slice a n c] W fun e w' => e = .returned (.int .i64 Fa) ∧ w' = W) := fun W hW => by rw [hFa]; exact spec_ch (by omega) (h.below hW)
  have H0 : Hid (∀ W, Calls Try.prog 34 #[.int .i64 ce] W fun e w' => e = .returned (.bool (!q0)) ∧ w' = W) := spec_out ce q0 hq0
  have H1 : Hid (∀ W, Calls Try.prog 36 #[.int .i64 sl, .int .i64 0, .int .i64 1000000] W fun e w' => e = .returned (.bool q1) ∧ w' = W) := fun W => by rw [hq1]; exact spec_in10 sl 0 1000000 W
  have H2 : Hid (∀ W, Calls Try.prog 36 #[.int .i64 d, .int .i64 1, .int .i64 1000000] W fun e w' => e = .returned (.bool q2) ∧ w' = W) := fun W => by rw [hq2]; exact spec_in10 d 1 1000000 W
  have H : Hid (RdI w (.slice a n c) s ∧ n = s.length ∧ q0 = decide (-1000000 ≤ ce ∧ ce ≤ 1000000) ∧ q1 = decide (0 ≤ sl ∧ sl ≤ 1000000) ∧ q2 = decide (1 ≤ d ∧ d ≤ 1000000)) := ⟨h, hnn, hq0, hq1, hq2⟩
  have HFF : Hid (Fa = chF s) := hFa
  clear h hnn hC hLL hFa hq0 hq1 hq2
  obtain ⟨W0, hW0⟩ : ∃ W, W = w.alloc (.cells #[.int .i64 0, .slice none 0 0] 29) := ⟨_, rfl⟩
  have HW0 : Hid (Below w.heap.size w W0 ∧ W0.heap[w.heap.size]? = some (.cells #[.int .i64 0, .slice none 0 0] 29) ∧ W0.heap.size = w.heap.size + 1) := by
    rw [hW0]; exact ⟨by (repeat' (first | (with_reducible exact Below.refl _ _) | (with_reducible assumption) | (with_reducible refine Below.setCell ?_ ?_ _) | (with_reducible refine Below.alloc ?_ ?_ _) | (with_reducible refine below_drewN ?_ _) | (with_reducible refine Below.drew ?_) | (with_reducible exact Nat.le_refl _) | omega | (simp; done) | (simp; omega))), heap_alloc_new _ _, by simp⟩
  go_enter Try.func13, Try.ntmps13
  go_wp2_with (fail)
  rw [← hW0]
  clear hW0
  refine (HF.out _ HW0.out.1).mono ?_
  rintro e w1 ⟨rfl, hw⟩
  subst w1
  clear HF
  by_cases hF0 : Fa = 0
  case neg =>
    have HZ : Hid (C = Fa ∧ LL = []) := by
      have h1 := HC.out
      have h2 := HFF.out
      have h3 : ¬ chF s = 0 := by rw [← h2]; exact hF0
      rw [if_neg h3] at h1
      exact ⟨by rw [h1.1, h2], by rw [h1.2, h1.1, if_neg h3]⟩
    have hA : (Fa != 0) = true := by simpa using hF0
    clear HC HFF
    obtain ⟨p0, p1, pf0, pf1, pl⟩ := ew_two HW0.out.2.1
    clear H
    go_wp2
    try simp only [Exit.inBlock, Exit.then]
    refine bodyPost_ret (by simp [results, Try.results13, go_sem, p0, p1, pl]; try rfl) rfl ⟨.slice none 0 0, by rw [HZ.out.1], by rw [HZ.out.2]; exact al_nil _ _, ?_⟩
    have hb := HW0.out.1
    (repeat' (first | (with_reducible exact Below.refl _ _) | (with_reducible assumption) | (with_reducible refine Below.setCell ?_ ?_ _) | (with_reducible refine Below.alloc ?_ ?_ _) | (with_reducible refine below_drewN ?_ _) | (with_reducible refine Below.drew ?_) | (with_reducible exact Nat.le_refl _) | omega | (simp; done) | (simp; omega)))
  have hA : (Fa != 0) = false := by rw [hF0]; rfl
  have HF0 : Hid (chF s = 0) := by unfold Hid; rw [← HFF.out]; exact hF0
  clear HFF hF0
  go_wp2_with (fail)
  refine (H0.out _).mono ?_
  rintro e w1 ⟨rfl, hw⟩
  subst w1
  cases q0
  · have HZ : Hid (C = 3 ∧ LL = []) := by
      have h1 := HC.out; rw [if_pos HF0.out] at h1; simp only [Bool.and_false, Bool.false_and, Bool.and_true, Bool.true_and, Bool.false_eq_true, if_false] at h1; exact ⟨h1.1, by rw [h1.2, h1.1, if_neg (by decide)]⟩
    clear HC
    obtain ⟨p0, p1, pf0, pf1, pl⟩ := ew_two HW0.out.2.1
    clear H
    go_wp2
    try simp only [Exit.inBlock, Exit.then]
    refine bodyPost_ret (by simp [results, Try.results13, go_sem, p0, p1, pl]; try rfl) rfl ⟨.slice none 0 0, by rw [HZ.out.1], by rw [HZ.out.2]; exact al_nil _ _, ?_⟩
    have hb := HW0.out.1
    (repeat' (first | (with_reducible exact Below.refl _ _) | (with_reducible assumption) | (with_reducible refine Below.setCell ?_ ?_ _) | (with_reducible refine Below.alloc ?_ ?_ _) | (with_reducible refine below_drewN ?_ _) | (with_reducible refine Below.drew ?_) | (with_reducible exact Nat.le_refl _) | omega | (simp; done) | (simp; omega)))
  go_wp2_with (fail)
  refine (H1.out _).mono ?_
  rintro e w1 ⟨rfl, hw⟩
  subst w1
  cases q1
  · have HZ : Hid (C = 3 ∧ LL = []) := by
      have h1 := HC.out; rw [if_pos HF0.out] at h1; simp only [Bool.and_false, Bool.false_and, Bool.and_true, Bool.true_and, Bool.false_eq_true, if_false] at h1; exact ⟨h1.1, by rw [h1.2, h1.1, if_neg (by decide)]⟩
    clear HC
    obtain ⟨p0, p1, pf0, pf1, pl⟩ := ew_two HW0.out.2.1
    clear H
    go_wp2
    try simp only [Exit.inBlock, Exit.then]
    refine bodyPost_ret (by simp [results, Try.results13, go_sem, p0, p1, pl]; try rfl) rfl ⟨.slice none 0 0, by rw [HZ.out.1], by rw [HZ.out.2]; exact al_nil _ _, ?_⟩
    have hb := HW0.out.1
    (repeat' (first | (with_reducible exact Below.refl _ _) | (with_reducible assumption) | (with_reducible refine Below.setCell ?_ ?_ _) | (with_reducible refine Below.alloc ?_ ?_ _) | (with_reducible refine below_drewN ?_ _) | (with_reducible refine Below.drew ?_) | (with_reducible exact Nat.le_refl _) | omega | (simp; done) | (simp; omega)))
  go_wp2_with (fail)
  refine (H2.out _).mono ?_
  rintro e w1 ⟨rfl, hw⟩
  subst w1
  cases q2
  · have HZ : Hid (C = 3 ∧ LL = []) := by
      have h1 := HC.out; rw [if_pos HF0.out] at h1; simp only [Bool.and_false, Bool.false_and, Bool.and_true, Bool.true_and, Bool.false_eq_true, if_false] at h1; exact ⟨h1.1, by rw [h1.2, h1.1, if_neg (by decide)]⟩
    clear HC
    obtain ⟨p0, p1, pf0, pf1, pl⟩ := ew_two HW0.out.2.1
    clear H
    go_wp2
    try simp only [Exit.inBlock, Exit.then]
    refine bodyPost_ret (by simp [results, Try.results13, go_sem, p0, p1, pl]; try rfl) rfl ⟨.slice none 0 0, by rw [HZ.out.1], by rw [HZ.out.2]; exact al_nil _ _, ?_⟩
    have hb := HW0.out.1
    (repeat' (first | (with_reducible exact Below.refl _ _) | (with_reducible assumption) | (with_reducible refine Below.setCell ?_ ?_ _) | (with_reducible refine Below.alloc ?_ ?_ _) | (with_reducible refine below_drewN ?_ _) | (with_reducible refine Below.drew ?_) | (with_reducible exact Nat.le_refl _) | omega | (simp; done) | (simp; omega)))
  have HZ : Hid (C = 0 ∧ LL = cuA ce sl d s n) := by
    have h1 := HC.out; rw [if_pos HF0.out] at h1; simp only [Bool.and_true, if_true] at h1; exact ⟨h1.1, by rw [h1.2, h1.1, if_pos rfl, H.out.2.1]⟩
  have hce : -1000000 ≤ ce ∧ ce ≤ 1000000 := by simpa using H.out.2.2.1.symm
  have hsl : 0 ≤ sl ∧ sl ≤ 1000000 := by simpa using H.out.2.2.2.1.symm
  have hd : 1 ≤ d ∧ d ≤ 1000000 := by simpa using H.out.2.2.2.2.symm
  have hg := chL_good HF0.out
  have hn200 : n ≤ 200 := by rw [H.out.2.1]; exact hg.1
  have HG : Hid ((∀ k, k < s.length → -1000000 ≤ s.getD k 0 ∧ s.getD k 0 ≤ 1000000) ∧ ∀ k, (0 ≤ (cuS ce sl d s k).1 ∧ (cuS ce sl d s k).1 ≤ 1000000) ∧ (0 ≤ (cuS ce sl d s k).2 ∧ (cuS ce sl d s k).2 ≤ 1000000)) := ⟨hg.2, cuS_bd hd⟩
  have hWs : w.heap.size + 1 ≤ W0.heap.size := by have := HW0.out.2.2; omega
  clear hg HC HF0 H1 H2
  go_wp2
  go_loopw [10, 11, 12, 13] (fun l e f i wr => ∃ (k : Nat) (v : Value), k ≤ n ∧ v = l ∧ e = .int .i64 (cuS ce sl d s k).1 ∧ f = .int .i64 (cuS ce sl d s k).2 ∧ i = .int .i64 k ∧ Hid (AlT w wr (.cells #[.int .i64 0, .slice none 0 0] 29) (w.heap.size + 1) v (cuA ce sl d s k))) (fun _ _ _ i _ => n - (intOf i).toNat)
  case atStart =>
    refine ⟨0, _, Nat.zero_le _, rfl, rfl, rfl, rfl, HW0.out.1.alloc (by omega) _, (Below.heap_alloc _ _ _ (by omega)).trans HW0.out.2.1, al_lit0 W0 _ (by omega), Nat.le_refl _, by simp; omega⟩
  case round =>
    clear HW0
    obtain ⟨k, v, hk, rfl, rfl, rfl, rfl, hQ⟩ := hrel
    by_cases hlt : k < n
    · have hkl : k < s.length := by rw [← H.out.2.1]; exact hlt
      obtain ⟨g, o, c2, he, hg, hj⟩ := (H.out.1.below hQ.out.bl).ri (by omega)
      simp only [Value.slice.injEq] at he
      obtain ⟨rfl, hx1, hx2⟩ := he
      clear hx1 hx2
      have c0 := hj k hkl
      obtain ⟨x, hx⟩ : ∃ x, x = s.getD k 0 := ⟨_, rfl⟩
      rw [← hx] at c0
      have hxb := HG.out.1 k hkl
      rw [← hx] at hxb
      have hSb := HG.out.2 k
      obtain ⟨U, hU⟩ : ∃ U, U = (cuS ce sl d s k).1 := ⟨_, rfl⟩
      obtain ⟨D, hD⟩ : ∃ D, D = (cuS ce sl d s k).2 := ⟨_, rfl⟩
      rw [← hU, ← hD] at hSb
      obtain ⟨P, hP⟩ : ∃ P, P = mx0 (U + (x - ce) - sl) := ⟨_, rfl⟩
      obtain ⟨R, hR⟩ : ∃ R, R = mx0 (D - (x - ce) - sl) := ⟨_, rfl⟩
      have HST : Hid (cuA ce sl d s (k + 1) = (cuA ce sl d s k ++ (if d < P then [⟨(k : Int), 1⟩] else [])) ++ (if d < R then [⟨(k : Int), 2⟩] else []) ∧ cuS ce sl d s (k + 1) = (if d < P then 0 else P, if d < R then 0 else R) ∧ U = (cuS ce sl d s k).1 ∧ D = (cuS ce sl d s k).2) := by
        refine ⟨?_, ?_, hU, hD⟩
        · rw [cuA, hP, hR, hU, hD, hx]; rfl
        · rw [cuS_succ, hP, hR, hU, hD, hx]; rfl
      have HPR : Hid (P = mx0 (U + (x - ce) - sl) ∧ R = mx0 (D - (x - ce) - sl)) := ⟨hP, hR⟩
      have b0 : (0 : Int) ≤ (k : Int) := by omega
      have b1 : (k : Int) < (n : Int) := by omega
      have e1 : IntKind.i64.wrap (x - ce) = x - ce := by rw [IntKind.wrap_i64]; omega
      have e2 : IntKind.i64.wrap (ce - x) = ce - x := by rw [IntKind.wrap_i64]; omega
      have e3 : IntKind.i64.wrap (U + (x - ce)) = U + (x - ce) := by rw [IntKind.wrap_i64]; omega
      have e4 : IntKind.i64.wrap (U + (x - ce) - sl) = U + (x - ce) - sl := by rw [IntKind.wrap_i64]; omega
      have e5 : IntKind.i64.wrap (D + (ce - x)) = D + (ce - x) := by rw [IntKind.wrap_i64]; omega
      have e6 : IntKind.i64.wrap (D + (ce - x) - sl) = D + (ce - x) - sl := by rw [IntKind.wrap_i64]; omega
      have e7 : IntKind.i64.wrap (D - (x - ce)) = D - (x - ce) := by rw [IntKind.wrap_i64]; omega
      have e8 : IntKind.i64.wrap (D - (x - ce) - sl) = D - (x - ce) - sl := by rw [IntKind.wrap_i64]; omega
      clear hj hx hU hD hP hR
      rw [← HST.out.2.2.1, ← HST.out.2.2.2]
      obtain ⟨m, hm⟩ : ∃ m, m = (cuA ce sl d s k).length := ⟨_, rfl⟩
      have hmb : m ≤ 400 := by rw [hm]; have := cuA_len ce sl d s k; omega
      obtain ⟨va, vc, hvf⟩ := hQ.out.form
      rw [← hm] at hvf
      subst hvf
      have HQ2 : Hid (AlT w wr (.cells #[.int .i64 0, .slice none 0 0] 29) (w.heap.size + 1) (.slice va m vc) (cuA ce sl d s k) ∧ m = (cuA ce sl d s k).length) := ⟨hQ.out, hm⟩
      have hws := hQ.out.lo2
      clear hQ hm e2 e5 e6
      have HM1 : Hid (∀ W, Calls Try.prog 37 #[.int .i64 0, .int .i64 (U + (x - ce) - sl)] W fun e w' => e = .returned (.int .i64 P) ∧ w' = W) := fun W => by rw [HPR.out.1]; exact spec_mx0 _ W
      have HM2 : Hid (∀ W, Calls Try.prog 37 #[.int .i64 0, .int .i64 (D - (x - ce) - sl)] W fun e w' => e = .returned (.int .i64 R) ∧ w' = W) := fun W => by rw [HPR.out.2]; exact spec_mx0 _ W
      clear HPR
      go_wp2_with (fail)
      refine (HM1.out _).mono ?_
      rintro e w1 ⟨rfl, hw⟩
      subst w1
      go_wp2_with (fail)
      refine (HM2.out _).mono ?_
      rintro e w1 ⟨rfl, hw⟩
      subst w1
      by_cases hp : d < P
      · by_cases hr : d < R
        · have HOW : Hid (wr.ownsRow (w.heap.size + 1) 60 2 (.slice va m vc) m ((cuA ce sl d s k).flatMap alC)) := HQ2.out.1.own HQ2.out.2
          go_upto_region 19 with (at_builtin; refine wpList_append_own _ rfl _ _ 27 rfl (w.heap.size + 1) 60 i0 (.agg #[.int .i64 0, .int .i64 0]) 2 16 Try.underlying27 hi hz0 hz1 hz2 rfl (by decide) _ _ _ rfl (World.ownsRow.alloc HOW.out _) ⟨wr.heap.size, 0, none⟩ 1 1 [.int .i64 (k : Int), .int .i64 1] rfl rfl (World.news_of_block (cs := #[.int .i64 (k : Int), .int .i64 1]) (t := 60) (fr := (0, 0)) (heap_alloc_new wr _)) (by simp [Value.oneCell']) (by unfold maxLen; omega) (by omega) (by simp; omega) ?_; intro v6 w6 hown6 hgrow6 _)
          have HV : Hid (AlT w w6 (.cells #[.int .i64 0, .slice none 0 0] 29) (w.heap.size + 1) v6 (cuA ce sl d s k ++ [⟨(k : Int), 1⟩])) := (HQ2.out.1.push HQ2.out.2 hown6 hgrow6).1
          clear hown6 hgrow6 HOW
          obtain ⟨m2, hm2⟩ : ∃ m, m = (cuA ce sl d s k ++ [(⟨(k : Int), 1⟩ : Alm)]).length := ⟨_, rfl⟩
          have hmb2 : m2 ≤ 500 := by rw [hm2, List.length_append, ← HQ2.out.2]; simp; omega
          obtain ⟨va2, vc2, hvf2⟩ := HV.out.form
          rw [← hm2] at hvf2
          subst hvf2
          have HV2 : Hid (AlT w w6 (.cells #[.int .i64 0, .slice none 0 0] 29) (w.heap.size + 1) (.slice va2 m2 vc2) (cuA ce sl d s k ++ [⟨(k : Int), 1⟩]) ∧ m2 = (cuA ce sl d s k ++ [(⟨(k : Int), 1⟩ : Alm)]).length) := ⟨HV.out, hm2⟩
          have HOW : Hid (w6.ownsRow (w.heap.size + 1) 60 2 (.slice va2 m2 vc2) m2 ((cuA ce sl d s k ++ [(⟨(k : Int), 1⟩ : Alm)]).flatMap alC)) := HV.out.own hm2
          have hws2 := HV.out.lo2
          clear HV hm2 HQ2
          go_wp2_with (at_builtin; refine wpList_append_own _ rfl _ _ 27 rfl (w.heap.size + 1) 60 i0 (.agg #[.int .i64 0, .int .i64 0]) 2 16 Try.underlying27 hi hz0 hz1 hz2 rfl (by decide) _ _ _ rfl (World.ownsRow.alloc HOW.out _) ⟨w6.heap.size, 0, none⟩ 1 1 [.int .i64 (k : Int), .int .i64 2] rfl rfl (World.news_of_block (cs := #[.int .i64 (k : Int), .int .i64 2]) (t := 60) (fr := (0, 0)) (heap_alloc_new w6 _)) (by simp [Value.oneCell']) (by unfold maxLen; omega) (by omega) (by simp; omega) ?_; intro v7 w7 hown7 hgrow7 _)
          have HF : Hid (AlT w w7 (.cells #[.int .i64 0, .slice none 0 0] 29) (w.heap.size + 1) v7 (cuA ce sl d s (k + 1))) := by unfold Hid; rw [HST.out.1, if_pos (show d < P by omega), if_pos (show d < R by omega)]; exact (HV2.out.1.push HV2.out.2 hown7 hgrow7).1
          clear hown7 hgrow7 HOW HV2
          have HSS : Hid ((cuS ce sl d s (k + 1)).1 = 0 ∧ (cuS ce sl d s (k + 1)).2 = 0) := by unfold Hid; rw [HST.out.2.1, if_pos (show d < P by omega), if_pos (show d < R by omega)]; exact ⟨rfl, rfl⟩
          clear HST
          go_wp2
          go_roundw
          case rel => exact ⟨k + 1, v7, by omega, rfl, by rw [HSS.out.1], by rw [HSS.out.2], by go_num, HF.out⟩
          case measure => simp [intOf]; omega
        · have HOW : Hid (wr.ownsRow (w.heap.size + 1) 60 2 (.slice va m vc) m ((cuA ce sl d s k).flatMap alC)) := HQ2.out.1.own HQ2.out.2
          go_wp2_with (at_builtin; refine wpList_append_own _ rfl _ _ 27 rfl (w.heap.size + 1) 60 i0 (.agg #[.int .i64 0, .int .i64 0]) 2 16 Try.underlying27 hi hz0 hz1 hz2 rfl (by decide) _ _ _ rfl (World.ownsRow.alloc HOW.out _) ⟨wr.heap.size, 0, none⟩ 1 1 [.int .i64 (k : Int), .int .i64 1] rfl rfl (World.news_of_block (cs := #[.int .i64 (k : Int), .int .i64 1]) (t := 60) (fr := (0, 0)) (heap_alloc_new wr _)) (by simp [Value.oneCell']) (by unfold maxLen; omega) (by omega) (by simp; omega) ?_; intro v6 w6 hown6 hgrow6 _)
          have HV : Hid (AlT w w6 (.cells #[.int .i64 0, .slice none 0 0] 29) (w.heap.size + 1) v6 (cuA ce sl d s k ++ [⟨(k : Int), 1⟩])) := (HQ2.out.1.push HQ2.out.2 hown6 hgrow6).1
          clear hown6 hgrow6 HOW
          have HF : Hid (AlT w w6 (.cells #[.int .i64 0, .slice none 0 0] 29) (w.heap.size + 1) v6 (cuA ce sl d s (k + 1))) := by unfold Hid; rw [HST.out.1, if_pos (show d < P by omega), if_neg (show ¬ d < R by omega), List.append_nil]; exact HV.out
          clear HV HQ2
          have HSS : Hid ((cuS ce sl d s (k + 1)).1 = 0 ∧ (cuS ce sl d s (k + 1)).2 = R) := by unfold Hid; rw [HST.out.2.1, if_pos (show d < P by omega), if_neg (show ¬ d < R by omega)]; exact ⟨rfl, rfl⟩
          clear HST
          go_wp2
          go_roundw
          case rel => exact ⟨k + 1, v6, by omega, rfl, by rw [HSS.out.1], by rw [HSS.out.2], by go_num, HF.out⟩
          case measure => simp [intOf]; omega
      · by_cases hr : d < R
        · have HOW : Hid (wr.ownsRow (w.heap.size + 1) 60 2 (.slice va m vc) m ((cuA ce sl d s k).flatMap alC)) := HQ2.out.1.own HQ2.out.2
          go_wp2_with (at_builtin; refine wpList_append_own _ rfl _ _ 27 rfl (w.heap.size + 1) 60 i0 (.agg #[.int .i64 0, .int .i64 0]) 2 16 Try.underlying27 hi hz0 hz1 hz2 rfl (by decide) _ _ _ rfl (World.ownsRow.alloc HOW.out _) ⟨wr.heap.size, 0, none⟩ 1 1 [.int .i64 (k : Int), .int .i64 2] rfl rfl (World.news_of_block (cs := #[.int .i64 (k : Int), .int .i64 2]) (t := 60) (fr := (0, 0)) (heap_alloc_new wr _)) (by simp [Value.oneCell']) (by unfold maxLen; omega) (by omega) (by simp; omega) ?_; intro v6 w6 hown6 hgrow6 _)
          have HF : Hid (AlT w w6 (.cells #[.int .i64 0, .slice none 0 0] 29) (w.heap.size + 1) v6 (cuA ce sl d s (k + 1))) := by unfold Hid; rw [HST.out.1, if_neg (show ¬ d < P by omega), if_pos (show d < R by omega), List.append_nil]; exact (HQ2.out.1.push HQ2.out.2 hown6 hgrow6).1
          clear hown6 hgrow6 HOW HQ2
          have HSS : Hid ((cuS ce sl d s (k + 1)).1 = P ∧ (cuS ce sl d s (k + 1)).2 = 0) := by unfold Hid; rw [HST.out.2.1, if_neg (show ¬ d < P by omega), if_pos (show d < R by omega)]; exact ⟨rfl, rfl⟩
          clear HST
          go_wp2
          go_roundw
          case rel => exact ⟨k + 1, v6, by omega, rfl, by rw [HSS.out.1], by rw [HSS.out.2], by go_num, HF.out⟩
          case measure => simp [intOf]; omega
        · have HOW : Hid (wr.ownsRow (w.heap.size + 1) 60 2 (.slice va m vc) m ((cuA ce sl d s k).flatMap alC)) := HQ2.out.1.own HQ2.out.2
          have HF : Hid (AlT w wr (.cells #[.int .i64 0, .slice none 0 0] 29) (w.heap.size + 1) (.slice va m vc) (cuA ce sl d s (k + 1))) := by unfold Hid; rw [HST.out.1, if_neg (show ¬ d < P by omega), if_neg (show ¬ d < R by omega), List.append_nil, List.append_nil]; exact HQ2.out.1
          clear HOW HQ2
          have HSS : Hid ((cuS ce sl d s (k + 1)).1 = P ∧ (cuS ce sl d s (k + 1)).2 = R) := by unfold Hid; rw [HST.out.2.1, if_neg (show ¬ d < P by omega), if_neg (show ¬ d < R by omega)]; exact ⟨rfl, rfl⟩
          clear HST
          go_wp2
          go_roundw
          case rel => exact ⟨k + 1, _, by omega, rfl, by rw [HSS.out.1], by rw [HSS.out.2], by go_num, HF.out⟩
          case measure => simp [intOf]; omega
    · have HE : Hid (C = 0 ∧ LL = cuA ce sl d s k) := ⟨HZ.out.1, by rw [HZ.out.2, show k = n by omega]⟩
      obtain ⟨q0, q1, qf0, qf1, ql⟩ := ew_two hQ.out.bx
      have HQ : Hid (AlT w wr (.cells #[.int .i64 0, .slice none 0 0] 29) (w.heap.size + 1) v (cuA ce sl d s k)) := hQ.out
      obtain ⟨va, vc, hvf⟩ := HQ.out.form
      subst hvf
      clear hQ
      go_wp2
      try simp only [Exit.inBlock, Exit.then]
      refine bodyPost_ret (by simp [results, Try.results13, go_sem, q0, q1, ql]; try rfl) rfl ⟨_, by rw [HE.out.1], by rw [HE.out.2]; exact HQ.out.done, ?_⟩
      have hb := HQ.out.bl
      (repeat' (first | (with_reducible exact Below.refl _ _) | (with_reducible assumption) | (with_reducible refine Below.setCell ?_ ?_ _) | (with_reducible refine Below.alloc ?_ ?_ _) | (with_reducible refine below_drewN ?_ _) | (with_reducible refine Below.drew ?_) | (with_reducible exact Nat.le_refl _) | omega | (simp; done) | (simp; omega)))

end Go.Proofs.Ytiipepddlbgodaa
