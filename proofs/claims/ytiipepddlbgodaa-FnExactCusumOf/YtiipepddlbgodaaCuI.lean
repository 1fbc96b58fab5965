/- Proved here: CusumOf of the program: cuC, cuL. -/
import Derived.Test.YtiipepddlbgodaaCuT
import Derived.Test.YtiipepddlbgodaaCfI16
import Derived.Test.YtiipepddlbgodaaInsC
import Derived.Deep.DeepCutAuto
namespace Go.Proofs.Ytiipepddlbgodaa
open Go.RowKit
set_option linter.unusedVariables false
set_option linter.unusedSimpArgs false

theorem ix_two (a b : Int) (w : World) : (Instr.index 62 (.agg #[.int .i64 a, .int .i64 b]) (.int .i64 0)).run Try.prog w = .ok (.int .i64 a) w ∧ (Instr.index 62 (.agg #[.int .i64 a, .int .i64 b]) (.int .i64 1)).run Try.prog w = .ok (.int .i64 b) w := by
  have hu : Try.prog.underlying 62 = some (.array 2 2) := by kernel_rfl
  obtain ⟨i0, hi0, hz0, hz1, hz2⟩ := info_parts info_i64
  constructor <;> simp [Instr.index, go_sem, hu, hi0, hz0, hz1, part]
/-- The alarms within one place. -/
def cuN (A : List Alm) (d P R : Int) (k : Nat) : Nat → List Alm
  | 0 => A
  | 1 => A ++ (if d < P then [⟨(k : Int), 1⟩] else [])
  | _ => (A ++ (if d < P then [⟨(k : Int), 1⟩] else [])) ++ (if d < R then [⟨(k : Int), 2⟩] else [])
theorem cuN_no0 {A : List Alm} {d P R : Int} {k : Nat} (h : ¬ d < P) : cuN A d P R k 1 = cuN A d P R k 0 := by rw [cuN, cuN, if_neg h, List.append_nil]
theorem cuN_no1 {A : List Alm} {d P R : Int} {k : Nat} (h : ¬ d < R) : cuN A d P R k 2 = cuN A d P R k 1 := by rw [cuN, cuN, if_neg h, List.append_nil]; all_goals simp
theorem cuN_yes0 {A : List Alm} {d P R : Int} {k : Nat} (h : d < P) : cuN A d P R k 1 = cuN A d P R k 0 ++ [⟨(k : Int), 1⟩] := by rw [cuN, cuN, if_pos h]
theorem cuN_yes1 {A : List Alm} {d P R : Int} {k : Nat} (h : d < R) : cuN A d P R k 2 = cuN A d P R k 1 ++ [⟨(k : Int), 2⟩] := by rw [cuN, cuN, if_pos h]; all_goals simp
theorem cuN_len (A : List Alm) (d P R : Int) (k j : Nat) : (cuN A d P R k j).length ≤ A.length + 2 := by
  unfold cuN
  split
  · omega
  · rw [List.length_append]; split <;> simp
  · rw [List.length_append, List.length_append]; split <;> split <;> simp

set_option maxRecDepth 10000 in
set_option maxHeartbeats 12800000 in
theorem impl_cu (ce sl d : Int) {w : World} {v : Value} {s : List Int} (hn : s.length ≤ 1048576) (h : RdI w v s) :
    Calls Try.prog 14 #[v, .int .i64 ce, .int .i64 sl, .int .i64 d] w fun e w' => ∃ v, e = .returned (.agg #[.int .i64 (cuC ce sl d s), v]) ∧ OG 60 2 alC w' w.heap.size v (cuL ce sl d s) ∧ Below w.heap.size w w' := by
  obtain ⟨i0, hi, hz0, hz1, hz2⟩ := info_parts info_Alarm
  obtain ⟨a, c, rfl⟩ := h.form
  obtain ⟨n, hnn⟩ : ∃ n, n = s.length := ⟨_, rfl⟩
  obtain ⟨C, hC⟩ : ∃ C, C = cuC ce sl d s := ⟨_, rfl⟩
  obtain ⟨LL, hLL⟩ : ∃ L, L = cuL ce sl d s := ⟨_, rfl⟩
  rw [← hnn] at hn h ⊢
  rw [← hC, ← hLL]
  obtain ⟨q0, hq0⟩ : ∃ b, b = decide (-1000000 ≤ ce ∧ ce ≤ 1000000) := ⟨_, rfl⟩
  obtain ⟨q1, hq1⟩ : ∃ b, b = decide (0 ≤ sl ∧ sl ≤ 1000000) := ⟨_, rfl⟩
  obtain ⟨q2, hq2⟩ : ∃ b, b = decide (1 ≤ d ∧ d ≤ 1000000) := ⟨_, rfl⟩
  have HC : Hid (C = (if chF s = 0 then (if q0 && (q1 && q2) then 0 else 3) else chF s) ∧ LL = if C = 0 then cuA ce sl d s s.length else []) := by
    refine ⟨?_, by rw [hLL, hC]; rfl⟩
    rw [hC, cuC, hq0, hq1, hq2]; simp only [Bool.and_eq_true, decide_eq_true_eq]
  obtain ⟨Fa, hFa⟩ : ∃ F, F = ceF ce s := ⟨_, rfl⟩
  have HFF : Hid (Fa = (if chF s = 0 then (if q0 then 0 else 3) else chF s)) := by unfold Hid; rw [hFa, ceF, hq0]; simp only [decide_eq_true_eq]
  have HF : Hid (∀ W, Below w.heap.size w W → Calls Try.prog 38 #[.slice a n c, .int .i64 ce] W fun e w' => e = .returned (.int .i64 Fa) ∧ w' = W) := fun W hW => by rw [hFa]; exact impl_ce ce (by omega) (h.below hW)
  have H1 : Hid (∀ W, Calls Try.prog 39 #[.int .i64 sl, .int .i64 0, .int .i64 1000000] W fun e w' => e = .returned (.bool q1) ∧ w' = W) := impl_insC sl 0 1000000 q1 hq1
  have H2 : Hid (∀ W, Calls Try.prog 39 #[.int .i64 d, .int .i64 1, .int .i64 1000000] W fun e w' => e = .returned (.bool q2) ∧ w' = W) := impl_insC d 1 1000000 q2 hq2
  have H : Hid (RdI w (.slice a n c) s ∧ n = s.length ∧ q0 = decide (-1000000 ≤ ce ∧ ce ≤ 1000000) ∧ q1 = decide (0 ≤ sl ∧ sl ≤ 1000000) ∧ q2 = decide (1 ≤ d ∧ d ≤ 1000000)) := ⟨h, hnn, hq0, hq1, hq2⟩
  clear h hnn hC hLL hFa hq0 hq1 hq2
  obtain ⟨W0, hW0⟩ : ∃ W, W = w.alloc (.cells #[.int .i64 0, .slice none 0 0] 29) := ⟨_, rfl⟩
  have HW0 : Hid (Below w.heap.size w W0 ∧ W0.heap[w.heap.size]? = some (.cells #[.int .i64 0, .slice none 0 0] 29) ∧ W0.heap.size = w.heap.size + 1) := by
    rw [hW0]; exact ⟨by (repeat' (first | (with_reducible exact Below.refl _ _) | (with_reducible assumption) | (with_reducible refine Below.setCell ?_ ?_ _) | (with_reducible refine Below.alloc ?_ ?_ _) | (with_reducible refine below_drewN ?_ _) | (with_reducible refine Below.drew ?_) | (with_reducible exact Nat.le_refl _) | omega | (simp; done) | (simp; omega))), heap_alloc_new _ _, by simp⟩
  go_enter Try.func14, Try.ntmps14
  go_wp2_with (fail)
  rw [← hW0]
  clear hW0
  refine (HF.out _ HW0.out.1).mono ?_
  rintro e w1 ⟨rfl, hw⟩
  subst w1
  clear HF
  by_cases hF0 : Fa = 0
  case neg =>
    have HZ : Hid (C = Fa ∧ LL = []) := by
      have h1 := HC.out
      have h2 := HFF.out
      by_cases h3 : chF s = 0
      · rw [if_pos h3] at h1 h2
        cases q0
        · simp only [Bool.false_and, Bool.false_eq_true, if_false] at h1 h2
          exact ⟨by rw [h1.1, h2], by rw [h1.2, h1.1, if_neg (by decide)]⟩
        · simp only [if_true] at h2
          exact absurd h2 hF0
      · rw [if_neg h3] at h1 h2
        exact ⟨by rw [h1.1, h2], by rw [h1.2, h1.1, if_neg h3]⟩
    have hA : (Fa != 0) = true := by simpa using hF0
    clear HC HFF
    obtain ⟨p0, p1, pf0, pf1, pl⟩ := ew_two HW0.out.2.1
    clear H
    go_wp2
    try simp only [Exit.inBlock, Exit.then]
    refine bodyPost_ret (by simp [results, Try.results14, go_sem, p0, p1, pl]; try rfl) rfl ⟨.slice none 0 0, by rw [HZ.out.1], by rw [HZ.out.2]; exact al_nil _ _, ?_⟩
    have hb := HW0.out.1
    (repeat' (first | (with_reducible exact Below.refl _ _) | (with_reducible assumption) | (with_reducible refine Below.setCell ?_ ?_ _) | (with_reducible refine Below.alloc ?_ ?_ _) | (with_reducible refine below_drewN ?_ _) | (with_reducible refine Below.drew ?_) | (with_reducible exact Nat.le_refl _) | omega | (simp; done) | (simp; omega)))
  have hA : (Fa != 0) = false := by rw [hF0]; rfl
  have HF0 : Hid (chF s = 0 ∧ q0 = true) := by
    have h2 := HFF.out
    rw [hF0] at h2
    by_cases h3 : chF s = 0
    · rw [if_pos h3] at h2
      cases q0
      · simp at h2
      · exact ⟨h3, rfl⟩
    · rw [if_neg h3] at h2; exact absurd h2.symm h3
  clear HFF hF0
  go_wp2_with (fail)
  refine (H1.out _).mono ?_
  rintro e w1 ⟨rfl, hw⟩
  subst w1
  cases q1
  · have HZ : Hid (C = 3 ∧ LL = []) := by
      have h1 := HC.out; rw [if_pos HF0.out.1] at h1; simp only [Bool.and_false, Bool.false_and, Bool.and_true, Bool.true_and, Bool.false_eq_true, if_false] at h1; exact ⟨h1.1, by rw [h1.2, h1.1, if_neg (by decide)]⟩
    clear HC
    obtain ⟨p0, p1, pf0, pf1, pl⟩ := ew_two HW0.out.2.1
    clear H
    go_wp2
    try simp only [Exit.inBlock, Exit.then]
    refine bodyPost_ret (by simp [results, Try.results14, go_sem, p0, p1, pl]; try rfl) rfl ⟨.slice none 0 0, by rw [HZ.out.1], by rw [HZ.out.2]; exact al_nil _ _, ?_⟩
    have hb := HW0.out.1
    (repeat' (first | (with_reducible exact Below.refl _ _) | (with_reducible assumption) | (with_reducible refine Below.setCell ?_ ?_ _) | (with_reducible refine Below.alloc ?_ ?_ _) | (with_reducible refine below_drewN ?_ _) | (with_reducible refine Below.drew ?_) | (with_reducible exact Nat.le_refl _) | omega | (simp; done) | (simp; omega)))
  go_wp2_with (fail)
  refine (H2.out _).mono ?_
  rintro e w1 ⟨rfl, hw⟩
  subst w1
  cases q2
  · have HZ : Hid (C = 3 ∧ LL = []) := by
      have h1 := HC.out; rw [if_pos HF0.out.1] at h1; simp only [Bool.and_false, Bool.false_and, Bool.and_true, Bool.true_and, Bool.false_eq_true, if_false] at h1; exact ⟨h1.1, by rw [h1.2, h1.1, if_neg (by decide)]⟩
    clear HC
    obtain ⟨p0, p1, pf0, pf1, pl⟩ := ew_two HW0.out.2.1
    clear H
    go_wp2
    try simp only [Exit.inBlock, Exit.then]
    refine bodyPost_ret (by simp [results, Try.results14, go_sem, p0, p1, pl]; try rfl) rfl ⟨.slice none 0 0, by rw [HZ.out.1], by rw [HZ.out.2]; exact al_nil _ _, ?_⟩
    have hb := HW0.out.1
    (repeat' (first | (with_reducible exact Below.refl _ _) | (with_reducible assumption) | (with_reducible refine Below.setCell ?_ ?_ _) | (with_reducible refine Below.alloc ?_ ?_ _) | (with_reducible refine below_drewN ?_ _) | (with_reducible refine Below.drew ?_) | (with_reducible exact Nat.le_refl _) | omega | (simp; done) | (simp; omega)))
  have HZ : Hid (C = 0 ∧ LL = cuA ce sl d s n) := by
    have h1 := HC.out; rw [if_pos HF0.out.1, HF0.out.2] at h1; simp only [Bool.and_true, if_true] at h1; exact ⟨h1.1, by rw [h1.2, h1.1, if_pos rfl, H.out.2.1]⟩
  have hce : -1000000 ≤ ce ∧ ce ≤ 1000000 := by have h1 := H.out.2.2.1; rw [HF0.out.2] at h1; simpa using h1.symm
  have hsl : 0 ≤ sl ∧ sl ≤ 1000000 := by simpa using H.out.2.2.2.1.symm
  have hd : 1 ≤ d ∧ d ≤ 1000000 := by simpa using H.out.2.2.2.2.symm
  have hg := chL_good HF0.out.1
  have hn200 : n ≤ 200 := by rw [H.out.2.1]; exact hg.1
  have HG : Hid ((∀ k, k < s.length → -1000000 ≤ s.getD k 0 ∧ s.getD k 0 ≤ 1000000) ∧ ∀ k, (0 ≤ (cuS ce sl d s k).1 ∧ (cuS ce sl d s k).1 ≤ 1000000) ∧ (0 ≤ (cuS ce sl d s k).2 ∧ (cuS ce sl d s k).2 ≤ 1000000)) := ⟨hg.2, cuS_bd hd⟩
  have hWs : w.heap.size + 1 ≤ W0.heap.size := by have := HW0.out.2.2; omega
  clear hg HC HF0 H1 H2
  obtain ⟨W1, hW1⟩ : ∃ W, W = W0.alloc (.cells #[.int .i64 0, .int .i64 0] 62) := ⟨_, rfl⟩
  have HS : Hid (CuT w W1 (.cells #[.int .i64 0, .slice none 0 0] 29) 62 (.slice none 0 0) (cuA ce sl d s 0) (cuS ce sl d s 0).1 (cuS ce sl d s 0).2) := by
    rw [hW1]
    refine ⟨⟨HW0.out.1.alloc (by omega) _, (Below.heap_alloc _ _ _ (by omega)).trans HW0.out.2.1, al_nil _ _, by omega, by have := HW0.out.2.2; simp; omega⟩, ?_⟩
    rw [← HW0.out.2.2]; exact heap_alloc_new _ _
  have hK : W0.heap.size = w.heap.size + 1 := HW0.out.2.2
  go_wp2
  rw [← hW1]
  try rw [hK]
  clear hW1 hK HW0 hWs
  go_loopw [10, 34] (fun l i wr => ∃ (k : Nat) (v : Value), k ≤ n ∧ v = l ∧ i = .int .i64 k ∧ Hid (CuT w wr (.cells #[.int .i64 0, .slice none 0 0] 29) 62 v (cuA ce sl d s k) (cuS ce sl d s k).1 (cuS ce sl d s k).2)) (fun _ i _ => n - (intOf i).toNat)
  case atStart => exact ⟨0, _, Nat.zero_le _, rfl, rfl, HS.out⟩
  case round =>
    clear HS
    obtain ⟨k, v, hk, rfl, rfl, hQ⟩ := hrel
    by_cases hlt : k < n
    · have hkl : k < s.length := by rw [← H.out.2.1]; exact hlt
      obtain ⟨g, o, c2, he, hg, hj⟩ := (H.out.1.below hQ.out.al.bl).ri (by omega)
      simp only [Value.slice.injEq] at he
      obtain ⟨rfl, hx1, hx2⟩ := he
      clear hx1 hx2
      have c0 := hj k hkl
      obtain ⟨x, hx⟩ : ∃ x, x = s.getD k 0 := ⟨_, rfl⟩
      rw [← hx] at c0
      have hxb := HG.out.1 k hkl
      rw [← hx] at hxb
      have hSb := HG.out.2 k
      obtain ⟨U, hU⟩ : ∃ U, U = (cuS ce sl d s k).1 := ⟨_, rfl⟩
      obtain ⟨D, hD⟩ : ∃ D, D = (cuS ce sl d s k).2 := ⟨_, rfl⟩
      rw [← hU, ← hD] at hSb
      obtain ⟨P, hP⟩ : ∃ P, P = mx0 (U + (x - ce) - sl) := ⟨_, rfl⟩
      obtain ⟨R, hR⟩ : ∃ R, R = mx0 (D - (x - ce) - sl) := ⟨_, rfl⟩
      have HST : Hid (cuA ce sl d s (k + 1) = (cuA ce sl d s k ++ (if d < P then [⟨(k : Int), 1⟩] else [])) ++ (if d < R then [⟨(k : Int), 2⟩] else []) ∧ cuS ce sl d s (k + 1) = (if d < P then 0 else P, if d < R then 0 else R) ∧ U = (cuS ce sl d s k).1 ∧ D = (cuS ce sl d s k).2) := by
        refine ⟨?_, ?_, hU, hD⟩
        · rw [cuA, hP, hR, hU, hD, hx]; rfl
        · rw [cuS_succ, hP, hR, hU, hD, hx]; rfl
      have HPR : Hid (P = mx0 (U + (x - ce) - sl) ∧ R = mx0 (D - (x - ce) - sl)) := ⟨hP, hR⟩
      have b0 : (0 : Int) ≤ (k : Int) := by omega
      have b1 : (k : Int) < (n : Int) := by omega
      have e1 : IntKind.i64.wrap (x - ce) = x - ce := by rw [IntKind.wrap_i64]; omega
      have e2 : IntKind.i64.wrap (ce - x) = ce - x := by rw [IntKind.wrap_i64]; omega
      have e3 : IntKind.i64.wrap (U + (x - ce)) = U + (x - ce) := by rw [IntKind.wrap_i64]; omega
      have e4 : IntKind.i64.wrap (U + (x - ce) - sl) = U + (x - ce) - sl := by rw [IntKind.wrap_i64]; omega
      have e5 : IntKind.i64.wrap (D + (ce - x)) = D + (ce - x) := by rw [IntKind.wrap_i64]; omega
      have e6 : IntKind.i64.wrap (D + (ce - x) - sl) = D + (ce - x) - sl := by rw [IntKind.wrap_i64]; omega
      have e7 : IntKind.i64.wrap (D - (x - ce)) = D - (x - ce) := by rw [IntKind.wrap_i64]; omega
      have e8 : IntKind.i64.wrap (D - (x - ce) - sl) = D - (x - ce) - sl := by rw [IntKind.wrap_i64]; omega
      clear hj hx hU hD hP hR
      rw [← HST.out.2.2.1, ← HST.out.2.2.2] at hQ
      clear e7 e8
      go_wp2
      go_loopw [10, 46] (fun l i wr => ∃ (j : Nat) (v : Value), j ≤ 2 ∧ v = l ∧ i = .int .i64 j ∧ Hid (CuT w wr (.cells #[.int .i64 0, .slice none 0 0] 29) 62 v (cuN (cuA ce sl d s k) d P R k j) (if j = 0 then U else if d < P then 0 else P) (if j ≤ 1 then D else if d < R then 0 else R))) (fun _ i _ => 2 - (intOf i).toNat)
      case atStart => exact ⟨0, _, by omega, rfl, rfl, hQ.out⟩
      case round =>
        clear hQ
        obtain ⟨j, v, hj, rfl, rfl, hQ⟩ := hrel
        obtain ⟨cur, hcur⟩ : ∃ c, c = cuN (cuA ce sl d s k) d P R k j := ⟨_, rfl⟩
        obtain ⟨m, hm⟩ : ∃ m, m = cur.length := ⟨_, rfl⟩
        have hmb : m ≤ 500 := by rw [hm, hcur]; have h1 := cuN_len (cuA ce sl d s k) d P R k j; have h2 := cuA_len ce sl d s k; omega
        rw [← hcur] at hQ
        obtain ⟨va, vc, hvf⟩ := hQ.out.al.form
        rw [← hm] at hvf
        subst hvf
        have HCM : Hid (cur = cuN (cuA ce sl d s k) d P R k j ∧ m = cur.length) := ⟨hcur, hm⟩
        clear hcur hm
        rcases (by omega : j = 0 ∨ j = 1 ∨ j = 2) with rfl | rfl | rfl
        · have hQQ : CuT w wr (.cells #[.int .i64 0, .slice none 0 0] 29) 62 (.slice va m vc) (cur) U D := hQ.out
          obtain ⟨aa, haa⟩ : ∃ y : Int, y = U := ⟨_, rfl⟩
          rw [← haa] at hQQ
          have HQ : Hid (CuT w wr (.cells #[.int .i64 0, .slice none 0 0] 29) 62 (.slice va m vc) (cur) aa D ∧ aa = U) := ⟨hQQ, haa⟩
          have qI : ∀ W : World, (Instr.index 62 (.agg #[.int .i64 (x - ce), .int .i64 (ce - x)]) (.int .i64 0)).run Try.prog W = .ok (.int .i64 (x - ce)) W := fun W => (ix_two _ _ W).1
          have HMX : Hid (P = mx0 (U + (x - ce) - sl)) := by
            unfold Hid; rw [HPR.out.1]
          clear hQ hQQ haa
          obtain ⟨p0, p1, pf0, pf1, pl⟩ := ew_two HQ.out.1.sm
          have hau : aa = U := HQ.out.2
          subst hau
          by_cases h0 : aa + (x - ce) - sl < 0
          · have hM0 : P = 0 := by rw [HMX.out, mx0, if_neg (by omega)]
            obtain ⟨V, hV⟩ : ∃ V, V = wr.setCell ⟨w.heap.size + 1, 0, none⟩ (.int .i64 0) := ⟨_, rfl⟩
            have HV : Hid (CuT w V (.cells #[.int .i64 0, .slice none 0 0] 29) 62 (.slice va m vc) (cur) 0 D ∧ aa = aa) := ⟨by rw [hV]; exact HQ.out.1.set0 _, rfl⟩
            have HH : Hid (P = 0) := hM0
            clear hM0
            go_upto_region 15 with fail
            rw [← hV]
            clear hV p0 p1 pf0 pf1 pl HQ
            obtain ⟨p0, p1, pf0, pf1, pl⟩ := ew_two HV.out.1.sm
            have hb : ¬ d < P := by rw [HH.out]; omega
            have hd0 : ¬ d < 0 := by omega
            have HF : Hid (CuT w V (.cells #[.int .i64 0, .slice none 0 0] 29) 62 (.slice va m vc) (cuN (cuA ce sl d s k) d P R k 1) (if 1 = 0 then aa else if d < P then 0 else P) (if 1 ≤ 1 then D else if d < R then 0 else R)) := by
              have h9 := HV.out.1
              have hc : cuN (cuA ce sl d s k) d P R k 1 = cur := by rw [HCM.out.1]; exact cuN_no0 hb
              unfold Hid
              rw [hc]
              show CuT w V (.cells #[.int .i64 0, .slice none 0 0] 29) 62 (.slice va m vc) cur (if d < P then 0 else P) D
              rw [if_neg hb, HH.out]
              exact h9
            clear HV hb HH
            go_wp2
            go_roundw
            case rel => exact ⟨1, _, by omega, rfl, by go_num, HF.out⟩
            case measure => simp [intOf]
          · have hM0 : P = aa + (x - ce) - sl := by rw [HMX.out, mx0]; split <;> omega
            have HH : Hid (P = aa + (x - ce) - sl) := hM0
            obtain ⟨V, hV⟩ : ∃ V, V = wr.setCell ⟨w.heap.size + 1, 0, none⟩ (.int .i64 (aa + (x - ce) - sl)) := ⟨_, rfl⟩
            have HV : Hid (CuT w V (.cells #[.int .i64 0, .slice none 0 0] 29) 62 (.slice va m vc) (cur) P D ∧ aa = aa) := ⟨by rw [hV, ← hM0]; exact HQ.out.1.set0 _, rfl⟩
            clear hM0
            go_upto_region 15 with fail
            rw [← hV]
            clear hV p0 p1 pf0 pf1 pl HQ
            obtain ⟨p0, p1, pf0, pf1, pl⟩ := ew_two HV.out.1.sm
            by_cases hb : d < P
            · have HOW : Hid (V.ownsRow (w.heap.size + 2) 60 2 (.slice va m vc) m (cur.flatMap alC)) := HV.out.1.al.own HCM.out.2
              have hws := HV.out.1.al.lo2
              go_wp2_with (at_builtin; refine wpList_append_own _ rfl _ _ 27 rfl (w.heap.size + 2) 60 i0 (.agg #[.int .i64 0, .int .i64 0]) 2 16 Try.underlying27 hi hz0 hz1 hz2 rfl (by decide) _ _ _ rfl (World.ownsRow.alloc HOW.out _) ⟨V.heap.size, 0, none⟩ 1 1 [.int .i64 (k : Int), .int .i64 1] rfl rfl (World.news_of_block (cs := #[.int .i64 (k : Int), .int .i64 1]) (t := 60) (fr := (0, 0)) (heap_alloc_new V _)) (by simp [Value.oneCell']) (by unfold maxLen; omega) (by omega) (by simp; omega) ?_; intro v6 w6 hown6 hgrow6 _; have HW6 : Hid (CuT w w6 (.cells #[.int .i64 0, .slice none 0 0] 29) 62 v6 (cur ++ [⟨(k : Int), 1⟩]) P D) := HV.out.1.push HCM.out.2 hown6 hgrow6; clear hown6 hgrow6; obtain ⟨r0, r1, rf0, rf1, rl⟩ := ew_two HW6.out.sm)
              have HF : Hid (CuT w (w6.setCell ⟨w.heap.size + 1, 0, none⟩ (.int .i64 0)) (.cells #[.int .i64 0, .slice none 0 0] 29) 62 v6 (cuN (cuA ce sl d s k) d P R k 1) (if 1 = 0 then aa else if d < P then 0 else P) (if 1 ≤ 1 then D else if d < R then 0 else R)) := by
                have h9 := HW6.out.set0 0
                have hc : cuN (cuA ce sl d s k) d P R k 1 = cur ++ [⟨(k : Int), 1⟩] := by rw [HCM.out.1]; exact cuN_yes0 hb
                unfold Hid
                rw [hc]
                show CuT w (w6.setCell ⟨w.heap.size + 1, 0, none⟩ (.int .i64 0)) (.cells #[.int .i64 0, .slice none 0 0] 29) 62 v6 (cur ++ [⟨(k : Int), 1⟩]) (if d < P then 0 else P) D
                rw [if_pos hb]
                exact h9
              clear HV HW6 HOW hb
              go_roundw
              case rel => exact ⟨1, _, by omega, rfl, by go_num, HF.out⟩
              case measure => simp [intOf]
            · have HF : Hid (CuT w V (.cells #[.int .i64 0, .slice none 0 0] 29) 62 (.slice va m vc) (cuN (cuA ce sl d s k) d P R k 1) (if 1 = 0 then aa else if d < P then 0 else P) (if 1 ≤ 1 then D else if d < R then 0 else R)) := by
                have h9 := HV.out.1
                have hc : cuN (cuA ce sl d s k) d P R k 1 = cur := by rw [HCM.out.1]; exact cuN_no0 hb
                unfold Hid
                rw [hc]
                show CuT w V (.cells #[.int .i64 0, .slice none 0 0] 29) 62 (.slice va m vc) cur (if d < P then 0 else P) D
                rw [if_neg hb]
                exact h9
              have hbb : ¬ d < aa + (x - ce) - sl := by rw [← HH.out]; exact hb
              clear HV HH
              go_wp2
              go_roundw
              case rel => exact ⟨1, _, by omega, rfl, by go_num, HF.out⟩
              case measure => simp [intOf]
        · have hQQ : CuT w wr (.cells #[.int .i64 0, .slice none 0 0] 29) 62 (.slice va m vc) (cur) (if d < P then 0 else P) D := hQ.out
          obtain ⟨aa, haa⟩ : ∃ y : Int, y = (if d < P then 0 else P) := ⟨_, rfl⟩
          rw [← haa] at hQQ
          have HQ : Hid (CuT w wr (.cells #[.int .i64 0, .slice none 0 0] 29) 62 (.slice va m vc) (cur) aa D ∧ aa = (if d < P then 0 else P)) := ⟨hQQ, haa⟩
          have qI : ∀ W : World, (Instr.index 62 (.agg #[.int .i64 (x - ce), .int .i64 (ce - x)]) (.int .i64 1)).run Try.prog W = .ok (.int .i64 (ce - x)) W := fun W => (ix_two _ _ W).2
          have HMX : Hid (R = mx0 (D + (ce - x) - sl)) := by
            unfold Hid; rw [HPR.out.2]; congr 1; omega
          clear hQ hQQ haa
          obtain ⟨p0, p1, pf0, pf1, pl⟩ := ew_two HQ.out.1.sm
          by_cases h0 : D + (ce - x) - sl < 0
          · have hM0 : R = 0 := by rw [HMX.out, mx0, if_neg (by omega)]
            obtain ⟨V, hV⟩ : ∃ V, V = wr.setCell ⟨w.heap.size + 1, 1, none⟩ (.int .i64 0) := ⟨_, rfl⟩
            have HV : Hid (CuT w V (.cells #[.int .i64 0, .slice none 0 0] 29) 62 (.slice va m vc) (cur) aa 0 ∧ aa = (if d < P then 0 else P)) := ⟨by rw [hV]; exact HQ.out.1.set1 _, HQ.out.2⟩
            have HH : Hid (R = 0) := hM0
            clear hM0
            go_upto_region 15 with fail
            rw [← hV]
            clear hV p0 p1 pf0 pf1 pl HQ
            obtain ⟨p0, p1, pf0, pf1, pl⟩ := ew_two HV.out.1.sm
            have hb : ¬ d < R := by rw [HH.out]; omega
            have hd0 : ¬ d < 0 := by omega
            have HF : Hid (CuT w V (.cells #[.int .i64 0, .slice none 0 0] 29) 62 (.slice va m vc) (cuN (cuA ce sl d s k) d P R k 2) (if 2 = 0 then U else if d < P then 0 else P) (if 2 ≤ 1 then D else if d < R then 0 else R)) := by
              have h9 := HV.out.1
              have hc : cuN (cuA ce sl d s k) d P R k 2 = cur := by rw [HCM.out.1]; exact cuN_no1 hb
              unfold Hid
              rw [hc]
              show CuT w V (.cells #[.int .i64 0, .slice none 0 0] 29) 62 (.slice va m vc) cur (if d < P then 0 else P) (if d < R then 0 else R)
              rw [if_neg hb, ← HV.out.2, HH.out]
              exact h9
            clear HV hb HH
            go_wp2
            go_roundw
            case rel => exact ⟨2, _, by omega, rfl, by go_num, HF.out⟩
            case measure => simp [intOf]
          · have hM0 : R = D + (ce - x) - sl := by rw [HMX.out, mx0]; split <;> omega
            have HH : Hid (R = D + (ce - x) - sl) := hM0
            obtain ⟨V, hV⟩ : ∃ V, V = wr.setCell ⟨w.heap.size + 1, 1, none⟩ (.int .i64 (D + (ce - x) - sl)) := ⟨_, rfl⟩
            have HV : Hid (CuT w V (.cells #[.int .i64 0, .slice none 0 0] 29) 62 (.slice va m vc) (cur) aa R ∧ aa = (if d < P then 0 else P)) := ⟨by rw [hV, ← hM0]; exact HQ.out.1.set1 _, HQ.out.2⟩
            clear hM0
            go_upto_region 15 with fail
            rw [← hV]
            clear hV p0 p1 pf0 pf1 pl HQ
            obtain ⟨p0, p1, pf0, pf1, pl⟩ := ew_two HV.out.1.sm
            by_cases hb : d < R
            · have HOW : Hid (V.ownsRow (w.heap.size + 2) 60 2 (.slice va m vc) m (cur.flatMap alC)) := HV.out.1.al.own HCM.out.2
              have hws := HV.out.1.al.lo2
              go_wp2_with (at_builtin; refine wpList_append_own _ rfl _ _ 27 rfl (w.heap.size + 2) 60 i0 (.agg #[.int .i64 0, .int .i64 0]) 2 16 Try.underlying27 hi hz0 hz1 hz2 rfl (by decide) _ _ _ rfl (World.ownsRow.alloc HOW.out _) ⟨V.heap.size, 0, none⟩ 1 1 [.int .i64 (k : Int), .int .i64 2] rfl rfl (World.news_of_block (cs := #[.int .i64 (k : Int), .int .i64 2]) (t := 60) (fr := (0, 0)) (heap_alloc_new V _)) (by simp [Value.oneCell']) (by unfold maxLen; omega) (by omega) (by simp; omega) ?_; intro v6 w6 hown6 hgrow6 _; have HW6 : Hid (CuT w w6 (.cells #[.int .i64 0, .slice none 0 0] 29) 62 v6 (cur ++ [⟨(k : Int), 2⟩]) aa R) := HV.out.1.push HCM.out.2 hown6 hgrow6; clear hown6 hgrow6; obtain ⟨r0, r1, rf0, rf1, rl⟩ := ew_two HW6.out.sm)
              have HF : Hid (CuT w (w6.setCell ⟨w.heap.size + 1, 1, none⟩ (.int .i64 0)) (.cells #[.int .i64 0, .slice none 0 0] 29) 62 v6 (cuN (cuA ce sl d s k) d P R k 2) (if 2 = 0 then U else if d < P then 0 else P) (if 2 ≤ 1 then D else if d < R then 0 else R)) := by
                have h9 := HW6.out.set1 0
                have hc : cuN (cuA ce sl d s k) d P R k 2 = cur ++ [⟨(k : Int), 2⟩] := by rw [HCM.out.1]; exact cuN_yes1 hb
                unfold Hid
                rw [hc]
                show CuT w (w6.setCell ⟨w.heap.size + 1, 1, none⟩ (.int .i64 0)) (.cells #[.int .i64 0, .slice none 0 0] 29) 62 v6 (cur ++ [⟨(k : Int), 2⟩]) (if d < P then 0 else P) (if d < R then 0 else R)
                rw [if_pos hb, ← HV.out.2]
                exact h9
              clear HV HW6 HOW hb
              go_roundw
              case rel => exact ⟨2, _, by omega, rfl, by go_num, HF.out⟩
              case measure => simp [intOf]
            · have HF : Hid (CuT w V (.cells #[.int .i64 0, .slice none 0 0] 29) 62 (.slice va m vc) (cuN (cuA ce sl d s k) d P R k 2) (if 2 = 0 then U else if d < P then 0 else P) (if 2 ≤ 1 then D else if d < R then 0 else R)) := by
                have h9 := HV.out.1
                have hc : cuN (cuA ce sl d s k) d P R k 2 = cur := by rw [HCM.out.1]; exact cuN_no1 hb
                unfold Hid
                rw [hc]
                show CuT w V (.cells #[.int .i64 0, .slice none 0 0] 29) 62 (.slice va m vc) cur (if d < P then 0 else P) (if d < R then 0 else R)
                rw [if_neg hb, ← HV.out.2]
                exact h9
              have hbb : ¬ d < D + (ce - x) - sl := by rw [← HH.out]; exact hb
              clear HV HH
              go_wp2
              go_roundw
              case rel => exact ⟨2, _, by omega, rfl, by go_num, HF.out⟩
              case measure => simp [intOf]
        · have HF : Hid (CuT w wr (.cells #[.int .i64 0, .slice none 0 0] 29) 62 (.slice va m vc) (cuA ce sl d s (k + 1)) (cuS ce sl d s (k + 1)).1 (cuS ce sl d s (k + 1)).2) := by
            have h9 := hQ.out
            rw [HCM.out.1] at h9
            unfold Hid
            rw [HST.out.2.1, HST.out.1]
            exact h9
          clear hQ HST
          go_wp2
          go_roundw
          case rel => exact ⟨k + 1, _, by omega, rfl, by go_num, HF.out⟩
          case measure => simp [intOf]; omega
    · have HE : Hid (C = 0 ∧ LL = cuA ce sl d s k) := ⟨HZ.out.1, by rw [HZ.out.2, show k = n by omega]⟩
      obtain ⟨q0, q1, qf0, qf1, ql⟩ := ew_two hQ.out.al.bx
      have HQ : Hid (AlT w wr (.cells #[.int .i64 0, .slice none 0 0] 29) (w.heap.size + 2) v (cuA ce sl d s k)) := hQ.out.al
      obtain ⟨va, vc, hvf⟩ := HQ.out.form
      subst hvf
      clear hQ
      go_wp2
      try simp only [Exit.inBlock, Exit.then]
      refine bodyPost_ret (by simp [results, Try.results14, go_sem, q0, q1, ql]; try rfl) rfl ⟨_, by rw [HE.out.1], by rw [HE.out.2]; exact HQ.out.done, ?_⟩
      have hb := HQ.out.bl
      (repeat' (first | (with_reducible exact Below.refl _ _) | (with_reducible assumption) | (with_reducible refine Below.setCell ?_ ?_ _) | (with_reducible refine Below.alloc ?_ ?_ _) | (with_reducible refine below_drewN ?_ _) | (with_reducible refine Below.drew ?_) | (with_reducible exact Nat.le_refl _) | omega | (simp; done) | (simp; omega)))

end Go.Proofs.Ytiipepddlbgodaa
