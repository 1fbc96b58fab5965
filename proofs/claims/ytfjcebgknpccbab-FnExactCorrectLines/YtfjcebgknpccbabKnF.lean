/- Proved here: the faults of a kernel, of both: knF. -/
import Derived.Test.YtfjcebgknpccbabKnB
import Derived.Test.YtfjcebgknpccbabIns
namespace Go.Proofs.Ytfjcebgknpccbab
open Go.RowKit
set_option linter.unusedVariables false
set_option linter.unusedSimpArgs false

def wtG : List Int → Int
  | [] => 0
  | x :: t => if 0 ≤ x ∧ x ≤ 1000 then wtG t else 3
def knF (s : List Int) (L : Int) : Int := if s.length = 0 then 1 else if 8 < s.length then 2 else if wtG s = 0 then (if 1 ≤ L ∧ L ≤ 100000 then 0 else 3) else wtG s
theorem wtG_step {s : List Int} {k : Nat} (hk : k < s.length) : wtG (s.drop k) = if 0 ≤ s[k] ∧ s[k] ≤ 1000 then wtG (s.drop (k + 1)) else 3 := by
  rw [List.drop_eq_getElem_cons hk, wtG]
theorem knF_good {s : List Int} {L : Int} (h : knF s L = 0) : 0 < s.length ∧ s.length ≤ 8 ∧ wtG s = 0 ∧ 1 ≤ L ∧ L ≤ 100000 := by
  unfold knF at h
  split at h
  · cases h
  · split at h
    · cases h
    · split at h
      · split at h
        · rename_i h1 h2 h3 h4
          exact ⟨by omega, by omega, h3, h4.1, h4.2⟩
        · cases h
      · rename_i h3; exact absurd h h3
theorem wtG_good {s : List Int} (h : wtG s = 0) : ∀ x ∈ s, 0 ≤ x ∧ x ≤ 1000 := by
  induction s with
  | nil => intro x hx; cases hx
  | cons a t ih =>
    rw [wtG] at h
    by_cases ha : 0 ≤ a ∧ a ≤ 1000
    · rw [if_pos ha] at h
      intro x hx
      rcases List.mem_cons.1 hx with rfl | hx
      · exact ha
      · exact ih h x hx
    · rw [if_neg ha] at h; cases h

set_option maxRecDepth 10000 in
set_option maxHeartbeats 3200000 in
theorem impl_kf (L : Int) {w : World} {v : Value} {s : List Int} (h : RdI w v s) :
    Calls Try.prog 52 #[.agg #[v, .int .i64 L]] w fun e w' => e = .returned (.int .i64 (knF s L)) ∧ Below w.heap.size w w' := by
  obtain ⟨a, c, rfl⟩ := h.form
  obtain ⟨n, hnn⟩ : ∃ n, n = s.length := ⟨_, rfl⟩
  obtain ⟨C, hC⟩ : ∃ C, C = knF s L := ⟨_, rfl⟩
  rw [← hnn] at h ⊢
  rw [← hC]
  obtain ⟨r, hr⟩ : ∃ r, r = decide (1 ≤ L ∧ L ≤ 100000) := ⟨_, rfl⟩
  have HIN : Hid (∀ W, Calls Try.prog 32 #[.int .i64 L, .int .i64 1, .int .i64 100000] W fun e w' => e = .returned (.bool r) ∧ w' = W) := impl_ins L 1 100000 r hr
  have H : Hid (RdI w (.slice a n c) s ∧ n = s.length ∧ C = knF s L ∧ r = decide (1 ≤ L ∧ L ≤ 100000)) := ⟨h, hnn, hC, hr⟩
  clear h hnn hC hr
  rcases Nat.eq_zero_or_pos n with h0 | h0
  · have HC : Hid (C = 1) := by unfold Hid; rw [H.out.2.2.1, knF, if_pos (by rw [← H.out.2.1]; exact h0)]
    clear H
    subst h0
    go_enter Try.func52, Try.ntmps52
    go_wp2
    go_returns
    exact ⟨by rw [HC.out]; rfl, by (repeat' (first | (with_reducible exact Below.refl _ _) | (with_reducible assumption) | (with_reducible refine Below.setCell ?_ ?_ _) | (with_reducible refine Below.alloc ?_ ?_ _) | (with_reducible refine below_drewN ?_ _) | (with_reducible refine Below.drew ?_) | (with_reducible exact Nat.le_refl _) | omega | (simp; done) | (simp; omega)))⟩
  have h01 : ¬ (n : Int) = 0 := by omega
  have h02 : ¬ n = 0 := by omega
  by_cases h8 : (8 : Int) < (n : Int)
  · have HC : Hid (C = 2) := by unfold Hid; rw [H.out.2.2.1, knF, if_neg (by rw [← H.out.2.1]; omega), if_pos (by rw [← H.out.2.1]; omega)]
    go_enter Try.func52, Try.ntmps52
    go_wp2
    go_returns
    exact ⟨by rw [HC.out]; rfl, by (repeat' (first | (with_reducible exact Below.refl _ _) | (with_reducible assumption) | (with_reducible refine Below.setCell ?_ ?_ _) | (with_reducible refine Below.alloc ?_ ?_ _) | (with_reducible refine below_drewN ?_ _) | (with_reducible refine Below.drew ?_) | (with_reducible exact Nat.le_refl _) | omega | (simp; done) | (simp; omega)))⟩
  have HC : Hid (C = if wtG s = 0 then (if 1 ≤ L ∧ L ≤ 100000 then 0 else 3) else wtG s) := by unfold Hid; rw [H.out.2.2.1, knF, if_neg (by rw [← H.out.2.1]; omega), if_neg (by rw [← H.out.2.1]; omega)]
  have HW : Hid (Below w.heap.size w (w.alloc (.cells #[.slice a n c, .int .i64 L] 33))) := by unfold Hid; (repeat' (first | (with_reducible exact Below.refl _ _) | (with_reducible assumption) | (with_reducible refine Below.setCell ?_ ?_ _) | (with_reducible refine Below.alloc ?_ ?_ _) | (with_reducible refine below_drewN ?_ _) | (with_reducible refine Below.drew ?_) | (with_reducible exact Nat.le_refl _) | omega | (simp; done) | (simp; omega)))
  go_enter Try.func52, Try.ntmps52
  go_wp2
  go_loopw [16] (fun i wr => ∃ k : Nat, k ≤ n ∧ i = .int .i64 k ∧ wr = w.alloc (.cells #[.slice a n c, .int .i64 L] 33) ∧ Hid (wtG (s.drop k) = wtG s)) (fun i _ => n - (intOf i).toNat)
  case atStart => exact ⟨0, Nat.zero_le _, rfl, rfl, rfl⟩
  case round =>
    obtain ⟨k, hk, rfl, rfl, hR⟩ := hrel
    by_cases hlt : k < n
    · have hkl : k < s.length := by rw [← H.out.2.1]; exact hlt
      obtain ⟨g, o, c2, he, hg, hj⟩ := (H.out.1.below HW.out).ri (by omega)
      simp only [Value.slice.injEq] at he
      obtain ⟨rfl, hx1, hx2⟩ := he
      clear hx1 hx2
      have c0 := hj k hkl
      obtain ⟨x, hx⟩ : ∃ x, x = s.getD k 0 := ⟨_, rfl⟩
      rw [← hx] at c0
      have HX : Hid (x = s[k]) := by unfold Hid; rw [hx]; simp [List.getD_eq_getElem?_getD, List.getElem?_eq_getElem hkl]
      obtain ⟨q, hq⟩ : ∃ q, q = decide (0 ≤ x ∧ x ≤ 1000) := ⟨_, rfl⟩
      have HI2 : Hid (∀ W, Calls Try.prog 32 #[.int .i64 x, .int .i64 0, .int .i64 1000] W fun e w' => e = .returned (.bool q) ∧ w' = W) := impl_ins x 0 1000 q hq
      have HQ : Hid (wtG s = if q = true then wtG (s.drop (k + 1)) else 3) := by
        unfold Hid; rw [← hR.out, wtG_step hkl, ← HX.out, hq]; simp only [decide_eq_true_eq]
      clear hx hj hq hR
      have b0 : (0 : Int) ≤ (k : Int) := by omega
      have b1 : (k : Int) < (n : Int) := by omega
      go_wp2_with (fail)
      refine (HI2.out _).mono ?_
      rintro e w5 ⟨rfl, rfl⟩
      cases q with
      | true =>
        have HM : Hid (wtG (s.drop (k + 1)) = wtG s) := by unfold Hid; rw [HQ.out]; rfl
        go_wp2
        go_roundw
        case rel => exact ⟨k + 1, by omega, by go_num, by first | rfl | trivial, HM.out⟩
        case measure => simp [intOf]; omega
      | false =>
        have HE : Hid (C = 3) := by
          have e0 : wtG s = 3 := by rw [HQ.out]; rfl
          unfold Hid; rw [HC.out, e0]; rfl
        go_wp2
        go_returns
        exact ⟨by rw [HE.out]; rfl, HW.out⟩
    · have e0 : wtG s = 0 := by
        rw [← hR.out, List.drop_eq_nil_of_le (by rw [← H.out.2.1]; omega)]; rfl
      have HE : Hid (C = if r = true then 0 else 3) := by
        unfold Hid; rw [HC.out, if_pos e0, H.out.2.2.2]; simp only [decide_eq_true_eq]
      clear e0 hR
      go_wp2_with (fail)
      refine (HIN.out _).mono ?_
      rintro e w5 ⟨rfl, rfl⟩
      cases r with
      | true =>
        have HE2 : Hid (C = 0) := by unfold Hid; rw [HE.out]; rfl
        go_wp2
        go_returns
        exact ⟨by rw [HE2.out]; rfl, HW.out⟩
      | false =>
        have HE2 : Hid (C = 3) := by unfold Hid; rw [HE.out]; rfl
        go_wp2
        go_returns
        exact ⟨by rw [HE2.out]; rfl, HW.out⟩

set_option maxRecDepth 10000 in
set_option maxHeartbeats 3200000 in
theorem spec_kf (L : Int) {w : World} {v : Value} {s : List Int} (h : RdI w v s) :
    Calls Try.prog 50 #[.agg #[v, .int .i64 L]] w fun e w' => e = .returned (.int .i64 (knF s L)) ∧ Below w.heap.size w w' := by
  obtain ⟨a, c, rfl⟩ := h.form
  obtain ⟨n, hnn⟩ : ∃ n, n = s.length := ⟨_, rfl⟩
  obtain ⟨C, hC⟩ : ∃ C, C = knF s L := ⟨_, rfl⟩
  rw [← hnn] at h ⊢
  rw [← hC]
  obtain ⟨r, hr⟩ : ∃ r, r = decide (1 ≤ L ∧ L ≤ 100000) := ⟨_, rfl⟩
  have HIN : Hid (∀ W, Calls Try.prog 24 #[.int .i64 L, .int .i64 1, .int .i64 100000] W fun e w' => e = .returned (.bool r) ∧ w' = W) := spec_ins L 1 100000 r hr
  have H : Hid (RdI w (.slice a n c) s ∧ n = s.length ∧ C = knF s L ∧ r = decide (1 ≤ L ∧ L ≤ 100000)) := ⟨h, hnn, hC, hr⟩
  clear h hnn hC hr
  rcases Nat.eq_zero_or_pos n with h0 | h0
  · have HC : Hid (C = 1) := by unfold Hid; rw [H.out.2.2.1, knF, if_pos (by rw [← H.out.2.1]; exact h0)]
    clear H
    subst h0
    go_enter Try.func50, Try.ntmps50
    go_wp2
    go_returns
    exact ⟨by rw [HC.out]; rfl, by (repeat' (first | (with_reducible exact Below.refl _ _) | (with_reducible assumption) | (with_reducible refine Below.setCell ?_ ?_ _) | (with_reducible refine Below.alloc ?_ ?_ _) | (with_reducible refine below_drewN ?_ _) | (with_reducible refine Below.drew ?_) | (with_reducible exact Nat.le_refl _) | omega | (simp; done) | (simp; omega)))⟩
  have h01 : ¬ (n : Int) = 0 := by omega
  have h02 : ¬ n = 0 := by omega
  by_cases h8 : (8 : Int) < (n : Int)
  · have HC : Hid (C = 2) := by unfold Hid; rw [H.out.2.2.1, knF, if_neg (by rw [← H.out.2.1]; omega), if_pos (by rw [← H.out.2.1]; omega)]
    go_enter Try.func50, Try.ntmps50
    go_wp2
    go_returns
    exact ⟨by rw [HC.out]; rfl, by (repeat' (first | (with_reducible exact Below.refl _ _) | (with_reducible assumption) | (with_reducible refine Below.setCell ?_ ?_ _) | (with_reducible refine Below.alloc ?_ ?_ _) | (with_reducible refine below_drewN ?_ _) | (with_reducible refine Below.drew ?_) | (with_reducible exact Nat.le_refl _) | omega | (simp; done) | (simp; omega)))⟩
  have HC : Hid (C = if wtG s = 0 then (if 1 ≤ L ∧ L ≤ 100000 then 0 else 3) else wtG s) := by unfold Hid; rw [H.out.2.2.1, knF, if_neg (by rw [← H.out.2.1]; omega), if_neg (by rw [← H.out.2.1]; omega)]
  have HW : Hid (Below w.heap.size w (w.alloc (.cells #[.slice a n c, .int .i64 L] 33))) := by unfold Hid; (repeat' (first | (with_reducible exact Below.refl _ _) | (with_reducible assumption) | (with_reducible refine Below.setCell ?_ ?_ _) | (with_reducible refine Below.alloc ?_ ?_ _) | (with_reducible refine below_drewN ?_ _) | (with_reducible refine Below.drew ?_) | (with_reducible exact Nat.le_refl _) | omega | (simp; done) | (simp; omega)))
  go_enter Try.func50, Try.ntmps50
  go_wp2
  go_loopw [3] (fun i wr => ∃ k : Nat, k ≤ n ∧ i = .int .i64 k ∧ wr = w.alloc (.cells #[.slice a n c, .int .i64 L] 33) ∧ Hid (wtG (s.drop k) = wtG s)) (fun i _ => n - (intOf i).toNat)
  case atStart => exact ⟨0, Nat.zero_le _, rfl, rfl, rfl⟩
  case round =>
    obtain ⟨k, hk, rfl, rfl, hR⟩ := hrel
    by_cases hlt : k < n
    · have hkl : k < s.length := by rw [← H.out.2.1]; exact hlt
      obtain ⟨g, o, c2, he, hg, hj⟩ := (H.out.1.below HW.out).ri (by omega)
      simp only [Value.slice.injEq] at he
      obtain ⟨rfl, hx1, hx2⟩ := he
      clear hx1 hx2
      have c0 := hj k hkl
      obtain ⟨x, hx⟩ : ∃ x, x = s.getD k 0 := ⟨_, rfl⟩
      rw [← hx] at c0
      have HX : Hid (x = s[k]) := by unfold Hid; rw [hx]; simp [List.getD_eq_getElem?_getD, List.getElem?_eq_getElem hkl]
      obtain ⟨q, hq⟩ : ∃ q, q = decide (0 ≤ x ∧ x ≤ 1000) := ⟨_, rfl⟩
      have HI2 : Hid (∀ W, Calls Try.prog 24 #[.int .i64 x, .int .i64 0, .int .i64 1000] W fun e w' => e = .returned (.bool q) ∧ w' = W) := spec_ins x 0 1000 q hq
      have HQ : Hid (wtG s = if q = true then wtG (s.drop (k + 1)) else 3) := by
        unfold Hid; rw [← hR.out, wtG_step hkl, ← HX.out, hq]; simp only [decide_eq_true_eq]
      clear hx hj hq hR
      have b0 : (0 : Int) ≤ (k : Int) := by omega
      have b1 : (k : Int) < (n : Int) := by omega
      go_wp2_with (fail)
      refine (HI2.out _).mono ?_
      rintro e w5 ⟨rfl, rfl⟩
      cases q with
      | true =>
        have HM : Hid (wtG (s.drop (k + 1)) = wtG s) := by unfold Hid; rw [HQ.out]; rfl
        go_wp2
        go_roundw
        case rel => exact ⟨k + 1, by omega, by go_num, by first | rfl | trivial, HM.out⟩
        case measure => simp [intOf]; omega
      | false =>
        have HE : Hid (C = 3) := by
          have e0 : wtG s = 3 := by rw [HQ.out]; rfl
          unfold Hid; rw [HC.out, e0]; rfl
        go_wp2
        go_returns
        exact ⟨by rw [HE.out]; rfl, HW.out⟩
    · have e0 : wtG s = 0 := by
        rw [← hR.out, List.drop_eq_nil_of_le (by rw [← H.out.2.1]; omega)]; rfl
      have HE : Hid (C = if r = true then 0 else 3) := by
        unfold Hid; rw [HC.out, if_pos e0, H.out.2.2.2]; simp only [decide_eq_true_eq]
      clear e0 hR
      go_wp2_with (fail)
      refine (HIN.out _).mono ?_
      rintro e w5 ⟨rfl, rfl⟩
      cases r with
      | true =>
        have HE2 : Hid (C = 0) := by unfold Hid; rw [HE.out]; rfl
        go_wp2
        go_returns
        exact ⟨by rw [HE2.out]; rfl, HW.out⟩
      | false =>
        have HE2 : Hid (C = 3) := by unfold Hid; rw [HE.out]; rfl
        go_wp2
        go_returns
        exact ⟨by rw [HE2.out]; rfl, HW.out⟩

end Go.Proofs.Ytfjcebgknpccbab
