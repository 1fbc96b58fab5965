/- Proved here: the fault of a list of numbers, of the program: chL. -/
import Derived.Test.YtgbbigokbbllgaaChM
import Derived.Test.YtgbbigokbbllgaaInsC
import Derived.Test.YtgbbigokbbllgaaNlJ
namespace Go.Proofs.Ytgbbigokbbllgaa
open Go.RowKit
set_option linter.unusedVariables false
set_option linter.unusedSimpArgs false

set_option maxRecDepth 10000 in
set_option maxHeartbeats 3200000 in
theorem impl_lf (lo hi : Int) {w : World} {v : Value} {s : List Int} (hn : s.length ≤ 1048576) (h : RdI w v s) :
    Calls Try.prog 41 #[v, .int .i64 lo, .int .i64 hi] w fun e w' => e = .returned (.int .i64 (chL lo hi s)) ∧ w' = w := by
  obtain ⟨a, c, rfl⟩ := h.form
  obtain ⟨n, hnn⟩ : ∃ n, n = s.length := ⟨_, rfl⟩
  obtain ⟨C, hC⟩ : ∃ C, C = chL lo hi s := ⟨_, rfl⟩
  rw [← hnn] at hn h ⊢
  rw [← hC]
  have H : Hid (RdI w (.slice a n c) s ∧ n = s.length ∧ C = chL lo hi s) := ⟨h, hnn, hC⟩
  clear h hnn hC
  by_cases h8 : (200 : Int) < (n : Int)
  · have HC : Hid (C = 2) := by unfold Hid; rw [H.out.2.2, chL, if_pos (by rw [← H.out.2.1]; omega)]
    go_enter Try.func41, Try.ntmps41
    go_wp2
    go_returns
    exact ⟨by rw [HC.out]; rfl, rfl⟩
  have HC : Hid (C = chG lo hi s) := by unfold Hid; rw [H.out.2.2, chL, if_neg (by rw [← H.out.2.1]; omega)]
  go_enter Try.func41, Try.ntmps41
  go_wp2
  go_loopw [14] (fun i wr => ∃ k : Nat, k ≤ n ∧ i = .int .i64 k ∧ w = wr ∧ Hid (chG lo hi (s.drop k) = C)) (fun i _ => n - (intOf i).toNat)
  case atStart => exact ⟨0, Nat.zero_le _, rfl, rfl, HC.out.symm⟩
  case round =>
    obtain ⟨k, hk, rfl, rfl, hR⟩ := hrel
    by_cases hlt : k < n
    · have hkl : k < s.length := by rw [← H.out.2.1]; exact hlt
      obtain ⟨g, o, c2, he, hg, hj⟩ := H.out.1.ri (by omega)
      simp only [Value.slice.injEq] at he
      obtain ⟨rfl, hx1, hx2⟩ := he
      clear hx1 hx2
      have c0 := hj k hkl
      obtain ⟨x, hx⟩ : ∃ x, x = s.getD k 0 := ⟨_, rfl⟩
      rw [← hx] at c0
      have HX : Hid (x = s[k]) := by unfold Hid; rw [hx]; simp [List.getD_eq_getElem?_getD, List.getElem?_eq_getElem hkl]
      obtain ⟨q, hq⟩ : ∃ q, q = decide (lo ≤ x ∧ x ≤ hi) := ⟨_, rfl⟩
      have HI2 : Hid (∀ W, Calls Try.prog 42 #[.int .i64 x, .int .i64 lo, .int .i64 hi] W fun e w' => e = .returned (.bool q) ∧ w' = W) := impl_insC x lo hi q hq
      have HQ : Hid (C = if q = true then chG lo hi (s.drop (k + 1)) else 3) := by
        unfold Hid; rw [← hR.out, chG_step _ _ hkl, ← HX.out, hq]; simp only [decide_eq_true_eq]
      clear hx hj hq hR HC
      have b0 : (0 : Int) ≤ (k : Int) := by omega
      have b1 : (k : Int) < (n : Int) := by omega
      go_wp2_with (fail)
      refine (HI2.out _).mono ?_
      rintro e w5 ⟨rfl, hw5⟩
      subst w5
      cases q with
      | true =>
        have HM : Hid (chG lo hi (s.drop (k + 1)) = C) := by unfold Hid; rw [HQ.out]; rfl
        go_wp2
        go_roundw
        case rel => exact ⟨k + 1, by omega, by go_num, by first | rfl | trivial, HM.out⟩
        case measure => simp [intOf]; omega
      | false =>
        have HE : Hid (C = 3) := by unfold Hid; rw [HQ.out]; rfl
        go_wp2
        go_returns
        exact ⟨by rw [HE.out]; rfl, rfl⟩
    · have HE : Hid (C = 0) := by
        unfold Hid; rw [← hR.out, List.drop_eq_nil_of_le (by rw [← H.out.2.1]; omega)]; rfl
      clear hR
      go_wp2
      go_returns
      exact ⟨by rw [HE.out]; rfl, rfl⟩

end Go.Proofs.Ytgbbigokbbllgaa
