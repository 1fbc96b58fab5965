/- Proved here: MatchSpectrum of the program: what misses less, the faults of a library. -/
import Derived.Test.YtgjdcdhdfhkfcaaMxM
import Derived.Test.YtgjdcdhdfhkfcaaFbI
import Derived.Test.YtgjdcdhdfhkfcaaFwR
namespace Go.Proofs.Ytgjdcdhdfhkfcaa
open Go.RowKit
set_option linter.unusedVariables false
set_option linter.unusedSimpArgs false

set_option maxHeartbeats 800000 in
theorem impl_square (x : Nat) (w : World) : Calls Try.prog 66 #[.float .f64 x] w fun e w' => ∃ y, e = .returned (.float .f64 y) ∧ fv y = fop .mul (fv x) (fv x) ∧ ∃ n, w' = w.drewN n := by
  go_enter Try.func66, Try.ntmps66
  go_wp2
  go_returns
  exact ⟨_, rfl, fv_fres _ _ _ _, _, rfl⟩
set_option maxHeartbeats 1600000 in
theorem impl_less (x y : Nat) (w : World) : Calls Try.prog 59 #[.float .f64 x, .float .f64 y] w fun e w' => e = .returned (.bool (lessO (fv x) (fv y))) ∧ w' = w := by
  have HL : Hid (lessO (fv x) (fv y) = (decide (ltF x y) || ((fv y).isNone && !(fv x).isNone))) := less_ord x y
  have HX : Hid (∀ W, Calls Try.prog 65 #[.float .f64 x] W fun e w' => e = .returned (.bool (fv x).isNone) ∧ w' = W) := fun W => impl_isNaN x W
  have HY : Hid (∀ W, Calls Try.prog 65 #[.float .f64 y] W fun e w' => e = .returned (.bool (fv y).isNone) ∧ w' = W) := fun W => impl_isNaN y W
  obtain ⟨B, hB⟩ : ∃ B, B = lessO (fv x) (fv y) := ⟨_, rfl⟩
  rw [← hB] at HL ⊢
  clear hB
  by_cases hc : ltF x y
  · have ql : (FloatKind.f64.format.order x y == some .lt) = true := by rw [ord_lt, decide_eq_true hc]
    rw [decide_eq_true hc, Bool.true_or] at HL
    clear hc
    go_enter Try.func59, Try.ntmps59
    go_wp2
    go_returns
    exact ⟨by rw [HL.out]; rfl, rfl⟩
  · have ql : (FloatKind.f64.format.order x y == some .lt) = false := by rw [ord_lt, decide_eq_false hc]
    rw [decide_eq_false hc, Bool.false_or] at HL
    clear hc
    cases hy : (fv y).isNone
    · rw [hy] at HL HY
      rw [Bool.false_and] at HL
      clear hy
      go_enter Try.func59, Try.ntmps59
      go_wp2_with (fail)
      refine (HY.out _).mono ?_
      rintro e w3 ⟨rfl, hw3⟩
      subst w3
      go_wp2
      go_returns
      exact ⟨by rw [HL.out]; rfl, rfl⟩
    · rw [hy] at HL HY
      rw [Bool.true_and] at HL
      obtain ⟨A, hA⟩ : ∃ A, A = (fv x).isNone := ⟨_, rfl⟩
      rw [← hA] at HL HX
      clear hy hA
      go_enter Try.func59, Try.ntmps59
      go_wp2_with (fail)
      refine (HY.out _).mono ?_
      rintro e w3 ⟨rfl, hw3⟩
      subst w3
      go_wp2_with (fail)
      refine (HX.out _).mono ?_
      rintro e w3 ⟨rfl, hw3⟩
      subst w3
      go_wp2
      go_returns
      exact ⟨by rw [HL.out]; rfl, rfl⟩

set_option maxRecDepth 10000 in
set_option maxHeartbeats 3200000 in
theorem impl_lf {w : World} {v1 : Value} {g2 : Nat} {ls : List (List Nat)} {sp : List Nat} (hn : SmL ls) (hm : sp.length ≤ 1048576) (h : RsL w v1 ls) :
    Calls Try.prog 57 #[v1, .slice (some ⟨g2, 0, none⟩) sp.length sp.length] w fun e w' => e = .returned (.int .i64 (mxC ls sp)) ∧ w' = w := by
  obtain ⟨a, c, rfl⟩ := h.form
  obtain ⟨n, hnn⟩ : ∃ n, n = ls.length := ⟨_, rfl⟩
  obtain ⟨m, hmm⟩ : ∃ m, m = sp.length := ⟨_, rfl⟩
  obtain ⟨C, hC⟩ : ∃ C, C = mxC ls sp := ⟨_, rfl⟩
  rw [← hnn] at h ⊢
  rw [← hmm] at hm ⊢
  rw [← hC]
  have hn' : n ≤ 1048576 := by rw [hnn]; exact hn.len
  have H : Hid (RsL w (.slice a n c) ls ∧ n = ls.length ∧ m = sp.length ∧ SmL ls ∧ C = if 20 < n ∨ 200 < m then 2 else if n = 0 then 4 else if lnF ls sp then 0 else 1) := ⟨h, hnn, hmm, hn, by rw [hC, mxC, hnn, hmm]⟩
  clear h hnn hmm hC hn
  by_cases c1 : (20 : Int) < (n : Int)
  · have HC : Hid (C = 2) := by unfold Hid; rw [H.out.2.2.2.2, if_pos (.inl (by omega))]
    clear H
    go_enter Try.func57, Try.ntmps57
    go_wp2
    go_returns
    exact ⟨by rw [HC.out]; rfl, rfl⟩
  by_cases c2 : (200 : Int) < (m : Int)
  · have HC : Hid (C = 2) := by unfold Hid; rw [H.out.2.2.2.2, if_pos (.inr (by omega))]
    clear H
    go_enter Try.func57, Try.ntmps57
    go_wp2
    go_returns
    exact ⟨by rw [HC.out]; rfl, rfl⟩
  by_cases c3 : n = 0
  · have HC : Hid (C = 4) := by unfold Hid; rw [H.out.2.2.2.2, if_neg (by omega), if_pos c3]
    clear H
    subst c3
    go_enter Try.func57, Try.ntmps57
    go_wp2
    go_returns
    exact ⟨by rw [HC.out]; rfl, rfl⟩
  have c3' : ((n : Int) == 0) = false := by simp; omega
  have c3'' : ¬ (n : Int) = 0 := by omega
  have HC : Hid (C = if lnF ls sp then 0 else 1) := by unfold Hid; rw [H.out.2.2.2.2, if_neg (by omega), if_neg c3]
  go_enter Try.func57, Try.ntmps57
  go_wp2
  go_loopw [20] (fun i wr => ∃ k : Nat, k ≤ n ∧ i = .int .i64 k ∧ wr = w ∧ Hid (∀ j, j < k → (ls.getD j []).length = m)) (fun i _ => n - (intOf i).toNat)
  case atStart => exact ⟨0, Nat.zero_le _, rfl, rfl, fun j hj => absurd hj (Nat.not_lt_zero _)⟩
  case round =>
    obtain ⟨k, hk, rfl, rfl, hR⟩ := hrel
    by_cases hlt : k < n
    · obtain ⟨g, o, ua, un, uc, rfl, hg, c0, hun, hrd⟩ := H.out.1.at hlt
      have hub : un ≤ 1048576 := by rw [hun]; exact H.out.2.2.2.1.row k
      have HU : Hid (un = (ls.getD k []).length) := hun
      clear hun hrd
      have b0 : (0 : Int) ≤ (k : Int) := by omega
      have b1 : (k : Int) < (n : Int) := by omega
      by_cases hc : (un : Int) = (m : Int)
      · have hq : ((un : Int) != (m : Int)) = false := by simpa using hc
        have HS : Hid (∀ j, j < k + 1 → (ls.getD j []).length = m) := fun j hj => by
          by_cases hjk : j = k
          · subst hjk; rw [← HU.out]; omega
          · exact hR.out j (by omega)
        clear hR
        go_wp2
        go_roundw
        case rel => exact ⟨k + 1, by omega, by go_num, by first | rfl | trivial, HS.out⟩
        case measure => simp [intOf]; omega
      · have hq : ((un : Int) != (m : Int)) = true := by simpa using hc
        have HX : Hid (C = 1) := by
          unfold Hid; rw [HC.out, if_neg]
          intro h3
          have := h3 k (by rw [← H.out.2.1]; exact hlt)
          rw [← HU.out, ← H.out.2.2.1] at this
          omega
        clear hR
        go_wp2
        go_returns
        exact ⟨by rw [HX.out]; rfl, rfl⟩
    · have HX : Hid (C = 0) := by
        unfold Hid; rw [HC.out, if_pos]
        intro i hi
        rw [hR.out i (by have := H.out.2.1; omega), H.out.2.2.1]
      clear hR
      go_wp2
      go_returns
      exact ⟨by rw [HX.out]; rfl, rfl⟩

end Go.Proofs.Ytgjdcdhdfhkfcaa
