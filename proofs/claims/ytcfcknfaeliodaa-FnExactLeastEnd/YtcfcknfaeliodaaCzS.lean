/- Proved here: ClusterFault of the model: clF. -/
import Derived.Test.YtcfcknfaeliodaaCzM
import Derived.Test.YtcfcknfaeliodaaTwA
import Derived.Test.YtcfcknfaeliodaaInS
import Derived.BigQuiet
namespace Go.Proofs.Ytcfcknfaeliodaa
open Go.RowKit
set_option linter.unusedVariables false
set_option linter.unusedSimpArgs false

set_option maxRecDepth 10000 in
set_option maxHeartbeats 3200000 in
theorem spec_cl (M : Int) {w : World} {a b : Option Addr} {c d : Nat} {s t : List Int} (hn : s.length ≤ 1048576 ∧ t.length ≤ 1048576) (h : RdL w (.slice a s.length c) (.slice b t.length d) s t) :
    Calls Try.prog 48 #[.agg #[.slice a s.length c, .int .i64 M, .slice b t.length d]] w fun e w' => e = .returned (.int .i64 (clF M s t)) ∧ Below w.heap.size w w' := by
  obtain ⟨n, hnn⟩ : ∃ n, n = s.length := ⟨_, rfl⟩
  obtain ⟨m, hmm⟩ : ∃ n, n = t.length := ⟨_, rfl⟩
  obtain ⟨D, hD⟩ : ∃ D, D = clF M s t := ⟨_, rfl⟩
  rw [← hnn, ← hmm] at hn h ⊢
  rw [← hD]
  have H : Hid (RdL w (.slice a n c) (.slice b m d) s t ∧ n = s.length ∧ m = t.length ∧ D = clF M s t ∧ s.length ≤ 1048576 ∧ t.length ≤ 1048576) := ⟨h, hnn, hmm, hD, by omega, by omega⟩
  have HS : Hid (SB w (.cells #[.slice a n c, .int .i64 M, .slice b m d] 55) (w.alloc (.cells #[.slice a n c, .int .i64 M, .slice b m d] 55))) := SB.new _ _
  have HD0 : Hid ((n = 0 ∨ m = 0 → D = 1) ∧ (¬ (n = 0 ∨ m = 0) → (6 < n ∨ 8 < m) → D = 2) ∧ (¬ (n = 0 ∨ m = 0) → ¬ (6 < n ∨ 8 < m) → D = if chG 1 1000 s ≠ 0 ∨ ¬ (1 ≤ M ∧ M ≤ 100) then 3 else if rtB (n : Int) t = true then 0 else 1)) := by
    unfold Hid
    rw [hD, hnn, hmm]
    unfold clF
    exact ⟨fun h => by rw [if_pos h], fun h1 h2 => by rw [if_neg h1, if_pos h2], fun h1 h2 => by rw [if_neg h1, if_neg h2]⟩
  clear h hnn hmm hD
  by_cases h1 : n = 0
  · have HD : Hid (D = 1) := HD0.out.1 (Or.inl h1)
    subst h1
    clear HD0
    go_enter Try.func48, Try.ntmps48
    go_wp2
    go_returns
    exact ⟨by rw [HD.out]; rfl, by (repeat' (first | (with_reducible exact Below.refl _ _) | (with_reducible assumption) | (with_reducible refine Below.setCell ?_ ?_ _) | (with_reducible refine Below.alloc ?_ ?_ _) | (with_reducible refine below_drewN ?_ _) | (with_reducible refine Below.drew ?_) | (with_reducible exact Nat.le_refl _) | omega | (simp; done) | (simp; omega)))⟩
  have h1' : ((n : Int) == 0) = false := beq_eq_false_iff_ne.2 (by omega)
  by_cases h2 : m = 0
  · have HD : Hid (D = 1) := HD0.out.1 (Or.inr h2)
    subst h2
    clear HD0
    go_enter Try.func48, Try.ntmps48
    go_wp2
    go_returns
    exact ⟨by rw [HD.out]; rfl, by (repeat' (first | (with_reducible exact Below.refl _ _) | (with_reducible assumption) | (with_reducible refine Below.setCell ?_ ?_ _) | (with_reducible refine Below.alloc ?_ ?_ _) | (with_reducible refine below_drewN ?_ _) | (with_reducible refine Below.drew ?_) | (with_reducible exact Nat.le_refl _) | omega | (simp; done) | (simp; omega)))⟩
  have h2' : ((m : Int) == 0) = false := beq_eq_false_iff_ne.2 (by omega)
  by_cases h3 : (6 : Int) < (n : Int)
  · have HD : Hid (D = 2) := HD0.out.2.1 (by omega) (by omega)
    clear HD0 h1 h2
    go_enter Try.func48, Try.ntmps48
    go_wp2
    go_returns
    exact ⟨by rw [HD.out]; rfl, by (repeat' (first | (with_reducible exact Below.refl _ _) | (with_reducible assumption) | (with_reducible refine Below.setCell ?_ ?_ _) | (with_reducible refine Below.alloc ?_ ?_ _) | (with_reducible refine below_drewN ?_ _) | (with_reducible refine Below.drew ?_) | (with_reducible exact Nat.le_refl _) | omega | (simp; done) | (simp; omega)))⟩
  by_cases h4 : (8 : Int) < (m : Int)
  · have HD : Hid (D = 2) := HD0.out.2.1 (by omega) (by omega)
    clear HD0 h1 h2
    go_enter Try.func48, Try.ntmps48
    go_wp2
    go_returns
    exact ⟨by rw [HD.out]; rfl, by (repeat' (first | (with_reducible exact Below.refl _ _) | (with_reducible assumption) | (with_reducible refine Below.setCell ?_ ?_ _) | (with_reducible refine Below.alloc ?_ ?_ _) | (with_reducible refine below_drewN ?_ _) | (with_reducible refine Below.drew ?_) | (with_reducible exact Nat.le_refl _) | omega | (simp; done) | (simp; omega)))⟩
  have HD : Hid (D = if chG 1 1000 s ≠ 0 ∨ ¬ (1 ≤ M ∧ M ≤ 100) then 3 else if rtB (n : Int) t = true then 0 else 1) := HD0.out.2.2 (by omega) (by omega)
  have hn0 : 0 < n := by omega
  have hm0 : 0 < m := by omega
  clear HD0 h1 h2
  obtain ⟨q, hq⟩ : ∃ q, q = decide (1 ≤ M ∧ M ≤ 100) := ⟨_, rfl⟩
  have HI : Hid (∀ W, Calls Try.prog 30 #[.int .i64 M, .int .i64 1, .int .i64 100] W fun e w' => e = .returned (.bool q) ∧ w' = W) := by rw [hq]; exact spec_in10 M 1 100
  have HQ : Hid (q = decide (1 ≤ M ∧ M ≤ 100)) := hq
  clear hq
  go_enter Try.func48, Try.ntmps48
  go_wp2
  go_loopw [3] (fun i wr => ∃ k : Nat, k ≤ n ∧ i = .int .i64 k ∧ Hid (SB w (.cells #[.slice a n c, .int .i64 M, .slice b m d] 55) wr ∧ ∀ j, j < k → (1 ≤ s.getD j 0 ∧ s.getD j 0 ≤ 1000))) (fun i _ => n - (intOf i).toNat)
  case atStart => exact ⟨0, Nat.zero_le _, rfl, HS.out, fun j hj => by omega⟩
  case round =>
  clear HS
  obtain ⟨k, hk, rfl, hR⟩ := hrel
  obtain ⟨p0, p1, p2, pf, pl⟩ := tw_three hR.out.1.bx
  clear pf
  by_cases hlt : k < n
  · obtain ⟨g, o, rfl, hg, hc0⟩ := rd_at (H.out.1.1.below hR.out.1.bl) hlt
    obtain ⟨x, hx⟩ : ∃ x, x = s.getD k 0 := ⟨_, rfl⟩
    rw [← hx] at hc0
    obtain ⟨y, hy⟩ : ∃ q, q = decide (1 ≤ x ∧ x ≤ 1000) := ⟨_, rfl⟩
    have HA : Hid (∀ W, Calls Try.prog 30 #[.int .i64 x, .int .i64 1, .int .i64 1000] W fun e w' => e = .returned (.bool y) ∧ w' = W) := by rw [hy]; exact spec_in10 x 1 1000
    have HX : Hid (y = decide (1 ≤ s.getD k 0 ∧ s.getD k 0 ≤ 1000) ∧ k < s.length) := ⟨by rw [hy, hx], by rw [← H.out.2.1]; exact hlt⟩
    have HR : Hid (SB w (.cells #[.slice (some ⟨g, o, none⟩) n c, .int .i64 M, .slice b m d] 55) wr ∧ ∀ j, j < k → (1 ≤ s.getD j 0 ∧ s.getD j 0 ≤ 1000)) := hR.out
    have b0 : (0 : Int) ≤ (k : Int) := by omega
    have b1 : (k : Int) < (n : Int) := by omega
    clear hx hy hR HI
    go_wp2_with (fail)
    refine (HA.out _).mono ?_
    rintro e w5 ⟨rfl, hw5⟩
    subst w5
    clear HA
    cases y with
    | false =>
      have HE : Hid (D = 3) := by
        unfold Hid; rw [HD.out, if_pos (Or.inl fun e => of_decide_eq_false HX.out.1.symm (chG_iff.1 e k HX.out.2))]
      go_wp2
      go_returns
      exact ⟨by rw [HE.out]; rfl, HR.out.1.bl⟩
    | true =>
      have HN : Hid (∀ j, j < k + 1 → (1 ≤ s.getD j 0 ∧ s.getD j 0 ≤ 1000)) := fun j hj => by
        rcases (by omega : j < k ∨ j = k) with e | rfl
        · exact HR.out.2 j e
        · exact of_decide_eq_true HX.out.1.symm
      go_wp2
      go_roundw
      case rel => exact ⟨k + 1, by omega, by go_num, HR.out.1, HN.out⟩
      case measure => simp [intOf]; omega
  have HG : Hid (chG 1 1000 s = 0) := chG_iff.2 fun j hj => hR.out.2 j (by rw [← H.out.2.1] at hj; omega)
  have HS : Hid (SB w (.cells #[.slice a n c, .int .i64 M, .slice b m d] 55) wr) := hR.out.1
  clear hR
  go_wp2_with (fail)
  refine (HI.out _).mono ?_
  rintro e w5 ⟨rfl, hw5⟩
  subst w5
  clear HI
  cases q with
  | false =>
    have HE : Hid (D = 3) := by unfold Hid; rw [HD.out, if_pos (Or.inr (of_decide_eq_false HQ.out.symm))]
    go_wp2
    go_returns
    exact ⟨by rw [HE.out]; rfl, HS.out.bl⟩
  | true =>
  have HE : Hid (D = if rtB (n : Int) t = true then 0 else 1) := by unfold Hid; rw [HD.out, if_neg (fun h => h.elim (fun e => e HG.out) (fun e => e (of_decide_eq_true HQ.out.symm)))]
  clear HD HQ HG hk hlt
  go_wp2
  go_loopw [4] (fun i wr => ∃ k : Nat, k ≤ m ∧ i = .int .i64 k ∧ Hid (SB w (.cells #[.slice a n c, .int .i64 M, .slice b m d] 55) wr ∧ ∀ j, j < k → rtK (n : Int) t j)) (fun i _ => m - (intOf i).toNat)
  case atStart => exact ⟨0, Nat.zero_le _, rfl, HS.out, fun j hj => by omega⟩
  case round =>
    clear HS p0 p1 p2 pl
    obtain ⟨k, hk, rfl, hR⟩ := hrel
    obtain ⟨p0, p1, p2, pf, pl⟩ := tw_three hR.out.1.bx
    clear pf
    by_cases hlt : k < m
    · obtain ⟨g, o, rfl, hg, hc0⟩ := rd_at (H.out.1.2.below hR.out.1.bl) hlt
      obtain ⟨x, hx⟩ : ∃ x, x = t.getD k 0 := ⟨_, rfl⟩
      rw [← hx] at hc0
      obtain ⟨q, hq⟩ : ∃ q, q = decide (1 ≤ x ∧ x ≤ (n : Int)) := ⟨_, rfl⟩
      have HC : Hid (∀ W, Calls Try.prog 30 #[.int .i64 x, .int .i64 1, .int .i64 (n : Int)] W fun e w' => e = .returned (.bool q) ∧ w' = W) := by rw [hq]; exact spec_in10 x 1 (n : Int)
      have HX : Hid (q = decide (1 ≤ t.getD k 0 ∧ t.getD k 0 ≤ (n : Int)) ∧ k < t.length ∧ x = t.getD k 0) := ⟨by rw [hq, hx], by rw [← H.out.2.2.1]; exact hlt, hx⟩
      have HR : Hid (SB w (.cells #[.slice a n c, .int .i64 M, .slice (some ⟨g, o, none⟩) m d] 55) wr ∧ ∀ j, j < k → rtK (n : Int) t j) := hR.out
      clear hx hq
      cases q with
      | false =>
        have HF : Hid (D = 1) := by
          unfold Hid; rw [HE.out, rtB_not HX.out.2.1 (fun h => of_decide_eq_false HX.out.1.symm h.1)]; rfl
        have b0 : (0 : Int) ≤ (k : Int) := by omega
        have b1 : (k : Int) < (m : Int) := by omega
        clear hR
        go_wp2
        go_quiet (first | (go_at_call 30; with_reducible refine Calls.quiet_of_same (HC.out _)))
        go_wp2
        go_returns
        exact ⟨by rw [HF.out]; rfl, below_drewN HR.out.1.bl _⟩
      | true =>
      cases k with
      | zero =>
        have HN : Hid (∀ j, j < 1 → rtK (n : Int) t j) := fun j hj => by
          obtain rfl : j = 0 := by omega
          exact ⟨of_decide_eq_true HX.out.1.symm, fun h => absurd h (by omega)⟩
        have b1 : (0 : Int) < (m : Int) := by omega
        rw [Nat.add_zero] at hc0
        clear hR
        go_wp2
        go_quiet (first | (go_at_call 30; with_reducible refine Calls.quiet_of_same (HC.out _)))
        go_wp2
        go_roundw
        case rel => exact ⟨1, by omega, by first | rfl | go_num, ⟨below_drewN HR.out.1.bl _, by simpa using HR.out.1.bx⟩, HN.out⟩
        case measure => simp [intOf]; omega
      | succ k =>
        obtain ⟨g', o', e', hg', hc1⟩ := rd_at (H.out.1.2.below hR.out.1.bl) (show k < m by omega)
        simp only [Option.some.injEq, Addr.mk.injEq, and_true] at e'
        obtain ⟨rfl, rfl⟩ := e'
        obtain ⟨y, hy⟩ : ∃ x, x = t.getD k 0 := ⟨_, rfl⟩
        rw [← hy] at hc1
        have HY : Hid (y = t.getD k 0) := hy
        have b0 : (0 : Int) < (k : Int) + 1 := by omega
        have b1 : (k : Int) + 1 < (m : Int) := by omega
        have b2 : (0 : Int) ≤ (k : Int) := by omega
        have b3 : (k : Int) < (m : Int) := by omega
        clear hR hy hg'
        by_cases he : y = x
        · have HF : Hid (D = 1) := by
            unfold Hid; rw [HE.out, rtB_not HX.out.2.1 (fun h => h.2 (by omega) (by rw [← HX.out.2.2, Nat.add_sub_cancel, ← HY.out]; exact he.symm))]; rfl
          clear HX HY
          subst he
          go_wp2
          go_quiet (first | (go_at_call 30; with_reducible refine Calls.quiet_of_same (HC.out _)))
          go_wp2
          go_returns
          exact ⟨by rw [HF.out]; rfl, below_drewN HR.out.1.bl _⟩
        · have HN : Hid (∀ j, j < k + 1 + 1 → rtK (n : Int) t j) := fun j hj => by
            rcases (by omega : j < k + 1 ∨ j = k + 1) with e | rfl
            · exact HR.out.2 j e
            · exact ⟨of_decide_eq_true HX.out.1.symm, fun _ => by rw [← HX.out.2.2, Nat.add_sub_cancel, ← HY.out]; exact fun e => he e.symm⟩
          go_wp2
          go_quiet (first | (go_at_call 30; with_reducible refine Calls.quiet_of_same (HC.out _)))
          go_wp2
          go_roundw
          case rel => exact ⟨k + 1 + 1, by omega, by go_num, ⟨below_drewN HR.out.1.bl _, by simpa using HR.out.1.bx⟩, HN.out⟩
          case measure => simp [intOf]; omega
    · have HF : Hid (D = 0) := by
        unfold Hid; rw [HE.out, if_pos (rtB_iff.2 fun j hj => hR.out.2 j (by rw [← H.out.2.2.1] at hj; omega))]
      have HB : Hid (Below w.heap.size w wr) := hR.out.1.bl
      clear hR
      go_wp2
      go_returns
      exact ⟨by rw [HF.out]; rfl, HB.out⟩

end Go.Proofs.Ytcfcknfaeliodaa
