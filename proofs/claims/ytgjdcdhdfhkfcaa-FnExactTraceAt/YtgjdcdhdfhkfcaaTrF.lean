/- Proved here: the faults of a trace, of the program: trC. -/
import Derived.Test.YtgjdcdhdfhkfcaaTrM
namespace Go.Proofs.Ytgjdcdhdfhkfcaa
open Go.RowKit
set_option linter.unusedVariables false
set_option linter.unusedSimpArgs false

set_option maxRecDepth 10000 in
set_option maxHeartbeats 6400000 in
theorem impl_tf {w : World} {g1 g2 : Nat} {xs ys : List Nat} (x : Nat) (hn1 : xs.length ≤ 1048576) (hn2 : ys.length ≤ 1048576) (h1 : RFl w (.slice (some ⟨g1, 0, none⟩) xs.length xs.length) xs) :
    Calls Try.prog 60 #[.slice (some ⟨g1, 0, none⟩) xs.length xs.length, .slice (some ⟨g2, 0, none⟩) ys.length ys.length, .float .f64 x] w fun e w' => e = .returned (.int .i64 (trC xs ys x)) ∧ w' = w := by
  obtain ⟨n, hn⟩ : ∃ n, n = xs.length := ⟨_, rfl⟩
  obtain ⟨m, hm⟩ : ∃ m, m = ys.length := ⟨_, rfl⟩
  obtain ⟨C, hC⟩ : ∃ C, C = trC xs ys x := ⟨_, rfl⟩
  rw [← hn] at hn1 h1
  rw [← hm] at hn2
  rw [← hn, ← hm, ← hC]
  have H : Hid (RFl w (.slice (some ⟨g1, 0, none⟩) n n) xs ∧ n = xs.length ∧ m = ys.length ∧ C = if 200 < n ∨ 200 < m then 2 else if n ≠ m ∨ n < 2 then 1 else if riseF xs ∧ inF xs x then 0 else 3) := ⟨h1, hn, hm, by rw [hC, trC, hn, hm]⟩
  clear h1 hn hm hC
  by_cases c1 : (200 : Int) < (n : Int)
  · have HC : Hid (C = 2) := by unfold Hid; rw [H.out.2.2.2, if_pos (.inl (by omega))]
    clear H
    go_enter Try.func60, Try.ntmps60
    go_wp2
    go_returns
    exact ⟨by rw [HC.out]; rfl, rfl⟩
  by_cases c2 : (200 : Int) < (m : Int)
  · have HC : Hid (C = 2) := by unfold Hid; rw [H.out.2.2.2, if_pos (.inr (by omega))]
    clear H
    go_enter Try.func60, Try.ntmps60
    go_wp2
    go_returns
    exact ⟨by rw [HC.out]; rfl, rfl⟩
  by_cases c3 : (n : Int) = (m : Int)
  case neg =>
    have HC : Hid (C = 1) := by unfold Hid; rw [H.out.2.2.2, if_neg (by omega), if_pos (.inl (by omega))]
    have c3' : ((n : Int) != (m : Int)) = true := by simpa using c3
    clear H
    go_enter Try.func60, Try.ntmps60
    go_wp2
    go_returns
    exact ⟨by rw [HC.out]; rfl, rfl⟩
  obtain rfl : n = m := by omega
  clear c3
  by_cases c4 : (n : Int) < 2
  · have HC : Hid (C = 1) := by unfold Hid; rw [H.out.2.2.2, if_neg (by omega), if_pos (.inr (by omega))]
    clear H
    go_enter Try.func60, Try.ntmps60
    go_wp2
    go_returns
    exact ⟨by rw [HC.out]; rfl, rfl⟩
  have HC : Hid (C = if riseF xs ∧ inF xs x then 0 else 3) := by unfold Hid; rw [H.out.2.2.2, if_neg (by omega), if_neg (by omega)]
  have e1 : IntKind.i64.wrap ((n : Int) - 1) = ((n - 1 : Nat) : Int) := by rw [IntKind.wrap_i64]; omega
  obtain ⟨N, hN⟩ : ∃ N, N = n - 1 := ⟨_, rfl⟩
  rw [← hN] at e1
  have b2 : N ≤ n := by omega
  have b3 : (N : Int) ≤ (n : Int) := by omega
  have b4 : (0 : Int) ≤ (N : Int) := by omega
  have HN : Hid (N = n - 1 ∧ ¬ n < 2) := ⟨hN, by omega⟩
  clear hN
  go_enter Try.func60, Try.ntmps60
  go_wp2
  go_loopw [35] (fun i wr => ∃ k : Nat, k ≤ N ∧ i = .int .i64 k ∧ Hid (wr = w ∧ ∀ j, j < k → ltF (xs.getD j 0) (xs.getD (j + 1) 0))) (fun i _ => N - (intOf i).toNat)
  case atStart => exact ⟨0, Nat.zero_le _, rfl, rfl, fun j hj => absurd hj (Nat.not_lt_zero _)⟩
  case round =>
    obtain ⟨k, hk, rfl, hR⟩ := hrel
    obtain rfl := hR.out.1
    have hNn := HN.out
    by_cases hlt : k < N
    · obtain ⟨g, o, z, ha, hg, hz, c0⟩ := rf_at H.out.1 (show k < n by omega)
      obtain ⟨g', o', y, ha', hg', hy, d0⟩ := rf_at H.out.1 (show k + 1 < n by omega)
      injection ha with ha
      injection ha with ha1 ha2
      subst ha1 ha2
      injection ha' with ha'
      injection ha' with ha1 ha2
      subst ha1 ha2
      clear hg'
      have hzd := getD_at hz
      have hyd := getD_at hy
      have e2 : IntKind.i64.wrap ((k : Int) + 1) = ((k + 1 : Nat) : Int) := by rw [IntKind.wrap_i64]; omega
      have b5 : (0 : Int) ≤ (k : Int) := by omega
      have b6 : (k : Int) < (N : Int) := by omega
      have b7 : ((k + 1 : Nat) : Int) < (n : Int) := by omega
      have b8 : (0 : Int) ≤ ((k + 1 : Nat) : Int) := by omega
      rw [Nat.zero_add] at c0 d0
      obtain ⟨k1, hk1⟩ : ∃ k1, k1 = k + 1 := ⟨_, rfl⟩
      rw [← hk1] at e2 b7 b8 d0
      by_cases hc : ltF z y
      · have HS : Hid (∀ j, j < k + 1 → ltF (xs.getD j 0) (xs.getD (j + 1) 0)) := fun j hj => by
          by_cases hjk : j = k
          · subst hjk; rw [hzd, hyd]; exact hc
          · exact hR.out.2 j (by omega)
        have HK : Hid (k1 = k + 1) := hk1
        have ql : (FloatKind.f64.format.order z y == some .lt) = true := by rw [ord_lt, decide_eq_true hc]
        clear hz hy hzd hyd hR hc hk1 hNn
        go_wp2
        go_roundw
        case rel => exact ⟨k + 1, by omega, by rw [← HK.out], by first | rfl | trivial, HS.out⟩
        case measure => simp [intOf]; have := HK.out; omega
      · have HX : Hid (C = 3) := by
          unfold Hid
          rw [HC.out, if_neg]
          intro h
          have h9 := h.1 k (by rw [← H.out.2.1]; omega)
          rw [hzd, hyd] at h9
          exact hc h9
        have ql : (FloatKind.f64.format.order z y == some .lt) = false := by rw [ord_lt, decide_eq_false hc]
        clear hz hy hzd hyd hR hc hk1 hNn
        go_wp2
        go_returns
        exact ⟨by rw [HX.out]; rfl, rfl⟩
    · have HR : Hid (riseF xs) := by
        intro j hj
        exact hR.out.2 j (by have := H.out.2.1; omega)
      obtain ⟨g, o, z, ha, hg, hz, c0⟩ := rf_at H.out.1 (show 0 < n by omega)
      obtain ⟨g', o', y, ha', hg', hy, d0⟩ := rf_at H.out.1 (show N < n by omega)
      injection ha with ha
      injection ha with ha1 ha2
      subst ha1 ha2
      injection ha' with ha'
      injection ha' with ha1 ha2
      subst ha1 ha2
      rw [Nat.zero_add] at c0 d0
      have b9 : (N : Int) < (n : Int) := by omega
      have b10 : (0 : Int) < (n : Int) := by omega
      have hin : inF xs x ↔ leF z x ∧ leF x y := by
        unfold inF
        rw [getD_at hz, show xs.length - 1 = N by have := H.out.2.1; omega, getD_at hy]
      have HC2 : Hid (C = if leF z x ∧ leF x y then 0 else 3) := by
        unfold Hid; rw [HC.out]
        by_cases hq : leF z x ∧ leF x y
        · rw [if_pos hq, if_pos ⟨HR.out, hin.2 hq⟩]
        · rw [if_neg hq, if_neg (fun h => hq (hin.1 h.2))]
      clear hz hy hR hin hg' HC hNn HR
      by_cases p1 : leF z x
      · have q1 : (FloatKind.f64.format.order z x == some .lt || FloatKind.f64.format.order z x == some .eq) = true := by rw [ord_le, decide_eq_true p1]
        by_cases p2 : leF x y
        · have q2 : (FloatKind.f64.format.order x y == some .lt || FloatKind.f64.format.order x y == some .eq) = true := by rw [ord_le, decide_eq_true p2]
          have HX : Hid (C = 0) := by unfold Hid; rw [HC2.out, if_pos ⟨p1, p2⟩]
          clear p1 p2 HC2
          go_wp2
          go_returns
          exact ⟨by rw [HX.out]; rfl, rfl⟩
        · have q2 : (FloatKind.f64.format.order x y == some .lt || FloatKind.f64.format.order x y == some .eq) = false := by rw [ord_le, decide_eq_false p2]
          have HX : Hid (C = 3) := by unfold Hid; rw [HC2.out, if_neg (fun h => p2 h.2)]
          clear p1 p2 HC2
          go_wp2
          go_returns
          exact ⟨by rw [HX.out]; rfl, rfl⟩
      · have q1 : (FloatKind.f64.format.order z x == some .lt || FloatKind.f64.format.order z x == some .eq) = false := by rw [ord_le, decide_eq_false p1]
        have HX : Hid (C = 3) := by unfold Hid; rw [HC2.out, if_neg (fun h => p1 h.1)]
        clear p1 HC2
        go_wp2
        go_returns
        exact ⟨by rw [HX.out]; rfl, rfl⟩

end Go.Proofs.Ytgjdcdhdfhkfcaa
