/- Proved here: ToolFault of the model: tlF. -/
import Derived.Test.YtkacfjbhkgdpdaaTfS
import Derived.Test.YtkacfjbhkgdpdaaTiS
namespace Go.Proofs.Ytkacfjbhkgdpdaa
open Go.ChangeShapes Go.WideShapes Go.ChangeAt Go.RowKit Go.Joins
set_option linter.unusedVariables false
set_option linter.unusedSimpArgs false

set_option maxRecDepth 10000 in
set_option maxHeartbeats 6400000 in
theorem spec_tl (A : Int) (R : ByteArray) (S U L : Int) (Q : Bool) {w : World} {a : Option Addr} {n c : Nat} {s : List Ap} (hn : n ≤ 1048576) (hz : ∀ j (h : j < s.length), s[j].nm.size ≤ 2000000) (h : RG 2 apC w (.slice a n c) s) :
    Calls Try.prog 26 #[.agg #[.int .i64 A, .string R, .int .i64 S, .int .i64 U, .int .i64 L, .bool Q, .slice a n c]] w fun e w' => e = .returned (.int .i64 (tlF A R S U L Q s)) ∧ Below w.heap.size w w' := by
  obtain ⟨D, hD⟩ : ∃ D, D = tlF A R S U L Q s := ⟨_, rfl⟩
  obtain ⟨x, hx⟩ : ∃ D, D = kpF U L s := ⟨_, rfl⟩
  obtain ⟨p, hp⟩ : ∃ D, D = apB s R S := ⟨_, rfl⟩
  obtain ⟨q, hq⟩ : ∃ D, D = decide (0 ≤ A ∧ A ≤ 6) := ⟨_, rfl⟩
  rw [← hD]
  have H0 : Hid ((q = false → D = 1) ∧ (q = true → x ≠ 0 → D = x) ∧ (q = true → x = 0 → (U ≤ L ∧ D = (if (if A = 2 then Q && p else if A = 3 then (Q && p) && decide (U < L) else decide (R = ⟨#[]⟩) && decide (S = 0)) = true then 0 else 1)))) := by
    unfold Hid
    refine ⟨fun e => ?_, fun e e2 => ?_, fun e e2 => ⟨(kpF_le (hx.symm.trans e2)).1, ?_⟩⟩
    · rw [hD]; unfold tlF; rw [if_pos (by rw [hq] at e; exact of_decide_eq_false e)]
    · rw [hD]; unfold tlF; rw [if_neg (by rw [hq] at e; exact fun h => h (of_decide_eq_true e)), ← hx, if_pos e2]
    · rw [hD]; unfold tlF; rw [if_neg (by rw [hq] at e; exact fun h => h (of_decide_eq_true e)), ← hx, if_neg (by rw [e2]; simp), hp]; rfl
  have HI : Hid (∀ W, Calls Try.prog 27 #[.int .i64 A, .int .i64 0, .int .i64 6] W fun e w' => e = .returned (.bool q) ∧ w' = W) := by rw [hq]; exact spec_in10 A 0 6
  have HKP : Hid (∀ W, Below w.heap.size w W → Calls Try.prog 47 #[.agg #[.int .i64 A, .string R, .int .i64 S, .int .i64 U, .int .i64 L, .bool Q, .slice a n c]] W fun e w' => e = .returned (.int .i64 x) ∧ Below W.heap.size W w') := fun W hb => by
    rw [hx]; exact spec_kp A R S U L Q hn hz (h.below hb)
  have HA : Hid (∀ W, Below w.heap.size w W → Calls Try.prog 30 #[.agg #[.int .i64 A, .string R, .int .i64 S, .int .i64 U, .int .i64 L, .bool Q, .slice a n c], .string R, .int .i64 S] W fun e w' => e = .returned (.bool p) ∧ Below W.heap.size W w') := fun W hb => by
    rw [hp]; exact spec_ia A R S U L Q R S (by rw [← h.len]; exact hn) (h.below hb)
  have HS : Hid (SB w (.cells #[.int .i64 A, .string R, .int .i64 S, .int .i64 U, .int .i64 L, .bool Q, .slice a n c] 31) (w.alloc (.cells #[.int .i64 A, .string R, .int .i64 S, .int .i64 U, .int .i64 L, .bool Q, .slice a n c] 31))) := SB.new _ _
  clear h hD hx hp hq hz
  go_enter Try.func26, Try.ntmps26
  go_wp2_with (fail)
  obtain ⟨W0, hW0⟩ : ∃ X9, X9 = w.alloc (.cells #[.int .i64 A, .string R, .int .i64 S, .int .i64 U, .int .i64 L, .bool Q, .slice a n c] 31) := ⟨_, rfl⟩
  rw [← hW0] at HS ⊢
  clear hW0
  obtain ⟨p0, p1, p2, p3, p4, p5, p6, pl⟩ := tf_seven HS.out.bx
  refine (HI.out _).mono ?_
  rintro e w5 ⟨rfl, hw5⟩
  subst w5
  clear HI
  cases q with
  | false =>
    have HE2 : Hid (D = 1) := H0.out.1 rfl
    clear HKP HA
    go_wp2
    go_returns
    exact ⟨by rw [HE2.out]; rfl, HS.out.bl⟩
  | true =>
  go_wp2_with (fail)
  refine (HKP.out _ HS.out.bl).mono ?_
  rintro e w1 ⟨rfl, hb1⟩
  have HT : Hid (SB w (.cells #[.int .i64 A, .string R, .int .i64 S, .int .i64 U, .int .i64 L, .bool Q, .slice a n c] 31) w1) := HS.out.next hb1
  clear HKP hb1 HS p0 p1 p2 p3 p4 p5 p6 pl
  obtain ⟨p0, p1, p2, p3, p4, p5, p6, pl⟩ := tf_seven HT.out.bx
  by_cases hx0 : x = 0
  case neg =>
    have HE2 : Hid (D = x) := H0.out.2.1 (by first | rfl | trivial) hx0
    have hx1 : (x != 0) = true := by simpa using hx0
    clear HA
    go_wp2
    go_returns
    exact ⟨by rw [HE2.out]; rfl, HT.out.bl⟩
  subst hx0
  have hUL0 := (H0.out.2.2 (by first | rfl | trivial) (by first | rfl | trivial)).1
  have H1 : Hid (D = (if (if A = 2 then Q && p else if A = 3 then (Q && p) && decide (U < L) else decide (R = ⟨#[]⟩) && decide (S = 0)) = true then 0 else 1)) := (H0.out.2.2 (by first | rfl | trivial) (by first | rfl | trivial)).2
  clear H0
  by_cases hA2 : A = 2
  · have H : Hid (D = (if (Q && p) = true then 0 else 1)) := by unfold Hid; rw [H1.out, if_pos hA2]
    subst hA2
    clear H1 hUL0
    cases Q with
    | false =>
      have HE2 : Hid (D = 1) := by unfold Hid; rw [H.out]; simp
      clear HA
      go_wp2
      go_returns
      exact ⟨by rw [HE2.out]; rfl, HT.out.bl⟩
    | true =>
    go_wp2_with (fail)
    refine (HA.out _ HT.out.bl).mono ?_
    rintro e w5 ⟨rfl, hb5⟩
    have HV : Hid (SB w (.cells #[.int .i64 2, .string R, .int .i64 S, .int .i64 U, .int .i64 L, .bool true, .slice a n c] 31) w5) := HT.out.next hb5
    clear hb5 HA HT p0 p1 p2 p3 p4 p5 p6 pl
    obtain ⟨p0, p1, p2, p3, p4, p5, p6, pl⟩ := tf_seven HV.out.bx
    cases p with
    | false =>
      have HE2 : Hid (D = 1) := by unfold Hid; rw [H.out]; simp
      go_wp2
      go_returns
      exact ⟨by rw [HE2.out]; rfl, HV.out.bl⟩
    | true =>
    have HE2 : Hid (D = 0) := by unfold Hid; rw [H.out]; simp
    go_wp2
    go_returns
    exact ⟨by rw [HE2.out]; rfl, HV.out.bl⟩
  have f2 : (A == 2) = false := beq_eq_false_iff_ne.2 hA2
  by_cases hA3 : A = 3
  · have H : Hid (D = (if ((Q && p) && decide (U < L)) = true then 0 else 1)) := by unfold Hid; rw [H1.out, if_neg hA2, if_pos hA3]
    subst hA3
    clear H1 hA2
    cases Q with
    | false =>
      have HE2 : Hid (D = 1) := by unfold Hid; rw [H.out]; simp
      clear HA
      go_wp2
      go_returns
      exact ⟨by rw [HE2.out]; rfl, HT.out.bl⟩
    | true =>
    go_wp2_with (fail)
    refine (HA.out _ HT.out.bl).mono ?_
    rintro e w5 ⟨rfl, hb5⟩
    have HV : Hid (SB w (.cells #[.int .i64 3, .string R, .int .i64 S, .int .i64 U, .int .i64 L, .bool true, .slice a n c] 31) w5) := HT.out.next hb5
    clear hb5 HA HT p0 p1 p2 p3 p4 p5 p6 pl
    obtain ⟨p0, p1, p2, p3, p4, p5, p6, pl⟩ := tf_seven HV.out.bx
    cases p with
    | false =>
      have HE2 : Hid (D = 1) := by unfold Hid; rw [H.out]; simp
      go_wp2
      go_returns
      exact ⟨by rw [HE2.out]; rfl, HV.out.bl⟩
    | true =>
    by_cases hUL : U = L
    · have HE2 : Hid (D = 1) := by unfold Hid; rw [H.out, decide_eq_false (by omega)]; simp
      subst hUL
      go_wp2
      go_returns
      exact ⟨by rw [HE2.out]; rfl, HV.out.bl⟩
    · have HE2 : Hid (D = 0) := by unfold Hid; rw [H.out, decide_eq_true (by omega)]; simp
      have f9 : (U == L) = false := beq_eq_false_iff_ne.2 hUL
      go_wp2
      go_returns
      exact ⟨by rw [HE2.out]; rfl, HV.out.bl⟩
  have f3 : (A == 3) = false := beq_eq_false_iff_ne.2 hA3
  have HE : Hid (D = if (decide (R = ⟨#[]⟩) && decide (S = 0)) = true then 0 else 1) := by unfold Hid; rw [H1.out, if_neg hA2, if_neg hA3]
  clear hA2 hA3 H1 HA hUL0
  by_cases hR : R = ⟨#[]⟩
  · by_cases hS : S = 0
    · have HE2 : Hid (D = 0) := by unfold Hid; rw [HE.out, decide_eq_true hR, decide_eq_true hS]; rfl
      subst hR hS
      go_wp2
      go_returns
      exact ⟨by rw [HE2.out]; rfl, HT.out.bl⟩
    · have HE2 : Hid (D = 1) := by unfold Hid; rw [HE.out, decide_eq_true hR, decide_eq_false hS]; rfl
      subst hR
      have f4 : (S != 0) = true := by simpa using hS
      go_wp2
      go_returns
      exact ⟨by rw [HE2.out]; rfl, HT.out.bl⟩
  · have HE2 : Hid (D = 1) := by unfold Hid; rw [HE.out, decide_eq_false hR]; rfl
    obtain ⟨e1, e2⟩ := ne_empty hR
    go_wp2
    go_returns
    exact ⟨by rw [HE2.out]; rfl, HT.out.bl⟩

end Go.Proofs.Ytkacfjbhkgdpdaa
