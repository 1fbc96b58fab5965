/- Proved here: fitsState and ToolFault of the program: fsB, tlF. -/
import Derived.Test.YtkacfjbhkgdpdaaTfI
import Derived.Test.YtkacfjbhkgdpdaaReg
import Derived.Deep.Cut
namespace Go.Proofs.Ytkacfjbhkgdpdaa
open Go.ChangeShapes Go.WideShapes Go.ChangeAt Go.RowKit Go.Joins
set_option linter.unusedVariables false
set_option linter.unusedSimpArgs false

set_option maxRecDepth 10000 in
set_option maxHeartbeats 6400000 in
theorem impl_fs (A : Int) (R : ByteArray) (S U L : Int) (Q : Bool) {w : World} {a : Option Addr} {n c : Nat} {s : List Ap} (hn : n ≤ 1048576) (h : RG 2 apC w (.slice a n c) s) :
    Calls Try.prog 51 #[.agg #[.int .i64 A, .string R, .int .i64 S, .int .i64 U, .int .i64 L, .bool Q, .slice a n c]] w fun e w' => e = .returned (.bool (fsB A R S U L Q s)) ∧ Below w.heap.size w w' := by
  obtain ⟨D, hD⟩ : ∃ D, D = fsB A R S U L Q s := ⟨_, rfl⟩
  obtain ⟨p, hp⟩ : ∃ D, D = apB s R S := ⟨_, rfl⟩
  rw [← hD]
  have H : Hid (D = (if A = 2 then Q && p else if A = 3 then (Q && p) && decide (U < L) else decide (R = ⟨#[]⟩) && decide (S = 0))) := by unfold Hid; rw [hD, hp]; rfl
  have HA : Hid (∀ W, Below w.heap.size w W → Calls Try.prog 59 #[.agg #[.int .i64 A, .string R, .int .i64 S, .int .i64 U, .int .i64 L, .bool Q, .slice a n c], .string R, .int .i64 S] W fun e w' => e = .returned (.bool p) ∧ Below W.heap.size W w') := fun W hb => by
    rw [hp]; exact impl_ia A R S U L Q R S (by rw [← h.len]; exact hn) (h.below hb)
  have HS : Hid (SB w (.cells #[.int .i64 A, .string R, .int .i64 S, .int .i64 U, .int .i64 L, .bool Q, .slice a n c] 31) (w.alloc (.cells #[.int .i64 A, .string R, .int .i64 S, .int .i64 U, .int .i64 L, .bool Q, .slice a n c] 31))) := SB.new _ _
  clear h hD hp
  obtain ⟨ok, hok⟩ : ∃ b, b = (Q && p) := ⟨_, rfl⟩
  rw [← hok] at H
  go_enter Try.func51, Try.ntmps51
  go_upto_region 1 with fail
  obtain ⟨W0, hW0⟩ : ∃ X9, X9 = w.alloc (.cells #[.int .i64 A, .string R, .int .i64 S, .int .i64 U, .int .i64 L, .bool Q, .slice a n c] 31) := ⟨_, rfl⟩
  rw [← hW0] at HS ⊢
  clear hW0
  obtain ⟨p0, p1, p2, p3, p4, p5, p6, pl⟩ := tf_seven HS.out.bx
  go_cut [3] from 4 (fun r3 wx => r3 = .bool ok ∧ Hid (SB w (.cells #[.int .i64 A, .string R, .int .i64 S, .int .i64 U, .int .i64 L, .bool Q, .slice a n c] 31) wx))
  case first =>
    cases Q with
    | false =>
      have hok2 : ok = false := by rw [hok]; rfl
      subst hok2
      clear hok HA
      go_wp2
      go_meet
      exact ⟨rfl, HS.out⟩
    | true =>
      have hok2 : ok = p := by rw [hok]; rfl
      subst hok2
      clear hok
      go_wp2_with (fail)
      refine (HA.out _ HS.out.bl).mono ?_
      rintro e w5 ⟨rfl, hb5⟩
      have HT : Hid (SB w (.cells #[.int .i64 A, .string R, .int .i64 S, .int .i64 U, .int .i64 L, .bool true, .slice a n c] 31) w5) := HS.out.next hb5
      clear hb5 HA HS
      go_wp2
      go_meet
      exact ⟨rfl, HT.out⟩
  case rest =>
  obtain ⟨rfl, hR⟩ := hcut
  have HT : Hid (SB w (.cells #[.int .i64 A, .string R, .int .i64 S, .int .i64 U, .int .i64 L, .bool Q, .slice a n c] 31) wc) := hR.out
  clear hR HS HA hok p0 p1 p2 p3 p4 p5 p6 pl
  obtain ⟨p0, p1, p2, p3, p4, p5, p6, pl⟩ := tf_seven HT.out.bx
  by_cases hA2 : A = 2
  · have HE : Hid (D = ok) := by unfold Hid; rw [H.out, if_pos hA2]
    subst hA2
    go_wp2
    go_returns
    exact ⟨by rw [HE.out]; rfl, HT.out.bl⟩
  have f2 : (A == 2) = false := beq_eq_false_iff_ne.2 hA2
  by_cases hA3 : A = 3
  · have HE : Hid (D = (ok && decide (U < L))) := by unfold Hid; rw [H.out, if_neg hA2, if_pos hA3]
    subst hA3
    clear hA2
    cases ok with
    | false =>
      have HE2 : Hid (D = false) := by unfold Hid; rw [HE.out]; rfl
      go_wp2
      go_returns
      exact ⟨by rw [HE2.out]; rfl, HT.out.bl⟩
    | true =>
      by_cases hUL : U < L
      · have HE2 : Hid (D = true) := by unfold Hid; rw [HE.out, decide_eq_true hUL]; rfl
        go_wp2
        go_returns
        exact ⟨by rw [HE2.out]; simp [hUL], HT.out.bl⟩
      · have HE2 : Hid (D = false) := by unfold Hid; rw [HE.out, decide_eq_false hUL]; rfl
        go_wp2
        go_returns
        exact ⟨by rw [HE2.out]; simp [hUL], HT.out.bl⟩
  have f3 : (A == 3) = false := beq_eq_false_iff_ne.2 hA3
  have HE : Hid (D = (decide (R = ⟨#[]⟩) && decide (S = 0))) := by unfold Hid; rw [H.out, if_neg hA2, if_neg hA3]
  clear hA2 hA3 H
  by_cases hR : R = ⟨#[]⟩
  · by_cases hS : S = 0
    · have HE2 : Hid (D = true) := by unfold Hid; rw [HE.out, decide_eq_true hR, decide_eq_true hS]; rfl
      subst hR hS
      go_wp2
      go_returns
      exact ⟨by rw [HE2.out]; rfl, HT.out.bl⟩
    · have HE2 : Hid (D = false) := by unfold Hid; rw [HE.out, decide_eq_true hR, decide_eq_false hS]; rfl
      subst hR
      have f4 : (S == 0) = false := beq_eq_false_iff_ne.2 hS
      go_wp2
      go_returns
      exact ⟨by rw [HE2.out]; simp [hS], HT.out.bl⟩
  · have HE2 : Hid (D = false) := by unfold Hid; rw [HE.out, decide_eq_false hR]; rfl
    obtain ⟨e1, e2⟩ := ne_empty hR
    go_wp2
    go_returns
    exact ⟨by rw [HE2.out]; try rfl, HT.out.bl⟩

set_option maxRecDepth 10000 in
set_option maxHeartbeats 6400000 in
theorem impl_tl (A : Int) (R : ByteArray) (S U L : Int) (Q : Bool) {w : World} {a : Option Addr} {n c : Nat} {s : List Ap} (hn : n ≤ 1048576) (hz : ∀ j (h : j < s.length), s[j].nm.size ≤ 2000000) (hc : n ≤ c) (h : RG 2 apC w (.slice a n c) s) :
    Calls Try.prog 33 #[.agg #[.int .i64 A, .string R, .int .i64 S, .int .i64 U, .int .i64 L, .bool Q, .slice a n c]] w fun e w' => e = .returned (.int .i64 (tlF A R S U L Q s)) ∧ Below w.heap.size w w' := by
  obtain ⟨D, hD⟩ : ∃ D, D = tlF A R S U L Q s := ⟨_, rfl⟩
  obtain ⟨x, hx⟩ : ∃ D, D = kpF U L s := ⟨_, rfl⟩
  obtain ⟨y, hy⟩ : ∃ D, D = fsB A R S U L Q s := ⟨_, rfl⟩
  obtain ⟨q, hq⟩ : ∃ D, D = decide (0 ≤ A ∧ A ≤ 6) := ⟨_, rfl⟩
  rw [← hD]
  have H : Hid (D = (if q = false then 1 else if x ≠ 0 then x else if y = true then 0 else 1)) := by
    unfold Hid; rw [hD, hx, hy, hq]; unfold tlF; simp only [decide_eq_false_iff_not]
  have HI : Hid (∀ W, Calls Try.prog 49 #[.int .i64 A, .int .i64 0, .int .i64 6] W fun e w' => e = .returned (.bool q) ∧ w' = W) := impl_insC A 0 6 q hq
  have HKP : Hid (∀ W, Below w.heap.size w W → Calls Try.prog 50 #[.agg #[.int .i64 A, .string R, .int .i64 S, .int .i64 U, .int .i64 L, .bool Q, .slice a n c]] W fun e w' => e = .returned (.int .i64 x) ∧ Below W.heap.size W w') := fun W hb => by
    rw [hx]; exact impl_kp A R S U L Q hn hz hc (h.below hb)
  have HFS : Hid (∀ W, Below w.heap.size w W → Calls Try.prog 51 #[.agg #[.int .i64 A, .string R, .int .i64 S, .int .i64 U, .int .i64 L, .bool Q, .slice a n c]] W fun e w' => e = .returned (.bool y) ∧ Below W.heap.size W w') := fun W hb => by
    rw [hy]; exact impl_fs A R S U L Q hn (h.below hb)
  have HS : Hid (SB w (.cells #[.int .i64 A, .string R, .int .i64 S, .int .i64 U, .int .i64 L, .bool Q, .slice a n c] 31) (w.alloc (.cells #[.int .i64 A, .string R, .int .i64 S, .int .i64 U, .int .i64 L, .bool Q, .slice a n c] 31))) := SB.new _ _
  clear h hD hx hy hq hz
  go_enter Try.func33, Try.ntmps33
  go_wp2_with (fail)
  obtain ⟨W0, hW0⟩ : ∃ X9, X9 = w.alloc (.cells #[.int .i64 A, .string R, .int .i64 S, .int .i64 U, .int .i64 L, .bool Q, .slice a n c] 31) := ⟨_, rfl⟩
  rw [← hW0] at HS ⊢
  clear hW0
  obtain ⟨p0, p1, p2, p3, p4, p5, p6, pl⟩ := tf_seven HS.out.bx
  refine (HI.out _).mono ?_
  rintro e w5 ⟨rfl, hw5⟩
  subst w5
  clear HI
  cases q with
  | false =>
    have HD : Hid (D = 1) := by unfold Hid; rw [H.out]; rfl
    clear HKP HFS
    go_wp2
    go_returns
    exact ⟨by rw [HD.out]; rfl, HS.out.bl⟩
  | true =>
  go_wp2_with (fail)
  refine (HKP.out _ HS.out.bl).mono ?_
  rintro e w1 ⟨rfl, hb1⟩
  have HT : Hid (SB w (.cells #[.int .i64 A, .string R, .int .i64 S, .int .i64 U, .int .i64 L, .bool Q, .slice a n c] 31) w1) := HS.out.next hb1
  clear HKP hb1 HS p0 p1 p2 p3 p4 p5 p6 pl
  obtain ⟨p0, p1, p2, p3, p4, p5, p6, pl⟩ := tf_seven HT.out.bx
  by_cases hx0 : x = 0
  case neg =>
    have HD : Hid (D = x) := by unfold Hid; rw [H.out, if_neg (by simp), if_pos hx0]
    have hx1 : (x != 0) = true := by simpa using hx0
    clear HFS
    go_wp2
    go_returns
    exact ⟨by rw [HD.out]; rfl, HT.out.bl⟩
  subst hx0
  go_wp2_with (fail)
  refine (HFS.out _ HT.out.bl).mono ?_
  rintro e w2 ⟨rfl, hb2⟩
  have HV : Hid (SB w (.cells #[.int .i64 A, .string R, .int .i64 S, .int .i64 U, .int .i64 L, .bool Q, .slice a n c] 31) w2) := HT.out.next hb2
  clear HFS hb2 HT p0 p1 p2 p3 p4 p5 p6 pl
  cases y with
  | true =>
    have HD : Hid (D = 0) := by unfold Hid; rw [H.out]; rfl
    go_wp2
    go_returns
    exact ⟨by rw [HD.out]; rfl, HV.out.bl⟩
  | false =>
    have HD : Hid (D = 1) := by unfold Hid; rw [H.out]; rfl
    go_wp2
    go_returns
    exact ⟨by rw [HD.out]; rfl, HV.out.bl⟩

end Go.Proofs.Ytkacfjbhkgdpdaa
