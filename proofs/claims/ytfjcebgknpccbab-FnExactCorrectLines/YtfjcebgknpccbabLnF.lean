/- Proved here: the faults of lines, of both: lnF. -/
import Derived.Test.YtfjcebgknpccbabLnB
import Derived.Test.YtfjcebgknpccbabIns
namespace Go.Proofs.Ytfjcebgknpccbab
open Go.RowKit
set_option linter.unusedVariables false
set_option linter.unusedSimpArgs false

def lnG (len : Int) : Int → List Ln → Int
  | _, [] => 0
  | a, x :: t => if x.f < 0 ∨ len < x.t then 3 else if x.t ≤ x.f ∨ x.f ≤ a then 1 else lnG len x.t t
def lnF (s : List Ln) (len : Int) : Int := if 1 ≤ len ∧ len ≤ 60 then (if 12 < s.length then 2 else lnG len (-1) s) else 1
theorem lnG_step {len A : Int} {s : List Ln} {k : Nat} (hk : k < s.length) : lnG len A (s.drop k) = if s[k].f < 0 ∨ len < s[k].t then 3 else if s[k].t ≤ s[k].f ∨ s[k].f ≤ A then 1 else lnG len s[k].t (s.drop (k + 1)) := by
  rw [List.drop_eq_getElem_cons hk, lnG]

set_option maxRecDepth 10000 in
set_option maxHeartbeats 3200000 in
theorem impl_lf {w : World} {v : Value} {s : List Ln} (len : Int) (hn : s.length ≤ 1048576) (h : RG 2 lnC w v s) :
    Calls Try.prog 45 #[v, .int .i64 len] w fun e w' => e = .returned (.int .i64 (lnF s len)) ∧ Below w.heap.size w w' := by
  obtain ⟨a, c, rfl⟩ := h.form
  obtain ⟨n, hnn⟩ : ∃ n, n = s.length := ⟨_, rfl⟩
  obtain ⟨C, hC⟩ : ∃ C, C = lnF s len := ⟨_, rfl⟩
  rw [← hnn] at hn h ⊢
  rw [← hC]
  obtain ⟨r, hr⟩ : ∃ r, r = decide (1 ≤ len ∧ len ≤ 60) := ⟨_, rfl⟩
  have HIN : Hid (∀ W, Calls Try.prog 32 #[.int .i64 len, .int .i64 1, .int .i64 60] W fun e w' => e = .returned (.bool r) ∧ w' = W) := impl_ins len 1 60 r hr
  have H : Hid (RG 2 lnC w (.slice a n c) s ∧ n = s.length ∧ C = lnF s len ∧ r = decide (1 ≤ len ∧ len ≤ 60)) := ⟨h, hnn, hC, hr⟩
  clear h hnn hC hr
  go_enter Try.func45, Try.ntmps45
  go_wp2_with (fail)
  refine (HIN.out _).mono ?_
  rintro e w1 ⟨rfl, rfl⟩
  cases r with
  | false =>
    have HC : Hid (C = 1) := by unfold Hid; rw [H.out.2.2.1, lnF, if_neg (of_decide_eq_false H.out.2.2.2.symm)]
    go_wp2
    go_returns
    exact ⟨by rw [HC.out]; rfl, by (repeat' (first | (with_reducible exact Below.refl _ _) | (with_reducible assumption) | (with_reducible refine Below.setCell ?_ ?_ _) | (with_reducible refine Below.alloc ?_ ?_ _) | (with_reducible refine below_drewN ?_ _) | (with_reducible refine Below.drew ?_) | (with_reducible exact Nat.le_refl _) | omega | (simp; done) | (simp; omega)))⟩
  | true =>
  by_cases h8 : (12 : Int) < (n : Int)
  · have HC : Hid (C = 2) := by unfold Hid; rw [H.out.2.2.1, lnF, if_pos (of_decide_eq_true H.out.2.2.2.symm), if_pos (by rw [← H.out.2.1]; omega)]
    go_wp2
    go_returns
    exact ⟨by rw [HC.out]; rfl, by (repeat' (first | (with_reducible exact Below.refl _ _) | (with_reducible assumption) | (with_reducible refine Below.setCell ?_ ?_ _) | (with_reducible refine Below.alloc ?_ ?_ _) | (with_reducible refine below_drewN ?_ _) | (with_reducible refine Below.drew ?_) | (with_reducible exact Nat.le_refl _) | omega | (simp; done) | (simp; omega)))⟩
  have HC : Hid (C = lnG len (-1) s) := by unfold Hid; rw [H.out.2.2.1, lnF, if_pos (of_decide_eq_true H.out.2.2.2.symm), if_neg (by rw [← H.out.2.1]; omega)]
  go_wp2
  go_loopw [5, 16] (fun q i wr => ∃ (k : Nat) (A : Int), k ≤ n ∧ i = .int .i64 k ∧ q = .int .i64 A ∧ Hid (lnG len A (s.drop k) = C ∧ Below w1.heap.size w1 wr)) (fun _ i _ => n - (intOf i).toNat)
  case atStart => exact ⟨0, -1, Nat.zero_le _, rfl, rfl, HC.out.symm, Below.refl _ _⟩
  case round =>
    obtain ⟨k, A, hk, rfl, rfl, hR⟩ := hrel
    by_cases hlt : k < n
    · have hkl : k < s.length := by rw [← H.out.2.1]; exact hlt
      obtain ⟨g, o, c2, he, hg, hj⟩ := (H.out.1.below hR.out.2).pos (by omega)
      simp only [Value.slice.injEq] at he
      obtain ⟨rfl, hx1, hx2⟩ := he
      clear hx1 hx2
      obtain ⟨c0, c1⟩ := lnC_at (hj k hkl)
      obtain ⟨x, hx⟩ : ∃ x, x = s[k] := ⟨_, rfl⟩
      rw [← hx] at c0 c1
      have HS : Hid (C = if x.f < 0 ∨ len < x.t then 3 else if x.t ≤ x.f ∨ x.f ≤ A then 1 else lnG len x.t (s.drop (k + 1))) := by
        unfold Hid; rw [← hR.out.1, lnG_step hkl, hx]
      have HB : Hid (Below w1.heap.size w1 wr) := hR.out.2
      clear hx hR hj
      have b0 : (0 : Int) ≤ (k : Int) := by omega
      have b1 : (k : Int) < (n : Int) := by omega
      by_cases q1 : x.f < 0
      · have HE : Hid (C = 3) := by unfold Hid; rw [HS.out, if_pos (Or.inl q1)]
        go_wp2
        go_returns
        exact ⟨by rw [HE.out]; rfl, by have := HB.out; have hz := HB.out.size; (repeat' (first | (with_reducible exact Below.refl _ _) | (with_reducible assumption) | (with_reducible refine Below.setCell ?_ ?_ _) | (with_reducible refine Below.alloc ?_ ?_ _) | (with_reducible refine below_drewN ?_ _) | (with_reducible refine Below.drew ?_) | (with_reducible exact Nat.le_refl _) | omega | (simp; done) | (simp; omega)))⟩
      by_cases q2 : len < x.t
      · have HE : Hid (C = 3) := by unfold Hid; rw [HS.out, if_pos (Or.inr q2)]
        go_wp2
        go_returns
        exact ⟨by rw [HE.out]; rfl, by have := HB.out; have hz := HB.out.size; (repeat' (first | (with_reducible exact Below.refl _ _) | (with_reducible assumption) | (with_reducible refine Below.setCell ?_ ?_ _) | (with_reducible refine Below.alloc ?_ ?_ _) | (with_reducible refine below_drewN ?_ _) | (with_reducible refine Below.drew ?_) | (with_reducible exact Nat.le_refl _) | omega | (simp; done) | (simp; omega)))⟩
      by_cases q3 : x.t ≤ x.f
      · have HE : Hid (C = 1) := by unfold Hid; rw [HS.out, if_neg (by omega), if_pos (Or.inl q3)]
        go_wp2
        go_returns
        exact ⟨by rw [HE.out]; rfl, by have := HB.out; have hz := HB.out.size; (repeat' (first | (with_reducible exact Below.refl _ _) | (with_reducible assumption) | (with_reducible refine Below.setCell ?_ ?_ _) | (with_reducible refine Below.alloc ?_ ?_ _) | (with_reducible refine below_drewN ?_ _) | (with_reducible refine Below.drew ?_) | (with_reducible exact Nat.le_refl _) | omega | (simp; done) | (simp; omega)))⟩
      by_cases q4 : x.f ≤ A
      · have HE : Hid (C = 1) := by unfold Hid; rw [HS.out, if_neg (by omega), if_pos (Or.inr q4)]
        go_wp2
        go_returns
        exact ⟨by rw [HE.out]; rfl, by have := HB.out; have hz := HB.out.size; (repeat' (first | (with_reducible exact Below.refl _ _) | (with_reducible assumption) | (with_reducible refine Below.setCell ?_ ?_ _) | (with_reducible refine Below.alloc ?_ ?_ _) | (with_reducible refine below_drewN ?_ _) | (with_reducible refine Below.drew ?_) | (with_reducible exact Nat.le_refl _) | omega | (simp; done) | (simp; omega)))⟩
      have HM : Hid (lnG len x.t (s.drop (k + 1)) = C) := by unfold Hid; rw [HS.out, if_neg (by omega), if_neg (by omega)]
      go_wp2
      go_roundw
      case rel => exact ⟨k + 1, x.t, by omega, by go_num, rfl, HM.out, by have := HB.out; have hz := HB.out.size; (repeat' (first | (with_reducible exact Below.refl _ _) | (with_reducible assumption) | (with_reducible refine Below.setCell ?_ ?_ _) | (with_reducible refine Below.alloc ?_ ?_ _) | (with_reducible refine below_drewN ?_ _) | (with_reducible refine Below.drew ?_) | (with_reducible exact Nat.le_refl _) | omega | (simp; done) | (simp; omega)))⟩
      case measure => simp [intOf]; omega
    · have e : Hid (C = 0) := by
        unfold Hid
        rw [← hR.out.1, List.drop_eq_nil_of_le (by rw [← H.out.2.1]; omega)]
        rfl
      have HB : Hid (Below w1.heap.size w1 wr) := hR.out.2
      clear hR
      go_wp2
      go_returns
      exact ⟨by rw [e.out]; rfl, HB.out⟩

set_option maxRecDepth 10000 in
set_option maxHeartbeats 6400000 in
theorem spec_lf {w : World} {v : Value} {s : List Ln} (len : Int) (hn : s.length ≤ 1048576) (h : RG 2 lnC w v s) :
    Calls Try.prog 26 #[v, .int .i64 len] w fun e w' => e = .returned (.int .i64 (lnF s len)) ∧ Below w.heap.size w w' := by
  obtain ⟨a, c, rfl⟩ := h.form
  obtain ⟨n, hnn⟩ : ∃ n, n = s.length := ⟨_, rfl⟩
  obtain ⟨C, hC⟩ : ∃ C, C = lnF s len := ⟨_, rfl⟩
  rw [← hnn] at hn h ⊢
  rw [← hC]
  obtain ⟨r, hr⟩ : ∃ r, r = decide (1 ≤ len ∧ len ≤ 60) := ⟨_, rfl⟩
  have HIN : Hid (∀ W, Calls Try.prog 24 #[.int .i64 len, .int .i64 1, .int .i64 60] W fun e w' => e = .returned (.bool r) ∧ w' = W) := spec_ins len 1 60 r hr
  have H : Hid (RG 2 lnC w (.slice a n c) s ∧ n = s.length ∧ C = lnF s len ∧ r = decide (1 ≤ len ∧ len ≤ 60)) := ⟨h, hnn, hC, hr⟩
  clear h hnn hC hr
  go_enter Try.func26, Try.ntmps26
  go_wp2_with (fail)
  refine (HIN.out _).mono ?_
  rintro e w1 ⟨rfl, rfl⟩
  cases r with
  | false =>
    have HC : Hid (C = 1) := by unfold Hid; rw [H.out.2.2.1, lnF, if_neg (of_decide_eq_false H.out.2.2.2.symm)]
    go_wp2
    go_returns
    exact ⟨by rw [HC.out]; rfl, by (repeat' (first | (with_reducible exact Below.refl _ _) | (with_reducible assumption) | (with_reducible refine Below.setCell ?_ ?_ _) | (with_reducible refine Below.alloc ?_ ?_ _) | (with_reducible refine below_drewN ?_ _) | (with_reducible refine Below.drew ?_) | (with_reducible exact Nat.le_refl _) | omega | (simp; done) | (simp; omega)))⟩
  | true =>
  by_cases h8 : (12 : Int) < (n : Int)
  · have HC : Hid (C = 2) := by unfold Hid; rw [H.out.2.2.1, lnF, if_pos (of_decide_eq_true H.out.2.2.2.symm), if_pos (by rw [← H.out.2.1]; omega)]
    go_wp2
    go_returns
    exact ⟨by rw [HC.out]; rfl, by (repeat' (first | (with_reducible exact Below.refl _ _) | (with_reducible assumption) | (with_reducible refine Below.setCell ?_ ?_ _) | (with_reducible refine Below.alloc ?_ ?_ _) | (with_reducible refine below_drewN ?_ _) | (with_reducible refine Below.drew ?_) | (with_reducible exact Nat.le_refl _) | omega | (simp; done) | (simp; omega)))⟩
  have HC : Hid (C = lnG len (-1) s) := by unfold Hid; rw [H.out.2.2.1, lnF, if_pos (of_decide_eq_true H.out.2.2.2.symm), if_neg (by rw [← H.out.2.1]; omega)]
  go_wp2
  go_loopw [5] (fun i wr => ∃ k : Nat, k ≤ n ∧ i = .int .i64 k ∧ Hid ((∃ A, (k = 0 ∧ A = -1 ∨ ∃ hk : k - 1 < s.length, 0 < k ∧ A = s[k - 1].t) ∧ lnG len A (s.drop k) = C) ∧ Below w1.heap.size w1 wr)) (fun i _ => n - (intOf i).toNat)
  case atStart => exact ⟨0, Nat.zero_le _, rfl, ⟨-1, Or.inl ⟨rfl, rfl⟩, HC.out.symm⟩, Below.refl _ _⟩
  case round =>
    obtain ⟨k, hk, rfl, hR⟩ := hrel
    by_cases hlt : k < n
    · have hkl : k < s.length := by rw [← H.out.2.1]; exact hlt
      obtain ⟨g, o, c2, he, hg, hj⟩ := (H.out.1.below hR.out.2).pos (by omega)
      simp only [Value.slice.injEq] at he
      obtain ⟨rfl, hx1, hx2⟩ := he
      clear hx1 hx2
      obtain ⟨c0, c1⟩ := lnC_at (hj k hkl)
      obtain ⟨x, hx⟩ : ∃ x, x = s[k] := ⟨_, rfl⟩
      rw [← hx] at c0 c1
      obtain ⟨⟨A, hA, hG⟩, hbb⟩ := hR.out
      have HS : Hid (C = if x.f < 0 ∨ len < x.t then 3 else if x.t ≤ x.f ∨ x.f ≤ A then 1 else lnG len x.t (s.drop (k + 1))) := by
        unfold Hid; rw [← hG, lnG_step hkl, hx]
      have HB : Hid (Below w1.heap.size w1 wr) := hbb
      have HX : Hid (x = s[k]) := hx
      clear hx hR hbb hG
      have b0 : (0 : Int) ≤ (k : Int) := by omega
      have b1 : (k : Int) < (n : Int) := by omega
      by_cases q1 : x.f < 0
      · have HE : Hid (C = 3) := by unfold Hid; rw [HS.out, if_pos (Or.inl q1)]
        clear hj hA
        go_wp2
        go_returns
        exact ⟨by rw [HE.out]; rfl, by have := HB.out; have hz := HB.out.size; (repeat' (first | (with_reducible exact Below.refl _ _) | (with_reducible assumption) | (with_reducible refine Below.setCell ?_ ?_ _) | (with_reducible refine Below.alloc ?_ ?_ _) | (with_reducible refine below_drewN ?_ _) | (with_reducible refine Below.drew ?_) | (with_reducible exact Nat.le_refl _) | omega | (simp; done) | (simp; omega)))⟩
      by_cases q2 : len < x.t
      · have HE : Hid (C = 3) := by unfold Hid; rw [HS.out, if_pos (Or.inr q2)]
        clear hj hA
        go_wp2
        go_returns
        exact ⟨by rw [HE.out]; rfl, by have := HB.out; have hz := HB.out.size; (repeat' (first | (with_reducible exact Below.refl _ _) | (with_reducible assumption) | (with_reducible refine Below.setCell ?_ ?_ _) | (with_reducible refine Below.alloc ?_ ?_ _) | (with_reducible refine below_drewN ?_ _) | (with_reducible refine Below.drew ?_) | (with_reducible exact Nat.le_refl _) | omega | (simp; done) | (simp; omega)))⟩
      by_cases q3 : x.t ≤ x.f
      · have HE : Hid (C = 1) := by unfold Hid; rw [HS.out, if_neg (by omega), if_pos (Or.inl q3)]
        clear hj hA
        go_wp2
        go_quiet (fail)
        go_wp2
        go_returns
        exact ⟨by rw [HE.out]; rfl, by have := HB.out; have hz := HB.out.size; (repeat' (first | (with_reducible exact Below.refl _ _) | (with_reducible assumption) | (with_reducible refine Below.setCell ?_ ?_ _) | (with_reducible refine Below.alloc ?_ ?_ _) | (with_reducible refine below_drewN ?_ _) | (with_reducible refine Below.drew ?_) | (with_reducible exact Nat.le_refl _) | omega | (simp; done) | (simp; omega)))⟩
      rcases hA with ⟨hk0, hA0⟩ | ⟨hk1, hk2, hA1⟩
      · have HM : Hid (lnG len x.t (s.drop (k + 1)) = C) := by unfold Hid; rw [HS.out, if_neg (by omega), if_neg (by omega)]
        have q5 : ¬ (0 : Int) < (k : Int) := by omega
        have HK : Hid (k = 0) := hk0
        clear hj hk0 hA0
        have d3 : decide (x.t ≤ x.f) = false := by simpa using q3
        have d5 : decide (0 < k) = false := by have := HK.out; simp; omega
        go_wp2
        go_quiet (fail)
        go_wp2
        go_roundw
        case rel => exact ⟨k + 1, by omega, by go_num, ⟨x.t, Or.inr ⟨by omega, by omega, by rw [HX.out]; rfl⟩, HM.out⟩, by have := HB.out; have hz := HB.out.size; (repeat' (first | (with_reducible exact Below.refl _ _) | (with_reducible assumption) | (with_reducible refine Below.setCell ?_ ?_ _) | (with_reducible refine Below.alloc ?_ ?_ _) | (with_reducible refine below_drewN ?_ _) | (with_reducible refine Below.drew ?_) | (with_reducible exact Nat.le_refl _) | omega | (simp; done) | (simp; omega)))⟩
        case measure => simp [intOf]; omega
      · obtain ⟨e0, e1⟩ := lnC_at (hj (k - 1) hk1)
        rw [← hA1] at e1
        obtain ⟨kk, rfl⟩ : ∃ kk, k = kk + 1 := ⟨k - 1, by omega⟩
        have q5 : (0 : Int) < ((kk + 1 : Nat) : Int) := by omega
        have q6 : (((kk + 1 : Nat) : Int) - 1) = (kk : Int) := by omega
        simp only [Nat.add_sub_cancel] at e1
        clear hj e0 hA1
        have d3 : decide (x.t ≤ x.f) = false := by simpa using q3
        by_cases q4 : x.f ≤ A
        · have HE : Hid (C = 1) := by unfold Hid; rw [HS.out, if_neg (by omega), if_pos (Or.inr q4)]
          go_wp2
          go_quiet (fail)
          go_wp2
          go_returns
          exact ⟨by rw [HE.out]; rfl, by have := HB.out; have hz := HB.out.size; (repeat' (first | (with_reducible exact Below.refl _ _) | (with_reducible assumption) | (with_reducible refine Below.setCell ?_ ?_ _) | (with_reducible refine Below.alloc ?_ ?_ _) | (with_reducible refine below_drewN ?_ _) | (with_reducible refine Below.drew ?_) | (with_reducible exact Nat.le_refl _) | omega | (simp; done) | (simp; omega)))⟩
        · have HM : Hid (lnG len x.t (s.drop (kk + 1 + 1)) = C) := by unfold Hid; rw [HS.out, if_neg (by omega), if_neg (by omega)]
          have d4 : decide (x.f ≤ A) = false := by simpa using q4
          go_wp2
          go_quiet (fail)
          go_wp2
          go_roundw
          case rel => exact ⟨kk + 1 + 1, by omega, by go_num, ⟨x.t, Or.inr ⟨by omega, by omega, by rw [HX.out]; rfl⟩, HM.out⟩, by have := HB.out; have hz := HB.out.size; (repeat' (first | (with_reducible exact Below.refl _ _) | (with_reducible assumption) | (with_reducible refine Below.setCell ?_ ?_ _) | (with_reducible refine Below.alloc ?_ ?_ _) | (with_reducible refine below_drewN ?_ _) | (with_reducible refine Below.drew ?_) | (with_reducible exact Nat.le_refl _) | omega | (simp; done) | (simp; omega)))⟩
          case measure => simp [intOf]; omega
    · have e : Hid (C = 0) := by
        obtain ⟨A, _, hG⟩ := hR.out.1
        unfold Hid
        rw [← hG, List.drop_eq_nil_of_le (by rw [← H.out.2.1]; omega)]
        rfl
      have HB : Hid (Below w1.heap.size w1 wr) := hR.out.2
      clear hR
      go_wp2
      go_returns
      exact ⟨by rw [e.out]; rfl, HB.out⟩

end Go.Proofs.Ytfjcebgknpccbab
