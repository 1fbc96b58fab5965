/- Proved here: may it be a fault, of the model. -/
import Derived.Test.YtbjdalcbdbphkaaRmF
import Derived.Test.YtbjdalcbdbphkaaCeQ
import Derived.Test.YtbjdalcbdbphkaaIns
import Derived.Test.YtbjdalcbdbphkaaUnd
namespace Go.Proofs.Ytbjdalcbdbphkaa
open Go.RowKit
set_option linter.unusedVariables false
set_option linter.unusedSimpArgs false

set_option maxRecDepth 10000 in
set_option maxHeartbeats 6400000 in
theorem spec_may (k c b v n : Int) (hn : 1 ≤ n ∧ n ≤ 12) (W : World) :
    Calls Try.prog 38 #[.agg #[.int .i64 k, .int .i64 c, .int .i64 b, .int .i64 v], .int .i64 n] W fun e w' => e = .returned (.bool (mayB k c b v n)) ∧ Below W.heap.size W w' := by
  obtain ⟨V, hV⟩ : ∃ V, V = W.alloc (.cells #[.int .i64 k, .int .i64 c, .int .i64 b, .int .i64 v] 31) := ⟨_, rfl⟩
  have HV : Hid (Below W.heap.size W V ∧ V.heap[W.heap.size]? = some (.cells #[.int .i64 k, .int .i64 c, .int .i64 b, .int .i64 v] 31)) := by rw [hV]; exact ⟨by (repeat' (first | (with_reducible exact Below.refl _ _) | (with_reducible assumption) | (with_reducible refine Below.setCell ?_ ?_ _) | (with_reducible refine Below.alloc ?_ ?_ _) | (with_reducible refine below_drewN ?_ _) | (with_reducible refine Below.drew ?_) | (with_reducible exact Nat.le_refl _) | omega | (simp; done) | (simp; omega))), heap_alloc_new _ _⟩
  have p0 : V.cell? ⟨W.heap.size, 0, none⟩ = some (.int .i64 k) := cellOfQ HV.out.2 0 rfl
  have p1 : V.cell? ⟨W.heap.size, 1, none⟩ = some (.int .i64 c) := cellOfQ HV.out.2 1 rfl
  have p2 : V.cell? ⟨W.heap.size, 2, none⟩ = some (.int .i64 b) := cellOfQ HV.out.2 2 rfl
  have p3 : V.cell? ⟨W.heap.size, 3, none⟩ = some (.int .i64 v) := cellOfQ HV.out.2 3 rfl
  have pl := ltOfQ HV.out.2
  obtain ⟨R, hR⟩ : ∃ R, R = mayB k c b v n := ⟨_, rfl⟩
  have HRR : Hid (R = mayB k c b v n) := hR
  have HR0 : Hid (R = if ¬ (0 ≤ c ∧ c ≤ n - 1) then false else if ¬ (0 ≤ v ∧ v ≤ 1) then false else if k = 0 then decide (c = 0 ∧ b = 0 ∧ v = 0) else if k = 1 then decide (b = 0) else if k = 2 ∨ k = 3 then decide (b = 0 ∧ v = 0) else if k = 4 ∨ k = 5 then decide ((0 ≤ b ∧ b ≤ n - 1) ∧ b ≠ c) else false) := hR
  have HI : Hid (∀ (x lo hi : Int) (q : Bool), q = decide (lo ≤ x ∧ x ≤ hi) → ∀ X, Calls Try.prog 37 #[.int .i64 x, .int .i64 lo, .int .i64 hi] X fun e w' => e = .returned (.bool q) ∧ w' = X) := fun x lo hi q hq X => spec_ins x lo hi q hq X
  rw [← hR]
  clear hR
  obtain ⟨qb, hqb⟩ : ∃ q, q = decide (0 ≤ b ∧ b ≤ n - 1) := ⟨_, rfl⟩
  have HIb : Hid (∀ X, Calls Try.prog 37 #[.int .i64 b, .int .i64 0, .int .i64 (n - 1)] X fun e w' => e = .returned (.bool qb) ∧ w' = X) := fun X => HI.out b 0 (n - 1) qb hqb X
  have HQB : Hid (qb = decide (0 ≤ b ∧ b ≤ n - 1)) := hqb
  clear hqb
  by_cases hk : 0 ≤ k ∧ k ≤ 5
  case neg =>
    have HIk : Hid (∀ X, Calls Try.prog 37 #[.int .i64 k, .int .i64 0, .int .i64 5] X fun e w' => e = .returned (.bool false) ∧ w' = X) := fun X => HI.out k 0 5 false (decide_eq_false hk).symm X
    have HN : Hid (R = false) := by unfold Hid; rw [HRR.out]; exact mayB_k hk
    clear HR0
    go_enter Try.func38, Try.ntmps38
    go_wp2_with (fail)
    rw [← hV]
    refine (HIk.out _).mono ?_
    rintro e w1 ⟨rfl, hw⟩
    subst w1
    go_wp2
    go_returns
    exact ⟨by rw [HN.out]; rfl, by first | exact HV.out.1 | (rw [← hV]; exact HV.out.1)⟩
  have HIk : Hid (∀ X, Calls Try.prog 37 #[.int .i64 k, .int .i64 0, .int .i64 5] X fun e w' => e = .returned (.bool true) ∧ w' = X) := fun X => HI.out k 0 5 true (decide_eq_true hk).symm X
  by_cases hc : 0 ≤ c ∧ c ≤ n - 1
  case neg =>
    have HIc : Hid (∀ X, Calls Try.prog 37 #[.int .i64 c, .int .i64 0, .int .i64 (n - 1)] X fun e w' => e = .returned (.bool false) ∧ w' = X) := fun X => HI.out c 0 (n - 1) false (decide_eq_false hc).symm X
    have HN : Hid (R = false) := by unfold Hid; rw [HR0.out, if_pos hc]
    clear HR0
    go_enter Try.func38, Try.ntmps38
    go_wp2_with (fail)
    rw [← hV]
    refine (HIk.out _).mono ?_
    rintro e w1 ⟨rfl, hw⟩
    subst w1
    go_wp2_with (fail)
    refine (HIc.out _).mono ?_
    rintro e w1 ⟨rfl, hw⟩
    subst w1
    go_wp2
    go_returns
    exact ⟨by rw [HN.out]; rfl, by first | exact HV.out.1 | (rw [← hV]; exact HV.out.1)⟩
  have HIc : Hid (∀ X, Calls Try.prog 37 #[.int .i64 c, .int .i64 0, .int .i64 (n - 1)] X fun e w' => e = .returned (.bool true) ∧ w' = X) := fun X => HI.out c 0 (n - 1) true (decide_eq_true hc).symm X
  by_cases hv : 0 ≤ v ∧ v ≤ 1
  case neg =>
    have HIv : Hid (∀ X, Calls Try.prog 37 #[.int .i64 v, .int .i64 0, .int .i64 1] X fun e w' => e = .returned (.bool false) ∧ w' = X) := fun X => HI.out v 0 1 false (decide_eq_false hv).symm X
    have HN : Hid (R = false) := by unfold Hid; rw [HR0.out, if_neg (fun e => e hc), if_pos hv]
    clear HR0
    go_enter Try.func38, Try.ntmps38
    go_wp2_with (fail)
    rw [← hV]
    refine (HIk.out _).mono ?_
    rintro e w1 ⟨rfl, hw⟩
    subst w1
    go_wp2_with (fail)
    refine (HIc.out _).mono ?_
    rintro e w1 ⟨rfl, hw⟩
    subst w1
    go_wp2_with (fail)
    refine (HIv.out _).mono ?_
    rintro e w1 ⟨rfl, hw⟩
    subst w1
    go_wp2
    go_returns
    exact ⟨by rw [HN.out]; rfl, by first | exact HV.out.1 | (rw [← hV]; exact HV.out.1)⟩
  have HIv : Hid (∀ X, Calls Try.prog 37 #[.int .i64 v, .int .i64 0, .int .i64 1] X fun e w' => e = .returned (.bool true) ∧ w' = X) := fun X => HI.out v 0 1 true (decide_eq_true hv).symm X
  have HR : Hid (R = if k = 0 then decide (c = 0 ∧ b = 0 ∧ v = 0) else if k = 1 then decide (b = 0) else if k = 2 ∨ k = 3 then decide (b = 0 ∧ v = 0) else if k = 4 ∨ k = 5 then decide ((0 ≤ b ∧ b ≤ n - 1) ∧ b ≠ c) else false) := by unfold Hid; rw [HR0.out, if_neg (fun e => e hc), if_neg (fun e => e hv)]
  have HcH : Hid ((0 ≤ c ∧ c ≤ n - 1) ∧ (0 ≤ v ∧ v ≤ 1)) := ⟨hc, hv⟩
  have hk2 := hk
  clear HR0 HRR hc hv hk
  by_cases e0 : k = 0
  · have HRa := HR.out
    rw [if_pos e0] at HRa
    have HR9 : Hid (R = decide (c = 0 ∧ b = 0 ∧ v = 0)) := HRa
    clear HRa HR
    have HR := HR9
    subst e0
    by_cases zc : c = 0
    case neg =>
      have zcb : (c == 0) = false := by simpa using zc
      have HN : Hid (R = false) := by unfold Hid; rw [HR9.out]; exact decide_eq_false (fun e => zc e.1)
      clear HR
      go_enter Try.func38, Try.ntmps38
      go_wp2_with (fail)
      rw [← hV]
      refine (HIk.out _).mono ?_
      rintro e w1 ⟨rfl, hw⟩
      subst w1
      go_wp2_with (fail)
      refine (HIc.out _).mono ?_
      rintro e w1 ⟨rfl, hw⟩
      subst w1
      go_wp2_with (fail)
      refine (HIv.out _).mono ?_
      rintro e w1 ⟨rfl, hw⟩
      subst w1
      go_wp2
      go_returns
      exact ⟨by rw [HN.out]; rfl, by first | exact HV.out.1 | (rw [← hV]; exact HV.out.1)⟩
    subst zc
    by_cases zb : b = 0
    case neg =>
      have zbb : (b == 0) = false := by simpa using zb
      have HN : Hid (R = false) := by unfold Hid; rw [HR9.out]; exact decide_eq_false (fun e => zb e.2.1)
      clear HR
      go_enter Try.func38, Try.ntmps38
      go_wp2_with (fail)
      rw [← hV]
      refine (HIk.out _).mono ?_
      rintro e w1 ⟨rfl, hw⟩
      subst w1
      go_wp2_with (fail)
      refine (HIc.out _).mono ?_
      rintro e w1 ⟨rfl, hw⟩
      subst w1
      go_wp2_with (fail)
      refine (HIv.out _).mono ?_
      rintro e w1 ⟨rfl, hw⟩
      subst w1
      go_wp2
      go_returns
      exact ⟨by rw [HN.out]; rfl, by first | exact HV.out.1 | (rw [← hV]; exact HV.out.1)⟩
    subst zb
    by_cases zv : v = 0
    case neg =>
      have zvb : (v == 0) = false := by simpa using zv
      have HN : Hid (R = false) := by unfold Hid; rw [HR9.out]; exact decide_eq_false (fun e => zv e.2.2)
      clear HR
      go_enter Try.func38, Try.ntmps38
      go_wp2_with (fail)
      rw [← hV]
      refine (HIk.out _).mono ?_
      rintro e w1 ⟨rfl, hw⟩
      subst w1
      go_wp2_with (fail)
      refine (HIc.out _).mono ?_
      rintro e w1 ⟨rfl, hw⟩
      subst w1
      go_wp2_with (fail)
      refine (HIv.out _).mono ?_
      rintro e w1 ⟨rfl, hw⟩
      subst w1
      go_wp2
      go_returns
      exact ⟨by rw [HN.out]; rfl, by first | exact HV.out.1 | (rw [← hV]; exact HV.out.1)⟩
    subst zv
    have HN : Hid (R = true) := by unfold Hid; rw [HR9.out]; exact decide_eq_true ⟨rfl, rfl, rfl⟩
    clear HR
    go_enter Try.func38, Try.ntmps38
    go_wp2_with (fail)
    rw [← hV]
    refine (HIk.out _).mono ?_
    rintro e w1 ⟨rfl, hw⟩
    subst w1
    go_wp2_with (fail)
    refine (HIc.out _).mono ?_
    rintro e w1 ⟨rfl, hw⟩
    subst w1
    go_wp2_with (fail)
    refine (HIv.out _).mono ?_
    rintro e w1 ⟨rfl, hw⟩
    subst w1
    go_wp2
    go_returns
    exact ⟨by rw [HN.out]; rfl, by first | exact HV.out.1 | (rw [← hV]; exact HV.out.1)⟩

  have f0 : (k == 0) = false := by simpa using e0
  by_cases e1 : k = 1
  · have HR9 : Hid (R = decide (b = 0)) := by unfold Hid; rw [HR.out, if_neg e0, if_pos e1]
    clear HR f0 e0
    have HR := HR9
    subst e1
    by_cases zb : b = 0
    case neg =>
      have zbb : (b == 0) = false := by simpa using zb
      have HN : Hid (R = false) := by unfold Hid; rw [HR9.out]; exact decide_eq_false (fun e => zb e)
      clear HR
      go_enter Try.func38, Try.ntmps38
      go_wp2_with (fail)
      rw [← hV]
      refine (HIk.out _).mono ?_
      rintro e w1 ⟨rfl, hw⟩
      subst w1
      go_wp2_with (fail)
      refine (HIc.out _).mono ?_
      rintro e w1 ⟨rfl, hw⟩
      subst w1
      go_wp2_with (fail)
      refine (HIv.out _).mono ?_
      rintro e w1 ⟨rfl, hw⟩
      subst w1
      go_wp2
      go_returns
      exact ⟨by rw [HN.out]; rfl, by first | exact HV.out.1 | (rw [← hV]; exact HV.out.1)⟩
    subst zb
    have HN : Hid (R = true) := by unfold Hid; rw [HR9.out]; exact decide_eq_true rfl
    clear HR
    go_enter Try.func38, Try.ntmps38
    go_wp2_with (fail)
    rw [← hV]
    refine (HIk.out _).mono ?_
    rintro e w1 ⟨rfl, hw⟩
    subst w1
    go_wp2_with (fail)
    refine (HIc.out _).mono ?_
    rintro e w1 ⟨rfl, hw⟩
    subst w1
    go_wp2_with (fail)
    refine (HIv.out _).mono ?_
    rintro e w1 ⟨rfl, hw⟩
    subst w1
    go_wp2
    go_returns
    exact ⟨by rw [HN.out]; rfl, by first | exact HV.out.1 | (rw [← hV]; exact HV.out.1)⟩

  have f1 : (k == 1) = false := by simpa using e1
  by_cases e2 : k = 2
  · have HR9 : Hid (R = decide (b = 0 ∧ v = 0)) := by unfold Hid; rw [HR.out, if_neg e0, if_neg e1, if_pos (Or.inl e2)]
    clear HR f0 e0 f1 e1
    have HR := HR9
    subst e2
    by_cases zb : b = 0
    case neg =>
      have zbb : (b == 0) = false := by simpa using zb
      have HN : Hid (R = false) := by unfold Hid; rw [HR9.out]; exact decide_eq_false (fun e => zb e.1)
      clear HR
      go_enter Try.func38, Try.ntmps38
      go_wp2_with (fail)
      rw [← hV]
      refine (HIk.out _).mono ?_
      rintro e w1 ⟨rfl, hw⟩
      subst w1
      go_wp2_with (fail)
      refine (HIc.out _).mono ?_
      rintro e w1 ⟨rfl, hw⟩
      subst w1
      go_wp2_with (fail)
      refine (HIv.out _).mono ?_
      rintro e w1 ⟨rfl, hw⟩
      subst w1
      go_wp2
      go_returns
      exact ⟨by rw [HN.out]; rfl, by first | exact HV.out.1 | (rw [← hV]; exact HV.out.1)⟩
    subst zb
    by_cases zv : v = 0
    case neg =>
      have zvb : (v == 0) = false := by simpa using zv
      have HN : Hid (R = false) := by unfold Hid; rw [HR9.out]; exact decide_eq_false (fun e => zv e.2)
      clear HR
      go_enter Try.func38, Try.ntmps38
      go_wp2_with (fail)
      rw [← hV]
      refine (HIk.out _).mono ?_
      rintro e w1 ⟨rfl, hw⟩
      subst w1
      go_wp2_with (fail)
      refine (HIc.out _).mono ?_
      rintro e w1 ⟨rfl, hw⟩
      subst w1
      go_wp2_with (fail)
      refine (HIv.out _).mono ?_
      rintro e w1 ⟨rfl, hw⟩
      subst w1
      go_wp2
      go_returns
      exact ⟨by rw [HN.out]; rfl, by first | exact HV.out.1 | (rw [← hV]; exact HV.out.1)⟩
    subst zv
    have HN : Hid (R = true) := by unfold Hid; rw [HR9.out]; exact decide_eq_true ⟨rfl, rfl⟩
    clear HR
    go_enter Try.func38, Try.ntmps38
    go_wp2_with (fail)
    rw [← hV]
    refine (HIk.out _).mono ?_
    rintro e w1 ⟨rfl, hw⟩
    subst w1
    go_wp2_with (fail)
    refine (HIc.out _).mono ?_
    rintro e w1 ⟨rfl, hw⟩
    subst w1
    go_wp2_with (fail)
    refine (HIv.out _).mono ?_
    rintro e w1 ⟨rfl, hw⟩
    subst w1
    go_wp2
    go_returns
    exact ⟨by rw [HN.out]; rfl, by first | exact HV.out.1 | (rw [← hV]; exact HV.out.1)⟩

  have f2 : (k == 2) = false := by simpa using e2
  by_cases e3 : k = 3
  · have HR9 : Hid (R = decide (b = 0 ∧ v = 0)) := by unfold Hid; rw [HR.out, if_neg e0, if_neg e1, if_pos (Or.inr e3)]
    clear HR f0 e0 f1 e1 f2 e2
    have HR := HR9
    subst e3
    by_cases zb : b = 0
    case neg =>
      have zbb : (b == 0) = false := by simpa using zb
      have HN : Hid (R = false) := by unfold Hid; rw [HR9.out]; exact decide_eq_false (fun e => zb e.1)
      clear HR
      go_enter Try.func38, Try.ntmps38
      go_wp2_with (fail)
      rw [← hV]
      refine (HIk.out _).mono ?_
      rintro e w1 ⟨rfl, hw⟩
      subst w1
      go_wp2_with (fail)
      refine (HIc.out _).mono ?_
      rintro e w1 ⟨rfl, hw⟩
      subst w1
      go_wp2_with (fail)
      refine (HIv.out _).mono ?_
      rintro e w1 ⟨rfl, hw⟩
      subst w1
      go_wp2
      go_returns
      exact ⟨by rw [HN.out]; rfl, by first | exact HV.out.1 | (rw [← hV]; exact HV.out.1)⟩
    subst zb
    by_cases zv : v = 0
    case neg =>
      have zvb : (v == 0) = false := by simpa using zv
      have HN : Hid (R = false) := by unfold Hid; rw [HR9.out]; exact decide_eq_false (fun e => zv e.2)
      clear HR
      go_enter Try.func38, Try.ntmps38
      go_wp2_with (fail)
      rw [← hV]
      refine (HIk.out _).mono ?_
      rintro e w1 ⟨rfl, hw⟩
      subst w1
      go_wp2_with (fail)
      refine (HIc.out _).mono ?_
      rintro e w1 ⟨rfl, hw⟩
      subst w1
      go_wp2_with (fail)
      refine (HIv.out _).mono ?_
      rintro e w1 ⟨rfl, hw⟩
      subst w1
      go_wp2
      go_returns
      exact ⟨by rw [HN.out]; rfl, by first | exact HV.out.1 | (rw [← hV]; exact HV.out.1)⟩
    subst zv
    have HN : Hid (R = true) := by unfold Hid; rw [HR9.out]; exact decide_eq_true ⟨rfl, rfl⟩
    clear HR
    go_enter Try.func38, Try.ntmps38
    go_wp2_with (fail)
    rw [← hV]
    refine (HIk.out _).mono ?_
    rintro e w1 ⟨rfl, hw⟩
    subst w1
    go_wp2_with (fail)
    refine (HIc.out _).mono ?_
    rintro e w1 ⟨rfl, hw⟩
    subst w1
    go_wp2_with (fail)
    refine (HIv.out _).mono ?_
    rintro e w1 ⟨rfl, hw⟩
    subst w1
    go_wp2
    go_returns
    exact ⟨by rw [HN.out]; rfl, by first | exact HV.out.1 | (rw [← hV]; exact HV.out.1)⟩

  have f3 : (k == 3) = false := by simpa using e3
  by_cases e4 : k = 4
  · have HR9 : Hid (R = decide ((0 ≤ b ∧ b ≤ n - 1) ∧ b ≠ c)) := by unfold Hid; rw [HR.out, if_neg e0, if_neg e1, if_neg (by omega), if_pos (Or.inl e4)]
    clear HR f0 e0 f1 e1 f2 e2 f3 e3
    cases qb
    case false =>
      have HN : Hid (R = false) := by unfold Hid; rw [HR9.out]; exact decide_eq_false (fun e => of_decide_eq_false HQB.out.symm e.1)
      clear HR9
      subst e4
      go_enter Try.func38, Try.ntmps38
      go_wp2_with (fail)
      rw [← hV]
      refine (HIk.out _).mono ?_
      rintro e w1 ⟨rfl, hw⟩
      subst w1
      go_wp2_with (fail)
      refine (HIc.out _).mono ?_
      rintro e w1 ⟨rfl, hw⟩
      subst w1
      go_wp2_with (fail)
      refine (HIv.out _).mono ?_
      rintro e w1 ⟨rfl, hw⟩
      subst w1
      go_wp2_with (fail)
      refine (HIb.out _).mono ?_
      rintro e w1 ⟨rfl, hw⟩
      subst w1
      go_wp2
      go_returns
      exact ⟨by rw [HN.out]; rfl, by first | exact HV.out.1 | (rw [← hV]; exact HV.out.1)⟩
    by_cases hbc : b = c
    · have HN : Hid (R = false) := by unfold Hid; rw [HR9.out]; exact decide_eq_false (fun e => e.2 hbc)
      clear HR9
      subst e4
      subst hbc
      go_enter Try.func38, Try.ntmps38
      go_wp2_with (fail)
      rw [← hV]
      refine (HIk.out _).mono ?_
      rintro e w1 ⟨rfl, hw⟩
      subst w1
      go_wp2_with (fail)
      refine (HIc.out _).mono ?_
      rintro e w1 ⟨rfl, hw⟩
      subst w1
      go_wp2_with (fail)
      refine (HIv.out _).mono ?_
      rintro e w1 ⟨rfl, hw⟩
      subst w1
      go_wp2_with (fail)
      refine (HIb.out _).mono ?_
      rintro e w1 ⟨rfl, hw⟩
      subst w1
      go_wp2
      go_returns
      exact ⟨by rw [HN.out]; rfl, by first | exact HV.out.1 | (rw [← hV]; exact HV.out.1)⟩
    · have HN : Hid (R = true) := by unfold Hid; rw [HR9.out]; exact decide_eq_true ⟨of_decide_eq_true HQB.out.symm, hbc⟩
      have hbcb : (b != c) = true := by simpa using hbc
      clear HR9
      subst e4
      go_enter Try.func38, Try.ntmps38
      go_wp2_with (fail)
      rw [← hV]
      refine (HIk.out _).mono ?_
      rintro e w1 ⟨rfl, hw⟩
      subst w1
      go_wp2_with (fail)
      refine (HIc.out _).mono ?_
      rintro e w1 ⟨rfl, hw⟩
      subst w1
      go_wp2_with (fail)
      refine (HIv.out _).mono ?_
      rintro e w1 ⟨rfl, hw⟩
      subst w1
      go_wp2_with (fail)
      refine (HIb.out _).mono ?_
      rintro e w1 ⟨rfl, hw⟩
      subst w1
      go_wp2
      go_returns
      exact ⟨by rw [HN.out]; rfl, by first | exact HV.out.1 | (rw [← hV]; exact HV.out.1)⟩
  have f4 : (k == 4) = false := by simpa using e4
  by_cases e5 : k = 5
  · have HR9 : Hid (R = decide ((0 ≤ b ∧ b ≤ n - 1) ∧ b ≠ c)) := by unfold Hid; rw [HR.out, if_neg e0, if_neg e1, if_neg (by omega), if_pos (Or.inr e5)]
    clear HR f0 e0 f1 e1 f2 e2 f3 e3 f4 e4
    cases qb
    case false =>
      have HN : Hid (R = false) := by unfold Hid; rw [HR9.out]; exact decide_eq_false (fun e => of_decide_eq_false HQB.out.symm e.1)
      clear HR9
      subst e5
      go_enter Try.func38, Try.ntmps38
      go_wp2_with (fail)
      rw [← hV]
      refine (HIk.out _).mono ?_
      rintro e w1 ⟨rfl, hw⟩
      subst w1
      go_wp2_with (fail)
      refine (HIc.out _).mono ?_
      rintro e w1 ⟨rfl, hw⟩
      subst w1
      go_wp2_with (fail)
      refine (HIv.out _).mono ?_
      rintro e w1 ⟨rfl, hw⟩
      subst w1
      go_wp2_with (fail)
      refine (HIb.out _).mono ?_
      rintro e w1 ⟨rfl, hw⟩
      subst w1
      go_wp2
      go_returns
      exact ⟨by rw [HN.out]; rfl, by first | exact HV.out.1 | (rw [← hV]; exact HV.out.1)⟩
    by_cases hbc : b = c
    · have HN : Hid (R = false) := by unfold Hid; rw [HR9.out]; exact decide_eq_false (fun e => e.2 hbc)
      clear HR9
      subst e5
      subst hbc
      go_enter Try.func38, Try.ntmps38
      go_wp2_with (fail)
      rw [← hV]
      refine (HIk.out _).mono ?_
      rintro e w1 ⟨rfl, hw⟩
      subst w1
      go_wp2_with (fail)
      refine (HIc.out _).mono ?_
      rintro e w1 ⟨rfl, hw⟩
      subst w1
      go_wp2_with (fail)
      refine (HIv.out _).mono ?_
      rintro e w1 ⟨rfl, hw⟩
      subst w1
      go_wp2_with (fail)
      refine (HIb.out _).mono ?_
      rintro e w1 ⟨rfl, hw⟩
      subst w1
      go_wp2
      go_returns
      exact ⟨by rw [HN.out]; rfl, by first | exact HV.out.1 | (rw [← hV]; exact HV.out.1)⟩
    · have HN : Hid (R = true) := by unfold Hid; rw [HR9.out]; exact decide_eq_true ⟨of_decide_eq_true HQB.out.symm, hbc⟩
      have hbcb : (b != c) = true := by simpa using hbc
      clear HR9
      subst e5
      go_enter Try.func38, Try.ntmps38
      go_wp2_with (fail)
      rw [← hV]
      refine (HIk.out _).mono ?_
      rintro e w1 ⟨rfl, hw⟩
      subst w1
      go_wp2_with (fail)
      refine (HIc.out _).mono ?_
      rintro e w1 ⟨rfl, hw⟩
      subst w1
      go_wp2_with (fail)
      refine (HIv.out _).mono ?_
      rintro e w1 ⟨rfl, hw⟩
      subst w1
      go_wp2_with (fail)
      refine (HIb.out _).mono ?_
      rintro e w1 ⟨rfl, hw⟩
      subst w1
      go_wp2
      go_returns
      exact ⟨by rw [HN.out]; rfl, by first | exact HV.out.1 | (rw [← hV]; exact HV.out.1)⟩
  have f5 : (k == 5) = false := by simpa using e5
  have HN : Hid (R = false) := by unfold Hid; rw [HR.out, if_neg e0, if_neg e1, if_neg (by omega), if_neg (by omega)]
  clear HR
  exfalso
  omega

end Go.Proofs.Ytbjdalcbdbphkaa
