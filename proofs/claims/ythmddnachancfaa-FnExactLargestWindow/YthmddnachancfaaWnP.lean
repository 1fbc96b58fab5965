/- Proved here: the fault of a pass map, of the program and of the model: pmC. -/
import Derived.Test.YthmddnachancfaaWnM
import Derived.Test.YthmddnachancfaaGfI
import Derived.Test.YthmddnachancfaaGfS
namespace Go.Proofs.Ythmddnachancfaa
open Go.RowKit
set_option linter.unusedVariables false
set_option linter.unusedSimpArgs false

set_option maxRecDepth 10000 in
set_option maxHeartbeats 3200000 in
theorem impl_pm {w : World} {v : Value} {ls : List (List Int)} (hn : SmR ls) (h : RdR w v ls) :
    Calls Try.prog 46 #[v] w fun e w' => e = .returned (.int .i64 (pmC ls)) ∧ w' = w := by
  obtain ⟨a, c, rfl⟩ := h.form
  obtain ⟨n, hnn⟩ : ∃ n, n = ls.length := ⟨_, rfl⟩
  obtain ⟨C, hC⟩ : ∃ C, C = gfC ls 1000000 := ⟨_, rfl⟩
  obtain ⟨R, hR⟩ : ∃ C, C = pmC ls := ⟨_, rfl⟩
  rw [← hnn] at h ⊢
  rw [← hR]
  have hn' : n ≤ 1048576 := by rw [hnn]; exact hn.len
  have HF : Hid (∀ W, Below w.heap.size w W → Calls Try.prog 38 #[.slice a n c] W fun e w' => e = .returned (.int .i64 C) ∧ w' = W) := fun W hW => by rw [hC]; exact impl_gf hn (h.below hW)
  have H : Hid (RdR w (.slice a n c) ls ∧ n = ls.length ∧ SmR ls ∧ R = if C = 0 then (if hiG ls = true then 1 else 0) else C) := ⟨h, hnn, hn, by rw [hR, hC]; rfl⟩
  clear h hn hC hR hnn
  go_enter Try.func46, Try.ntmps46
  go_wp2_with (fail)
  refine (HF.out _ (Below.refl _ _)).mono ?_
  rintro e w1 ⟨rfl, hw1⟩
  subst hw1
  clear HF
  by_cases hA0 : C = 0
  case neg =>
    have HV : Hid (R = C) := by unfold Hid; rw [H.out.2.2.2, if_neg hA0]
    have hA1 : (C != 0) = true := by simpa using hA0
    go_wp2
    go_returns
    exact ⟨by rw [HV.out]; rfl, rfl⟩
  have HV : Hid (R = if hiG ls = true then 1 else 0) := by unfold Hid; rw [H.out.2.2.2, if_pos hA0]
  subst hA0
  go_wp2
  go_loopw [15] (fun i wr => ∃ k : Nat, k ≤ n ∧ i = .int .i64 k ∧ wr = w1 ∧ Hid (hiG (ls.drop k) = hiG ls)) (fun i _ => n - (intOf i).toNat)
  case atStart => exact ⟨0, Nat.zero_le _, rfl, rfl, rfl⟩
  case round =>
    obtain ⟨k, hk, rfl, rfl, hR⟩ := hrel
    by_cases hlt : k < n
    · obtain ⟨g', o', ub, um, ud, rfl, hg', c0', hun', hrd'⟩ := H.out.1.at hlt
      have hum' : um ≤ 1048576 := by rw [hun']; exact H.out.2.2.1.row k
      have HS : Hid (hiG ls = (hiR (ls.getD k []) || hiG (ls.drop (k + 1)))) := by
        unfold Hid; rw [← hR.out, hiG_step (by rw [← H.out.2.1]; exact hlt)]
      obtain ⟨row, hrow⟩ : ∃ row, row = ls.getD k [] := ⟨_, rfl⟩
      rw [← hrow] at hun' hrd' HS
      have HD : Hid (RdI wr (.slice ub um ud) row ∧ um = row.length) := ⟨hrd', hun'⟩
      clear hun' hrd' hR hrow
      have b0 : (0 : Int) ≤ (k : Int) := by omega
      have b1 : (k : Int) < (n : Int) := by omega
      go_wp2
      obtain ⟨wy, hwy⟩ : ∃ x, x = wr := ⟨_, rfl⟩
      subst hwy
      go_loopw [21] (fun i wr => ∃ m : Nat, m ≤ um ∧ i = .int .i64 m ∧ wr = wy ∧ Hid (hiR (row.drop m) = hiR row)) (fun i _ => um - (intOf i).toNat)
      case atStart => exact ⟨0, Nat.zero_le _, rfl, rfl, rfl⟩
      case round =>
        obtain ⟨m, hm, rfl, rfl, hR2⟩ := hrel
        by_cases hlt2 : m < um
        · obtain ⟨g2, o2, rfl, hg2, d0⟩ := rd_at HD.out.1 hlt2
          obtain ⟨x, hx⟩ : ∃ x, x = row.getD m 0 := ⟨_, rfl⟩
          rw [← hx] at d0
          have HQ : Hid (hiR row = (decide (1 < x) || hiR (row.drop (m + 1)))) := by
            unfold Hid; rw [← hR2.out, hiR_step (by rw [← HD.out.2]; exact hlt2), ← hx]
          clear hx hR2
          have b2 : (0 : Int) ≤ (m : Int) := by omega
          have b3 : (m : Int) < (um : Int) := by omega
          by_cases hq : 1 < x
          · have HM : Hid (R = 1) := by unfold Hid; rw [HV.out, HS.out, HQ.out, decide_eq_true hq]; simp
            go_wp2
            go_returns
            exact ⟨by rw [HM.out]; rfl, rfl⟩
          · have HM : Hid (hiR (row.drop (m + 1)) = hiR row) := by unfold Hid; rw [HQ.out, decide_eq_false hq]; simp
            go_wp2
            go_roundw
            case rel => exact ⟨m + 1, by omega, by go_num, by first | rfl | trivial, HM.out⟩
            case measure => simp [intOf]; omega
        · have HI : Hid (hiR row = false) := by
            unfold Hid; rw [← hR2.out, List.drop_eq_nil_of_le (by rw [← HD.out.2]; omega)]; rfl
          have HN : Hid (hiG (ls.drop (k + 1)) = hiG ls) := by unfold Hid; rw [HS.out, HI.out]; simp
          clear hR2 HI
          go_wp2
          go_roundw
          case rel => exact ⟨k + 1, by omega, by go_num, by first | rfl | trivial, HN.out⟩
          case measure => simp [intOf]; omega
    · have HM : Hid (R = 0) := by
        unfold Hid; rw [HV.out, ← hR.out, List.drop_eq_nil_of_le (by rw [← H.out.2.1]; omega)]; rfl
      clear hR
      go_wp2
      go_returns
      exact ⟨by rw [HM.out]; rfl, rfl⟩

set_option maxHeartbeats 1600000 in
theorem spec_pm {w : World} {v : Value} {ls : List (List Int)} (hn : SmR ls) (h : RdR w v ls) :
    Calls Try.prog 45 #[v] w fun e w' => e = .returned (.int .i64 (pmC ls)) ∧ Below w.heap.size w w' := by
  obtain ⟨a, c, rfl⟩ := h.form
  obtain ⟨n, hnn⟩ : ∃ n, n = ls.length := ⟨_, rfl⟩
  obtain ⟨C, hC⟩ : ∃ C, C = gfC ls 1000000 := ⟨_, rfl⟩
  obtain ⟨D, hD⟩ : ∃ C, C = gfC ls 1 := ⟨_, rfl⟩
  obtain ⟨R, hR⟩ : ∃ C, C = pmC ls := ⟨_, rfl⟩
  rw [← hnn] at h ⊢
  rw [← hR]
  have HF : Hid (∀ W, Below w.heap.size w W → Calls Try.prog 32 #[.slice a n c] W fun e w' => e = .returned (.int .i64 C) ∧ Below W.heap.size W w') := fun W hW => by rw [hC]; exact spec_gf hn (h.below hW)
  have HF1 : Hid (∀ W, Below w.heap.size w W → Calls Try.prog 62 #[.slice a n c, .int .i64 1] W fun e w' => e = .returned (.int .i64 D) ∧ Below W.heap.size W w') := fun W hW => by rw [hD]; exact spec_l9Fault 1 hn (h.below hW)
  have H : Hid (R = if C = 0 then (if D = 0 then 0 else 1) else C) := by unfold Hid; rw [hR, hC, hD, pmC_spec]
  clear h hn hC hR hnn hD
  go_enter Try.func45, Try.ntmps45
  go_wp2_with (fail)
  refine (HF.out _ (Below.refl _ _)).mono ?_
  rintro e w1 ⟨rfl, hb1⟩
  have HB1 : Hid (Below w.heap.size w w1) := hb1
  clear HF hb1
  by_cases hA0 : C = 0
  case neg =>
    have HV : Hid (R = C) := by unfold Hid; rw [H.out, if_neg hA0]
    have hA1 : (C != 0) = true := by simpa using hA0
    go_wp2
    go_returns
    exact ⟨by rw [HV.out]; rfl, HB1.out⟩
  have HV : Hid (R = if D = 0 then 0 else 1) := by unfold Hid; rw [H.out, if_pos hA0]
  clear H
  subst hA0
  go_wp2_with (fail)
  refine (HF1.out _ HB1.out).mono ?_
  rintro e w2 ⟨rfl, hb2⟩
  have HB2 : Hid (Below w.heap.size w w2) := HB1.out.trans (hb2.mono HB1.out.size)
  clear HF1 hb2
  by_cases hD0 : D = 0
  · have HW : Hid (R = 0) := by unfold Hid; rw [HV.out, if_pos hD0]
    subst hD0
    go_wp2
    go_returns
    exact ⟨by rw [HW.out]; rfl, HB2.out⟩
  · have HW : Hid (R = 1) := by unfold Hid; rw [HV.out, if_neg hD0]
    have hD1 : (D != 0) = true := by simpa using hD0
    go_wp2
    go_returns
    exact ⟨by rw [HW.out]; rfl, HB2.out⟩

end Go.Proofs.Ythmddnachancfaa
