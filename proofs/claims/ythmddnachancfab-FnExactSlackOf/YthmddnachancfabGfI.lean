/- Proved here: the faults of a grid, of the program: gfC. -/
import Derived.Test.YthmddnachancfabGrB
import Derived.Test.YthmddnachancfabInsC
import Derived.Test.YthmddnachancfabGfM
namespace Go.Proofs.Ythmddnachancfab
open Go.RowKit
set_option linter.unusedVariables false
set_option linter.unusedSimpArgs false

set_option maxHeartbeats 800000 in
theorem impl_longRow (a : Option Addr) (n c : Nat) (hn : n ≤ 1048576) (w : World) : Calls Try.prog 42 #[.slice a n c] w fun e w' => e = .returned (.bool (decide (16 < n))) ∧ w' = w := by
  by_cases h : (16 : Int) < (n : Int)
  · rw [decide_eq_true (show 16 < n by omega)]
    go_enter Try.func42, Try.ntmps42
    go_wp2
    go_returns
    exact ⟨rfl, rfl⟩
  · rw [decide_eq_false (show ¬ 16 < n by omega)]
    go_enter Try.func42, Try.ntmps42
    go_wp2
    go_returns
    exact ⟨rfl, rfl⟩

set_option maxRecDepth 10000 in
set_option maxHeartbeats 3200000 in
theorem impl_indexLong {w : World} {v : Value} {ls : List (List Int)} (hn : SmR ls) (h : RdR w v ls) :
    Calls Try.prog 44 #[v, .func (Fn.func 42) #[] #[]] w fun e w' => ∃ r : Int, e = .returned (.int .i64 r) ∧ decide (0 ≤ r) = lgG ls ∧ w' = w := by
  obtain ⟨a, c, rfl⟩ := h.form
  obtain ⟨n, hnn⟩ : ∃ n, n = ls.length := ⟨_, rfl⟩
  rw [← hnn] at h ⊢
  have hn' : n ≤ 1048576 := by rw [hnn]; exact hn.len
  have H : Hid (RdR w (.slice a n c) ls ∧ n = ls.length ∧ SmR ls) := ⟨h, hnn, hn⟩
  clear h hnn hn
  go_enter Try.func44, Try.ntmps44
  go_wp2
  go_loopw [8] (fun i wr => ∃ k : Nat, k ≤ n ∧ i = .int .i64 k ∧ wr = w ∧ Hid (lgG (ls.drop k) = lgG ls)) (fun i _ => n - (intOf i).toNat)
  case atStart => exact ⟨0, Nat.zero_le _, rfl, rfl, rfl⟩
  case round =>
    obtain ⟨k, hk, rfl, rfl, hR⟩ := hrel
    by_cases hlt : k < n
    · obtain ⟨g, o, ua, un, uc, rfl, hg, c0, hun, hrd⟩ := H.out.1.at hlt
      have hum : un ≤ 1048576 := by rw [hun]; exact H.out.2.2.row k
      obtain ⟨q, hq⟩ : ∃ q, q = decide (16 < un) := ⟨_, rfl⟩
      have HQ : Hid (lgG ls = (q || lgG (ls.drop (k + 1)))) := by
        unfold Hid; rw [← hR.out, lgG_step (by rw [← H.out.2.1]; exact hlt), ← hun, hq]
      have HC : Hid (∀ W, Calls Try.prog 42 #[.slice ua un uc] W fun e w' => e = .returned (.bool q) ∧ w' = W) := fun W => by rw [hq]; exact impl_longRow ua un uc hum W
      clear hrd hun hq hum hR
      have b0 : (0 : Int) ≤ (k : Int) := by omega
      have b1 : (k : Int) < (n : Int) := by omega
      go_wp2_with (fail)
      refine (HC.out _).mono ?_
      rintro e w5 ⟨rfl, rfl⟩
      clear HC
      cases q with
      | true =>
        have HM : Hid (lgG ls = true) := by unfold Hid; rw [HQ.out]; rfl
        go_wp2
        go_returns
        exact ⟨(k : Int), rfl, by rw [HM.out, decide_eq_true b0], rfl⟩
      | false =>
        have HM : Hid (lgG (ls.drop (k + 1)) = lgG ls) := by unfold Hid; rw [HQ.out]; rfl
        go_wp2
        go_roundw
        case rel => exact ⟨k + 1, by omega, by go_num, by first | rfl | trivial, HM.out⟩
        case measure => simp [intOf]; omega
    · have HM : Hid (lgG ls = false) := by
        unfold Hid; rw [← hR.out, List.drop_eq_nil_of_le (by rw [← H.out.2.1]; omega)]; rfl
      clear hR
      go_wp2
      go_returns
      exact ⟨-1, rfl, by rw [HM.out]; rfl, rfl⟩

set_option maxHeartbeats 1600000 in
theorem impl_anyLong {w : World} {v : Value} {ls : List (List Int)} (hn : SmR ls) (h : RdR w v ls) :
    Calls Try.prog 41 #[v, .func (Fn.func 42) #[] #[]] w fun e w' => e = .returned (.bool (lgG ls)) ∧ w' = w := by
  obtain ⟨a, c, rfl⟩ := h.form
  obtain ⟨n, hnn⟩ : ∃ n, n = ls.length := ⟨_, rfl⟩
  rw [← hnn] at h ⊢
  have HC : Hid (Calls Try.prog 44 #[.slice a n c, .func (Fn.func 42) #[] #[]] w fun e w' => ∃ r : Int, e = .returned (.int .i64 r) ∧ decide (0 ≤ r) = lgG ls ∧ w' = w) := impl_indexLong hn h
  obtain ⟨B, hB⟩ : ∃ B, B = lgG ls := ⟨_, rfl⟩
  rw [← hB] at HC ⊢
  clear h hnn hn hB
  go_enter Try.func41, Try.ntmps41
  go_wp2_with (fail)
  refine HC.out.mono ?_
  rintro e w5 ⟨r, rfl, hr, rfl⟩
  have HR : Hid (decide (0 ≤ r) = B) := hr
  clear HC hr
  go_wp2
  go_returns
  exact ⟨by rw [← HR.out]; rfl, rfl⟩

set_option maxRecDepth 10000 in
set_option maxHeartbeats 6400000 in
theorem impl_gridFault (M : Int) {w : World} {v : Value} {ls : List (List Int)} (hn : SmR ls) (h : RdR w v ls) :
    Calls Try.prog 38 #[v, .int .i64 M] w fun e w' => e = .returned (.int .i64 (gfC ls M)) ∧ w' = w := by
  obtain ⟨a, c, rfl⟩ := h.form
  obtain ⟨n, hnn⟩ : ∃ n, n = ls.length := ⟨_, rfl⟩
  obtain ⟨C, hC⟩ : ∃ C, C = gfC ls M := ⟨_, rfl⟩
  rw [← hnn] at h ⊢
  rw [← hC]
  have hn' : n ≤ 1048576 := by rw [hnn]; exact hn.len
  have H : Hid (RdR w (.slice a n c) ls ∧ n = ls.length ∧ SmR ls ∧ C = gfC ls M) := ⟨h, hnn, hn, hC⟩
  clear h hnn hn hC
  rcases Nat.eq_zero_or_pos n with h0 | h0
  · have HC : Hid (C = 1) := by unfold Hid; rw [H.out.2.2.2, gfC, if_pos (by rw [← H.out.2.1]; exact h0)]
    clear H
    subst h0
    go_enter Try.func38, Try.ntmps38
    go_wp2
    go_returns
    exact ⟨by rw [HC.out]; rfl, rfl⟩
  have h01 : ¬ (n : Int) = 0 := by omega
  have h02 : ¬ n = 0 := by omega
  have h03 : (0 : Int) < (n : Int) := by omega
  obtain ⟨g, o, ua, un, uc, rfl, hg, c0, hun, hrd⟩ := H.out.1.at h0
  have hum : un ≤ 1048576 := by rw [hun]; exact H.out.2.2.1.row 0
  simp only [Nat.add_zero] at c0
  have HU : Hid (un = (ls.getD 0 []).length) := hun
  clear hun hrd
  by_cases hu0 : un = 0
  · have HC : Hid (C = 1) := by unfold Hid; rw [H.out.2.2.2, gfC, if_neg (by rw [← H.out.2.1]; omega), if_pos (by rw [← HU.out]; exact hu0)]
    subst hu0
    go_enter Try.func38, Try.ntmps38
    go_wp2
    go_returns
    exact ⟨by rw [HC.out]; rfl, rfl⟩
  have hu1 : ¬ (un : Int) = 0 := by omega
  have hq1 : ((n : Int) == 0) = false := by simpa using h01
  have hq2 : ((un : Int) == 0) = false := by simpa using hu1
  by_cases h16 : (16 : Int) < (n : Int)
  · have HC : Hid (C = 2) := by unfold Hid; rw [H.out.2.2.2, gfC, if_neg (by rw [← H.out.2.1]; omega), if_neg (by rw [← HU.out]; exact hu0), if_pos (by rw [← H.out.2.1]; omega)]
    go_enter Try.func38, Try.ntmps38
    go_wp2
    go_returns
    exact ⟨by rw [HC.out]; rfl, rfl⟩
  have HC : Hid (C = if lgG ls = true then 2 else scG un M ls) := by unfold Hid; rw [H.out.2.2.2, gfC, if_neg (by rw [← H.out.2.1]; omega), if_neg (by rw [← HU.out]; exact hu0), if_neg (by rw [← H.out.2.1]; omega), HU.out]
  have HA : Hid (Calls Try.prog 41 #[.slice (some ⟨g, o, none⟩) n c, .func (Fn.func 42) #[] #[]] w fun e w' => e = .returned (.bool (lgG ls)) ∧ w' = w) := impl_anyLong H.out.2.2.1 H.out.1
  obtain ⟨lg, hlg⟩ : ∃ b, b = lgG ls := ⟨_, rfl⟩
  rw [← hlg] at HC HA
  clear hlg
  go_enter Try.func38, Try.ntmps38
  go_wp2_with (fail)
  refine HA.out.mono ?_
  rintro e w1 ⟨rfl, rfl⟩
  clear HA
  cases lg with
  | true =>
    have HE : Hid (C = 2) := by unfold Hid; rw [HC.out]; rfl
    go_wp2
    go_returns
    exact ⟨by rw [HE.out]; rfl, rfl⟩
  | false =>
  have HE : Hid (C = scG un M ls) := by unfold Hid; rw [HC.out]; rfl
  clear HC
  go_wp2
  go_loopw [28] (fun i wr => ∃ k : Nat, k ≤ n ∧ i = .int .i64 k ∧ wr = w1 ∧ Hid (scG un M (ls.drop k) = scG un M ls)) (fun i _ => n - (intOf i).toNat)
  case atStart => exact ⟨0, Nat.zero_le _, rfl, rfl, rfl⟩
  case round =>
    obtain ⟨k, hk, rfl, rfl, hR⟩ := hrel
    by_cases hlt : k < n
    · obtain ⟨g', o', ub, um, ud, he, hg', c0', hun', hrd'⟩ := H.out.1.at hlt
      injection he with he1
      injection he1 with he2 he3
      subst he2 he3
      have hum' : um ≤ 1048576 := by rw [hun']; exact H.out.2.2.1.row k
      have HS : Hid (scG un M ls = if um = un then (if inR M (ls.getD k []) = true then scG un M (ls.drop (k + 1)) else 3) else 1) := by
        unfold Hid; rw [← hR.out, scG_step (by rw [← H.out.2.1]; exact hlt), ← hun']
      obtain ⟨row, hrow⟩ : ∃ row, row = ls.getD k [] := ⟨_, rfl⟩
      rw [← hrow] at hun' hrd' HS
      have HD : Hid (RdI wr (.slice ub um ud) row ∧ um = row.length) := ⟨hrd', hun'⟩
      clear hun' hrd' hR hrow
      have b0 : (0 : Int) ≤ (k : Int) := by omega
      have b1 : (k : Int) < (n : Int) := by omega
      by_cases hw : um = un
      · have HT : Hid (scG un M ls = if inR M row = true then scG un M (ls.drop (k + 1)) else 3) := by unfold Hid; rw [HS.out, if_pos hw]
        clear HS
        subst hw
        go_wp2
        obtain ⟨wy, hwy⟩ : ∃ x, x = wr := ⟨_, rfl⟩
        subst hwy
        go_loopw [41] (fun i wr => ∃ m : Nat, m ≤ um ∧ i = .int .i64 m ∧ wr = wy ∧ Hid (inR M (row.drop m) = inR M row)) (fun i _ => um - (intOf i).toNat)
        case atStart => exact ⟨0, Nat.zero_le _, rfl, rfl, rfl⟩
        case round =>
          obtain ⟨m, hm, rfl, rfl, hR2⟩ := hrel
          by_cases hlt2 : m < um
          · obtain ⟨g2, o2, rfl, hg2, d0⟩ := rd_at HD.out.1 hlt2
            obtain ⟨x, hx⟩ : ∃ x, x = row.getD m 0 := ⟨_, rfl⟩
            rw [← hx] at d0
            obtain ⟨q, hq⟩ : ∃ q, q = decide (0 ≤ x ∧ x ≤ M) := ⟨_, rfl⟩
            have HI2 : Hid (∀ W, Calls Try.prog 31 #[.int .i64 x, .int .i64 0, .int .i64 M] W fun e w' => e = .returned (.bool q) ∧ w' = W) := impl_insC x 0 M q hq
            have HQ : Hid (inR M row = (q && inR M (row.drop (m + 1)))) := by
              unfold Hid; rw [← hR2.out, inR_step (by rw [← HD.out.2]; exact hlt2), ← hx, hq]
            clear hx hq hR2
            have b2 : (0 : Int) ≤ (m : Int) := by omega
            have b3 : (m : Int) < (um : Int) := by omega
            go_wp2_with (fail)
            refine (HI2.out _).mono ?_
            rintro e w5 ⟨rfl, rfl⟩
            clear HI2
            cases q with
            | true =>
              have HM : Hid (inR M (row.drop (m + 1)) = inR M row) := by unfold Hid; rw [HQ.out]; rfl
              go_wp2
              go_roundw
              case rel => exact ⟨m + 1, by omega, by go_num, by first | rfl | trivial, HM.out⟩
              case measure => simp [intOf]; omega
            | false =>
              have HM : Hid (C = 3) := by unfold Hid; rw [HE.out, HT.out, HQ.out]; rfl
              go_wp2
              go_returns
              exact ⟨by rw [HM.out]; rfl, rfl⟩
          · have HI : Hid (inR M row = true) := by
              unfold Hid; rw [← hR2.out, List.drop_eq_nil_of_le (by rw [← HD.out.2]; omega)]; rfl
            have HN : Hid (scG um M (ls.drop (k + 1)) = scG um M ls) := by unfold Hid; rw [HT.out, if_pos HI.out]
            clear hR2 HI
            go_wp2
            go_roundw
            case rel => exact ⟨k + 1, by omega, by go_num, by first | rfl | trivial, HN.out⟩
            case measure => simp [intOf]; omega
      · have HM : Hid (C = 1) := by unfold Hid; rw [HE.out, HS.out, if_neg hw]
        have hw2 : ¬ (um : Int) = (un : Int) := by omega
        go_wp2
        go_returns
        exact ⟨by rw [HM.out]; rfl, rfl⟩
    · have HM : Hid (C = 0) := by
        unfold Hid; rw [HE.out, ← hR.out, List.drop_eq_nil_of_le (by rw [← H.out.2.1]; omega)]; rfl
      clear hR
      go_wp2
      go_returns
      exact ⟨by rw [HM.out]; rfl, rfl⟩

set_option maxHeartbeats 800000 in
theorem impl_gf {w : World} {v : Value} {ls : List (List Int)} (hn : SmR ls) (h : RdR w v ls) :
    Calls Try.prog 28 #[v] w fun e w' => e = .returned (.int .i64 (gfC ls 1000000)) ∧ w' = w := by
  obtain ⟨a, c, rfl⟩ := h.form
  have HC : Hid (Calls Try.prog 38 #[.slice a ls.length c, .int .i64 1000000] w fun e w' => e = .returned (.int .i64 (gfC ls 1000000)) ∧ w' = w) := impl_gridFault 1000000 hn h
  obtain ⟨n, hnn⟩ : ∃ n, n = ls.length := ⟨_, rfl⟩
  obtain ⟨C, hC⟩ : ∃ C, C = gfC ls 1000000 := ⟨_, rfl⟩
  rw [← hnn, ← hC] at HC ⊢
  clear h hn hnn hC
  go_enter Try.func28, Try.ntmps28
  go_wp2_with (fail)
  refine HC.out.mono ?_
  rintro e w1 ⟨rfl, rfl⟩
  go_wp2
  go_returns
  exact ⟨rfl, rfl⟩

end Go.Proofs.Ythmddnachancfab
