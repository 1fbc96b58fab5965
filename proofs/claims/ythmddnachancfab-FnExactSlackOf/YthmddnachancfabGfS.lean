/- Proved here: the faults of a grid, of the model: gfC. -/
import Derived.Test.YthmddnachancfabGrB
import Derived.Test.YthmddnachancfabGfM
namespace Go.Proofs.Ythmddnachancfab
open Go.RowKit
set_option linter.unusedVariables false
set_option linter.unusedSimpArgs false

set_option maxRecDepth 10000 in
set_option maxHeartbeats 6400000 in
theorem spec_l9Fault (M : Int) {w : World} {v : Value} {ls : List (List Int)} (hn : SmR ls) (h : RdR w v ls) :
    Calls Try.prog 37 #[v, .int .i64 M] w fun e w' => e = .returned (.int .i64 (gfC ls M)) ∧ Below w.heap.size w w' := by
  obtain ⟨a, c, rfl⟩ := h.form
  obtain ⟨n, hnn⟩ : ∃ n, n = ls.length := ⟨_, rfl⟩
  obtain ⟨C, hC⟩ : ∃ C, C = gfC ls M := ⟨_, rfl⟩
  rw [← hnn] at h ⊢
  rw [← hC]
  have hn' : n ≤ 1048576 := by rw [hnn]; exact hn.len
  have H : Hid (RdR w (.slice a n c) ls ∧ n = ls.length ∧ SmR ls ∧ C = gfC ls M) := ⟨h, hnn, hn, hC⟩
  clear h hnn hn hC
  rcases Nat.eq_zero_or_pos n with h0 | h0
  · have HC : Hid (C = 1) := by unfold Hid; rw [H.out.2.2.2, gfC, if_pos (by rw [← H.out.2.1]; exact h0)]
    clear H
    subst h0
    go_enter Try.func37, Try.ntmps37
    go_wp2
    go_returns
    exact ⟨by rw [HC.out]; rfl, Below.refl _ _⟩
  have h01 : ¬ (n : Int) = 0 := by omega
  have h02 : ¬ n = 0 := by omega
  have h03 : (0 : Int) < (n : Int) := by omega
  obtain ⟨g, o, ua, un, uc, rfl, hg, c0, hun, hrd⟩ := H.out.1.at h0
  have hum : un ≤ 1048576 := by rw [hun]; exact H.out.2.2.1.row 0
  simp only [Nat.add_zero] at c0
  have HU : Hid (un = (ls.getD 0 []).length) := hun
  clear hun hrd
  by_cases hu0 : un = 0
  · have HC : Hid (C = 1) := by unfold Hid; rw [H.out.2.2.2, gfC, if_neg (by rw [← H.out.2.1]; omega), if_pos (by rw [← HU.out]; exact hu0)]
    subst hu0
    go_enter Try.func37, Try.ntmps37
    go_wp2
    go_returns
    exact ⟨by rw [HC.out]; rfl, Below.refl _ _⟩
  have hu1 : ¬ (un : Int) = 0 := by omega
  have hq1 : ((n : Int) == 0) = false := by simpa using h01
  have hq2 : ((un : Int) == 0) = false := by simpa using hu1
  by_cases h16 : (16 : Int) < (n : Int)
  · have HC : Hid (C = 2) := by unfold Hid; rw [H.out.2.2.2, gfC, if_neg (by rw [← H.out.2.1]; omega), if_neg (by rw [← HU.out]; exact hu0), if_pos (by rw [← H.out.2.1]; omega)]
    go_enter Try.func37, Try.ntmps37
    go_wp2
    go_returns
    exact ⟨by rw [HC.out]; rfl, Below.refl _ _⟩
  have HC : Hid (C = if lgG ls = true then 2 else scG un M ls) := by unfold Hid; rw [H.out.2.2.2, gfC, if_neg (by rw [← H.out.2.1]; omega), if_neg (by rw [← HU.out]; exact hu0), if_neg (by rw [← H.out.2.1]; omega), HU.out]
  go_enter Try.func37, Try.ntmps37
  go_wp2
  go_loopw [5] (fun i wr => ∃ k : Nat, k ≤ n ∧ i = .int .i64 k ∧ wr = w ∧ Hid (lgG (ls.drop k) = lgG ls)) (fun i _ => n - (intOf i).toNat)
  case atStart => exact ⟨0, Nat.zero_le _, rfl, rfl, rfl⟩
  case round =>
   obtain ⟨k, hk, rfl, rfl, hR⟩ := hrel
   by_cases hlt : k < n
   · obtain ⟨g', o', ub, um, ud, he, hg', c0', hun', hrd'⟩ := H.out.1.at hlt
     injection he with he1
     injection he1 with he2 he3
     subst he2 he3
     have hum' : um ≤ 1048576 := by rw [hun']; exact H.out.2.2.1.row k
     have HQ : Hid (lgG ls = (decide (16 < um) || lgG (ls.drop (k + 1)))) := by
       unfold Hid; rw [← hR.out, lgG_step (by rw [← H.out.2.1]; exact hlt), ← hun']
     clear hun' hrd' hR
     have b0 : (0 : Int) ≤ (k : Int) := by omega
     have b1 : (k : Int) < (n : Int) := by omega
     by_cases hq : (16 : Int) < (um : Int)
     · have HM : Hid (C = 2) := by unfold Hid; rw [HC.out, HQ.out, decide_eq_true (by omega)]; rfl
       go_wp2
       go_returns
       exact ⟨by rw [HM.out]; rfl, Below.refl _ _⟩
     · have HM : Hid (lgG (ls.drop (k + 1)) = lgG ls) := by unfold Hid; rw [HQ.out, decide_eq_false (by omega)]; rfl
       clear HQ
       go_wp2
       go_roundw
       case rel => exact ⟨k + 1, by omega, by go_num, by first | rfl | trivial, HM.out⟩
       case measure => simp [intOf]; omega
   · have HE : Hid (C = scG un M ls) := by
       unfold Hid; rw [HC.out, ← hR.out, List.drop_eq_nil_of_le (by rw [← H.out.2.1]; omega)]; rfl
     clear hR HC
     go_wp2
     obtain ⟨w1, hw1⟩ : ∃ x, x = wr := ⟨_, rfl⟩
     subst hw1
     go_loopw [6] (fun i wr => ∃ k : Nat, k ≤ n ∧ i = .int .i64 k ∧ Hid (Below w1.heap.size w1 wr ∧ scG un M (ls.drop k) = scG un M ls)) (fun i _ => n - (intOf i).toNat)
     case atStart => exact ⟨0, Nat.zero_le _, rfl, Below.refl _ _, rfl⟩
     case round =>
       clear c0 hg
       obtain ⟨k, hk, rfl, hR⟩ := hrel
       by_cases hlt : k < n
       · obtain ⟨g', o', ub, um, ud, he, hg', c0', hun', hrd'⟩ := (H.out.1.below hR.out.1).at hlt
         injection he with he1
         injection he1 with he2 he3
         subst he2 he3
         obtain ⟨g2, o2, ue, ur, uf, he, hg, c0, hun2, hrd2⟩ := (H.out.1.below hR.out.1).at h0
         injection he with he1
         injection he1 with he2 he3
         subst he2 he3
         rw [← HU.out] at hun2
         rw [hun2, Nat.add_zero] at c0
         clear hun2 hrd2
         have hum' : um ≤ 1048576 := by rw [hun']; exact H.out.2.2.1.row k
         have HS : Hid (scG un M ls = if um = un then (if inR M (ls.getD k []) = true then scG un M (ls.drop (k + 1)) else 3) else 1) := by
           unfold Hid; rw [← hR.out.2, scG_step (by rw [← H.out.2.1]; exact hlt), ← hun']
         obtain ⟨row, hrow⟩ : ∃ row, row = ls.getD k [] := ⟨_, rfl⟩
         rw [← hrow] at hun' hrd' HS
         have HD : Hid (RdI wr (.slice ub um ud) row ∧ um = row.length) := ⟨hrd', hun'⟩
         clear hun' hrd' hrow
         have b0 : (0 : Int) ≤ (k : Int) := by omega
         have b1 : (k : Int) < (n : Int) := by omega
         by_cases hw : um = un
         · have HT : Hid (scG un M ls = if inR M row = true then scG un M (ls.drop (k + 1)) else 3) := by unfold Hid; rw [HS.out, if_pos hw]
           clear HS
           subst hw
           go_wp2_with (fail)
           (refine wp_region_und (by kernel_rfl) (by kernel_rfl) (fun hund => ?_); (repeat (go_big_quiet_step (fail))); with_reducible refine wpQuiet_nil ?_; clear hund; intro W1 hb1; obtain ⟨hc1, hf1⟩ := undcell hb1)
           have HB : Hid (Below w1.heap.size w1 W1 ∧ RdI W1 (.slice ub um ud) row ∧ um = row.length ∧ W1.cell? ⟨g, o + k, none⟩ = some (.slice ub um ud) ∧ g < W1.heap.size) := ⟨hR.out.1.trans (hb1.mono hR.out.1.size), HD.out.1.below hb1, HD.out.2, (hb1.cell (p := ⟨g, o + k, none⟩) hg').trans c0', Nat.lt_of_lt_of_le hg' hb1.size⟩
           clear hb1 hc1 hf1 c0 c0' hg hg' HD hR
           go_wp2
           go_loopw [7] (fun i wr => ∃ m : Nat, m ≤ um ∧ i = .int .i64 m ∧ wr = W1 ∧ Hid (inR M (row.drop m) = inR M row)) (fun i _ => um - (intOf i).toNat)
           case atStart => exact ⟨0, Nat.zero_le _, rfl, rfl, rfl⟩
           case round =>
             obtain ⟨m, hm, rfl, rfl, hR2⟩ := hrel
             have c0' := HB.out.2.2.2.1
             have hg' := HB.out.2.2.2.2
             by_cases hlt2 : m < um
             · obtain ⟨g2, o2, rfl, hg2, d0⟩ := rd_at HB.out.2.1 hlt2
               obtain ⟨x, hx⟩ : ∃ x, x = row.getD m 0 := ⟨_, rfl⟩
               rw [← hx] at d0
               have HQ : Hid (inR M row = (decide (0 ≤ x ∧ x ≤ M) && inR M (row.drop (m + 1)))) := by
                 unfold Hid; rw [← hR2.out, inR_step (by rw [← HB.out.2.2.1]; exact hlt2), ← hx]
               clear hx hR2
               have b2 : (0 : Int) ≤ (m : Int) := by omega
               have b3 : (m : Int) < (um : Int) := by omega
               by_cases hx0 : x < 0
               · have HM : Hid (C = 3) := by unfold Hid; rw [HE.out, HT.out, HQ.out, decide_eq_false (by omega)]; rfl
                 go_wp2
                 go_returns
                 exact ⟨by rw [HM.out]; rfl, HB.out.1⟩
               · by_cases hxM : M < x
                 · have HM : Hid (C = 3) := by unfold Hid; rw [HE.out, HT.out, HQ.out, decide_eq_false (by omega)]; rfl
                   go_wp2
                   go_returns
                   exact ⟨by rw [HM.out]; rfl, HB.out.1⟩
                 · have HM : Hid (inR M (row.drop (m + 1)) = inR M row) := by unfold Hid; rw [HQ.out, decide_eq_true (by omega)]; rfl
                   go_wp2
                   go_roundw
                   case rel => exact ⟨m + 1, by omega, by go_num, by first | rfl | trivial, HM.out⟩
                   case measure => simp [intOf]; omega
             · have HI : Hid (inR M row = true) := by
                 unfold Hid; rw [← hR2.out, List.drop_eq_nil_of_le (by rw [← HB.out.2.2.1]; omega)]; rfl
               have HN : Hid (scG um M (ls.drop (k + 1)) = scG um M ls) := by unfold Hid; rw [HT.out, if_pos HI.out]
               clear hR2 HI
               go_wp2
               go_roundw
               case rel => exact ⟨k + 1, by omega, by go_num, HB.out.1, HN.out⟩
               case measure => simp [intOf]; omega
         · have HM : Hid (C = 1) := by unfold Hid; rw [HE.out, HS.out, if_neg hw]
           have hw2 : ¬ (um : Int) = (un : Int) := by omega
           go_wp2_with (fail)
           (refine wp_region_und (by kernel_rfl) (by kernel_rfl) (fun hund => ?_); (repeat (go_big_quiet_step (fail))); with_reducible refine wpQuiet_nil ?_; clear hund; intro W1 hb1; obtain ⟨hc1, hf1⟩ := undcell hb1)
           have HB : Hid (Below w1.heap.size w1 W1) := hR.out.1.trans (hb1.mono hR.out.1.size)
           clear hb1 hc1 hf1 hR
           go_wp2
           go_returns
           exact ⟨by rw [HM.out]; rfl, HB.out⟩
       · have HM : Hid (C = 0) := by
           unfold Hid; rw [HE.out, ← hR.out.2, List.drop_eq_nil_of_le (by rw [← H.out.2.1]; omega)]; rfl
         have HB : Hid (Below w1.heap.size w1 wr) := hR.out.1
         clear hR
         go_wp2
         go_returns
         exact ⟨by rw [HM.out]; rfl, HB.out⟩

set_option maxHeartbeats 800000 in
theorem spec_gf {w : World} {v : Value} {ls : List (List Int)} (hn : SmR ls) (h : RdR w v ls) :
    Calls Try.prog 22 #[v] w fun e w' => e = .returned (.int .i64 (gfC ls 1000000)) ∧ Below w.heap.size w w' := by
  obtain ⟨a, c, rfl⟩ := h.form
  have HC : Hid (Calls Try.prog 37 #[.slice a ls.length c, .int .i64 1000000] w fun e w' => e = .returned (.int .i64 (gfC ls 1000000)) ∧ Below w.heap.size w w') := spec_l9Fault 1000000 hn h
  obtain ⟨n, hnn⟩ : ∃ n, n = ls.length := ⟨_, rfl⟩
  obtain ⟨C, hC⟩ : ∃ C, C = gfC ls 1000000 := ⟨_, rfl⟩
  rw [← hnn, ← hC] at HC ⊢
  clear h hn hnn hC
  go_enter Try.func22, Try.ntmps22
  go_wp2_with (fail)
  refine HC.out.mono ?_
  rintro e w1 ⟨rfl, hb⟩
  have HB : Hid _ := hb
  clear hb
  go_wp2
  go_returns
  exact ⟨rfl, HB.out⟩

end Go.Proofs.Ythmddnachancfab
