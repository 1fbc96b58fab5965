/- Proved here: the faults of columns and of sections, of the model; tops. -/
import Derived.Test.YtceljakmjddgbabScM
import Derived.Test.YtceljakmjddgbabInS
namespace Go.Proofs.Ytceljakmjddgbab
open Go.RowKit
set_option linter.unusedVariables false
set_option linter.unusedSimpArgs false

set_option maxHeartbeats 800000 in
theorem spec_mat (m : Int) (w : World) : Calls Try.prog 64 #[.int .i64 m] w fun e w' => e = .returned (.bool (decide (1 ≤ m ∧ m ≤ 12))) ∧ w' = w := by
  obtain ⟨r, hr⟩ : ∃ r, r = decide (1 ≤ m ∧ m ≤ 12) := ⟨_, rfl⟩
  rw [← hr]
  by_cases h1 : 1 ≤ m
  · by_cases h2 : m ≤ 12
    · rw [decide_eq_true ⟨h1, h2⟩] at hr
      subst hr
      go_enter Try.func64, Try.ntmps64
      go_wp2
      go_returns
      exact ⟨rfl, rfl⟩
    · rw [decide_eq_false (by omega)] at hr
      subst hr
      go_enter Try.func64, Try.ntmps64
      go_wp2
      go_returns
      exact ⟨rfl, rfl⟩
  · rw [decide_eq_false (by omega)] at hr
    subst hr
    go_enter Try.func64, Try.ntmps64
    go_wp2
    go_returns
    exact ⟨rfl, rfl⟩

set_option maxRecDepth 10000 in
set_option maxHeartbeats 3200000 in
theorem spec_top {w : World} {v : Value} {c : List Flm} (hl : c.length ≤ 24) (hc : ∀ k, k < c.length → 0 ≤ (fat c k).t ∧ (fat c k).t ≤ 100000) (h : RG 2 flC w v c) :
    Calls Try.prog 70 #[v] w fun e w' => e = .returned (.int .i64 (topC c)) ∧ w' = w := by
  obtain ⟨a, cp, rfl⟩ := h.form
  obtain ⟨n, hnn⟩ : ∃ n, n = c.length := ⟨_, rfl⟩
  rw [← hnn] at h hl ⊢
  have H : Hid (RG 2 flC w (.slice a n cp) c ∧ n = c.length ∧ ∀ k, k < n → 0 ≤ (fat c k).t ∧ (fat c k).t ≤ 100000) := ⟨h, hnn, by rw [hnn]; exact hc⟩
  clear h hnn hc
  go_enter Try.func70, Try.ntmps70
  go_wp2
  go_loopw [3, 4] (fun q i wr => ∃ (j : Nat) (t : Int), j ≤ n ∧ i = .int .i64 j ∧ q = .int .i64 t ∧ 0 ≤ t ∧ t ≤ 100000 * (j : Int) ∧ wr = w ∧ Hid (t = topA c j)) (fun _ i _ => n - (intOf i).toNat)
  case atStart => exact ⟨0, 0, Nat.zero_le _, rfl, rfl, by omega, by omega, rfl, rfl⟩
  case round =>
    obtain ⟨j, t, hjn, rfl, rfl, ht0, ht1, rfl, hR⟩ := hrel
    by_cases hlt : j < n
    · obtain ⟨g, o, rfl, hg, c0, c1⟩ := fl_at H.out.1 hlt
      have hx := H.out.2.2 j hlt
      obtain ⟨x, hxx⟩ : ∃ x, x = (fat c j).t := ⟨_, rfl⟩
      rw [← hxx] at c1 hx
      have HN : Hid (t + x = topA c (j + 1)) := by unfold Hid; rw [topA, ← hR.out, hxx]
      clear hR hxx c0
      have hx0 := hx.1
      have hx1 := hx.2
      clear hx
      have b0 : (0 : Int) ≤ (j : Int) := by omega
      have b1 : (j : Int) < (n : Int) := by omega
      go_wp2
      go_roundw
      case rel => exact ⟨j + 1, t + x, by omega, by go_num, by go_num, by omega, by omega, by first | rfl | trivial, HN.out⟩
      case measure => simp [intOf]; omega
    · have HE : Hid (t = topC c) := by
        unfold Hid topC; rw [← H.out.2.1, show n = j by omega]; exact hR.out
      clear hR
      go_wp2
      go_returns
      exact ⟨by rw [HE.out]; rfl, rfl⟩

theorem blw_pos {c : List Flm} {k i : Nat} (h : k = i + 1) : blw c k = (fat c i).m := by rw [h]; rfl

set_option maxRecDepth 10000 in
set_option maxHeartbeats 12800000 in
theorem spec_secF {w : World} {v : Value} {s : List (List Flm)} (hn : SmF s) (h : RsF w v s) :
    Calls Try.prog 36 #[.agg #[v]] w fun e w' => e = .returned (.int .i64 (secF s)) ∧ Below w.heap.size w w' := by
  obtain ⟨a, c, rfl⟩ := h.form
  obtain ⟨n, hnn⟩ : ∃ n, n = s.length := ⟨_, rfl⟩
  obtain ⟨C, hC⟩ : ∃ C, C = secF s := ⟨_, rfl⟩
  rw [← hnn] at h ⊢
  rw [← hC]
  have hn' : n ≤ 1048576 := by rw [hnn]; exact hn.len
  have H : Hid (RsF w (.slice a n c) s ∧ n = s.length ∧ SmF s ∧ C = secF s) := ⟨h, hnn, hn, hC⟩
  clear h hnn hn hC
  rcases Nat.eq_zero_or_pos n with h0 | h0
  · have HC : Hid (C = 1) := by unfold Hid; rw [H.out.2.2.2, secF, if_pos (by rw [← H.out.2.1]; exact h0)]
    clear H
    subst h0
    go_enter Try.func36, Try.ntmps36
    go_wp2
    go_returns
    exact ⟨by rw [HC.out]; rfl, by (repeat' (first | (with_reducible exact Below.refl _ _) | (with_reducible assumption) | (with_reducible refine Below.setCell ?_ ?_ _) | (with_reducible refine Below.alloc ?_ ?_ _) | (with_reducible refine below_drewN ?_ _) | (with_reducible refine Below.drew ?_) | (with_reducible exact Nat.le_refl _) | omega | (simp; done) | (simp; omega)))⟩
  have h01 : ¬ (n : Int) = 0 := by omega
  have hq1 : ((n : Int) == 0) = false := by simpa using h01
  by_cases h16 : (16 : Int) < (n : Int)
  · have HC : Hid (C = 2) := by unfold Hid; rw [H.out.2.2.2, secF, if_neg (by rw [← H.out.2.1]; omega), if_pos (by rw [← H.out.2.1]; omega)]
    go_enter Try.func36, Try.ntmps36
    go_wp2
    go_returns
    exact ⟨by rw [HC.out]; rfl, by (repeat' (first | (with_reducible exact Below.refl _ _) | (with_reducible assumption) | (with_reducible refine Below.setCell ?_ ?_ _) | (with_reducible refine Below.alloc ?_ ?_ _) | (with_reducible refine below_drewN ?_ _) | (with_reducible refine Below.drew ?_) | (with_reducible exact Nat.le_refl _) | omega | (simp; done) | (simp; omega)))⟩
  have HC : Hid (C = fstA (fun i => colF (s.getD i [])) n) := by unfold Hid; rw [H.out.2.2.2, secF, if_neg (by rw [← H.out.2.1]; omega), if_neg (by rw [← H.out.2.1]; omega), ← H.out.2.1]
  go_enter Try.func36, Try.ntmps36
  go_wp2
  obtain ⟨w1, hw1⟩ : ∃ x, x = w.alloc (.cells #[.slice a n c] 30) := ⟨_, rfl⟩
  have hb1 : Below w.heap.size w w1 := by rw [hw1]; (repeat' (first | (with_reducible exact Below.refl _ _) | (with_reducible assumption) | (with_reducible refine Below.setCell ?_ ?_ _) | (with_reducible refine Below.alloc ?_ ?_ _) | (with_reducible refine below_drewN ?_ _) | (with_reducible refine Below.drew ?_) | (with_reducible exact Nat.le_refl _) | omega | (simp; done) | (simp; omega)))
  have hk1 : w1.heap[w.heap.size]? = some (.cells #[.slice a n c] 30) := by rw [hw1]; exact heap_alloc_new _ _
  have hk2 : w.heap.size < w1.heap.size := by rw [hw1]; simp
  have HW : Hid (Below w.heap.size w w1 ∧ w1.cell? ⟨w.heap.size, 0, none⟩ = some (.slice a n c) ∧ w.heap.size < w1.heap.size ∧ RsF w1 (.slice a n c) s) := ⟨hb1, by simp [World.cell?, hk1], hk2, H.out.1.below hb1⟩
  rw [← hw1]
  clear hw1 hb1 hk1 hk2
  go_loopw [3] (fun i wr => ∃ j : Nat, j ≤ n ∧ i = .int .i64 j ∧ Hid (Below w1.heap.size w1 wr ∧ fstA (fun i => colF (s.getD i [])) j = 0)) (fun i _ => n - (intOf i).toNat)
  case atStart => exact ⟨0, Nat.zero_le _, rfl, Below.refl _ _, rfl⟩
  case round =>
    obtain ⟨j, hjn, rfl, hR⟩ := hrel
    obtain ⟨w2, hw2⟩ : ∃ x, x = wr := ⟨_, rfl⟩
    subst hw2
    have q0 : w2.cell? ⟨w.heap.size, 0, none⟩ = some (.slice a n c) := (hR.out.1.cell (p := ⟨w.heap.size, 0, none⟩) HW.out.2.2.1).trans HW.out.2.1
    have q1 : w.heap.size < w2.heap.size := Nat.lt_of_lt_of_le HW.out.2.2.1 hR.out.1.size
    by_cases hlt : j < n
    · obtain ⟨g, o, ua, un, uc, rfl, hg, c0, hun, hrd⟩ := (HW.out.2.2.2.below hR.out.1).at hlt
      obtain ⟨col, hcol⟩ : ∃ x, x = s.getD j [] := ⟨_, rfl⟩
      have hum : un ≤ 1048576 := by rw [hun]; exact H.out.2.2.1.row j
      rw [← hcol] at hun hrd
      have HD : Hid (RG 2 flC w2 (.slice ua un uc) col ∧ un = col.length ∧ Below w.heap.size w w2) := ⟨hrd, hun, HW.out.1.trans (hR.out.1.mono HW.out.1.size)⟩
      have HJ : Hid (∀ D, colF col = D → D ≠ 0 → C = D) := fun D hD hd => by
        have h1 := fstA_hit (f := fun i => colF (s.getD i [])) hR.out.2 (by rw [← hcol, hD]; exact hd) hlt
        rw [HC.out, h1, ← hcol, hD]
      have HJ0 : Hid (colF col = 0 → fstA (fun i => colF (s.getD i [])) (j + 1) = 0) := fun h => fstA_next hR.out.2 (by rw [← hcol]; exact h)
      have HBR : Hid (Below w1.heap.size w1 w2) := hR.out.1
      clear hrd hun hcol hR
      have b0 : (0 : Int) ≤ (j : Int) := by omega
      have b1 : (j : Int) < (n : Int) := by omega
      by_cases h24 : (24 : Int) < (un : Int)
      · have HE : Hid (C = 2) := HJ.out 2 (by rw [colF, if_pos (by rw [← HD.out.2.1]; omega)]) (by decide)
        go_wp2
        go_returns
        exact ⟨by rw [HE.out]; rfl, HD.out.2.2⟩
      have HK : Hid (colF col = if fstA (flB col) un = 0 then (if 100000 < topC col then 3 else 0) else fstA (flB col) un) := by unfold Hid; rw [colF, if_neg (by rw [← HD.out.2.1]; omega), ← HD.out.2.1]
      go_wp2
      go_loopw [5] (fun i wq => ∃ k : Nat, k ≤ un ∧ i = .int .i64 k ∧ Hid (Below w2.heap.size w2 wq ∧ fstA (flB col) k = 0)) (fun i _ => un - (intOf i).toNat)
      case atStart => exact ⟨0, Nat.zero_le _, rfl, Below.refl _ _, rfl⟩
      case round =>
        clear c0 q0 hg q1
        obtain ⟨k, hkn, rfl, hR⟩ := hrel
        by_cases hlt2 : k < un
        · obtain ⟨g2, o2, rfl, hg2, d0, d1⟩ := fl_at (HD.out.1.below hR.out.1) hlt2
          obtain ⟨m, hm0⟩ : ∃ x, x = (fat col k).m := ⟨_, rfl⟩
          obtain ⟨x, hxx⟩ : ∃ x, x = (fat col k).t := ⟨_, rfl⟩
          rw [← hm0] at d0
          rw [← hxx] at d1
          have HF : Hid (m = (fat col k).m ∧ x = (fat col k).t ∧ fstA (flB col) k = 0) := ⟨hm0, hxx, hR.out.2⟩
          have HB : Hid (Below w2.heap.size w2 wr) := hR.out.1
          have HBad : Hid (flB col k = 1 → C = 1) := fun h => HJ.out 1 (by rw [HK.out, fstA_hit HF.out.2.2 (by rw [h]; decide) hlt2, h]; rfl) (by decide)
          have HM : Hid (∀ W, Calls Try.prog 64 #[.int .i64 m] W fun e w' => e = .returned (.bool (decide (1 ≤ m ∧ m ≤ 12))) ∧ w' = W) := spec_mat m
          clear hm0 hxx hR
          have b2 : (0 : Int) ≤ (k : Int) := by omega
          have b3 : (k : Int) < (un : Int) := by omega
          obtain ⟨r, hr⟩ : ∃ r, r = decide (1 ≤ m ∧ m ≤ 12) := ⟨_, rfl⟩
          rw [← hr] at HM
          have HRR : Hid (r = decide (1 ≤ m ∧ m ≤ 12)) := hr
          clear hr
          cases r with
          | false =>
            have HE : Hid (C = 1) := HBad.out (flB_mat (by rw [← HF.out.1]; have := HRR.out; simpa using this))
            go_wp2_with (fail)
            (refine wp_region_und (by kernel_rfl) (by kernel_rfl) (fun hund => ?_); (repeat (go_big_quiet_step (first | (go_at_call 64; with_reducible refine und_call_same (HM.out _))))); with_reducible refine wpQuiet_nil ?_; clear hund; intro W1 hb1; obtain ⟨hc1, hf1⟩ := undcell hb1)
            have HB2 : Hid (Below w.heap.size w W1) := HD.out.2.2.trans ((HB.out.trans (hb1.mono HB.out.size)).mono HD.out.2.2.size)
            clear hb1 hc1 hf1
            go_wp2
            go_returns
            exact ⟨by rw [HE.out]; rfl, HB2.out⟩
          | true =>
            have hm12 : 1 ≤ m ∧ m ≤ 12 := by have := HRR.out; simpa using this
            rcases Nat.eq_zero_or_pos k with hk0 | hk0
            · have HNB : Hid (¬ m = blw col k) := by unfold Hid; rw [hk0]; show ¬ m = 0; omega
              have hk1 : ¬ (0 : Int) < (k : Int) := by omega
              have hk2 : decide ((0 : Int) < (k : Int)) = false := decide_eq_false hk1
              have hk3 : ¬ 0 < k := by omega
              have hk4 : decide (0 < k) = false := decide_eq_false hk3
              clear hk0
              have HM12 : Hid (1 ≤ m ∧ m ≤ 12) := hm12
              clear hm12
              go_wp2_with (fail)
              (refine wp_region_und (by kernel_rfl) (by kernel_rfl) (fun hund => ?_); (repeat (go_big_quiet_step (first | (go_at_call 64; with_reducible refine und_call_same (HM.out _))))); with_reducible refine wpQuiet_nil ?_; clear hund; intro W1 hb1; obtain ⟨hc1, hf1⟩ := undcell hb1)
              have HB2 : Hid (Below w2.heap.size w2 W1) := HB.out.trans (hb1.mono HB.out.size)
              have d1' : W1.cell? ⟨g2, o2 + k * 2 + 1, none⟩ = some (.int .i64 x) := (hc1 _ _ hg2).trans d1
              have hg2' : g2 < W1.heap.size := Nat.lt_of_lt_of_le hg2 hb1.size
              clear hb1 hc1 hf1 d0 d1 hg2
              go_wp2_with (fail)
              refine (spec_in10 x 1 100000 _).mono ?_
              rintro e w3 ⟨rfl, rfl⟩
              by_cases hx : 1 ≤ x ∧ x ≤ 100000
              · rw [decide_eq_true hx]
                have HN : Hid (fstA (flB col) (k + 1) = 0) := fstA_next HF.out.2.2 (flB_ok (by rw [← HF.out.1]; exact HM12.out) (by rw [← HF.out.1]; exact HNB.out) (by rw [← HF.out.2.1]; exact hx))
                clear hx
                go_wp2
                go_roundw
                case rel => exact ⟨k + 1, by omega, by go_num, HB2.out, HN.out⟩
                case measure => simp [intOf]; omega
              · rw [decide_eq_false hx]
                have HE : Hid (C = 3) := HJ.out 3 (by
                  have h1 : flB col k = 3 := flB_thick (by rw [← HF.out.1]; exact HM12.out) (by rw [← HF.out.1]; exact HNB.out) (by rw [← HF.out.2.1]; exact hx)
                  rw [HK.out, fstA_hit HF.out.2.2 (by rw [h1]; decide) hlt2, h1]; rfl) (by decide)
                have HB3 : Hid (Below w.heap.size w w3) := HD.out.2.2.trans (HB2.out.mono HD.out.2.2.size)
                clear hx
                go_wp2
                go_returns
                exact ⟨by rw [HE.out]; rfl, HB3.out⟩
            · obtain ⟨i, hi⟩ : ∃ i, k = i + 1 := ⟨k - 1, by omega⟩
              obtain ⟨g3, o3, he, hg3, e0, e1⟩ := fl_at (HD.out.1.below HB.out) (show i < un by omega)
              injection he with he1
              injection he1 with he2 he3
              subst he2 he3
              obtain ⟨p, hp⟩ : ∃ x, x = (fat col i).m := ⟨_, rfl⟩
              rw [← hp] at e0
              have HP : Hid (p = blw col k) := by unfold Hid; rw [hp, hi]; rfl
              have hi1 : IntKind.i64.wrap ((k : Int) - 1) = (i : Int) := by rw [IntKind.wrap_i64]; omega
              have hi2 : (k : Int) - 1 = (i : Int) := by omega
              have hi3 : (i : Int) < (un : Int) := by omega
              have hi4 : (0 : Int) ≤ (i : Int) := by omega
              have hk1 : (0 : Int) < (k : Int) := by omega
              have hk2 : decide ((0 : Int) < (k : Int)) = true := decide_eq_true hk1
              have hk3 : 0 < k := by omega
              have hk4 : decide (0 < k) = true := decide_eq_true hk3
              have HM12 : Hid (1 ≤ m ∧ m ≤ 12) := hm12
              clear hm12 e1 hg3 hp hi hk0
              by_cases hs : p = m
              · have HE : Hid (C = 1) := HBad.out (flB_same (by rw [← HF.out.1, ← HP.out]; exact hs.symm))
                subst hs
                go_wp2_with (fail)
                (refine wp_region_und (by kernel_rfl) (by kernel_rfl) (fun hund => ?_); (repeat (go_big_quiet_step (first | (go_at_call 64; with_reducible refine und_call_same (HM.out _))))); with_reducible refine wpQuiet_nil ?_; clear hund; intro W1 hb1; obtain ⟨hc1, hf1⟩ := undcell hb1)
                have HB2 : Hid (Below w.heap.size w W1) := HD.out.2.2.trans ((HB.out.trans (hb1.mono HB.out.size)).mono HD.out.2.2.size)
                clear hb1 hc1 hf1
                go_wp2
                go_returns
                exact ⟨by rw [HE.out]; rfl, HB2.out⟩
              · have HNB : Hid (¬ m = blw col k) := by unfold Hid; rw [← HP.out]; exact fun h => hs h.symm
                have hs' : (p == m) = false := by simpa using hs
                go_wp2_with (fail)
                (refine wp_region_und (by kernel_rfl) (by kernel_rfl) (fun hund => ?_); (repeat (go_big_quiet_step (first | (go_at_call 64; with_reducible refine und_call_same (HM.out _))))); with_reducible refine wpQuiet_nil ?_; clear hund; intro W1 hb1; obtain ⟨hc1, hf1⟩ := undcell hb1)
                clear hs hs' e0 hi1 hi2 hi3 hi4 hk1 hk2 hk3 hk4
                have HB2 : Hid (Below w2.heap.size w2 W1) := HB.out.trans (hb1.mono HB.out.size)
                have d1' : W1.cell? ⟨g2, o2 + k * 2 + 1, none⟩ = some (.int .i64 x) := (hc1 _ _ hg2).trans d1
                have hg2' : g2 < W1.heap.size := Nat.lt_of_lt_of_le hg2 hb1.size
                clear hb1 hc1 hf1 d0 d1 hg2
                go_wp2_with (fail)
                refine (spec_in10 x 1 100000 _).mono ?_
                rintro e w3 ⟨rfl, rfl⟩
                by_cases hx : 1 ≤ x ∧ x ≤ 100000
                · rw [decide_eq_true hx]
                  have HN : Hid (fstA (flB col) (k + 1) = 0) := fstA_next HF.out.2.2 (flB_ok (by rw [← HF.out.1]; exact HM12.out) (by rw [← HF.out.1]; exact HNB.out) (by rw [← HF.out.2.1]; exact hx))
                  clear hx
                  go_wp2
                  go_roundw
                  case rel => exact ⟨k + 1, by omega, by go_num, HB2.out, HN.out⟩
                  case measure => simp [intOf]; omega
                · rw [decide_eq_false hx]
                  have HE : Hid (C = 3) := HJ.out 3 (by
                    have h1 : flB col k = 3 := flB_thick (by rw [← HF.out.1]; exact HM12.out) (by rw [← HF.out.1]; exact HNB.out) (by rw [← HF.out.2.1]; exact hx)
                    rw [HK.out, fstA_hit HF.out.2.2 (by rw [h1]; decide) hlt2, h1]; rfl) (by decide)
                  have HB3 : Hid (Below w.heap.size w w3) := HD.out.2.2.trans (HB2.out.mono HD.out.2.2.size)
                  clear hx
                  go_wp2
                  go_returns
                  exact ⟨by rw [HE.out]; rfl, HB3.out⟩
        · have hz : fstA (flB col) un = 0 := by rw [show un = k by omega]; exact hR.out.2
          have hok : ∀ k, k < col.length → 0 ≤ (fat col k).t ∧ (fat col k).t ≤ 100000 := fun k hk => by
            have := flB_zero.1 (fstA_zero hz k (by rw [HD.out.2.1]; exact hk)); unfold okF at this; omega
          obtain ⟨T, hT⟩ : ∃ T, T = topC col := ⟨_, rfl⟩
          have HT : Hid (Calls Try.prog 70 #[.slice ua un uc] wr fun e w' => e = .returned (.int .i64 T) ∧ w' = wr) := by
            rw [hT]; exact spec_top (by rw [← HD.out.2.1]; omega) hok (HD.out.1.below hR.out.1)
          have HE : Hid (colF col = if 100000 < T then 3 else 0) := by unfold Hid; rw [HK.out, if_pos hz, ← hT]
          have HB : Hid (Below w1.heap.size w1 wr ∧ Below w.heap.size w wr) := ⟨HBR.out.trans (hR.out.1.mono HBR.out.size), HD.out.2.2.trans (hR.out.1.mono HD.out.2.2.size)⟩
          clear hz hok hT hR
          go_wp2_with (fail)
          refine HT.out.mono ?_
          rintro e w3 ⟨rfl, rfl⟩
          clear HT
          by_cases hT : 100000 < T
          · have HX : Hid (C = 3) := HJ.out 3 (by rw [HE.out, if_pos hT]) (by decide)
            go_wp2
            go_returns
            exact ⟨by rw [HX.out]; rfl, HB.out.2⟩
          · have HX : Hid (fstA (fun i => colF (s.getD i [])) (j + 1) = 0) := HJ0.out (by rw [HE.out, if_neg hT])
            go_wp2
            go_roundw
            case rel => exact ⟨j + 1, by omega, by go_num, HB.out.1, HX.out⟩
            case measure => simp [intOf]; omega
    · have HE : Hid (C = 0) := by unfold Hid; rw [HC.out, show n = j by omega]; exact hR.out.2
      have HB : Hid (Below w.heap.size w w2) := HW.out.1.trans (hR.out.1.mono HW.out.1.size)
      clear hR
      go_wp2
      go_returns
      exact ⟨by rw [HE.out]; rfl, HB.out⟩

end Go.Proofs.Ytceljakmjddgbab
