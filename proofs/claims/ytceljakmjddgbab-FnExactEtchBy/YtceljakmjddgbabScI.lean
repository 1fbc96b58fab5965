/- Proved here: the faults of columns and of sections, of the program; tops. -/
import Derived.Test.YtceljakmjddgbabScM
import Derived.Test.YtceljakmjddgbabInsC
namespace Go.Proofs.Ytceljakmjddgbab
open Go.RowKit
set_option linter.unusedVariables false
set_option linter.unusedSimpArgs false

set_option maxHeartbeats 800000 in
theorem impl_matF (m : Int) (w : World) : Calls Try.prog 65 #[.int .i64 m] w fun e w' => e = .returned (.int .i64 (if 1 ≤ m ∧ m ≤ 12 then 0 else 1)) ∧ w' = w := by
  obtain ⟨r, hr⟩ : ∃ r, r = decide (1 ≤ m ∧ m ≤ 12) := ⟨_, rfl⟩
  obtain ⟨C, hC⟩ : ∃ C : Int, C = if 1 ≤ m ∧ m ≤ 12 then 0 else 1 := ⟨_, rfl⟩
  rw [← hC]
  have H : Hid (Calls Try.prog 75 #[.int .i64 m, .int .i64 1, .int .i64 12] w fun e w' => e = .returned (.bool r) ∧ w' = w) := impl_insC m 1 12 r hr w
  have HC : Hid (C = if r = true then 0 else 1) := by unfold Hid; rw [hC, hr]; simp
  clear hr hC
  go_enter Try.func65, Try.ntmps65
  go_wp2_with (fail)
  refine H.out.mono ?_
  rintro e w1 ⟨rfl, rfl⟩
  clear H
  cases r with
  | true =>
    go_wp2
    go_returns
    exact ⟨by rw [HC.out]; rfl, rfl⟩
  | false =>
    go_wp2
    go_returns
    exact ⟨by rw [HC.out]; rfl, rfl⟩

set_option maxHeartbeats 800000 in
theorem impl_byT (n a : Int) (w : World) : Calls Try.prog 56 #[.int .i64 n, .int .i64 a] w fun e w' => e = .returned (.int .i64 (if a ≤ n ∧ n ≤ 100000 then 0 else 3)) ∧ w' = w := by
  obtain ⟨r, hr⟩ : ∃ r, r = decide (a ≤ n ∧ n ≤ 100000) := ⟨_, rfl⟩
  obtain ⟨C, hC⟩ : ∃ C : Int, C = if a ≤ n ∧ n ≤ 100000 then 0 else 3 := ⟨_, rfl⟩
  rw [← hC]
  have H : Hid (Calls Try.prog 75 #[.int .i64 n, .int .i64 a, .int .i64 100000] w fun e w' => e = .returned (.bool r) ∧ w' = w) := impl_insC n a 100000 r hr w
  have HC : Hid (C = if r = true then 0 else 3) := by unfold Hid; rw [hC, hr]; simp
  clear hr hC
  go_enter Try.func56, Try.ntmps56
  go_wp2_with (fail)
  refine H.out.mono ?_
  rintro e w1 ⟨rfl, rfl⟩
  clear H
  cases r with
  | true =>
    go_wp2
    go_returns
    exact ⟨by rw [HC.out]; rfl, rfl⟩
  | false =>
    go_wp2
    go_returns
    exact ⟨by rw [HC.out]; rfl, rfl⟩

set_option maxRecDepth 10000 in
set_option maxHeartbeats 3200000 in
theorem impl_thick {w : World} {v : Value} {c : List Flm} (hl : c.length ≤ 24) (hc : ∀ k, k < c.length → 0 ≤ (fat c k).t ∧ (fat c k).t ≤ 100000) (h : RG 2 flC w v c) :
    Calls Try.prog 85 #[v] w fun e w' => e = .returned (.int .i64 (topC c)) ∧ Below w.heap.size w w' := by
  obtain ⟨a, cp, rfl⟩ := h.form
  obtain ⟨n, hnn⟩ : ∃ n, n = c.length := ⟨_, rfl⟩
  rw [← hnn] at h hl ⊢
  have H : Hid (RG 2 flC w (.slice a n cp) c ∧ n = c.length ∧ ∀ k, k < n → 0 ≤ (fat c k).t ∧ (fat c k).t ≤ 100000) := ⟨h, hnn, by rw [hnn]; exact hc⟩
  clear h hnn hc
  go_enter Try.func85, Try.ntmps85
  go_wp2
  go_loopw [3, 8] (fun q i wr => ∃ (j : Nat) (t : Int), j ≤ n ∧ i = .int .i64 j ∧ q = .int .i64 t ∧ 0 ≤ t ∧ t ≤ 100000 * (j : Int) ∧ Hid (t = topA c j ∧ Below w.heap.size w wr)) (fun _ i _ => n - (intOf i).toNat)
  case atStart => exact ⟨0, 0, Nat.zero_le _, rfl, rfl, by omega, by omega, rfl, Below.refl _ _⟩
  case round =>
    obtain ⟨j, t, hjn, rfl, rfl, ht0, ht1, hR⟩ := hrel
    by_cases hlt : j < n
    · obtain ⟨g, o, rfl, hg, c0, c1⟩ := fl_at (H.out.1.below hR.out.2) hlt
      have hx := H.out.2.2 j hlt
      obtain ⟨m0, hm0⟩ : ∃ x, x = (fat c j).m := ⟨_, rfl⟩
      obtain ⟨x, hxx⟩ : ∃ x, x = (fat c j).t := ⟨_, rfl⟩
      rw [← hm0] at c0
      rw [← hxx] at c1 hx
      have HN : Hid (t + x = topA c (j + 1)) := by unfold Hid; rw [topA, ← hR.out.1, hxx]
      have HB : Hid (Below w.heap.size w wr) := hR.out.2
      clear hR hm0 hxx
      have hx0 := hx.1
      have hx1 := hx.2
      clear hx
      have b0 : (0 : Int) ≤ (j : Int) := by omega
      have b1 : (j : Int) < (n : Int) := by omega
      have hb : Below w.heap.size w (wr.alloc (.cells #[.int .i64 m0, .int .i64 x] 76)) := HB.out.trans (by have := HB.out.size; (repeat' (first | (with_reducible exact Below.refl _ _) | (with_reducible assumption) | (with_reducible refine Below.setCell ?_ ?_ _) | (with_reducible refine Below.alloc ?_ ?_ _) | (with_reducible refine below_drewN ?_ _) | (with_reducible refine Below.drew ?_) | (with_reducible exact Nat.le_refl _) | omega | (simp; done) | (simp; omega))))
      have HB2 : Hid (Below w.heap.size w (wr.alloc (.cells #[.int .i64 m0, .int .i64 x] 76))) := hb
      clear hb
      go_wp2
      go_roundw
      case rel => exact ⟨j + 1, t + x, by omega, by go_num, by go_num, by omega, by omega, HN.out, HB2.out⟩
      case measure => simp [intOf]; omega
    · have ej : n = j := by omega
      have HE : Hid (t = topC c ∧ Below w.heap.size w wr) := by
        unfold Hid topC; rw [← H.out.2.1, ej]; exact hR.out
      clear hR
      go_wp2
      go_returns
      exact ⟨by rw [HE.out.1]; rfl, HE.out.2⟩

set_option maxRecDepth 10000 in
set_option maxHeartbeats 6400000 in
theorem impl_colF {w : World} {v : Value} {c : List Flm} (hl : c.length ≤ 1048576) (h : RG 2 flC w v c) :
    Calls Try.prog 74 #[v] w fun e w' => e = .returned (.int .i64 (colF c)) ∧ Below w.heap.size w w' := by
  obtain ⟨a, cp, rfl⟩ := h.form
  obtain ⟨n, hnn⟩ : ∃ n, n = c.length := ⟨_, rfl⟩
  obtain ⟨C, hC⟩ : ∃ C, C = colF c := ⟨_, rfl⟩
  rw [← hnn] at h hl ⊢
  rw [← hC]
  have H : Hid (RG 2 flC w (.slice a n cp) c ∧ n = c.length ∧ C = colF c) := ⟨h, hnn, hC⟩
  clear h hnn hC
  by_cases h24 : (24 : Int) < (n : Int)
  · have HC : Hid (C = 2) := by unfold Hid; rw [H.out.2.2, colF, if_pos (by rw [← H.out.2.1]; omega)]
    go_enter Try.func74, Try.ntmps74
    go_wp2
    go_returns
    exact ⟨by rw [HC.out]; rfl, Below.refl _ _⟩
  have HC : Hid (C = if fstA (flB c) n = 0 then (if 100000 < topC c then 3 else 0) else fstA (flB c) n) := by unfold Hid; rw [H.out.2.2, colF, if_neg (by rw [← H.out.2.1]; omega), ← H.out.2.1]
  go_enter Try.func74, Try.ntmps74
  go_wp2
  go_loopw [3, 12] (fun q i wr => ∃ (j : Nat) (b : Int), j ≤ n ∧ i = .int .i64 j ∧ q = .int .i64 b ∧ Hid (b = blw c j ∧ fstA (flB c) j = 0 ∧ Below w.heap.size w wr)) (fun _ i _ => n - (intOf i).toNat)
  case atStart => exact ⟨0, 0, Nat.zero_le _, rfl, rfl, rfl, rfl, Below.refl _ _⟩
  case round =>
    obtain ⟨j, b, hjn, rfl, rfl, hR⟩ := hrel
    by_cases hlt : j < n
    · obtain ⟨g, o, rfl, hg, c0, c1⟩ := fl_at (H.out.1.below hR.out.2.2) hlt
      obtain ⟨m, hm0⟩ : ∃ x, x = (fat c j).m := ⟨_, rfl⟩
      obtain ⟨x, hxx⟩ : ∃ x, x = (fat c j).t := ⟨_, rfl⟩
      rw [← hm0] at c0
      rw [← hxx] at c1
      have HF : Hid (m = (fat c j).m ∧ x = (fat c j).t) := ⟨hm0, hxx⟩
      have HR : Hid (b = blw c j ∧ fstA (flB c) j = 0) := ⟨hR.out.1, hR.out.2.1⟩
      have hb : Below w.heap.size w (wr.alloc (.cells #[.int .i64 m, .int .i64 x] 76)) := hR.out.2.2.trans (by have := hR.out.2.2.size; (repeat' (first | (with_reducible exact Below.refl _ _) | (with_reducible assumption) | (with_reducible refine Below.setCell ?_ ?_ _) | (with_reducible refine Below.alloc ?_ ?_ _) | (with_reducible refine below_drewN ?_ _) | (with_reducible refine Below.drew ?_) | (with_reducible exact Nat.le_refl _) | omega | (simp; done) | (simp; omega))))
      have HB : Hid (Below w.heap.size w (wr.alloc (.cells #[.int .i64 m, .int .i64 x] 76))) := hb
      clear hR hm0 hxx hb
      have b0 : (0 : Int) ≤ (j : Int) := by omega
      have b1 : (j : Int) < (n : Int) := by omega
      go_wp2_with (fail)
      refine (impl_matF m _).mono ?_
      rintro e w1 ⟨rfl, rfl⟩
      by_cases hm : 1 ≤ m ∧ m ≤ 12
      · rw [if_pos hm]
        by_cases hs : m = b
        · have HE : Hid (C = 1) := by
            have h1 : flB c j = 1 := flB_same (by rw [← HF.out.1, ← HR.out.1]; exact hs)
            unfold Hid; rw [HC.out, fstA_hit HR.out.2 (by rw [h1]; decide) hlt, h1]; rfl
          subst hs
          go_wp2
          go_returns
          exact ⟨by rw [HE.out]; rfl, HB.out⟩
        · have hs' : (m == b) = false := by simpa using hs
          go_wp2_with (fail)
          refine (impl_byT x 1 _).mono ?_
          rintro e w1 ⟨rfl, rfl⟩
          by_cases hx : 1 ≤ x ∧ x ≤ 100000
          · rw [if_pos hx]
            have HN : Hid (m = blw c (j + 1) ∧ fstA (flB c) (j + 1) = 0) := ⟨HF.out.1, fstA_next HR.out.2 (flB_ok (by rw [← HF.out.1]; exact hm) (by rw [← HF.out.1, ← HR.out.1]; exact hs) (by rw [← HF.out.2]; exact hx))⟩
            go_wp2
            go_roundw
            case rel => exact ⟨j + 1, m, by omega, by go_num, rfl, HN.out.1, HN.out.2, HB.out⟩
            case measure => simp [intOf]; omega
          · rw [if_neg hx]
            have HE : Hid (C = 3) := by
              have h1 : flB c j = 3 := flB_thick (by rw [← HF.out.1]; exact hm) (by rw [← HF.out.1, ← HR.out.1]; exact hs) (by rw [← HF.out.2]; exact hx)
              unfold Hid; rw [HC.out, fstA_hit HR.out.2 (by rw [h1]; decide) hlt, h1]; rfl
            go_wp2
            go_returns
            exact ⟨by rw [HE.out]; rfl, HB.out⟩
      · rw [if_neg hm]
        have HE : Hid (C = 1) := by
          have h1 : flB c j = 1 := flB_mat (by rw [← HF.out.1]; exact hm)
          unfold Hid; rw [HC.out, fstA_hit HR.out.2 (by rw [h1]; decide) hlt, h1]; rfl
        clear hm
        go_wp2
        go_returns
        exact ⟨by rw [HE.out]; rfl, HB.out⟩
    · have ej : n = j := by omega
      have hz : fstA (flB c) n = 0 := by rw [ej]; exact hR.out.2.1
      have hok : ∀ k, k < c.length → 0 ≤ (fat c k).t ∧ (fat c k).t ≤ 100000 := fun k hk => by
        have := flB_zero.1 (fstA_zero hz k (by rw [H.out.2.1]; exact hk)); unfold okF at this; omega
      obtain ⟨T, hT⟩ : ∃ T, T = topC c := ⟨_, rfl⟩
      have hT1 : 0 ≤ T := by rw [hT]; exact (topA_bound hok).1
      have HT : Hid (Calls Try.prog 85 #[.slice a n cp] wr fun e w' => e = .returned (.int .i64 T) ∧ Below wr.heap.size wr w') := by
        rw [hT]; exact impl_thick (by rw [← H.out.2.1]; omega) hok (H.out.1.below hR.out.2.2)
      have HE : Hid (C = if 0 ≤ T ∧ T ≤ 100000 then 0 else 3) := by
        unfold Hid; rw [HC.out, if_pos hz, ← hT]
        by_cases h1 : 100000 < T
        · rw [if_pos h1, if_neg (by omega)]
        · rw [if_neg h1, if_pos (by omega)]
      have HB : Hid (Below w.heap.size w wr) := hR.out.2.2
      clear hR hz hok hT hT1 ej
      go_wp2_with (fail)
      refine HT.out.mono ?_
      rintro e w1 ⟨rfl, hb1⟩
      have HB2 : Hid (Below w.heap.size w w1) := HB.out.trans (hb1.mono HB.out.size)
      clear hb1 HB HT
      go_wp2_with (fail)
      refine (impl_byT T 0 _).mono ?_
      rintro e w2 ⟨rfl, rfl⟩
      rw [← HE.out]
      go_wp2
      go_returns
      exact ⟨rfl, HB2.out⟩

set_option maxRecDepth 10000 in
set_option maxHeartbeats 6400000 in
theorem impl_secF {w : World} {v : Value} {s : List (List Flm)} (hn : SmF s) (h : RsF w v s) :
    Calls Try.prog 43 #[.agg #[v]] w fun e w' => e = .returned (.int .i64 (secF s)) ∧ Below w.heap.size w w' := by
  obtain ⟨a, c, rfl⟩ := h.form
  obtain ⟨n, hnn⟩ : ∃ n, n = s.length := ⟨_, rfl⟩
  obtain ⟨C, hC⟩ : ∃ C, C = secF s := ⟨_, rfl⟩
  rw [← hnn] at h ⊢
  rw [← hC]
  have hn' : n ≤ 1048576 := by rw [hnn]; exact hn.len
  have H : Hid (RsF w (.slice a n c) s ∧ n = s.length ∧ SmF s ∧ C = secF s) := ⟨h, hnn, hn, hC⟩
  clear h hnn hn hC
  rcases Nat.eq_zero_or_pos n with h0 | h0
  · have HC : Hid (C = 1) := by unfold Hid; rw [H.out.2.2.2, secF, if_pos (by rw [← H.out.2.1]; exact h0)]
    clear H
    subst h0
    go_enter Try.func43, Try.ntmps43
    go_wp2
    go_returns
    exact ⟨by rw [HC.out]; rfl, by (repeat' (first | (with_reducible exact Below.refl _ _) | (with_reducible assumption) | (with_reducible refine Below.setCell ?_ ?_ _) | (with_reducible refine Below.alloc ?_ ?_ _) | (with_reducible refine below_drewN ?_ _) | (with_reducible refine Below.drew ?_) | (with_reducible exact Nat.le_refl _) | omega | (simp; done) | (simp; omega)))⟩
  have h01 : ¬ (n : Int) = 0 := by omega
  have hq1 : ((n : Int) == 0) = false := by simpa using h01
  by_cases h16 : (16 : Int) < (n : Int)
  · have HC : Hid (C = 2) := by unfold Hid; rw [H.out.2.2.2, secF, if_neg (by rw [← H.out.2.1]; omega), if_pos (by rw [← H.out.2.1]; omega)]
    go_enter Try.func43, Try.ntmps43
    go_wp2
    go_returns
    exact ⟨by rw [HC.out]; rfl, by (repeat' (first | (with_reducible exact Below.refl _ _) | (with_reducible assumption) | (with_reducible refine Below.setCell ?_ ?_ _) | (with_reducible refine Below.alloc ?_ ?_ _) | (with_reducible refine below_drewN ?_ _) | (with_reducible refine Below.drew ?_) | (with_reducible exact Nat.le_refl _) | omega | (simp; done) | (simp; omega)))⟩
  have HC : Hid (C = fstA (fun i => colF (s.getD i [])) n) := by unfold Hid; rw [H.out.2.2.2, secF, if_neg (by rw [← H.out.2.1]; omega), if_neg (by rw [← H.out.2.1]; omega), ← H.out.2.1]
  go_enter Try.func43, Try.ntmps43
  go_wp2
  go_loopw [17] (fun i wr => ∃ j : Nat, j ≤ n ∧ i = .int .i64 j ∧ Hid (Below w.heap.size w wr ∧ fstA (fun i => colF (s.getD i [])) j = 0)) (fun i _ => n - (intOf i).toNat)
  case atStart => exact ⟨0, Nat.zero_le _, rfl, by (repeat' (first | (with_reducible exact Below.refl _ _) | (with_reducible assumption) | (with_reducible refine Below.setCell ?_ ?_ _) | (with_reducible refine Below.alloc ?_ ?_ _) | (with_reducible refine below_drewN ?_ _) | (with_reducible refine Below.drew ?_) | (with_reducible exact Nat.le_refl _) | omega | (simp; done) | (simp; omega))), rfl⟩
  case round =>
    obtain ⟨j, hjn, rfl, hR⟩ := hrel
    by_cases hlt : j < n
    · obtain ⟨g, o, ua, un, uc, rfl, hg, c0, hun, hrd⟩ := (H.out.1.below hR.out.1).at hlt
      obtain ⟨D, hD⟩ : ∃ D, D = colF (s.getD j []) := ⟨_, rfl⟩
      have HD : Hid (D = colF (s.getD j [])) := hD
      have HK : Hid (Calls Try.prog 74 #[.slice ua un uc] wr fun e w' => e = .returned (.int .i64 D) ∧ Below wr.heap.size wr w') := by
        rw [hD]; exact impl_colF (H.out.2.2.1.row j) hrd
      clear hrd hun hD
      have b0 : (0 : Int) ≤ (j : Int) := by omega
      have b1 : (j : Int) < (n : Int) := by omega
      go_wp2_with (fail)
      refine HK.out.mono ?_
      rintro e w1 ⟨rfl, hb1⟩
      have HB : Hid (Below w.heap.size w w1) := hR.out.1.trans (hb1.mono hR.out.1.size)
      clear hb1 HK c0
      by_cases hd : D = 0
      · have HN : Hid (fstA (fun i => colF (s.getD i [])) (j + 1) = 0) := fstA_next hR.out.2 (by rw [← HD.out]; exact hd)
        clear hR
        subst hd
        go_wp2
        go_roundw
        case rel => exact ⟨j + 1, by omega, by go_num, HB.out, HN.out⟩
        case measure => simp [intOf]; omega
      · have HE : Hid (C = D) := by
          have h1 := fstA_hit (f := fun i => colF (s.getD i [])) hR.out.2 (by rw [← HD.out]; exact hd) hlt
          unfold Hid; rw [HC.out, h1, HD.out]
        have hd' : (D == 0) = false := by simpa using hd
        clear hR
        go_wp2
        go_returns
        exact ⟨by rw [HE.out]; rfl, HB.out⟩
    · have ej : n = j := by omega
      have HE : Hid (C = 0) := by unfold Hid; rw [HC.out, ej]; exact hR.out.2
      have HB : Hid (Below w.heap.size w wr) := hR.out.1
      clear hR ej
      go_wp2
      go_returns
      exact ⟨by rw [HE.out]; rfl, HB.out⟩

end Go.Proofs.Ytceljakmjddgbab
