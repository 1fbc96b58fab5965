/- Proved here: ShiftOf of the program: sgF, shV. -/
import Derived.Test.YtdidmjgilnhncaaSfM
import Derived.Test.YtdidmjgilnhncaaInsC
import Derived.Test.YtdidmjgilnhncaaLwS
import Derived.Deep.DeepCutAuto
namespace Go.Proofs.Ytdidmjgilnhncaa
open Go.RowKit
set_option linter.unusedVariables false
set_option linter.unusedSimpArgs false

set_option maxHeartbeats 1600000 in
theorem impl_bySig (n : Int) (w : World) : Calls Try.prog 71 #[.int .i64 n] w fun e w' => e = .returned (.bool (outS n)) ∧ w' = w := by
  obtain ⟨r, hr⟩ : ∃ r, r = decide (-1000 ≤ n ∧ n ≤ 1000) := ⟨_, rfl⟩
  have HE : Hid (outS n = !r) := by unfold Hid outS; rw [hr]
  have HC : Hid (∀ W, Calls Try.prog 57 #[.int .i64 n, .int .i64 (-1000), .int .i64 1000] W fun e w' => e = .returned (.bool r) ∧ w' = W) := fun W => impl_insC _ _ _ _ hr W
  clear hr
  go_enter Try.func71, Try.ntmps71
  go_wp2_with (fail)
  refine (HC.out _).mono ?_
  rintro e w1 ⟨rfl, rfl⟩
  go_wp2
  go_returns
  exact ⟨by rw [HE.out] <;> rfl, rfl⟩

set_option maxRecDepth 10000 in
set_option maxHeartbeats 3200000 in
theorem impl_ixSig {w : World} {v : Value} {s : List Int} (hn : s.length ≤ 1048576) (h : RdI w v s) :
    Calls Try.prog 82 #[v, .func (Fn.func 71) #[] #[]] w fun e w' => ∃ r : Int, e = .returned (.int .i64 r) ∧ decide (0 ≤ r) = s.any outS ∧ w' = w := by
  obtain ⟨a, c, rfl⟩ := h.form
  obtain ⟨n, hnn⟩ : ∃ n, n = s.length := ⟨_, rfl⟩
  rw [← hnn] at h hn ⊢
  obtain ⟨G, hG⟩ : ∃ G, G = s.any outS := ⟨_, rfl⟩
  rw [← hG]
  have H : Hid (RdI w (.slice a n c) s ∧ n = s.length ∧ G = s.any outS) := ⟨h, hnn, hG⟩
  clear h hnn hG
  go_enter Try.func82, Try.ntmps82
  go_wp2
  go_loopw [8] (fun i wr => ∃ k : Nat, k ≤ n ∧ i = .int .i64 k ∧ wr = w ∧ Hid (G = (s.drop k).any outS)) (fun i _ => n - (intOf i).toNat)
  case atStart => exact ⟨0, Nat.zero_le _, rfl, rfl, H.out.2.2⟩
  case round =>
    obtain ⟨k, hk, rfl, rfl, hR⟩ := hrel
    by_cases hlt : k < n
    · obtain ⟨g, o, rfl, hg, c0⟩ := rd_at H.out.1 hlt
      obtain ⟨m, hm⟩ : ∃ m, m = s.getD k 0 := ⟨_, rfl⟩
      rw [← hm] at c0
      obtain ⟨q, hq⟩ : ∃ q, q = outS m := ⟨_, rfl⟩
      have HQ : Hid (G = (q || (s.drop (k + 1)).any outS)) := by unfold Hid; rw [hR.out, any_dropI (by rw [← H.out.2.1]; exact hlt), hq, hm]
      have HC : Hid (∀ W, Calls Try.prog 71 #[.int .i64 m] W fun e w' => e = .returned (.bool q) ∧ w' = W) := fun W => by rw [hq]; exact impl_bySig m W
      clear hm hq hR
      have b0 : (0 : Int) ≤ (k : Int) := by omega
      have b1 : (k : Int) < (n : Int) := by omega
      go_wp2_with (fail)
      refine (HC.out _).mono ?_
      rintro e w5 ⟨rfl, hw5⟩
      obtain rfl : wr = w5 := hw5.symm
      clear HC
      cases q with
      | true =>
        go_wp2
        go_returns
        exact ⟨(k : Int), rfl, by rw [HQ.out, decide_eq_true b0]; rfl, rfl⟩
      | false =>
        go_wp2
        go_roundw
        case rel => exact ⟨k + 1, by omega, by go_num, by first | rfl | trivial, HQ.out⟩
        case measure => simp [intOf]; omega
    · have HM : Hid (G = false) := by
        unfold Hid; rw [hR.out, List.drop_eq_nil_of_le (by rw [← H.out.2.1]; omega)]; rfl
      go_wp2
      go_returns
      exact ⟨-1, rfl, by rw [HM.out]; rfl, rfl⟩

set_option maxHeartbeats 1600000 in
theorem impl_anySig {w : World} {v : Value} {s : List Int} (hn : s.length ≤ 1048576) (h : RdI w v s) :
    Calls Try.prog 70 #[v, .func (Fn.func 71) #[] #[]] w fun e w' => e = .returned (.bool (s.any outS)) ∧ w' = w := by
  obtain ⟨a, c, rfl⟩ := h.form
  have HC : Hid (Calls Try.prog 82 #[.slice a s.length c, .func (Fn.func 71) #[] #[]] w fun e w' => ∃ r : Int, e = .returned (.int .i64 r) ∧ decide (0 ≤ r) = s.any outS ∧ w' = w) := impl_ixSig hn h
  obtain ⟨n, hnn⟩ : ∃ n, n = s.length := ⟨_, rfl⟩
  obtain ⟨B, hB⟩ : ∃ B, B = s.any outS := ⟨_, rfl⟩
  rw [← hnn, ← hB] at HC
  rw [← hnn, ← hB]
  clear h hnn hn hB
  go_enter Try.func70, Try.ntmps70
  go_wp2_with (fail)
  refine HC.out.mono ?_
  rintro e w5 ⟨r, rfl, hr, rfl⟩
  have HR : Hid (decide (0 ≤ r) = B) := hr
  clear HC hr
  go_wp2
  go_returns
  exact ⟨by rw [← HR.out]; rfl, rfl⟩

set_option maxRecDepth 10000 in
set_option maxHeartbeats 6400000 in
theorem impl_sgF (most : Int) {w : World} {v u : Value} {s t : List Int} (hn : s.length ≤ 1048576) (hm : t.length ≤ 1048576) (h : RdI w v s) (h' : RdI w u t) :
    Calls Try.prog 40 #[v, u, .int .i64 most] w fun e w' => e = .returned (.int .i64 (sgF s t most)) ∧ w' = w := by
  obtain ⟨a, c, rfl⟩ := h.form
  obtain ⟨a2, c2, rfl⟩ := h'.form
  obtain ⟨n, hnn⟩ : ∃ n, n = s.length := ⟨_, rfl⟩
  obtain ⟨m, hmm⟩ : ∃ n, n = t.length := ⟨_, rfl⟩
  obtain ⟨p, hp⟩ : ∃ p, p = s.any outS := ⟨_, rfl⟩
  obtain ⟨q, hq⟩ : ∃ p, p = t.any outS := ⟨_, rfl⟩
  obtain ⟨r, hr⟩ : ∃ r, r = decide (0 ≤ most ∧ most ≤ 100) := ⟨_, rfl⟩
  obtain ⟨C, hC⟩ : ∃ C, C = sgF s t most := ⟨_, rfl⟩
  have HP : Hid (Calls Try.prog 70 #[.slice a n c, .func (Fn.func 71) #[] #[]] w fun e w' => e = .returned (.bool p) ∧ w' = w) := by rw [hp, hnn]; exact impl_anySig hn h
  have HQ : Hid (Calls Try.prog 70 #[.slice a2 m c2, .func (Fn.func 71) #[] #[]] w fun e w' => e = .returned (.bool q) ∧ w' = w) := by rw [hq, hmm]; exact impl_anySig hm h'
  have HR : Hid (Calls Try.prog 57 #[.int .i64 most, .int .i64 0, .int .i64 100] w fun e w' => e = .returned (.bool r) ∧ w' = w) := impl_insC _ _ _ _ hr w
  have HC : Hid (C = if n = 0 ∨ m = 0 then 1 else if 200 < n ∨ 200 < m then 2 else if p = true ∨ q = true ∨ ¬ (r = true) then 3 else 0) := by
    unfold Hid
    rw [hC, hnn, hmm, hp, hq, hr]
    simp only [decide_eq_true_eq]
    rfl
  rw [← hnn] at hn ⊢
  rw [← hmm] at hm ⊢
  rw [← hC]
  clear h h' hnn hmm hp hq hr hC
  by_cases h1 : n = 0
  · have HZ : Hid (C = 1) := by unfold Hid; rw [HC.out, if_pos (Or.inl h1)]
    have hA : ((n : Int) == 0) = true := by rw [h1]; rfl
    clear HC
    subst h1
    go_enter Try.func40, Try.ntmps40
    go_wp2
    go_returns
    exact ⟨by rw [HZ.out] <;> rfl, rfl⟩
  have h1' : ((n : Int) == 0) = false := by simp; omega
  by_cases h2 : m = 0
  · have HZ : Hid (C = 1) := by unfold Hid; rw [HC.out, if_pos (Or.inr h2)]
    clear HC
    subst h2
    go_enter Try.func40, Try.ntmps40
    go_wp2
    go_returns
    exact ⟨by rw [HZ.out] <;> rfl, rfl⟩
  have h2' : ((m : Int) == 0) = false := by simp; omega
  by_cases h3 : (200 : Int) < (n : Int)
  · have HZ : Hid (C = 2) := by unfold Hid; rw [HC.out, if_neg (by omega), if_pos (by omega)]
    clear HC
    go_enter Try.func40, Try.ntmps40
    go_wp2
    go_returns
    exact ⟨by rw [HZ.out] <;> rfl, rfl⟩
  by_cases h4 : (200 : Int) < (m : Int)
  · have HZ : Hid (C = 2) := by unfold Hid; rw [HC.out, if_neg (by omega), if_pos (by omega)]
    clear HC
    go_enter Try.func40, Try.ntmps40
    go_wp2
    go_returns
    exact ⟨by rw [HZ.out] <;> rfl, rfl⟩
  have HC2 : Hid (C = if p = true ∨ q = true ∨ ¬ (r = true) then 3 else 0) := by unfold Hid; rw [HC.out, if_neg (by omega), if_neg (by omega)]
  clear HC
  go_enter Try.func40, Try.ntmps40
  go_wp2_with (fail)
  refine HP.out.mono ?_
  rintro e w1 ⟨rfl, hw1⟩
  obtain rfl : w = w1 := hw1.symm
  cases p with
  | true =>
    have HZ : Hid (C = 3) := by unfold Hid; rw [HC2.out, if_pos (Or.inl rfl)]
    go_wp2
    go_returns
    exact ⟨by rw [HZ.out] <;> rfl, rfl⟩
  | false =>
  go_wp2_with (fail)
  refine HQ.out.mono ?_
  rintro e w1 ⟨rfl, hw1⟩
  obtain rfl : w = w1 := hw1.symm
  cases q with
  | true =>
    have HZ : Hid (C = 3) := by unfold Hid; rw [HC2.out, if_pos (Or.inr (Or.inl rfl))]
    go_wp2
    go_returns
    exact ⟨by rw [HZ.out] <;> rfl, rfl⟩
  | false =>
  go_wp2_with (fail)
  refine HR.out.mono ?_
  rintro e w1 ⟨rfl, hw1⟩
  obtain rfl : w = w1 := hw1.symm
  cases r with
  | true =>
    have HZ : Hid (C = 0) := by unfold Hid; rw [HC2.out, if_neg (by simp)]
    go_wp2
    go_returns
    exact ⟨by rw [HZ.out] <;> rfl, rfl⟩
  | false =>
    have HZ : Hid (C = 3) := by unfold Hid; rw [HC2.out, if_pos (by simp)]
    go_wp2
    go_returns
    exact ⟨by rw [HZ.out] <;> rfl, rfl⟩

set_option maxRecDepth 10000 in
set_option maxHeartbeats 6400000 in
theorem impl_sumAt (sh : Int) (hs : -1000 ≤ sh ∧ sh ≤ 1000) {w : World} {v u : Value} {s t : List Int} (hn : s.length ≤ 200) (hm : t.length ≤ 200) (hsa : s.any outS = false) (hta : t.any outS = false) (h : RdI w v s) (h' : RdI w u t) :
    Calls Try.prog 41 #[v, u, .int .i64 sh] w fun e w' => e = .returned (.int .i64 (scA s t sh)) ∧ w' = w := by
  obtain ⟨a, c, rfl⟩ := h.form
  obtain ⟨a2, c2, rfl⟩ := h'.form
  obtain ⟨n, hnn⟩ : ∃ n, n = s.length := ⟨_, rfl⟩
  obtain ⟨m, hmm⟩ : ∃ n, n = t.length := ⟨_, rfl⟩
  obtain ⟨G, hG⟩ : ∃ G, G = scA s t sh := ⟨_, rfl⟩
  rw [← hnn] at h hn ⊢
  rw [← hmm] at h' hm ⊢
  rw [← hG]
  have H : Hid (RdI w (.slice a n c) s ∧ RdI w (.slice a2 m c2) t ∧ n = s.length ∧ m = t.length ∧ G = scA s t sh ∧ s.any outS = false ∧ t.any outS = false) := ⟨h, h', hnn, hmm, hG, hsa, hta⟩
  clear h h' hnn hmm hG hsa hta
  go_enter Try.func41, Try.ntmps41
  go_wp2
  go_loopw [7, 13] (fun q i wr => ∃ (k : Nat) (z : Int), k ≤ n ∧ i = .int .i64 k ∧ q = .int .i64 z ∧ wr = w ∧ -200000000 ≤ z ∧ z ≤ 200000000 ∧ Hid (z = scK s t sh k)) (fun _ i _ => n - (intOf i).toNat)
  case atStart => exact ⟨0, 0, Nat.zero_le _, rfl, rfl, rfl, by omega, by omega, rfl⟩
  case round =>
    obtain ⟨k, z, hk, rfl, rfl, rfl, hz1, hz2, hR⟩ := hrel
    by_cases hlt : k < n
    · obtain ⟨g, o, rfl, hg, c0⟩ := rd_at H.out.1 hlt
      have hx := inL H.out.2.2.2.2.2.1 k
      obtain ⟨x, hxe⟩ : ∃ x, x = s.getD k 0 := ⟨_, rfl⟩
      rw [← hxe] at c0 hx
      obtain ⟨at', hat⟩ : ∃ y, y = (k : Int) + sh := ⟨_, rfl⟩
      have b0 : (0 : Int) ≤ (k : Int) := by omega
      have b1 : (k : Int) < (n : Int) := by omega
      have hw1 : IntKind.i64.wrap ((k : Int) + sh) = at' := by rw [hat, IntKind.wrap_i64]; omega
      have hw2 : IntKind.i64.wrap ((m : Int) - 1) = (m : Int) - 1 := by rw [IntKind.wrap_i64]; omega
      obtain ⟨r, hr⟩ : ∃ r, r = decide (0 ≤ at' ∧ at' ≤ (m : Int) - 1) := ⟨_, rfl⟩
      have HI : Hid (∀ W, Calls Try.prog 57 #[.int .i64 at', .int .i64 0, .int .i64 ((m : Int) - 1)] W fun e w' => e = .returned (.bool r) ∧ w' = W) := fun W => impl_insC _ _ _ _ hr W
      have HN : Hid (scK s t sh (k + 1) = z + tmK s t sh k) := by unfold Hid; rw [scK, hR.out]
      have HBD : Hid (-(1000000 * ((k + 1 : Nat) : Int)) ≤ scK s t sh (k + 1) ∧ scK s t sh (k + 1) ≤ 1000000 * ((k + 1 : Nat) : Int)) := scK_bd H.out.2.2.2.2.2.1 H.out.2.2.2.2.2.2 sh (k + 1)
      have HT : Hid (tmK s t sh k = if r = true then x * t.getD at'.toNat 0 else 0) := by
        unfold Hid tmK
        rw [← hat, ← hxe, ← H.out.2.2.2.1, hr]
        by_cases h0 : 0 ≤ at' ∧ at' < (m : Int)
        · rw [if_pos h0, if_pos (decide_eq_true ⟨h0.1, by omega⟩)]
        · rw [if_neg h0, if_neg (by simp; omega)]
      have HRR : Hid (r = true → 0 ≤ at' ∧ at' ≤ (m : Int) - 1) := fun h => by rw [hr] at h; exact of_decide_eq_true h
      clear hxe hat hr hR
      go_wp2_with (fail)
      refine (HI.out _).mono ?_
      rintro e w5 ⟨rfl, hw5⟩
      obtain rfl : wr = w5 := hw5.symm
      cases r with
      | false =>
        have HF : Hid (z = scK s t sh (k + 1)) := by unfold Hid; rw [HN.out, HT.out, if_neg (by decide)]; omega
        clear HN HT HI
        go_wp2
        go_roundw
        case rel => exact ⟨k + 1, z, by omega, by go_num, by first | rfl | trivial, by first | rfl | trivial, by omega, by omega, HF.out⟩
        case measure => simp [intOf]; omega
      | true =>
        have hb := HRR.out rfl
        obtain ⟨j, hj⟩ : ∃ j : Nat, at' = (j : Int) := ⟨at'.toNat, by omega⟩
        have hjm : j < m := by omega
        obtain ⟨g2, o2, rfl, hg2, d0⟩ := rd_at H.out.2.1 hjm
        have hy := inL H.out.2.2.2.2.2.2 j
        have HT2 : Hid (tmK s t sh k = x * t.getD j 0) := by unfold Hid; rw [HT.out, if_pos rfl, hj, Int.toNat_natCast]
        obtain ⟨y, hye⟩ : ∃ y, y = t.getD j 0 := ⟨_, rfl⟩
        rw [← hye] at d0 hy HT2
        obtain ⟨xy, hxy⟩ : ∃ q, q = x * y := ⟨_, rfl⟩
        have hxb := mul_in (A := 1000) (B := 1000) hx.1 hx.2 hy.1 hy.2
        rw [← hxy] at hxb HT2
        have hw3 : IntKind.i64.wrap (x * y) = xy := by rw [← hxy, IntKind.wrap_i64]; omega
        have hw4 : IntKind.i64.wrap (z + xy) = z + xy := by rw [IntKind.wrap_i64]; omega
        have HF : Hid (z + xy = scK s t sh (k + 1)) := by unfold Hid; rw [HN.out, HT2.out]
        have hbz : -200000000 ≤ z + xy ∧ z + xy ≤ 200000000 := by have h9 := HBD.out; rw [← HF.out] at h9; omega
        have b2 : (0 : Int) ≤ (j : Int) := by omega
        have b3 : (j : Int) < (m : Int) := by omega
        clear hye hxy HN HT HI HT2 HRR HBD hb hx hy hxb
        subst hj
        go_wp2
        go_roundw
        case rel => exact ⟨k + 1, z + xy, by omega, by go_num, by first | rfl | trivial, by first | rfl | trivial, by omega, by omega, HF.out⟩
        case measure => simp [intOf]; omega
    · have HF : Hid (z = G) := by
        unfold Hid; rw [hR.out, H.out.2.2.2.2.1]
        unfold scA
        rw [← H.out.2.2.1, show k = n by omega]
      clear hR
      go_wp2
      go_returns
      exact ⟨by rw [HF.out] <;> rfl, rfl⟩

theorem ix_two (c0 c1 : Int) (j : Nat) (hj : j < 2) (w : World) : (Instr.index 72 (.agg #[.int .i64 c0, .int .i64 c1]) (.int .i64 j)).run Try.prog w = .ok (if j = 0 then .int .i64 c0 else .int .i64 c1) w := by
  have hu : Try.prog.underlying 72 = some (.array 2 2) := by kernel_rfl
  obtain ⟨i0, hi0, hz0, hz1, hz2⟩ := info_parts (show (Try.prog.info? 2).map (fun i => (i.zero, i.size, i.bytes)) = some (some (.int .i64 0), 1, 8) by kernel_rfl)
  rcases (by omega : j = 0 ∨ j = 1) with rfl | rfl <;> simp [Instr.index, go_sem, hu, hi0, hz0, hz1, part]

set_option maxRecDepth 10000 in
set_option maxHeartbeats 12800000 in
theorem impl_shV (most : Int) {w : World} {v u : Value} {s t : List Int} (hn : s.length ≤ 1048576) (hm : t.length ≤ 1048576) (h : RdI w v s) (h' : RdI w u t) :
    Calls Try.prog 11 #[v, u, .int .i64 most] w fun e w' => e = .returned (.agg #[.int .i64 (shC s t most), .int .i64 (shV s t most)]) ∧ Below w.heap.size w w' := by
  obtain ⟨a, c, rfl⟩ := h.form
  obtain ⟨a2, c2, rfl⟩ := h'.form
  obtain ⟨C, hC⟩ : ∃ C, C = sgF s t most := ⟨_, rfl⟩
  obtain ⟨R, hR⟩ : ∃ C, C = shV s t most := ⟨_, rfl⟩
  rw [show shC s t most = C from hC.symm, ← hR]
  obtain ⟨n, hnn⟩ : ∃ n, n = s.length := ⟨_, rfl⟩
  obtain ⟨m, hmm⟩ : ∃ n, n = t.length := ⟨_, rfl⟩
  have HF : Hid (∀ W, Below w.heap.size w W → Calls Try.prog 40 #[.slice a n c, .slice a2 m c2, .int .i64 most] W fun e w' => e = .returned (.int .i64 C) ∧ w' = W) := fun W hW => by rw [hC, hnn, hmm]; exact impl_sgF most hn hm (h.below hW) (h'.below hW)
  have HS : Hid (C = 0 → ∀ W (sh : Int), -1000 ≤ sh → sh ≤ 1000 → Below w.heap.size w W → Calls Try.prog 41 #[.slice a n c, .slice a2 m c2, .int .i64 sh] W fun e w' => e = .returned (.int .i64 (scA s t sh)) ∧ w' = W) := fun h0 W sh h1 h2 hW => by
    obtain ⟨_, _, l1, l2, l3, l4, _, _⟩ := sgF_ok (hC.symm.trans h0)
    rw [hnn, hmm]; exact impl_sumAt sh ⟨h1, h2⟩ l1 l2 l3 l4 (h.below hW) (h'.below hW)
  have HR : Hid ((C ≠ 0 → R = 0) ∧ (C = 0 → R = (bsK s t (2 * most.toNat)).1 ∧ 0 ≤ most ∧ most ≤ 100)) := by
    refine ⟨fun h0 => ?_, fun h0 => ⟨?_, ?_⟩⟩
    · rw [hR]; unfold shV; rw [if_neg (by rw [← hC]; exact h0)]
    · rw [hR]; unfold shV; rw [if_pos (by rw [← hC]; exact h0)]
    · obtain ⟨_, _, _, _, _, _, l5, l6⟩ := sgF_ok (hC.symm.trans h0); exact ⟨l5, l6⟩
  rw [← hnn, ← hmm]
  clear h h' hn hm hnn hmm hC hR
  obtain ⟨V, hV⟩ : ∃ V, V = w.alloc (.cells #[.int .i64 0, .int .i64 0] 28) := ⟨_, rfl⟩
  have HV : Hid (V.heap[w.heap.size]? = some (.cells #[.int .i64 0, .int .i64 0] 28) ∧ Below w.heap.size w V) := ⟨by rw [hV]; exact heap_alloc_new w _, by rw [hV]; (repeat' (first | (with_reducible exact Below.refl _ _) | (with_reducible assumption) | (with_reducible refine Below.setCell ?_ ?_ _) | (with_reducible refine Below.alloc ?_ ?_ _) | (with_reducible refine below_drewN ?_ _) | (with_reducible refine Below.drew ?_) | (with_reducible exact Nat.le_refl _) | omega | (simp; done) | (simp; omega)))⟩
  have q0 := cellOf HV.out.1 0 rfl
  have q1 := cellOf HV.out.1 1 rfl
  have f0 := frozOf HV.out.1 0
  have f1 := frozOf HV.out.1 1
  have ql := ltOf HV.out.1
  go_enter Try.func11, Try.ntmps11
  go_upto_region 1 with fail
  rw [← hV]
  clear hV
  go_wp2_with (fail)
  refine (HF.out _ HV.out.2).mono ?_
  rintro e w1 ⟨rfl, hw1⟩
  obtain rfl : V = w1 := hw1.symm
  clear HF
  by_cases h0 : C = 0
  case neg =>
    have HZ : Hid (R = 0) := HR.out.1 h0
    have hA : (C != 0) = true := by simpa using h0
    clear h0 HR
    go_wp2
    try simp only [Exit.inBlock, Exit.then]
    refine bodyPost_ret (by simp [results, Try.results11, go_sem, q0, q1, ql]; try rfl) rfl ⟨by rw [HZ.out] <;> rfl, ?_⟩
    have hb := HV.out.2
    (repeat' (first | (with_reducible exact Below.refl _ _) | (with_reducible assumption) | (with_reducible refine Below.setCell ?_ ?_ _) | (with_reducible refine Below.alloc ?_ ?_ _) | (with_reducible refine below_drewN ?_ _) | (with_reducible refine Below.drew ?_) | (with_reducible exact Nat.le_refl _) | omega | (simp; done) | (simp; omega)))
  have hA : (C != 0) = false := by rw [h0]; rfl
  obtain ⟨hRe, hm0, hm1⟩ := HR.out.2 h0
  have HS2 : Hid (∀ (sh : Int), -1000 ≤ sh → sh ≤ 1000 → Calls Try.prog 41 #[.slice a n c, .slice a2 m c2, .int .i64 sh] V fun e w' => e = .returned (.int .i64 (scA s t sh)) ∧ w' = V) := fun sh h1 h2 => HS.out h0 V sh h1 h2 HV.out.2
  obtain ⟨M, hM⟩ : ∃ M : Nat, most = (M : Int) := ⟨most.toNat, by omega⟩
  have HR2 : Hid (R = (bsK s t (2 * M)).1 ∧ C = 0) := ⟨by rw [hRe, hM, Int.toNat_natCast], h0⟩
  clear HS HR hRe h0 hm0
  subst hM
  obtain ⟨z0, hz0⟩ : ∃ z, z = scA s t 0 := ⟨_, rfl⟩
  have HS0 : Hid (Calls Try.prog 41 #[.slice a n c, .slice a2 m c2, .int .i64 0] V fun e w' => e = .returned (.int .i64 z0) ∧ w' = V) := by rw [hz0]; exact HS2.out 0 (by omega) (by omega)
  have HZ0 : Hid (bsK s t 0 = (0, z0)) := by unfold Hid; rw [hz0]; rfl
  clear hz0
  go_wp2_with (fail)
  refine HS0.out.mono ?_
  rintro e w1 ⟨rfl, hw1⟩
  obtain rfl : V = w1 := hw1.symm
  go_wp2
  go_loopw [8, 9, 10] (fun b g i wr => ∃ (k : Nat) (x z : Int), 1 ≤ k ∧ k ≤ M + 1 ∧ i = .int .i64 k ∧ b = .int .i64 x ∧ g = .int .i64 z ∧ wr = V ∧ Hid (bsK s t (2 * (k - 1)) = (x, z))) (fun _ _ i _ => M + 1 - (intOf i).toNat)
  case atStart => exact ⟨1, 0, z0, by omega, by omega, rfl, rfl, rfl, rfl, HZ0.out⟩
  case round =>
    obtain ⟨k, x, z, hk0, hk, rfl, rfl, rfl, rfl, hRR⟩ := hrel
    by_cases hlt : k ≤ M
    · have b1 : (k : Int) ≤ (M : Int) := by omega
      have hneg : IntKind.i64.wrap (-(k : Int)) = -(k : Int) := by rw [IntKind.wrap_i64]; omega
      have HRK : Hid (bsK s t (2 * (k - 1)) = (x, z)) := hRR
      clear hRR
      go_wp2
      go_loopw [8, 9, 34] (fun b g i wr2 => ∃ (j : Nat) (x z : Int), j ≤ 2 ∧ i = .int .i64 j ∧ b = .int .i64 x ∧ g = .int .i64 z ∧ wr2 = wr ∧ Hid (bsK s t (2 * (k - 1) + j) = (x, z))) (fun _ _ i _ => 2 - (intOf i).toNat)
      case atStart => exact ⟨0, x, z, by omega, rfl, rfl, rfl, rfl, HRK.out⟩
      case round =>
        clear HRK
        obtain ⟨j, x, z, hj, rfl, rfl, rfl, rfl, hRJ⟩ := hrel
        by_cases hj2 : j < 2
        · obtain ⟨sh, hsh⟩ : ∃ q : Int, q = if j = 0 then -(k : Int) else (k : Int) := ⟨_, rfl⟩
          have hix : ∀ W : World, (Instr.index 72 (.agg #[.int .i64 (-(k : Int)), .int .i64 (k : Int)]) (.int .i64 j)).run Try.prog W = .ok (.int .i64 sh) W := fun W => by
            rw [ix_two _ _ j hj2 W, hsh]; split <;> rfl
          have hsb : -1000 ≤ sh ∧ sh ≤ 1000 := by rw [hsh]; split <;> omega
          obtain ⟨z2, hz2⟩ : ∃ z, z = scA s t sh := ⟨_, rfl⟩
          have HC : Hid (Calls Try.prog 41 #[.slice a n c, .slice a2 m c2, .int .i64 sh] wr fun e w' => e = .returned (.int .i64 z2) ∧ w' = wr) := by rw [hz2]; exact HS2.out sh hsb.1 hsb.2
          have HN : Hid (bsK s t (2 * (k - 1) + (j + 1)) = if z < z2 then (sh, z2) else (x, z)) := by
            have e : tK (2 * (k - 1) + j + 1) = sh := by
              rw [hsh]
              rcases (by omega : j = 0 ∨ j = 1) with rfl | rfl
              · rw [if_pos rfl, Nat.add_zero, tK_odd, show k - 1 + 1 = k by omega]
              · rw [if_neg (by omega), tK_even, show k - 1 + 1 = k by omega]
            unfold Hid
            rw [show 2 * (k - 1) + (j + 1) = (2 * (k - 1) + j) + 1 by omega, bsK, e, hRJ.out, hz2]
          clear hsh hz2 hsb hRJ
          have b2 : (j : Int) < 2 := by omega
          have b3 : (0 : Int) ≤ (j : Int) := by omega
          go_wp2_with (fail)
          refine HC.out.mono ?_
          rintro e w1 ⟨rfl, hw1⟩
          obtain rfl : wr = w1 := hw1.symm
          clear HC
          by_cases hz : z < z2
          · have HN2 : Hid (bsK s t (2 * (k - 1) + (j + 1)) = (sh, z2)) := by have e := HN.out; rw [if_pos hz] at e; exact e
            clear HN
            go_wp2
            go_roundw
            case rel => exact ⟨j + 1, sh, z2, by omega, by go_num, by first | rfl | trivial, by first | rfl | trivial, by first | rfl | trivial, HN2.out⟩
            case measure => simp [intOf]; omega
          · have HN2 : Hid (bsK s t (2 * (k - 1) + (j + 1)) = (x, z)) := by have e := HN.out; rw [if_neg hz] at e; exact e
            clear HN
            go_wp2
            go_roundw
            case rel => exact ⟨j + 1, x, z, by omega, by go_num, by first | rfl | trivial, by first | rfl | trivial, by first | rfl | trivial, HN2.out⟩
            case measure => simp [intOf]; omega
        · have HN : Hid (bsK s t (2 * (k + 1 - 1)) = (x, z)) := by
            have e := hRJ.out
            rw [show j = 2 by omega, show 2 * (k - 1) + 2 = 2 * (k + 1 - 1) by omega] at e; exact e
          clear hRJ
          go_wp2
          go_roundw
          case rel => exact ⟨k + 1, x, z, by omega, by omega, by go_num, by first | rfl | trivial, by first | rfl | trivial, by first | rfl | trivial, HN.out⟩
          case measure => simp [intOf]; omega
    · have HZ : Hid (R = x) := by
        have e := hRR.out
        rw [show k = M + 1 by omega, show M + 1 - 1 = M by omega] at e
        unfold Hid; rw [HR2.out.1, e]
      clear hRR
      go_wp2
      try simp only [Exit.inBlock, Exit.then]
      refine bodyPost_ret (by simp [results, Try.results11, go_sem, q0, q1, ql]; try rfl) rfl ⟨by rw [HZ.out, HR2.out.2] <;> rfl, ?_⟩
      have hb := HV.out.2
      (repeat' (first | (with_reducible exact Below.refl _ _) | (with_reducible assumption) | (with_reducible refine Below.setCell ?_ ?_ _) | (with_reducible refine Below.alloc ?_ ?_ _) | (with_reducible refine below_drewN ?_ _) | (with_reducible refine Below.drew ?_) | (with_reducible exact Nat.le_refl _) | omega | (simp; done) | (simp; omega)))

end Go.Proofs.Ytdidmjgilnhncaa
