/- Proved here: the best shift is the best; the law's own sum at a shift, and the size of a number. -/
import Derived.Test.YtdidmjgilnhncaaSfM
import Derived.Test.YtdidmjgilnhncaaLwS
namespace Go.Proofs.Ytdidmjgilnhncaa
open Go.RowKit
set_option linter.unusedVariables false
set_option linter.unusedSimpArgs false

/-- The size of a number. -/
def abN (n : Int) : Int := if n < 0 then -n else n
theorem abN_tK (k : Nat) : abN (tK k) = (((k + 1) / 2 : Nat) : Int) := by
  unfold abN tK
  by_cases h : k % 2 = 1
  · rw [if_pos h]; split <;> omega
  · rw [if_neg h]; split <;> omega
theorem bsK_is (a b : List Int) (k : Nat) : ∃ i, i ≤ k ∧ bsK a b k = (tK i, scA a b (tK i)) ∧ (∀ j, j ≤ k → scA a b (tK j) ≤ scA a b (tK i)) ∧ ∀ j, j < i → scA a b (tK j) < scA a b (tK i) := by
  induction k with
  | zero =>
    refine ⟨0, Nat.le_refl _, rfl, fun j hj => ?_, fun j hj => absurd hj (by omega)⟩
    obtain rfl : j = 0 := by omega
    exact Int.le_refl _
  | succ k ih =>
    obtain ⟨i, hi, he, h1, h2⟩ := ih
    rw [bsK, he]
    show ∃ i', i' ≤ k + 1 ∧ (if scA a b (tK i) < scA a b (tK (k + 1)) then (tK (k + 1), scA a b (tK (k + 1))) else (tK i, scA a b (tK i))) = (tK i', scA a b (tK i')) ∧ _
    by_cases hc : scA a b (tK i) < scA a b (tK (k + 1))
    · refine ⟨k + 1, Nat.le_refl _, by rw [if_pos hc], fun j hj => ?_, fun j hj => ?_⟩
      · rcases Nat.lt_or_ge j (k + 1) with h3 | h3
        · have := h1 j (by omega); omega
        · obtain rfl : j = k + 1 := by omega
          exact Int.le_refl _
      · have := h1 j (by omega); omega
    · refine ⟨i, by omega, by rw [if_neg hc], fun j hj => ?_, h2⟩
      rcases Nat.lt_or_ge j (k + 1) with h3 | h3
      · exact h1 j (by omega)
      · obtain rfl : j = k + 1 := by omega
        omega
theorem tK_of (t : Int) (m : Nat) (h1 : -(m : Int) ≤ t) (h2 : t ≤ (m : Int)) : ∃ j, j ≤ 2 * m ∧ t = tK j := by
  by_cases h0 : t < 0
  · refine ⟨2 * t.natAbs - 1, by omega, ?_⟩
    unfold tK; rw [if_pos (by omega)]; omega
  · refine ⟨2 * t.natAbs, by omega, ?_⟩
    unfold tK; rw [if_neg (by omega)]; omega
theorem bsK_best (a b : List Int) (m : Nat) (t : Int) (h1 : -(m : Int) ≤ t) (h2 : t ≤ (m : Int)) : scA a b t ≤ scA a b (bsK a b (2 * m)).1 ∧ (abN t < abN (bsK a b (2 * m)).1 → scA a b t < scA a b (bsK a b (2 * m)).1) := by
  obtain ⟨i, hi, he, g1, g2⟩ := bsK_is a b (2 * m)
  obtain ⟨j, hj, rfl⟩ := tK_of t m h1 h2
  rw [he]
  refine ⟨g1 j hj, fun h => g2 j ?_⟩
  rw [abN_tK] at h
  have h' : (((j + 1) / 2 : Nat) : Int) < abN (tK i) := h
  rw [abN_tK] at h'
  omega
theorem bsK_few (a b : List Int) (m : Nat) : abN (bsK a b (2 * m)).1 ≤ (m : Int) := by
  obtain ⟨i, hi, he, g1, g2⟩ := bsK_is a b (2 * m)
  rw [he]
  show abN (tK i) ≤ _
  rw [abN_tK]; omega

set_option maxHeartbeats 800000 in
theorem law_abs (n : Int) (h1 : -1000000 ≤ n) (h2 : n ≤ 1000000) (w : World) : Calls Try.prog 14 #[.int .i64 n] w fun e w' => e = .returned (.int .i64 (abN n)) ∧ w' = w := by
  obtain ⟨A, hA⟩ : ∃ A, A = abN n := ⟨_, rfl⟩
  rw [← hA]
  have HA : Hid (A = if n < 0 then -n else n) := hA
  clear hA
  by_cases h0 : n < 0
  · have HZ : Hid (A = -n) := by unfold Hid; rw [HA.out, if_pos h0]
    have hw : IntKind.i64.wrap (-n) = -n := by rw [IntKind.wrap_i64]; omega
    clear HA
    go_enter Try.func14, Try.ntmps14
    go_wp2
    go_returns
    exact ⟨by rw [HZ.out] <;> rfl, rfl⟩
  · have HZ : Hid (A = n) := by unfold Hid; rw [HA.out, if_neg h0]
    have h0' : decide (n < 0) = false := decide_eq_false h0
    clear HA
    go_enter Try.func14, Try.ntmps14
    go_wp2
    go_returns
    exact ⟨by rw [HZ.out] <;> rfl, rfl⟩

set_option maxRecDepth 10000 in
set_option maxHeartbeats 6400000 in
theorem law_score (sh : Int) (hs : -1000 ≤ sh ∧ sh ≤ 1000) {w : World} {v u : Value} {s t : List Int} (hn : s.length ≤ 200) (hm : t.length ≤ 200) (hsa : s.any outS = false) (hta : t.any outS = false) (h : RdI w v s) (h' : RdI w u t) :
    Calls Try.prog 13 #[v, u, .int .i64 sh] w fun e w' => e = .returned (.int .i64 (scA s t sh)) ∧ Below w.heap.size w w' := by
  obtain ⟨a, c, rfl⟩ := h.form
  obtain ⟨a2, c2, rfl⟩ := h'.form
  obtain ⟨n, hnn⟩ : ∃ n, n = s.length := ⟨_, rfl⟩
  obtain ⟨m, hmm⟩ : ∃ n, n = t.length := ⟨_, rfl⟩
  obtain ⟨G, hG⟩ : ∃ G, G = scA s t sh := ⟨_, rfl⟩
  rw [← hnn] at h hn ⊢
  rw [← hmm] at h' hm ⊢
  rw [← hG]
  have H : Hid (RdI w (.slice a n c) s ∧ RdI w (.slice a2 m c2) t ∧ n = s.length ∧ m = t.length ∧ G = scA s t sh ∧ s.any outS = false ∧ t.any outS = false) := ⟨h, h', hnn, hmm, hG, hsa, hta⟩
  clear h h' hnn hmm hG hsa hta
  go_enter Try.func13, Try.ntmps13
  go_wp2
  go_loopw [7, 8] (fun q i wr => ∃ (k : Nat) (z : Int), k ≤ n ∧ i = .int .i64 k ∧ q = .int .i64 z ∧ -200000000 ≤ z ∧ z ≤ 200000000 ∧ Hid (z = scK s t sh k ∧ Below w.heap.size w wr)) (fun _ i _ => n - (intOf i).toNat)
  case atStart => exact ⟨0, 0, Nat.zero_le _, rfl, rfl, by omega, by omega, rfl, Below.refl _ _⟩
  case round =>
    obtain ⟨k, z, hk, rfl, rfl, hz1, hz2, hR⟩ := hrel
    by_cases hlt : k < n
    · obtain ⟨g, o, rfl, hg, c0⟩ := rd_at (H.out.1.below hR.out.2) hlt
      have hx := inL H.out.2.2.2.2.2.1 k
      obtain ⟨x, hxe⟩ : ∃ x, x = s.getD k 0 := ⟨_, rfl⟩
      rw [← hxe] at c0 hx
      obtain ⟨at', hat⟩ : ∃ y, y = (k : Int) + sh := ⟨_, rfl⟩
      have b0 : (0 : Int) ≤ (k : Int) := by omega
      have b1 : (k : Int) < (n : Int) := by omega
      have hw1 : IntKind.i64.wrap ((k : Int) + sh) = at' := by rw [hat, IntKind.wrap_i64]; omega
      have HN : Hid (scK s t sh (k + 1) = z + tmK s t sh k) := by unfold Hid; rw [scK, hR.out.1]
      have HBD : Hid (-(1000000 * ((k + 1 : Nat) : Int)) ≤ scK s t sh (k + 1) ∧ scK s t sh (k + 1) ≤ 1000000 * ((k + 1 : Nat) : Int)) := scK_bd H.out.2.2.2.2.2.1 H.out.2.2.2.2.2.2 sh (k + 1)
      have HT : Hid (tmK s t sh k = if 0 ≤ at' ∧ at' < (m : Int) then x * t.getD at'.toNat 0 else 0) := by
        unfold Hid tmK; rw [← hat, ← hxe, ← H.out.2.2.2.1]
      have HV : Hid (Below w.heap.size w wr) := hR.out.2
      clear hxe hat hR
      by_cases hp1 : 0 ≤ at'
      · by_cases hp2 : at' < (m : Int)
        · obtain ⟨j, hj⟩ : ∃ j : Nat, at' = (j : Int) := ⟨at'.toNat, by omega⟩
          have hjm : j < m := by omega
          obtain ⟨g2, o2, rfl, hg2, d0⟩ := rd_at (H.out.2.1.below HV.out) hjm
          have hy := inL H.out.2.2.2.2.2.2 j
          have HT2 : Hid (tmK s t sh k = x * t.getD j 0) := by unfold Hid; rw [HT.out, if_pos ⟨hp1, hp2⟩, hj, Int.toNat_natCast]
          obtain ⟨y, hye⟩ : ∃ y, y = t.getD j 0 := ⟨_, rfl⟩
          rw [← hye] at d0 hy HT2
          obtain ⟨xy, hxy⟩ : ∃ q, q = x * y := ⟨_, rfl⟩
          have hxb := mul_in (A := 1000) (B := 1000) hx.1 hx.2 hy.1 hy.2
          rw [← hxy] at hxb HT2
          have hw3 : IntKind.i64.wrap (x * y) = xy := by rw [← hxy, IntKind.wrap_i64]; omega
          have hw4 : IntKind.i64.wrap (z + xy) = z + xy := by rw [IntKind.wrap_i64]; omega
          have HF : Hid (z + xy = scK s t sh (k + 1)) := by unfold Hid; rw [HN.out, HT2.out]
          have hbz : -200000000 ≤ z + xy ∧ z + xy ≤ 200000000 := by have h9 := HBD.out; rw [← HF.out] at h9; omega
          clear hye hxy HN HT HT2 HBD hx hy hxb
          subst hj
          go_wp2_with (fail)
          (refine wp_region_und (by kernel_rfl) (by kernel_rfl) (fun hund => ?_); (repeat (go_big_quiet_step (fail))); with_reducible refine wpQuiet_nil ?_; clear hund; intro W1 hb1; obtain ⟨hc1, hf1⟩ := undcell hb1)
          have HV2 : Hid (Below w.heap.size w W1) := HV.out.trans (hb1.mono HV.out.size)
          clear hb1 hc1 hf1 HV
          go_wp2
          go_roundw
          case rel => exact ⟨k + 1, z + xy, by omega, by go_num, by first | rfl | trivial, by omega, by omega, HF.out, HV2.out⟩
          case measure => simp [intOf]; omega
        · have HF : Hid (z = scK s t sh (k + 1)) := by unfold Hid; rw [HN.out, HT.out, if_neg (fun h => hp2 h.2)]; omega
          have hp3 : decide (at' < (m : Int)) = false := decide_eq_false hp2
          clear HN HT
          go_wp2
          go_roundw
          case rel => exact ⟨k + 1, z, by omega, by go_num, by first | rfl | trivial, by omega, by omega, HF.out, HV.out⟩
          case measure => simp [intOf]; omega
      · have HF : Hid (z = scK s t sh (k + 1)) := by unfold Hid; rw [HN.out, HT.out, if_neg (fun h => hp1 h.1)]; omega
        have hp3 : decide (0 ≤ at') = false := decide_eq_false hp1
        clear HN HT
        go_wp2
        go_roundw
        case rel => exact ⟨k + 1, z, by omega, by go_num, by first | rfl | trivial, by omega, by omega, HF.out, HV.out⟩
        case measure => simp [intOf]; omega
    · have HF : Hid (z = G) := by
        unfold Hid; rw [hR.out.1, H.out.2.2.2.2.1]
        unfold scA
        rw [← H.out.2.2.1, show k = n by omega]
      have HB : Hid (Below w.heap.size w wr) := hR.out.2
      clear hR
      go_wp2
      go_returns
      exact ⟨by rw [HF.out] <;> rfl, HB.out⟩

end Go.Proofs.Ytdidmjgilnhncaa
