/- Proved here: the program's powersOf and residueSum. -/
import Derived.Test.YtcplddblfhbejaaMiP
import Derived.Test.YtcplddblfhbejaaNlJ
import Derived.Test.YtcplddblfhbejaaReg
namespace Go.Proofs.Ytcplddblfhbejaa
open Go.RowKit
set_option linter.unusedVariables false
set_option linter.unusedSimpArgs false

/-- All powers below n. -/
def pwL (n : Nat) : List Int := (List.range n).map (pwP (rtK n))
theorem pwL_len (n : Nat) : (pwL n).length = n := by simp [pwL]
theorem pwL_at {n j : Nat} (h : j < n) : (pwL n).getD j 0 = pwP (rtK n) j := by simp [pwL, h]

set_option maxHeartbeats 3200000 in
theorem impl_powers (n : Nat) (h1 : 1 ≤ n) (h2 : n ≤ 32) (w : World) :
    Calls Try.prog 43 #[.int .i64 n] w fun e w' => ∃ g, e = .returned (.slice (some ⟨g, 0, none⟩) n n) ∧ IS w' w.heap.size (.slice (some ⟨g, 0, none⟩) n n) (pwL n) ∧ Below w.heap.size w w' := by
  obtain ⟨i0, hi, hz0, hz1, hz2⟩ := info_parts info_i64
  obtain ⟨R, hR⟩ : ∃ R, R = rtK n := ⟨_, rfl⟩
  obtain ⟨s, hs⟩ : ∃ s, s = pwL n := ⟨_, rfl⟩
  have hRb := pwP_bd 3 (998244352 / n)
  have hRb : 0 ≤ R ∧ R < 998244353 := by rw [hR]; exact hRb
  have HN : Hid (n = s.length ∧ R = rtK n ∧ s = pwL n) := ⟨by rw [hs, pwL_len], hR, hs⟩
  rw [← hs]
  have hq : (998244352 : Int).tdiv n = ((998244352 / n : Nat) : Int) := by rw [Int.tdiv_eq_ediv_of_nonneg (by omega)]; rfl
  have hqb : 998244352 / n ≤ 998244352 := Nat.div_le_self _ _
  have HP0 : Hid (∀ W, Calls Try.prog 88 #[.int .i64 3, .int .i64 ((998244352 / n : Nat) : Int)] W fun e w' => e = .returned (.int .i64 R) ∧ w' = W) := fun W => by rw [hR]; exact impl_pow 3 _ (by omega) (by omega) (by omega) W
  have HPk : Hid (∀ (k : Nat) W, k < n → Calls Try.prog 88 #[.int .i64 R, .int .i64 k] W fun e w' => e = .returned (.int .i64 (pwP R k)) ∧ w' = W) := fun k W hk => impl_pow R k hRb.1 hRb.2 (by omega) W
  generalize hQ : 998244352 / n = q at *
  have hq2 : (998244352 : Int) / (n : Int) = (q : Int) := by rw [← Int.tdiv_eq_ediv_of_nonneg (by omega)]; exact hq
  have wq : IntKind.i64.wrap (q : Int) = (q : Int) := by rw [IntKind.wrap_i64]; omega
  have hn0 : ((n : Int) == 0) = false := by simp; omega
  have hn1 : ¬ (n : Int) = 0 := by omega
  clear hR hs
  go_enter Try.func43, Try.ntmps43
  go_wp2_with (fail)
  refine (HP0.out _).mono ?_
  rintro e w1 ⟨rfl, hw1⟩
  subst w1
  go_wp2_with (at_make; refine wpList_make_full _ rfl _ _ 24 rfl w.heap.size 2 i0 (.int .i64 0) 1 Try.underlying24 hi hz0 hz1 _ _ _ _ n rfl rfl rfl rfl (by rw [hz2]; omega) (by unfold maxLen; omega) (Nat.le_refl _) ?_; intro w2 hown2 hgrow2)
  have hb2 : Below w.heap.size w w2 := (Below.refl _ _).grown hgrow2 (Nat.le_refl _) (fun k h => by cases h)
  have HS : Hid (Fill 2 1 inC w2 w.heap.size w.heap.size n s 0 ∧ Below w.heap.size w w2) := ⟨⟨_, hown2, fun t ht => by omega⟩, hb2⟩
  clear hown2 hgrow2 hb2
  go_loopw [12] (fun i wr => ∃ j : Nat, j ≤ n ∧ i = .int .i64 j ∧ Hid (Fill 2 1 inC wr w.heap.size w.heap.size n s j ∧ Below w.heap.size w wr)) (fun i _ => n - (intOf i).toNat)
  case atStart => exact ⟨0, Nat.zero_le _, rfl, HS.out⟩
  case round =>
    clear HS
    obtain ⟨j, hjn, rfl, hR⟩ := hrel
    by_cases hlt : j < n
    · have hjl : j < s.length := by rw [← HN.out.1]; exact hlt
      have HX : Hid (pwP R j = s[j]) := by
        unfold Hid
        have := pwL_at (n := n) hlt
        rw [← HN.out.2.2, ← HN.out.2.1] at this
        rw [← this]; simp [List.getD_eq_getElem?_getD, List.getElem?_eq_getElem hjl]
      have b0 : (0 : Int) ≤ (j : Int) := by omega
      have b1 : (j : Int) < (n : Int) := by omega
      obtain ⟨⟨u0, g0⟩, f0⟩ := hR.out.1.there j (by omega)
      have HP : Hid (Fill 2 1 inC (wr.setCell ⟨w.heap.size, j, none⟩ (.int .i64 (pwP R j))) w.heap.size w.heap.size n s (j + 1) ∧ Below w.heap.size w (wr.setCell ⟨w.heap.size, j, none⟩ (.int .i64 (pwP R j)))) := by
        have h1 := hR.out.1.put inC_len HN.out.1 hjl
        rw [← HX.out] at h1
        simp only [Nat.mul_one, inC, putsAt, Nat.add_zero] at h1
        exact ⟨h1, hR.out.2.setCell (Nat.le_refl _) _⟩
      clear hR
      go_wp2_with (fail)
      refine (HPk.out j _ hlt).mono ?_
      rintro e w3 ⟨rfl, hw3⟩
      subst w3
      go_wp2
      go_roundw
      case rel => exact ⟨j + 1, by omega, by go_num, HP.out⟩
      case measure => simp [intOf]; omega
    · have HD : Hid (IS wr w.heap.size (.slice (some ⟨w.heap.size, 0, none⟩) n n) s ∧ Below w.heap.size w wr) := ⟨og_is.1 (hR.out.1.done inC_len HN.out.1 (by rw [← HN.out.1]; omega)), hR.out.2⟩
      have hltI : ¬ (j : Int) < (n : Int) := by omega
      clear hR
      go_wp2
      go_returns
      exact ⟨w.heap.size, rfl, HD.out.1, HD.out.2⟩

set_option maxHeartbeats 6400000 in
theorem impl_rsum (n : Nat) (h1 : 1 ≤ n) (h2 : n ≤ 32) (sh t : Int) (ht : -32 ≤ t ∧ t ≤ 32) {w : World} {al ap : Option Addr} {cl cp : Nat} {l : List Int} (hl : RdI w (.slice al n cl) l) (hp : RdI w (.slice ap n cp) (pwL n)) :
    Calls Try.prog 44 #[.slice al n cl, .slice ap n cp, .int .i64 sh, .int .i64 t] w fun e w' => e = .returned (.int .i64 (rsK l (rtK n) n sh t n)) ∧ ∃ m, w' = w.drewN m := by
  have hln : n = l.length := hl.len
  obtain ⟨T, hT⟩ : ∃ T : Nat → Int, T = rsK l (rtK n) n sh t := ⟨_, rfl⟩
  obtain ⟨F, hF⟩ : ∃ F, F = sh % (n : Int) := ⟨_, rfl⟩
  have hFb : 0 ≤ F ∧ F < (n : Int) := by rw [hF]; exact ⟨Int.emod_nonneg _ (by omega), Int.emod_lt_of_pos _ (by omega)⟩
  rw [← hT]
  have H : Hid (RdI w (.slice al n cl) l ∧ RdI w (.slice ap n cp) (pwL n) ∧ n = l.length ∧ T = rsK l (rtK n) n sh t ∧ F = sh % (n : Int)) := ⟨hl, hp, hln, hT, hF⟩
  have HM : Hid (∀ W, Calls Try.prog 89 #[.int .i64 sh, .int .i64 n] W fun e w' => e = .returned (.int .i64 F) ∧ w' = W) := fun W => by rw [hF]; exact impl_mod sh n (by omega) (by omega) W
  clear hl hp hln hT hF
  go_enter Try.func44, Try.ntmps44
  go_wp2_with (fail)
  refine (HM.out _).mono ?_
  rintro e w1 ⟨rfl, hw1⟩
  subst w1
  go_wp2
  go_loopw [11, 22] (fun z i wr => ∃ k m : Nat, k ≤ n ∧ i = .int .i64 k ∧ z = .int .i64 (T k) ∧ Hid (wr = w.drewN m)) (fun _ i _ => n - (intOf i).toNat)
  case atStart => exact ⟨0, 0, Nat.zero_le _, rfl, by rw [H.out.2.2.2.1]; rfl, rfl⟩
  case round =>
    obtain ⟨k, m, hk, rfl, rfl, hR⟩ := hrel
    by_cases hlt : k < n
    · obtain ⟨E, hE⟩ : ∃ E, E = exK n sh t k := ⟨_, rfl⟩
      have hEb : E < n := by rw [hE]; have := exK_lt (n := n) (sh := sh) (t := t) (k := k) (by omega); omega
      have hEi : (((k : Int) + F) * t) % (n : Int) = (E : Int) := by rw [hE, exK_int (by omega), H.out.2.2.2.2]
      obtain ⟨gl, ol, hal, hgl, hxl⟩ := rd_at H.out.1 hlt
      obtain ⟨gp, op, hap, hgp, hxp⟩ := rd_at H.out.2.1 hEb
      subst hal hap
      rw [pwL_at hEb] at hxp
      obtain ⟨X, hX⟩ : ∃ X, X = l.getD k 0 := ⟨_, rfl⟩
      obtain ⟨Y, hY⟩ : ∃ Y, Y = pwP (rtK n) E := ⟨_, rfl⟩
      obtain ⟨Z, hZ⟩ : ∃ Z, Z = X % 998244353 := ⟨_, rfl⟩
      rw [← hX] at hxl
      rw [← hY] at hxp
      have hYb : 0 ≤ Y ∧ Y < 998244353 := by rw [hY]; exact pwP_bd _ _
      have hZb : 0 ≤ Z ∧ Z < 998244353 := by rw [hZ]; exact ⟨Int.emod_nonneg _ (by decide), Int.emod_lt_of_pos _ (by decide)⟩
      have hTb : 0 ≤ T k ∧ T k < 998244353 := by rw [H.out.2.2.2.1]; exact rsK_bd _ _ _ _ _ k
      have hTn : Hid ((T k + Z * Y) % 998244353 = T (k + 1)) := by
        unfold Hid; rw [hZ, hX, hY, hE, H.out.2.2.2.1]; rfl
      have hm := mul_bdP hZb.1 hZb.2 hYb.1 hYb.2
      have hkt : -2048 ≤ ((k : Int) + F) * t ∧ ((k : Int) + F) * t ≤ 2048 := by
        have p1 : 0 ≤ (k : Int) + F := by omega
        have p2 : (k : Int) + F ≤ 64 := by omega
        have q1 := Int.mul_le_mul_of_nonneg_left ht.2 p1
        have q2 := Int.mul_le_mul_of_nonneg_left ht.1 p1
        omega
      have e1 : IntKind.i64.wrap (((k : Int) + F) * t) = ((k : Int) + F) * t := by rw [IntKind.wrap_i64]; omega
      have e2 : IntKind.i64.wrap ((k : Int) + F) = (k : Int) + F := by rw [IntKind.wrap_i64]; omega
      have e3 : IntKind.i64.wrap (Z * Y) = Z * Y := by rw [IntKind.wrap_i64]; omega
      have e4 : IntKind.i64.wrap (T k + Z * Y) = T k + Z * Y := by rw [IntKind.wrap_i64]; omega
      have e5 : (T k + Z * Y).tmod 998244353 = (T k + Z * Y) % 998244353 := Int.tmod_eq_emod_of_nonneg (by omega)
      have HM1 : Hid (∀ W, Calls Try.prog 89 #[.int .i64 (((k : Int) + F) * t), .int .i64 n] W fun e w' => e = .returned (.int .i64 E) ∧ w' = W) := fun W => by rw [← hEi]; exact impl_mod _ n (by omega) (by omega) W
      have HM2 : Hid (∀ W, Calls Try.prog 89 #[.int .i64 X, .int .i64 998244353] W fun e w' => e = .returned (.int .i64 Z) ∧ w' = W) := fun W => by rw [hZ]; exact impl_mod _ _ (by omega) (by omega) W
      obtain rfl := hR.out
      clear hE hEi hX hY hZ hR HM hkt hm hFb
      have b0 : (0 : Int) ≤ (k : Int) := by omega
      have b1 : (k : Int) < (n : Int) := by omega
      have b2 : (0 : Int) ≤ (E : Int) := by omega
      have b3 : (E : Int) < (n : Int) := by omega
      go_wp2_with (fail)
      refine (HM1.out _).mono ?_
      rintro e w3 ⟨rfl, hw3⟩
      subst w3
      go_wp2_with (fail)
      go_quiet (first | (go_at_call 89; refine (HM2.out _).mono ?_; rintro e w' ⟨rfl, hw'⟩; exact ⟨rfl, _, hw'⟩))
      go_wp2
      go_roundw
      case rel => exact ⟨k + 1, m + nq, by omega, by go_num, by rw [← hTn.out], by unfold Hid; simp⟩
      case measure => simp [intOf]; omega
    · have hkn : Hid (k = n) := by unfold Hid; omega
      have hltI : ¬ (k : Int) < (n : Int) := by omega
      obtain rfl := hR.out
      go_wp2
      go_returns
      exact ⟨by rw [hkn.out]; rfl, m, rfl⟩

end Go.Proofs.Ytcplddblfhbejaa
