/- Proved here: powers of residues, of both. -/
import Derived.Test.YtcplddblfhbejaaMoI
namespace Go.Proofs.Ytcplddblfhbejaa
open Go.RowKit
set_option linter.unusedVariables false
set_option linter.unusedSimpArgs false

set_option maxHeartbeats 1600000 in
theorem impl_pow (a : Int) (e : Nat) (h1 : 0 ≤ a) (h2 : a < 998244353) (h3 : e ≤ 1000000000) (w : World) : Calls Try.prog 88 #[.int .i64 a, .int .i64 e] w fun x w' => x = .returned (.int .i64 (pwP a e)) ∧ w' = w := by
  obtain ⟨T, hT⟩ : ∃ T, T = pwP a e := ⟨_, rfl⟩
  rw [← hT]
  have HT : Hid (T = a ^ e % 998244353) := hT
  clear hT
  go_enter Try.func88, Try.ntmps88
  go_wp2
  go_loopw [0, 1, 5] (fun x n o wr => ∃ (a' o' : Int) (n' : Nat), x = .int .i64 a' ∧ n = .int .i64 n' ∧ o = .int .i64 o' ∧ n' ≤ 1000000000 ∧ (0 ≤ a' ∧ a' < 998244353) ∧ (0 ≤ o' ∧ o' < 998244353) ∧ Hid (o' * a' ^ n' % 998244353 = T ∧ wr = w)) (fun _ n _ _ => (intOf n).toNat)
  case atStart => exact ⟨a, 1, e, rfl, rfl, rfl, h3, ⟨h1, h2⟩, by omega, by rw [Int.one_mul]; exact HT.out.symm, rfl⟩
  case round =>
    obtain ⟨a', o', n', rfl, rfl, rfl, hn, ⟨ha1, ha2⟩, ⟨ho1, ho2⟩, hR⟩ := hrel
    by_cases hp : 0 < n'
    · have hpI : (0 : Int) < (n' : Int) := by omega
      have m1 := mul_bdP ha1 ha2 ha1 ha2
      have m2 := mul_bdP ho1 ho2 ha1 ha2
      have t0 : ((n' : Int)).tmod 2 = (n' : Int) % 2 := Int.tmod_eq_emod_of_nonneg (by omega)
      have t1 : (o' * a').tmod 998244353 = o' * a' % 998244353 := Int.tmod_eq_emod_of_nonneg (by omega)
      have t2 : (a' * a').tmod 998244353 = a' * a' % 998244353 := Int.tmod_eq_emod_of_nonneg (by omega)
      have t3 : ((n' : Int)).tdiv 2 = ((n' / 2 : Nat) : Int) := by rw [Int.tdiv_eq_ediv_of_nonneg (by omega)]; omega
      have w1 : IntKind.i64.wrap (o' * a') = o' * a' := by rw [IntKind.wrap_i64]; omega
      have w2 : IntKind.i64.wrap (a' * a') = a' * a' := by rw [IntKind.wrap_i64]; omega
      have w3 : IntKind.i64.wrap ((n' / 2 : Nat) : Int) = ((n' / 2 : Nat) : Int) := by rw [IntKind.wrap_i64]; omega
      have b1 : 0 ≤ o' * a' % 998244353 ∧ o' * a' % 998244353 < 998244353 := ⟨Int.emod_nonneg _ (by decide), Int.emod_lt_of_pos _ (by decide)⟩
      have b2 : 0 ≤ a' * a' % 998244353 ∧ a' * a' % 998244353 < 998244353 := ⟨Int.emod_nonneg _ (by decide), Int.emod_lt_of_pos _ (by decide)⟩
      have w4 : IntKind.i64.wrap (o' * a' % 998244353) = o' * a' % 998244353 := by rw [IntKind.wrap_i64]; omega
      have w5 : IntKind.i64.wrap (a' * a' % 998244353) = a' * a' % 998244353 := by rw [IntKind.wrap_i64]; omega
      by_cases hodd : (n' : Int) % 2 = 1
      · have w6 : IntKind.i64.wrap ((n' : Int) % 2) = 1 := by rw [IntKind.wrap_i64]; omega
        have HN : Hid (o' * a' % 998244353 * (a' * a' % 998244353) ^ (n' / 2) % 998244353 = T) := by
          unfold Hid
          rw [pw_odd, ← hR.out.1, show 2 * (n' / 2) + 1 = n' by omega]
        go_wp2
        exact ⟨⟨_, _, n' / 2, rfl, rfl, rfl, by omega, b2, b1, HN.out, hR.out.2⟩, by show ((n' / 2 : Nat) : Int).toNat < (n' : Int).toNat; omega⟩
      · have w6 : (IntKind.i64.wrap ((n' : Int) % 2) == 1) = false := by rw [IntKind.wrap_i64]; simp; omega
        have w7 : ((n' : Int) % 2 == 1) = false := by simp; omega
        have HN : Hid (o' * (a' * a' % 998244353) ^ (n' / 2) % 998244353 = T) := by
          unfold Hid
          rw [pw_even, ← hR.out.1, show 2 * (n' / 2) = n' by omega]
        go_wp2
        exact ⟨⟨_, _, n' / 2, rfl, rfl, rfl, by omega, b2, ⟨ho1, ho2⟩, HN.out, hR.out.2⟩, by show ((n' / 2 : Nat) : Int).toNat < (n' : Int).toNat; omega⟩
    · have hpI : ¬ (0 : Int) < (n' : Int) := by omega
      have HN : Hid (o' = T ∧ wr = w) := ⟨by
        have h := hR.out.1
        rw [show n' = 0 by omega, Int.pow_zero, Int.mul_one, Int.emod_eq_of_lt ho1 ho2] at h
        exact h, hR.out.2⟩
      go_wp2
      go_returns
      exact ⟨by rw [← HN.out.1]; rfl, HN.out.2⟩

set_option maxHeartbeats 1600000 in
theorem spec_pow (a : Int) (e : Nat) (h1 : 0 ≤ a) (h2 : a < 998244353) (h3 : e ≤ 1000000000) (w : World) : Calls Try.prog 45 #[.int .i64 a, .int .i64 e] w fun x w' => x = .returned (.int .i64 (pwP a e)) ∧ w' = w := by
  obtain ⟨T, hT⟩ : ∃ T, T = pwP a e := ⟨_, rfl⟩
  rw [← hT]
  have HT : Hid (T = a ^ e % 998244353) := hT
  clear hT
  go_enter Try.func45, Try.ntmps45
  go_wp2
  go_loopw [0, 1, 5] (fun x n o wr => ∃ (a' o' : Int) (n' : Nat), x = .int .i64 a' ∧ n = .int .i64 n' ∧ o = .int .i64 o' ∧ n' ≤ 1000000000 ∧ (0 ≤ a' ∧ a' < 998244353) ∧ (0 ≤ o' ∧ o' < 998244353) ∧ Hid (o' * a' ^ n' % 998244353 = T ∧ wr = w)) (fun _ n _ _ => (intOf n).toNat)
  case atStart => exact ⟨a, 1, e, rfl, rfl, rfl, h3, ⟨h1, h2⟩, by omega, by rw [Int.one_mul]; exact HT.out.symm, rfl⟩
  case round =>
    obtain ⟨a', o', n', rfl, rfl, rfl, hn, ⟨ha1, ha2⟩, ⟨ho1, ho2⟩, hR⟩ := hrel
    by_cases hp : 0 < n'
    · have hpI : (0 : Int) < (n' : Int) := by omega
      have m1 := mul_bdP ha1 ha2 ha1 ha2
      have m2 := mul_bdP ho1 ho2 ha1 ha2
      have t0 : ((n' : Int)).tmod 2 = (n' : Int) % 2 := Int.tmod_eq_emod_of_nonneg (by omega)
      have t1 : (o' * a').tmod 998244353 = o' * a' % 998244353 := Int.tmod_eq_emod_of_nonneg (by omega)
      have t2 : (a' * a').tmod 998244353 = a' * a' % 998244353 := Int.tmod_eq_emod_of_nonneg (by omega)
      have t3 : ((n' : Int)).tdiv 2 = ((n' / 2 : Nat) : Int) := by rw [Int.tdiv_eq_ediv_of_nonneg (by omega)]; omega
      have w1 : IntKind.i64.wrap (o' * a') = o' * a' := by rw [IntKind.wrap_i64]; omega
      have w2 : IntKind.i64.wrap (a' * a') = a' * a' := by rw [IntKind.wrap_i64]; omega
      have w3 : IntKind.i64.wrap ((n' / 2 : Nat) : Int) = ((n' / 2 : Nat) : Int) := by rw [IntKind.wrap_i64]; omega
      have b1 : 0 ≤ o' * a' % 998244353 ∧ o' * a' % 998244353 < 998244353 := ⟨Int.emod_nonneg _ (by decide), Int.emod_lt_of_pos _ (by decide)⟩
      have b2 : 0 ≤ a' * a' % 998244353 ∧ a' * a' % 998244353 < 998244353 := ⟨Int.emod_nonneg _ (by decide), Int.emod_lt_of_pos _ (by decide)⟩
      have w4 : IntKind.i64.wrap (o' * a' % 998244353) = o' * a' % 998244353 := by rw [IntKind.wrap_i64]; omega
      have w5 : IntKind.i64.wrap (a' * a' % 998244353) = a' * a' % 998244353 := by rw [IntKind.wrap_i64]; omega
      by_cases hodd : (n' : Int) % 2 = 1
      · have w6 : IntKind.i64.wrap ((n' : Int) % 2) = 1 := by rw [IntKind.wrap_i64]; omega
        have HN : Hid (o' * a' % 998244353 * (a' * a' % 998244353) ^ (n' / 2) % 998244353 = T) := by
          unfold Hid
          rw [pw_odd, ← hR.out.1, show 2 * (n' / 2) + 1 = n' by omega]
        go_wp2
        exact ⟨⟨_, _, n' / 2, rfl, rfl, rfl, by omega, b2, b1, HN.out, hR.out.2⟩, by show ((n' / 2 : Nat) : Int).toNat < (n' : Int).toNat; omega⟩
      · have w6 : (IntKind.i64.wrap ((n' : Int) % 2) == 1) = false := by rw [IntKind.wrap_i64]; simp; omega
        have w7 : ((n' : Int) % 2 == 1) = false := by simp; omega
        have HN : Hid (o' * (a' * a' % 998244353) ^ (n' / 2) % 998244353 = T) := by
          unfold Hid
          rw [pw_even, ← hR.out.1, show 2 * (n' / 2) = n' by omega]
        go_wp2
        exact ⟨⟨_, _, n' / 2, rfl, rfl, rfl, by omega, b2, ⟨ho1, ho2⟩, HN.out, hR.out.2⟩, by show ((n' / 2 : Nat) : Int).toNat < (n' : Int).toNat; omega⟩
    · have hpI : ¬ (0 : Int) < (n' : Int) := by omega
      have HN : Hid (o' = T ∧ wr = w) := ⟨by
        have h := hR.out.1
        rw [show n' = 0 by omega, Int.pow_zero, Int.mul_one, Int.emod_eq_of_lt ho1 ho2] at h
        exact h, hR.out.2⟩
      go_wp2
      go_returns
      exact ⟨by rw [← HN.out.1]; rfl, HN.out.2⟩

end Go.Proofs.Ytcplddblfhbejaa
