/- Proved here: two floats of one value are the same to 'sameFloat'. No condition. -/
import Derived.Test.YtgjdcdhdfhkfcaaFlB
import Derived.Test.YtgjdcdhdfhkfcaaChecked
namespace Go.Proofs.Ytgjdcdhdfhkfcaa
open Go.RowKit
set_option linter.unusedVariables false
set_option linter.unusedSimpArgs false

theorem ord_none {a : Nat} (b : Nat) (h : fv a = none) : Ieee.double.order a b = none := by
  have : (Ieee.double.read a).isNaN = true := by unfold fv at h; rw [dec64] at h; split at h <;> simp_all
  unfold Ieee.Format.order
  generalize Ieee.double.read a = d at this
  cases d <;> simp_all [Ieee.Datum.isNaN, Ieee.Datum.order]
theorem cmp_self (i : Int) : compare i i = Ordering.eq := by rw [Int.compare_eq_eq]
theorem ord_self {a : Nat} (h : fv a = some a) : Ieee.double.order a a = some .eq := by
  have : (Ieee.double.read a).isNaN = false := by unfold fv at h; rw [dec64] at h; split at h <;> simp_all
  unfold Ieee.Format.order
  generalize Ieee.double.read a = d at this
  cases d with
  | number s m i => simp [Ieee.Datum.order]
  | infinity s => simp [Ieee.Datum.order]
  | nan s f => simp [Ieee.Datum.isNaN] at this
theorem zero_quo {a : Nat} (h : Ieee.double.order a 0 = some .eq) : ∃ r, floatBits .quo .f64 4607182418800017408 a = some r := by
  have h0 : Ieee.double.read 0 = .number false 0 Ieee.double.leastPlace := by decide
  have h1 : ∃ m i, Ieee.double.read 4607182418800017408 = .number false m i ∧ m ≠ 0 := ⟨4503599627370496, -52, by decide, by decide⟩
  obtain ⟨m, i, h1, hm⟩ := h1
  unfold Ieee.Format.order at h
  rw [h0] at h
  show ∃ r, FloatKind.f64.format.div 4607182418800017408 a = some r
  have e : FloatKind.f64.format = Ieee.double := rfl
  rw [e]
  unfold Ieee.Format.div
  rw [h1]
  generalize Ieee.double.read a = d at h
  cases d with
  | number s n j =>
    have hn : n = 0 := by
      simp only [Ieee.Datum.order, Option.some.injEq, Int.compare_eq_eq, Ieee.signed] at h
      simp only [Bool.false_eq_true, if_false, Nat.zero_shiftLeft] at h
      by_cases hn : n = 0
      · exact hn
      · exfalso
        have hp : 0 < n <<< (j - min j Ieee.double.leastPlace).toNat := by
          rw [Nat.shiftLeft_eq]; exact Nat.mul_pos (by omega) (Nat.pow_pos (by omega))
        split at h <;> omega
    subst hn
    simp only [Ieee.Datum.quotient, if_true, if_neg hm]
    exact ⟨_, rfl⟩
  | infinity s => cases s <;> simp [Ieee.Datum.order] at h
  | nan s f => simp [Ieee.Datum.order] at h

set_option maxHeartbeats 1600000 in
theorem same_any (a b : Nat) (h : fv a = fv b) (w : World) : Calls Try.prog 47 #[.float .f64 a, .float .f64 b] w fun e w' => e = .returned (.bool true) ∧ ∃ n, w' = w.drewN n := by
  cases ha : fv a with
  | none =>
    have oa : (FloatKind.f64.format.order a a != some .eq) = true := by rw [show FloatKind.f64.format = Ieee.double from rfl, ord_none a ha]; rfl
    have ob : (FloatKind.f64.format.order b b != some .eq) = true := by rw [show FloatKind.f64.format = Ieee.double from rfl, ord_none (a := b) b (by rw [← h]; exact ha)]; rfl
    go_enter Try.func47, Try.ntmps47
    go_wp2
    go_returns
    exact ⟨rfl, 0, rfl⟩
  | some x =>
    obtain ⟨rfl, _⟩ := fv_some ha
    obtain ⟨rfl, _⟩ := fv_some (h.symm.trans ha)
    have oa : (FloatKind.f64.format.order b b != some .eq) = false := by rw [show FloatKind.f64.format = Ieee.double from rfl, ord_self ha]; rfl
    have ob : (FloatKind.f64.format.order b b == some .eq) = true := by rw [show FloatKind.f64.format = Ieee.double from rfl, ord_self ha]; rfl
    by_cases hz : Ieee.double.order b 0 = some .eq
    · obtain ⟨r, hr⟩ := zero_quo hz
      have hz' : (FloatKind.f64.format.order b 0 == some .eq) = true := by rw [show FloatKind.f64.format = Ieee.double from rfl, hz]; rfl
      have hf : ∀ w, fres .quo 4607182418800017408 b w = r := fun w => by unfold fres; rw [hr]
      have hn : fnn .quo 4607182418800017408 b = 0 := by unfold fnn; rw [hr]
      go_enter Try.func47, Try.ntmps47
      go_wp2
      go_returns
      exact ⟨rfl, _, rfl⟩
    · have hz' : (FloatKind.f64.format.order b 0 == some .eq) = false := by rw [show FloatKind.f64.format = Ieee.double from rfl]; simp [hz]
      go_enter Try.func47, Try.ntmps47
      go_wp2
      go_returns
      exact ⟨rfl, 0, rfl⟩

end Go.Proofs.Ytgjdcdhdfhkfcaa
