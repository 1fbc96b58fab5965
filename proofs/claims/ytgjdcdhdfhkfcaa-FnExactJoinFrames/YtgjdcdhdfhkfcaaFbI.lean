/- Proved here: which floats are NaN, of both; BitsOf of the program: btV. No condition but that the float has 64 bits. -/
import Derived.Test.YtgjdcdhdfhkfcaaFlB
import Derived.Test.YtgjdcdhdfhkfcaaChecked
import Derived.Laws.Externs
namespace Go.Proofs.Ytgjdcdhdfhkfcaa
open Go.RowKit
set_option linter.unusedVariables false
set_option linter.unusedSimpArgs false

/-- The bits that are told of a float. -/
def btV (x : Nat) : Int := if (fv x).isNone then 9221120237041090560 else x
theorem fresB {op : BinOp} {x y r : Nat} (h : floatBits op .f64 x y = some r) (w : World) : fres op x y w = r := by unfold fres; rw [h]
theorem fnnB {op : BinOp} {x y r : Nat} (h : floatBits op .f64 x y = some r) : fnn op x y = 0 := by unfold fnn; rw [h]
theorem ordN {a : Nat} (b : Nat) (h : fv a = none) : Ieee.double.order a b = none := by
  have : (Ieee.double.read a).isNaN = true := by unfold fv at h; rw [dec64] at h; split at h <;> simp_all
  unfold Ieee.Format.order
  generalize Ieee.double.read a = d at this
  cases d <;> simp_all [Ieee.Datum.isNaN, Ieee.Datum.order]
theorem ordS {a : Nat} (h : fv a = some a) : Ieee.double.order a a = some .eq := by
  have : (Ieee.double.read a).isNaN = false := by unfold fv at h; rw [dec64] at h; split at h <;> simp_all
  unfold Ieee.Format.order
  generalize Ieee.double.read a = d at this
  cases d with
  | number s m i => simp [Ieee.Datum.order]
  | infinity s => simp [Ieee.Datum.order]
  | nan s f => simp [Ieee.Datum.isNaN] at this
theorem ordE {a : Nat} : (Ieee.double.order a a != some .eq) = (fv a).isNone := by
  cases h : fv a with
  | none => rw [ordN a h]; rfl
  | some x => obtain ⟨rfl, _⟩ := fv_some h; rw [ordS h]; rfl
set_option maxHeartbeats 800000 in
theorem spec_isNaN (x : Nat) (w : World) : Calls Try.prog 50 #[.float .f64 x] w fun e w' => e = .returned (.bool (fv x).isNone) ∧ w' = w := by
  have e := ordE (a := x)
  obtain ⟨B, hB⟩ : ∃ B, B = (fv x).isNone := ⟨_, rfl⟩
  rw [← hB] at e ⊢
  clear hB
  have e' : (FloatKind.f64.format.order x x != some .eq) = B := e
  go_enter Try.func50, Try.ntmps50
  go_wp2
  go_returns
  exact ⟨by rw [← e']; rfl, rfl⟩
set_option maxHeartbeats 800000 in
theorem impl_isNaN (x : Nat) (w : World) : Calls Try.prog 65 #[.float .f64 x] w fun e w' => e = .returned (.bool (fv x).isNone) ∧ w' = w := by
  have e := ordE (a := x)
  obtain ⟨B, hB⟩ : ∃ B, B = (fv x).isNone := ⟨_, rfl⟩
  rw [← hB] at e ⊢
  clear hB
  have e' : (FloatKind.f64.format.order x x != some .eq) = B := e
  go_enter Try.func65, Try.ntmps65
  go_wp2
  go_returns
  exact ⟨by rw [← e']; rfl, rfl⟩

theorem bits_run (x : Nat) (w : World) : (callFunc 67 #[.float .f64 x]).run Try.prog w = .ok (.value (.int .u64 x)) w := by
  have h0 : ∃ fn, Try.prog.funcs[67]? = some fn ∧ (fn.name == "runtime.NumGoroutine") = false ∧ fn.body.isNone = true ∧ Extern.findNext fn = none ∧ Extern.find fn = some Extern.MathFloatBits.float64bits := ⟨_, Try.func67, by kernel_rfl, by kernel_rfl, by kernel_rfl, by kernel_rfl⟩
  obtain ⟨fn, h1, h2, h3, h4, h5⟩ := h0
  rw [run_callFunc_extern h1 h2 h3 h4 h5]
  rfl
theorem from_run (n : Int) (w : World) : (callFunc 68 #[.int .u64 n]).run Try.prog w = .ok (.value (.float .f64 n.toNat)) w := by
  have h0 : ∃ fn, Try.prog.funcs[68]? = some fn ∧ (fn.name == "runtime.NumGoroutine") = false ∧ fn.body.isNone = true ∧ Extern.findNext fn = none ∧ Extern.find fn = some Extern.MathFloatBits.float64frombits := ⟨_, Try.func68, by kernel_rfl, by kernel_rfl, by kernel_rfl, by kernel_rfl⟩
  obtain ⟨fn, h1, h2, h3, h4, h5⟩ := h0
  rw [run_callFunc_extern h1 h2 h3 h4 h5]
  rfl
set_option maxHeartbeats 800000 in
theorem impl_from (n : Int) (w : World) : Calls Try.prog 63 #[.int .u64 n] w fun e w' => e = .returned (.float .f64 n.toNat) ∧ w' = w := by
  have hs := from_run n
  go_enter Try.func63, Try.ntmps63
  go_wp2
  go_returns
  exact ⟨rfl, rfl⟩

set_option maxHeartbeats 800000 in
theorem impl_bits (x : Nat) (w : World) : Calls Try.prog 62 #[.float .f64 x] w fun e w' => e = .returned (.int .u64 (btV x)) ∧ w' = w := by
  have HN : Hid (∀ W, Calls Try.prog 65 #[.float .f64 x] W fun e w' => e = .returned (.bool (fv x).isNone) ∧ w' = W) := fun W => impl_isNaN x W
  cases hv : fv x with
  | none =>
    rw [hv] at HN
    have HB : Hid (btV x = 9221120237041090560) := by unfold Hid btV; rw [hv]; rfl
    clear hv
    go_enter Try.func62, Try.ntmps62
    go_wp2_with (fail)
    refine (HN.out _).mono ?_
    rintro e w3 ⟨rfl, hw3⟩
    subst w3
    go_wp2
    go_returns
    exact ⟨by rw [HB.out]; rfl, rfl⟩
  | some y =>
    rw [hv] at HN
    have HB : Hid (btV x = x) := by unfold Hid btV; rw [hv]; rfl
    clear hv
    have hs := bits_run x
    go_enter Try.func62, Try.ntmps62
    go_wp2_with (fail)
    refine (HN.out _).mono ?_
    rintro e w3 ⟨rfl, hw3⟩
    subst w3
    go_wp2
    go_returns
    exact ⟨by rw [HB.out]; rfl, rfl⟩

end Go.Proofs.Ytgjdcdhdfhkfcaa
