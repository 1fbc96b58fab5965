/- Proved here: floats by value: which are not numbers, what the four operations give of them (one value where there is one, else some float that is not a number), and that two floats of one value are the same to 'sameFloat'. No condition. -/
import Derived.Test.YtgjdcdhdfhkfcaaUnd
import Derived.Deep.Draws
namespace Go.Proofs.Ytgjdcdhdfhkfcaa
open Go.RowKit
set_option linter.unusedVariables false
set_option linter.unusedSimpArgs false

/-- A float's value: its bits, or none where it is not a number. -/
def fv (x : Nat) : Option Nat := if (FloatKind.f64.decode x).isNaN then none else some x
/-- The operations by value. -/
def fop (op : BinOp) : Option Nat → Option Nat → Option Nat
  | some x, some y => floatBits op .f64 x y
  | _, _ => none
/-- The bits that an operation gives in a world. -/
def fres (op : BinOp) (x y : Nat) (w : World) : Nat :=
  match floatBits op .f64 x y with
  | some r => r
  | none => (Question.nanBits .f64 x y).cut (w.tape w.drawn (.nanBits .f64 x y))
def fnn (op : BinOp) (x y : Nat) : Nat := match floatBits op .f64 x y with | some _ => 0 | none => 1

section
variable {P : Program} (w : World)
theorem run_fl (op : BinOp) (hop : op = .add ∨ op = .sub ∨ op = .mul ∨ op = .quo) (t : TypeId) (x y : Nat) : (binOp op t (.float .f64 x) (.float .f64 y)).run P w = .ok (.float .f64 (fres op x y w)) (w.drewN (fnn op x y)) := by
  cases h : floatBits op .f64 x y with
  | some r => rw [run_float_arith w op t .f64 x y r h]; simp [fres, fnn, h, World.drewN_zero]
  | none =>
    unfold floatBits at h
    rcases hop with rfl | rfl | rfl | rfl <;> simp only at h <;> simp [binOp, Op.floatArith, h, fres, fnn, floatBits, choose, World.drewN, Question.forced, Sem.run]
@[go_sem] theorem run_fl_add (t : TypeId) (x y : Nat) : (binOp .add t (.float .f64 x) (.float .f64 y)).run P w = .ok (.float .f64 (fres .add x y w)) (w.drewN (fnn .add x y)) := run_fl w _ (by simp) t x y
@[go_sem] theorem run_fl_sub (t : TypeId) (x y : Nat) : (binOp .sub t (.float .f64 x) (.float .f64 y)).run P w = .ok (.float .f64 (fres .sub x y w)) (w.drewN (fnn .sub x y)) := run_fl w _ (by simp) t x y
@[go_sem] theorem run_fl_mul (t : TypeId) (x y : Nat) : (binOp .mul t (.float .f64 x) (.float .f64 y)).run P w = .ok (.float .f64 (fres .mul x y w)) (w.drewN (fnn .mul x y)) := run_fl w _ (by simp) t x y
@[go_sem] theorem run_fl_quo (t : TypeId) (x y : Nat) : (binOp .quo t (.float .f64 x) (.float .f64 y)).run P w = .ok (.float .f64 (fres .quo x y w)) (w.drewN (fnn .quo x y)) := run_fl w _ (by simp) t x y
end

section
variable {P : Program} {w : World} {a : Addr} {m : Mode}
@[go_sem] theorem run_store_float (k : FloatKind) (b : Nat) : (store a (.float k b) m).run P w = stored P w a (.float k b) m := run_store P w a _ m rfl
@[go_sem] theorem run_store_complex (k : FloatKind) (b c : Nat) : (store a (.complex k b c) m).run P w = stored P w a (.complex k b c) m := run_store P w a _ m rfl
end

theorem dec64 (x : Nat) : FloatKind.f64.decode x = Ieee.double.read x := rfl
theorem sw64 : Ieee.double.signWeight = 9223372036854775808 := by decide
theorem ir64 : Ieee.double.infRung = 9218868437227405312 := by decide
theorem bn64 : Ieee.double.binade = 4503599627370496 := by decide
theorem nan_iff (x : Nat) : (FloatKind.f64.decode x).isNaN = true ↔ 9218868437227405312 < x % 9223372036854775808 := by
  rw [dec64]
  unfold Ieee.Format.read
  rw [sw64, ir64, bn64]
  simp only
  split
  · simp [Ieee.Datum.isNaN]; omega
  · split
    · simp [Ieee.Datum.isNaN]; omega
    · split
      · simp [Ieee.Datum.isNaN]; omega
      · simp [Ieee.Datum.isNaN]; omega
theorem fv_none {x : Nat} : fv x = none ↔ 9218868437227405312 < x % 9223372036854775808 := by
  rw [← nan_iff]; unfold fv; split <;> simp_all
theorem fv_some {x y : Nat} (h : fv x = some y) : x = y ∧ ¬ 9218868437227405312 < x % 9223372036854775808 := by
  rw [← nan_iff]; unfold fv at h; split at h
  · cases h
  · injection h with h; exact ⟨h, by assumption⟩
theorem fv_of {x : Nat} (h : ¬ 9218868437227405312 < x % 9223372036854775808) : fv x = some x := by
  rw [← nan_iff] at h; unfold fv; rw [if_neg h]
theorem word_rung (neg : Bool) (r : Nat) (h : r ≤ 9218868437227405312) : Ieee.double.word neg r % 9223372036854775808 = r := by
  unfold Ieee.Format.word; rw [sw64]; split <;> omega
theorem fv_write (d : Ieee.Datum) (h : d.isNaN = false) : fv (Ieee.double.write d) = some (Ieee.double.write d) := by
  apply fv_of
  cases d with
  | number neg mag place =>
    unfold Ieee.Format.write Ieee.Format.nearest
    simp only
    split
    · rw [word_rung _ _ (by omega)]; omega
    · rw [ir64, word_rung _ _ (Nat.min_le_right _ _)]
      have := Nat.min_le_right ((max (place + ↑mag.log2 - ↑Ieee.double.fractionBits) Ieee.double.leastPlace - Ieee.double.leastPlace).toNat * Ieee.double.binade + Ieee.Toward.even.cut neg (mag <<< (place - max (place + ↑mag.log2 - ↑Ieee.double.fractionBits) Ieee.double.leastPlace).toNat) (max (place + ↑mag.log2 - ↑Ieee.double.fractionBits) Ieee.double.leastPlace - place).toNat) 9218868437227405312
      omega
  | infinity neg => unfold Ieee.Format.write; simp only; rw [ir64, word_rung _ _ (Nat.le_refl _)]; omega
  | nan neg f => cases h
theorem sum_num {a b d : Ieee.Datum} (h : a.sum b = some d) : d.isNaN = false ∧ a.isNaN = false ∧ b.isNaN = false := by
  unfold Ieee.Datum.sum at h
  split at h <;> (try split at h) <;> first | (cases h; done) | (injection h with h; subst h; exact ⟨rfl, rfl, rfl⟩)
theorem product_num {a b d : Ieee.Datum} (h : a.product b = some d) : d.isNaN = false ∧ a.isNaN = false ∧ b.isNaN = false := by
  unfold Ieee.Datum.product at h
  split at h <;> (try split at h) <;> first | (cases h; done) | (injection h with h; subst h; exact ⟨rfl, rfl, rfl⟩)
theorem quotient_num {n : Nat} {a b d : Ieee.Datum} (h : a.quotient n b = some d) : d.isNaN = false ∧ a.isNaN = false ∧ b.isNaN = false := by
  unfold Ieee.Datum.quotient at h
  split at h <;> (try split at h) <;> (try split at h) <;> first | (cases h; done) | (injection h with h; subst h; exact ⟨rfl, rfl, rfl⟩)
theorem opp_num (a : Ieee.Datum) : a.opposite.isNaN = a.isNaN := by cases a <;> rfl
theorem fb_num {op : BinOp} {x y r : Nat} (h : floatBits op .f64 x y = some r) : fv r = some r ∧ fv x = some x ∧ fv y = some y := by
  have K : ∀ z, (Ieee.double.read z).isNaN = false → fv z = some z := fun z hz => by unfold fv; rw [dec64, hz]; rfl
  have D : ∀ d : Ieee.Datum, d.isNaN = false → fv (FloatKind.f64.format.write d) = some (FloatKind.f64.format.write d) := fun d h => fv_write d h
  unfold floatBits at h
  split at h
  · unfold Ieee.Format.add at h
    obtain ⟨d, hd, rfl⟩ := Option.map_eq_some_iff.1 h
    obtain ⟨h1, h2, h3⟩ := sum_num hd
    exact ⟨D d h1, K x h2, K y h3⟩
  · unfold Ieee.Format.sub at h
    obtain ⟨d, hd, rfl⟩ := Option.map_eq_some_iff.1 h
    obtain ⟨h1, h2, h3⟩ := sum_num hd
    rw [opp_num] at h3
    exact ⟨D d h1, K x h2, K y h3⟩
  · unfold Ieee.Format.mul at h
    obtain ⟨d, hd, rfl⟩ := Option.map_eq_some_iff.1 h
    obtain ⟨h1, h2, h3⟩ := product_num hd
    exact ⟨D d h1, K x h2, K y h3⟩
  · unfold Ieee.Format.div at h
    obtain ⟨d, hd, rfl⟩ := Option.map_eq_some_iff.1 h
    obtain ⟨h1, h2, h3⟩ := quotient_num hd
    exact ⟨D d h1, K x h2, K y h3⟩
  · cases h
theorem fv_cut (x y t : Nat) : fv ((Question.nanBits .f64 x y).cut t) = none := by
  rw [fv_none]
  have : (Question.nanBits .f64 x y).cut t = (t % 2) * 2 ^ 63 + 0x7ff0000000000000 + 1 + (t / 2) % (2 ^ 52 - 1) := rfl
  rw [this]
  have h2 : (t / 2) % (2 ^ 52 - 1) < 2 ^ 52 - 1 := Nat.mod_lt _ (by decide)
  generalize (t / 2) % (2 ^ 52 - 1) = z at h2 ⊢
  rcases Nat.mod_two_eq_zero_or_one t with h | h <;> rw [h] <;> omega
/-- What an operation gives, by value. -/
theorem fv_fres (op : BinOp) (x y : Nat) (w : World) : fv (fres op x y w) = fop op (fv x) (fv y) := by
  unfold fres
  cases h : floatBits op .f64 x y with
  | some r =>
    obtain ⟨h1, h2, h3⟩ := fb_num h
    rw [h2, h3]; simp only [fop]; rw [h, h1]
  | none =>
    simp only
    rw [fv_cut]
    cases hx : fv x with
    | none => rfl
    | some x' =>
      cases hy : fv y with
      | none => rfl
      | some y' =>
        obtain ⟨rfl, _⟩ := fv_some hx
        obtain ⟨rfl, _⟩ := fv_some hy
        exact h.symm

end Go.Proofs.Ytgjdcdhdfhkfcaa
