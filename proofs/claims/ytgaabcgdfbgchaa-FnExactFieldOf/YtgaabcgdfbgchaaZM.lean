/- Proved here: MulZ of the model, and the program's number, zOf and product: what comes out, by value. No condition. -/
import Derived.Test.YtgaabcgdfbgchaaZB
import Derived.Test.YtgaabcgdfbgchaaReg
namespace Go.Proofs.Ytgaabcgdfbgchaa
open Go.ChangeShapes Go.WideShapes Go.ChangeAt Go.RowKit Go.Joins
set_option linter.unusedVariables false
set_option linter.unusedSimpArgs false

/-- A complex number by value. -/
structure Zv where
  re : Option Nat
  im : Option Nat
def Zf.v (z : Zf) : Zv := ⟨fv z.re, fv z.im⟩
/-- The product by value. -/
def mulV (a b : Zv) : Zv := ⟨fop .sub (fop .mul a.re b.re) (fop .mul a.im b.im), fop .add (fop .mul a.re b.im) (fop .mul a.im b.re)⟩
def addV (a b : Zv) : Zv := ⟨fop .add a.re b.re, fop .add a.im b.im⟩

theorem zret {e : Ending} {x y : Nat} {R : Zf → Prop} (h : e = .returned (.agg #[.float .f64 x, .float .f64 y])) (hR : R ⟨x, y⟩) : ∃ z : Zf, e = .returned (.agg #[.float .f64 z.re, .float .f64 z.im]) ∧ R z := ⟨⟨x, y⟩, h, hR⟩
theorem cret {e : Ending} {x y : Nat} {R : Zf → Prop} (h : e = .returned (.complex .f64 x y)) (hR : R ⟨x, y⟩) : ∃ z : Zf, e = .returned (.complex .f64 z.re z.im) ∧ R z := ⟨⟨x, y⟩, h, hR⟩

set_option maxHeartbeats 1600000 in
theorem spec_mul (a b : Zf) (w : World) :
    Calls Try.prog 72 #[.agg #[.float .f64 a.re, .float .f64 a.im], .agg #[.float .f64 b.re, .float .f64 b.im]] w fun e w' => ∃ z : Zf, e = .returned (.agg #[.float .f64 z.re, .float .f64 z.im]) ∧ z.v = mulV a.v b.v ∧ Below w.heap.size w w' := by
  go_enter Try.func72, Try.ntmps72
  go_wp2
  go_returns
  refine zret rfl ⟨?_, by (repeat' (first | (with_reducible exact Below.refl _ _) | (with_reducible assumption) | (with_reducible refine Below.setCell ?_ ?_ _) | (with_reducible refine Below.alloc ?_ ?_ _) | (with_reducible refine below_drewN ?_ _) | (with_reducible refine Below.drew ?_) | (with_reducible exact Nat.le_refl _) | omega | (simp; done) | (simp; omega)))⟩
  simp only [Zf.v, mulV, fv_fres]

set_option maxHeartbeats 800000 in
theorem number_any (a : Zf) (w : World) :
    Calls Try.prog 79 #[.agg #[.float .f64 a.re, .float .f64 a.im]] w fun e w' => e = .returned (.complex .f64 a.re a.im) ∧ Below w.heap.size w w' := by
  go_enter Try.func79, Try.ntmps79
  go_wp2
  go_returns
  exact ⟨rfl, by (repeat' (first | (with_reducible exact Below.refl _ _) | (with_reducible assumption) | (with_reducible refine Below.setCell ?_ ?_ _) | (with_reducible refine Below.alloc ?_ ?_ _) | (with_reducible refine below_drewN ?_ _) | (with_reducible refine Below.drew ?_) | (with_reducible exact Nat.le_refl _) | omega | (simp; done) | (simp; omega)))⟩

set_option maxHeartbeats 800000 in
theorem zOf_any (a : Zf) (w : World) :
    Calls Try.prog 39 #[.complex .f64 a.re a.im] w fun e w' => e = .returned (.agg #[.float .f64 a.re, .float .f64 a.im]) ∧ Below w.heap.size w w' := by
  go_enter Try.func39, Try.ntmps39
  go_wp2
  go_returns
  exact ⟨rfl, by (repeat' (first | (with_reducible exact Below.refl _ _) | (with_reducible assumption) | (with_reducible refine Below.setCell ?_ ?_ _) | (with_reducible refine Below.alloc ?_ ?_ _) | (with_reducible refine below_drewN ?_ _) | (with_reducible refine Below.drew ?_) | (with_reducible exact Nat.le_refl _) | omega | (simp; done) | (simp; omega)))⟩

set_option maxHeartbeats 1600000 in
theorem product_any (a b : Zf) (w : World) :
    Calls Try.prog 75 #[.complex .f64 a.re a.im, .complex .f64 b.re b.im] w fun e w' => ∃ z : Zf, e = .returned (.complex .f64 z.re z.im) ∧ z.v = mulV a.v b.v ∧ ∃ n, w' = w.drewN n := by
  go_enter Try.func75, Try.ntmps75
  go_wp2
  go_returns
  refine cret rfl ⟨?_, _, rfl⟩
  simp only [Zf.v, mulV, fv_fres]

end Go.Proofs.Ytgaabcgdfbgchaa
