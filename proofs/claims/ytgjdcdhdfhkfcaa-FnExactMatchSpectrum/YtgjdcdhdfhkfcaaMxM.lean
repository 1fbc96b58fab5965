/- Proved here: what MatchSpectrum answers: mxC, mxN, mxV. No program. -/
import Derived.Test.YtgjdcdhdfhkfcaaFoK
import Derived.Test.YtgjdcdhdfhkfcaaFlC
namespace Go.Proofs.Ytgjdcdhdfhkfcaa
open Go.RowKit
set_option linter.unusedVariables false
set_option linter.unusedSimpArgs false

/-- The sum of squares over the first k places. -/
def msS (a b : List Nat) : Nat → Option Nat
  | 0 => some 0
  | k + 1 => if (fv (a.getD k 0)).isNone || (fv (b.getD k 0)).isNone then msS a b k else fop .add (msS a b k) (fop .mul (fop .sub (fv (a.getD k 0)) (fv (b.getD k 0))) (fop .sub (fv (a.getD k 0)) (fv (b.getD k 0))))
def msO (a b : List Nat) : Option Nat := msS a b a.length
def lessO : Option Nat → Option Nat → Bool
  | some x, some y => decide (ltF x y)
  | some _, none => true
  | none, _ => false
def bsO (lib : List (List Nat)) (sp : List Nat) : Nat → Nat × Option Nat
  | 0 => (0, msO (lib.getD 0 []) sp)
  | k + 1 => if lessO (msO (lib.getD (k + 1) []) sp) (bsO lib sp k).2 then (k + 1, msO (lib.getD (k + 1) []) sp) else bsO lib sp k
def lnF (lib : List (List Nat)) (sp : List Nat) : Prop := ∀ i, i < lib.length → (lib.getD i []).length = sp.length
instance (lib : List (List Nat)) (sp : List Nat) : Decidable (lnF lib sp) := by unfold lnF; infer_instance
def mxC (lib : List (List Nat)) (sp : List Nat) : Int := if 20 < lib.length ∨ 200 < sp.length then 2 else if lib.length = 0 then 4 else if lnF lib sp then 0 else 1
def mxN (lib : List (List Nat)) (sp : List Nat) : Int := if mxC lib sp = 0 then ((bsO lib sp (lib.length - 1)).1 : Int) else 0
def mxV (lib : List (List Nat)) (sp : List Nat) : Option Nat := if mxC lib sp = 0 then (bsO lib sp (lib.length - 1)).2 else some 0
theorem less_ord (x y : Nat) : lessO (fv x) (fv y) = (decide (ltF x y) || ((fv y).isNone && !(fv x).isNone)) := by
  rcases num_or x with hx | hx <;> rcases num_or y with hy | hy
  · rw [hx, hy, decide_eq_false (fun h => by rw [h.1] at hx; cases hx)]; rfl
  · rw [hx, hy, decide_eq_false (fun h => by rw [h.1] at hx; cases hx)]; rfl
  · rw [hx, hy, decide_eq_false (fun h => by rw [h.2.1] at hy; cases hy)]; rfl
  · rw [hx, hy]; simp [lessO]
theorem getD_fl {s : List Nat} {j z : Nat} (h : s[j]? = some z) : s.getD j 0 = z := by simp [List.getD_eq_getElem?_getD, h]
theorem ms_skip {a b : List Nat} {k z u : Nat} (hz : a[k]? = some z) (hu : b[k]? = some u) (h : ((fv z).isNone || (fv u).isNone) = true) : msS a b (k + 1) = msS a b k := by
  rw [msS, getD_fl hz, getD_fl hu, h]; rfl
theorem ms_step {a b : List Nat} {k z u : Nat} (hz : a[k]? = some z) (hu : b[k]? = some u) (h : ((fv z).isNone || (fv u).isNone) = false) : msS a b (k + 1) = fop .add (msS a b k) (fop .mul (fop .sub (fv z) (fv u)) (fop .sub (fv z) (fv u))) := by
  rw [msS, getD_fl hz, getD_fl hu, h]; rfl

end Go.Proofs.Ytgjdcdhdfhkfcaa
