/- Proved here: the marks of structs with numbers and texts. -/
import Derived.Test.YtkacfjbhkgdpdaaMtX
import Derived.Test.YtkacfjbhkgdpdaaLwS
import Derived.Test.YtkacfjbhkgdpdaaKept
namespace Go.Proofs.Ytkacfjbhkgdpdaa
open Go.RowKit
set_option linter.unusedVariables false
set_option linter.unusedSimpArgs false

/-- The mark at a place; st: is it a text? -/
def mkAt (st : Nat → Bool) (k : Nat) (z : Int) (t : Nat) : Value := if st (t % k) = true then .string (mtT (z + (t : Int))) else .int .i64 (z + (t : Int))
def mkP (st : Nat → Bool) (k : Nat) (z : Int) (n : Nat) : List Value := (List.range n).map (mkAt st k z)
theorem mkP_len (st : Nat → Bool) (k : Nat) (z : Int) (n : Nat) : (mkP st k z n).length = n := by simp [mkP]
theorem mkP_at {st : Nat → Bool} {k : Nat} {z : Int} {n j : Nat} (h : j < n) : (mkP st k z n)[j]? = some (mkAt st k z j) := by simp [mkP, h]
theorem mkP_of {st : Nat → Bool} {k : Nat} {z : Int} {n : Nat} {ys : List Value} (hl : ys.length = n) (h : ∀ t, t < n → ys[t]? = some (mkAt st k z t)) : ys = mkP st k z n := by
  apply List.ext_getElem?
  intro i
  rcases Nat.lt_or_ge i n with h1 | h1
  · rw [h i h1, mkP_at h1]
  · rw [List.getElem?_eq_none (by omega), List.getElem?_eq_none (by rw [mkP_len]; omega)]
theorem mkAt_s {st : Nat → Bool} {k : Nat} {z0 z : Int} {t i : Nat} (h : t % k = i) (hs : st i = true) (hz : z = z0 + (t : Int)) : mkAt st k z0 t = .string (mtT z) := by unfold mkAt; rw [h, if_pos hs, hz]
theorem mkAt_i {st : Nat → Bool} {k : Nat} {z0 z : Int} {t i : Nat} (h : t % k = i) (hs : st i = false) (hz : z = z0 + (t : Int)) : mkAt st k z0 t = .int .i64 z := by unfold mkAt; rw [h, if_neg (by rw [hs]; decide), hz]
theorem Chg.wide {B Z g : Nat} {w w' : World} (h : Chg g (g + 1) w w') (h1 : B ≤ g) (h2 : g < Z) : Chg B Z w w' := ⟨h.os, h.tape, h.output, h.size, fun k hk hb => h.block k hk (by omega)⟩

end Go.Proofs.Ytkacfjbhkgdpdaa
