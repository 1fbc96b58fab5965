/- Proved here: how the laws' package marks lists of bytes, told as bytes. -/
import Derived.Test.YtejpjbihdclngaaByC
import Derived.Test.YtejpjbihdclngaaByK
import Derived.Test.YtejpjbihdclngaaLwS
import Derived.OpenShut
import Derived.Lib.SmallJoins
namespace Go.Proofs.Ytejpjbihdclngaa
open Go.ChangeShapes Go.WideShapes Go.ChangeAt Go.RowKit Go.Joins Go.Deep
set_option linter.unusedVariables false
set_option linter.unusedSimpArgs false

/-- The numbers z, z + 1, .. as bytes. -/
def marksY (z : Int) (n : Nat) : List UInt8 := (List.range n).map fun j : Nat => UInt8.ofNat ((z + (j : Int)) % 256).toNat
theorem marksY_length (z : Int) (n : Nat) : (marksY z n).length = n := by simp [marksY]
theorem marksY_mk (z : Int) (n : Nat) : (marksY z n).flatMap byC = mkB z n := by
  rw [by_flat, marksY, List.map_map, mkB]
  refine List.map_congr_left fun j _ => ?_
  show Value.int .u8 ((UInt8.ofNat ((z + (j : Int)) % 256).toNat).toNat : Int) = _
  rw [UInt8.toNat_ofNat_of_lt' (by show ((z + (j : Int)) % 256).toNat < 256; omega)]
  rw [show ((((z + (j : Int)) % 256).toNat : Nat) : Int) = (z + (j : Int)) % 256 by omega]
theorem mark1Y {w : World} {B : Nat} {v : Value} {xs : List UInt8} (z : Int) (hn : xs.length ≤ 1048576) (hk0 : 0 ≤ z) (hk1 : z ≤ 1000000000000) (h : OG 5 1 byC w B v xs) :
    Calls Try.prog 30 #[v, .int .i64 z] w fun e w' => e = .returned (.int .i64 (z + (xs.length : Int))) ∧ OG 5 1 byC w' B v (marksY z xs.length) ∧ ∃ g, B ≤ g ∧ (v.ownBlock = some g ∨ w' = w) ∧ Only g w w' := by
  have key : ∀ W : World, W.ownsRow B 5 1 v xs.length (mkB z xs.length) → OG 5 1 byC W B v (marksY z xs.length) := fun W hW => by
    unfold OG; rw [marksY_length, marksY_mk]; exact hW
  rcases h.2 with ⟨rfl, h0⟩ | ⟨g, c, cur, rfl, hB, _⟩
  · refine (markByteS_zero none 0 z w).mono ?_
    rintro e w' ⟨rfl, rfl⟩
    refine ⟨by rw [h0]; simp, ?_, B, Nat.le_refl _, Or.inr rfl, Only.refl _ _⟩
    have hx : xs = [] := List.length_eq_zero_iff.1 h0
    subst hx
    exact h
  · refine (markByteS_pos g c xs.length B _ z w hn hk0 hk1 h).mono ?_
    rintro e w' ⟨rfl, h1, h2⟩
    exact ⟨rfl, key _ h1, g, hB, Or.inl rfl, h2⟩

end Go.Proofs.Ytejpjbihdclngaa
