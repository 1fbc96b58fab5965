/- Proved here: the numbers that are there (thL), sums and means by value (smO, avO), what MeanOf answers (mnC, mnN, mnV). No program. -/
import Derived.Test.YtmemjohpimjmpaaFlC
import Derived.Test.YtmemjohpimjmpaaLwS
namespace Go.Proofs.Ytmemjohpimjmpaa
open Go.RowKit
set_option linter.unusedVariables false
set_option linter.unusedSimpArgs false

def thL (s : List Nat) : List Nat := s.filter fun x => (fv x).isSome
def smO (l : List (Option Nat)) : Option Nat := l.foldl (fop .add) (some 0)
def avO (s : List Nat) : Option Nat := fop .quo (smO (s.map fv)) (fv (floatOfInt .f64 s.length))
def mnC (s : List Nat) : Int := if 200 < s.length then 2 else if thL s = [] then 4 else 0
def mnN (s : List Nat) : Int := if mnC s = 0 then (thL s).length else 0
def mnV (s : List Nat) : Option Nat := if mnC s = 0 then avO (thL s) else some 0
/-- The numbers that are there, if there is no fault. -/
def toL (s : List Nat) : List Nat := if mnC s = 0 then thL s else []
theorem fv_zero : fv 0 = some 0 := by decide
theorem take_snoc {s : List Nat} {k z : Nat} (h : s[k]? = some z) : s.take (k + 1) = s.take k ++ [z] := by rw [List.take_add_one, h]; rfl
theorem thL_step {s : List Nat} {k z : Nat} (h : s[k]? = some z) : thL (s.take (k + 1)) = if (fv z).isNone then thL (s.take k) else thL (s.take k) ++ [z] := by
  rw [take_snoc h, thL, List.filter_append]
  cases e : fv z <;> simp [thL, e]
theorem smO_step {s : List Nat} {k z : Nat} (h : s[k]? = some z) : smO ((s.take (k + 1)).map fv) = fop .add (smO ((s.take k).map fv)) (fv z) := by
  rw [take_snoc h, List.map_append, smO, List.foldl_append]; rfl
theorem thL_len (s : List Nat) : (thL s).length ≤ s.length := List.length_filter_le _ _
theorem thL_take (s : List Nat) (k : Nat) : (thL (s.take k)).length ≤ k := Nat.le_trans (thL_len _) (by simp; omega)
theorem fl_lit0 (w : World) (B : Nat) (hB : B ≤ w.heap.size) : OFl (w.alloc (.cells #[] 24)) B (.slice (some ⟨w.heap.size, 0, none⟩) 0 0) [] :=
  World.ownsRow_lit w #[] 0 hB (by decide) (by simp)
theorem three_q {w : World} {k : Nat} {a b c : Value} {T : TypeId} (h : w.heap[k]? = some (.cells #[a, b, c] T)) :
    w.cell? ⟨k, 0, none⟩ = some a ∧ w.cell? ⟨k, 1, none⟩ = some b ∧ w.cell? ⟨k, 2, none⟩ = some c ∧ w.frozen? ⟨k, 0, none⟩ = false ∧ w.frozen? ⟨k, 1, none⟩ = false ∧ w.frozen? ⟨k, 2, none⟩ = false ∧ k < w.heap.size :=
  ⟨cellOf h 0 rfl, cellOf h 1 rfl, cellOf h 2 rfl, frozOf h 0, frozOf h 1, frozOf h 2, ltOf h⟩
theorem og_nil {T : Nat} (w : World) (B : Nat) : OG T 1 flC w B (.slice none 0 0) [] := ⟨rfl, Or.inl ⟨rfl, rfl⟩⟩

end Go.Proofs.Ytmemjohpimjmpaa
