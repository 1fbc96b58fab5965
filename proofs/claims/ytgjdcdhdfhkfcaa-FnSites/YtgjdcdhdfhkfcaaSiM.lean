/- Proved here: sites: how they lie in memory; those of a plan (siL), row by row. No condition on the program but on its table of types. -/
import Derived.Test.YtgjdcdhdfhkfcaaGen
import Derived.Test.YtgjdcdhdfhkfcaaIntsBase
import Derived.Test.YtgjdcdhdfhkfcaaLwS
import Derived.Deep.AppendLies
namespace Go.Proofs.Ytgjdcdhdfhkfcaa
open Go.RowKit
set_option linter.unusedVariables false
set_option linter.unusedSimpArgs false

/-- A site. -/
structure Sit where
  x : Int
  y : Int

def siC2 (x : Sit) : List Value := [.int .i64 x.x, .int .i64 x.y]
theorem siC2_len (x : Sit) : (siC2 x).length = 2 := rfl
theorem siC2_one (x : Sit) : ∀ u ∈ siC2 x, u.oneCell' = true := by
  intro u hu
  simp only [siC2, List.mem_cons, List.not_mem_nil, or_false] at hu
  rcases hu with rfl | rfl <;> rfl
theorem info_Site : (Try.prog.info? 31).map (fun i => (i.zero, i.size, i.bytes)) = some (some (.agg #[.int .i64 0, .int .i64 0]), 2, 16) := by kernel_rfl
/-- The cells of an element, one by one. -/
theorem siC2_at {w : World} {g o : Nat} {x : Sit} (h : ∀ i, i < 2 → w.cell? ⟨g, o + i, none⟩ = (siC2 x)[i]?) : w.cell? ⟨g, o, none⟩ = some (.int .i64 x.x) ∧ w.cell? ⟨g, o + 1, none⟩ = some (.int .i64 x.y) :=
  ⟨h 0 (by omega), h 1 (by omega)⟩

/-- The first k of a row. -/
def siR (r st : Int) (M : Nat) (y : Int) : Nat → List Sit
  | 0 => []
  | k + 1 => siR r st M y k ++ (if (((k : Int) - M) * st) * (((k : Int) - M) * st) + y * y ≤ r * r then [⟨((k : Int) - M) * st, y⟩] else [])
/-- The first j rows. -/
def siA (r st : Int) (M : Nat) : Nat → List Sit
  | 0 => []
  | j + 1 => siA r st M j ++ siR r st M (((j : Int) - M) * st) (2 * M + 1)
def siM (r st : Int) : Nat := (r / st).toNat
def siG (r st : Int) : List Sit := siA r st (siM r st) (2 * siM r st + 1)
def siC (r st : Int) : Int := if (0 ≤ r ∧ r ≤ 50) ∧ (1 ≤ st ∧ st ≤ 50) then (if 200 < (siG r st).length then 2 else 0) else 3
def siL (r st : Int) : List Sit := if siC r st = 0 then siG r st else []
theorem siR_len (r st : Int) (M : Nat) (y : Int) (k : Nat) : (siR r st M y k).length ≤ k := by
  induction k with
  | zero => simp [siR]
  | succ k ih => rw [siR, List.length_append]; split <;> simp <;> omega
theorem siA_len (r st : Int) (M : Nat) (j : Nat) : (siA r st M j).length ≤ j * (2 * M + 1) := by
  induction j with
  | zero => simp [siA]
  | succ j ih =>
    rw [siA, List.length_append, Nat.add_mul]
    have := siR_len r st M (((j : Int) - M) * st) (2 * M + 1)
    omega
theorem siL_len (r st : Int) : (siL r st).length ≤ 200 := by
  unfold siL
  split
  · rename_i h
    unfold siC at h
    split at h
    · split at h
      · omega
      · omega
    · omega
  · simp
theorem sq_b {x : Int} (h1 : -100 ≤ x) (h2 : x ≤ 100) : 0 ≤ x * x ∧ x * x ≤ 10000 := by
  have h3 : 0 ≤ (100 - x) * (100 + x) := Int.mul_nonneg (by omega) (by omega)
  have h4 : (100 - x) * (100 + x) = 10000 - x * x := by grind
  have h5 : 0 ≤ x * x := by
    rcases Int.le_total 0 x with h | h
    · exact Int.mul_nonneg h h
    · have := Int.mul_nonneg (show 0 ≤ -x by omega) (show 0 ≤ -x by omega)
      have e : -x * -x = x * x := by grind
      omega
  omega
/-- Where a row or a column stands: bounds, and when it ends. -/
theorem at_b {r st : Int} {M : Nat} (hr : 0 ≤ r ∧ r ≤ 50) (hs : 1 ≤ st ∧ st ≤ 50) (hM : M = siM r st) {k : Nat} (hk : k ≤ 2 * M + 1) :
    -100 ≤ ((k : Int) - M) * st ∧ ((k : Int) - M) * st ≤ 100 ∧ (((k : Int) - M) * st ≤ (M : Int) * st ↔ k < 2 * M + 1) ∧ 0 ≤ (M : Int) * st ∧ (M : Int) * st ≤ 50 ∧ (M : Int) ≤ 50 := by
  have hd : 0 ≤ r / st := Int.ediv_nonneg hr.1 (by omega)
  have hMi : (M : Int) = r / st := by rw [hM, siM]; omega
  have h1 : r / st * st ≤ r := Int.ediv_mul_le r (by omega)
  have h2 : (M : Int) * st ≤ 50 := by rw [hMi]; omega
  have h3 : 0 ≤ (M : Int) * st := Int.mul_nonneg (by omega) (by omega)
  have h4 : (M : Int) ≤ (M : Int) * st := by
    have := Int.mul_le_mul_of_nonneg_left (show (1 : Int) ≤ st by omega) (show (0 : Int) ≤ (M : Int) by omega)
    omega
  have e1 : ((k : Int) - M) * st = (k : Int) * st - (M : Int) * st := by rw [Int.sub_mul]
  have h5 : (k : Int) * st ≤ (2 * (M : Int) + 1) * st := Int.mul_le_mul_of_nonneg_right (by omega) (by omega)
  have e2 : (2 * (M : Int) + 1) * st = 2 * ((M : Int) * st) + st := by grind
  have h6 : 0 ≤ (k : Int) * st := Int.mul_nonneg (by omega) (by omega)
  refine ⟨by omega, ?_, ?_, h3, h2, by omega⟩
  · omega
  · constructor
    · intro h
      rcases Nat.lt_or_ge k (2 * M + 1) with h7 | h7
      · exact h7
      · have : (k : Int) * st = 2 * ((M : Int) * st) + st := by rw [← e2, show (k : Int) = 2 * (M : Int) + 1 by omega]
        omega
    · intro h
      have h8 : (k : Int) * st ≤ (2 * (M : Int)) * st := Int.mul_le_mul_of_nonneg_right (by omega) (by omega)
      have e3 : (2 * (M : Int)) * st = 2 * ((M : Int) * st) := by grind
      omega
theorem st_snoc {w : World} {B : Nat} {v : Value} {s : List Sit} {x y : Int} (h : w.ownsRow B 31 2 v (s.length + 1) (s.flatMap siC2 ++ [.int .i64 x, .int .i64 y])) : OG 31 2 siC2 w B v (s ++ [(⟨x, y⟩ : Sit)]) := by
  show w.ownsRow B 31 2 v (s ++ [(⟨x, y⟩ : Sit)]).length ((s ++ [(⟨x, y⟩ : Sit)]).flatMap siC2)
  rw [List.length_append, List.flatMap_append]
  simpa [siC2] using h
theorem st_nil {T : Nat} (w : World) (B : Nat) : OG T 2 siC2 w B (.slice none 0 0) [] := ⟨rfl, Or.inl ⟨rfl, rfl⟩⟩
theorem st_lit0 (w : World) (B : Nat) (hB : B ≤ w.heap.size) : OG 31 2 siC2 (w.alloc (.cells #[] 31)) B (.slice (some ⟨w.heap.size, 0, none⟩) 0 0) [] :=
  World.ownsRow_lit w #[] 0 hB (by decide) (by simp)
theorem two_q {w : World} {k : Nat} {a b : Value} {T : TypeId} (h : w.heap[k]? = some (.cells #[a, b] T)) :
    w.cell? ⟨k, 0, none⟩ = some a ∧ w.cell? ⟨k, 1, none⟩ = some b ∧ w.frozen? ⟨k, 0, none⟩ = false ∧ w.frozen? ⟨k, 1, none⟩ = false ∧ k < w.heap.size :=
  ⟨cellOf h 0 rfl, cellOf h 1 rfl, frozOf h 0, frozOf h 1, ltOf h⟩

end Go.Proofs.Ytgjdcdhdfhkfcaa
