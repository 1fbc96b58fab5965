/- Proved here: the places beside one, as both list them: nbS, nbI. -/
import Derived.Test.YtpbkoigdfjajkaaGvM
import Derived.Test.YtpbkoigdfjajkaaLwS
namespace Go.Proofs.Ytpbkoigdfjajkaa
open Go.RowKit
set_option linter.unusedVariables false
set_option linter.unusedSimpArgs false

/-- The places above, below, left and right of one that are in a grid of n rows, W wide; each a row and a column. -/
def nbS (n W i k : Int) : List (Int × Int) := (if 0 < i then [(i - 1, k)] else []) ++ (if i + 1 < n then [(i + 1, k)] else []) ++ (if 0 < k then [(i, k - 1)] else []) ++ (if k + 1 < W then [(i, k + 1)] else [])
/-- Left, right, above, below. -/
def nbI (n W i k : Int) : List (Int × Int) := (if 0 < k then [(i, k - 1)] else []) ++ (if k + 1 < W then [(i, k + 1)] else []) ++ (if 0 < i then [(i - 1, k)] else []) ++ (if i + 1 < n then [(i + 1, k)] else [])
def Nb (n W i k : Int) (p : Int × Int) : Prop := 0 ≤ p.1 ∧ p.1 < n ∧ 0 ≤ p.2 ∧ p.2 < W ∧ (p = (i - 1, k) ∨ p = (i + 1, k) ∨ p = (i, k - 1) ∨ p = (i, k + 1))
theorem mem_if {α : Type} {c : Prop} [Decidable c] {x p : α} : p ∈ (if c then [x] else []) ↔ c ∧ p = x := by
  split <;> simp [*]
theorem nbS_mem {n W i k : Int} (h0 : 0 ≤ i) (h1 : i < n) (h2 : 0 ≤ k) (h3 : k < W) (p : Int × Int) : p ∈ nbS n W i k ↔ Nb n W i k p := by
  obtain ⟨a, b⟩ := p
  unfold nbS Nb
  simp only [List.mem_append, mem_if, Prod.mk.injEq]
  omega
theorem nbI_mem {n W i k : Int} (h0 : 0 ≤ i) (h1 : i < n) (h2 : 0 ≤ k) (h3 : k < W) (p : Int × Int) : p ∈ nbI n W i k ↔ Nb n W i k p := by
  obtain ⟨a, b⟩ := p
  unfold nbI Nb
  simp only [List.mem_append, mem_if, Prod.mk.injEq]
  omega
theorem if_len {α : Type} {c : Prop} [Decidable c] {x : α} : (if c then [x] else ([] : List α)).length ≤ 1 := by split <;> simp
theorem nbS_len (n W i k : Int) : (nbS n W i k).length ≤ 4 := by
  unfold nbS
  simp only [List.length_append]
  have h1 := if_len (c := 0 < i) (x := (i - 1, k))
  have h2 := if_len (c := i + 1 < n) (x := (i + 1, k))
  have h3 := if_len (c := 0 < k) (x := (i, k - 1))
  have h4 := if_len (c := k + 1 < W) (x := (i, k + 1))
  omega
theorem nbI_len (n W i k : Int) : (nbI n W i k).length ≤ 4 := by
  unfold nbI
  simp only [List.length_append]
  have h1 := if_len (c := 0 < i) (x := (i - 1, k))
  have h2 := if_len (c := i + 1 < n) (x := (i + 1, k))
  have h3 := if_len (c := 0 < k) (x := (i, k - 1))
  have h4 := if_len (c := k + 1 < W) (x := (i, k + 1))
  omega
/-- A place's cells: its row, its column. -/
def bsE (p : Int × Int) : List Value := [.int .i64 p.1, .int .i64 p.2]
/-- .. its column, its row. -/
def ptE (p : Int × Int) : List Value := [.int .i64 p.2, .int .i64 p.1]
theorem bsE_len (p : Int × Int) : (bsE p).length = 2 := rfl
theorem ptE_len (p : Int × Int) : (ptE p).length = 2 := rfl
theorem new_at {V : World} {o : Obj} {k : Nat} (h : k = V.heap.size) : (V.alloc o).heap[k]? = some o := by subst h; exact heap_alloc_new V o
theorem og_form {T : Nat} {enc : Int × Int → List Value} {w : World} {B : Nat} {v : Value} {s : List (Int × Int)} (h : OG T 2 enc w B v s) : ∃ a c, v = .slice a s.length c := by
  rcases h.2 with ⟨rfl, h0⟩ | ⟨g, cap, cur, rfl, _⟩
  · exact ⟨none, 0, by rw [h0]⟩
  · exact ⟨_, _, rfl⟩
theorem og_step {T : Nat} {enc : Int × Int → List Value} {w V w5 : World} {B : Nat} {v v5 : Value} {s : List (Int × Int)} {ob : Obj} (p : Int × Int) (h : Hid (OG T 2 enc V B v s ∧ Below B w V ∧ B ≤ V.heap.size)) (ho : w5.ownsRow B T 2 v5 (s.length + 1) (s.flatMap enc ++ enc p)) (hg : (V.alloc ob).grownBy w5 v.ownBlock) : Hid (OG T 2 enc w5 B v5 (s ++ [p]) ∧ Below B w w5 ∧ B ≤ w5.heap.size) := by
  have hs := h.out.2.2
  have hb : Below B w w5 := (h.out.2.1.alloc hs ob).grown hg (by simp; omega) (fun q hq => (World.ownsRow.lt h.out.1 q hq).1)
  refine ⟨?_, hb, ?_⟩
  · unfold OG
    rw [List.length_append, List.flatMap_append]
    simpa using ho
  · have := hg.size
    simp at this
    omega

end Go.Proofs.Ytpbkoigdfjajkaa
