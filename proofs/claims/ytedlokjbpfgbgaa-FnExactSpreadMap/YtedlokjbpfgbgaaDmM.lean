/- Proved here: the arithmetic of maps of doses. -/
import Derived.Test.YtedlokjbpfgbgaaShF
import Derived.Test.YtedlokjbpfgbgaaWtF
import Derived.Test.YtedlokjbpfgbgaaRwM
namespace Go.Proofs.Ytedlokjbpfgbgaa
open Go.RowKit
set_option linter.unusedVariables false
set_option linter.unusedSimpArgs false

def inB (b : Bx) (x y : Int) : Prop := b.x0 ≤ x ∧ x < b.x1 ∧ b.y0 ≤ y ∧ y < b.y1
instance (b : Bx) (x y : Int) : Decidable (inB b x y) := by unfold inB; infer_instance
/-- What the shots give to a cell. -/
def sumD (l : List Sh) (x y : Int) : Int := match l with
  | [] => 0
  | s :: t => (if inB s.b x y then s.d else 0) + sumD t x y
theorem sumD_append (s t : List Sh) (x y : Int) : sumD (s ++ t) x y = sumD s x y + sumD t x y := by
  induction s with
  | nil => simp [sumD]
  | cons a s ih => rw [List.cons_append, sumD, sumD, ih]; omega
theorem sumD_take {l : List Sh} {k : Nat} (h : k < l.length) (x y : Int) : sumD (l.take (k + 1)) x y = sumD (l.take k) x y + (if inB l[k].b x y then l[k].d else 0) := by
  rw [List.take_succ_eq_append_getElem h, sumD_append]
  simp [sumD]
theorem sumD_bound {l : List Sh} (h : ∀ x ∈ l, 0 ≤ x.d ∧ x.d ≤ 1000) (x y : Int) : 0 ≤ sumD l x y ∧ sumD l x y ≤ 1000 * l.length := by
  induction l with
  | nil => simp [sumD]
  | cons a l ih =>
    have h1 := h a (by simp)
    have h2 := ih fun c hc => h c (by simp [hc])
    simp only [sumD, List.length_cons]
    split <;> omega
theorem sumD_small {l : List Sh} (hl : l.length ≤ 40) (h : ∀ x ∈ l, 0 ≤ x.d ∧ x.d ≤ 1000) (k : Nat) (x y : Int) : 0 ≤ sumD (l.take k) x y ∧ sumD (l.take k) x y ≤ 40000 := by
  have h1 := sumD_bound (l := l.take k) (fun c hc => h c (List.mem_of_mem_take hc)) x y
  have h2 : (l.take k).length ≤ 40 := by rw [List.length_take]; omega
  omega
/-- A row, and a map, of numbers that are told place by place. -/
def rowG (G : Nat → Int) (n : Nat) : List Int := (List.range n).map G
def gridL (G : Nat → Nat → Int) (h n : Nat) : List (List Int) := (List.range h).map fun i => rowG (G i) n
theorem rowG_succ (G : Nat → Int) (n : Nat) : rowG G (n + 1) = rowG G n ++ [G n] := by unfold rowG; rw [List.range_succ, List.map_append]; rfl
theorem rowG_len (G : Nat → Int) (n : Nat) : (rowG G n).length = n := by simp [rowG]
theorem gridL_succ (G : Nat → Nat → Int) (h n : Nat) : gridL G (h + 1) n = gridL G h n ++ [rowG (G h) n] := by unfold gridL; rw [List.range_succ, List.map_append]; rfl
theorem gridL_len (G : Nat → Nat → Int) (h n : Nat) : (gridL G h n).length = h := by simp [gridL]
theorem gridL_at (G : Nat → Nat → Int) {h n i : Nat} (hi : i < h) : (gridL G h n).getD i [] = rowG (G i) n := by simp [gridL, hi]
theorem rowG_at (G : Nat → Int) {n j : Nat} (hj : j < n) : (rowG G n).getD j 0 = G j := by simp [rowG, hj]
def wdN (f : Bx) : Nat := (f.x1 - f.x0).toNat
def htN (f : Bx) : Nat := (f.y1 - f.y0).toNat
def mapG (l : List Sh) (f : Bx) : Nat → Nat → Int := fun i j => sumD l (f.x0 + (j : Int)) (f.y0 + (i : Int))
def mapV (l : List Sh) (f : Bx) : List (List Int) := gridL (mapG l f) (htN f) (wdN f)
def dmC (l : List Sh) (f : Bx) : Int := if shF l = 0 then frF f else shF l
def dmL (l : List Sh) (f : Bx) : List (List Int) := if dmC l f = 0 then mapV l f else []
theorem frF_box {f : Bx} (h : frF f = 0) : (f.x0 < f.x1 ∧ f.y0 < f.y1 ∧ -10000 ≤ f.x0 ∧ -10000 ≤ f.y0 ∧ f.x1 ≤ 10000 ∧ f.y1 ≤ 10000) ∧ f.x1 - f.x0 ≤ 24 ∧ f.y1 - f.y0 ≤ 24 := by
  have h1 := frF_good h
  exact ⟨bfK_good h1.1, h1.2⟩
theorem dmC_good {l : List Sh} {f : Bx} (h : dmC l f = 0) : shF l = 0 ∧ frF f = 0 := by
  unfold dmC at h
  by_cases h1 : shF l = 0
  · rw [if_pos h1] at h; exact ⟨h1, h⟩
  · rw [if_neg h1] at h; exact absurd h h1
theorem totG (G : Nat → Nat → Int) (h n : Nat) (hh : h ≤ 24) (hn : n ≤ 24) : (gridL G h n).length ≤ 24 ∧ ∀ i, ((gridL G h n).getD i []).length ≤ 24 := by
  refine ⟨by rw [gridL_len]; exact hh, fun i => ?_⟩
  by_cases hi : i < h
  · rw [gridL_at G hi, rowG_len]; exact hn
  · simp [gridL, hi]

end Go.Proofs.Ytedlokjbpfgbgaa
