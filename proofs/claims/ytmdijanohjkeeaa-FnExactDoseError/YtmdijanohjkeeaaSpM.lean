/- Proved here: what is scattered: sums over all that is near, told in two ways. No condition on the program. (And ahead of it: Proved here: the arithmetic of maps of doses.) -/
import Derived.Test.YtmdijanohjkeeaaWtB
import Derived.Test.YtmdijanohjkeeaaWtF
import Derived.Test.YtmdijanohjkeeaaRwM
namespace Go.Proofs.Ytmdijanohjkeeaa
open Go.RowKit
set_option linter.unusedVariables false
set_option linter.unusedSimpArgs false

def inB (b : Bx) (x y : Int) : Prop := b.x0 ≤ x ∧ x < b.x1 ∧ b.y0 ≤ y ∧ y < b.y1
instance (b : Bx) (x y : Int) : Decidable (inB b x y) := by unfold inB; infer_instance
/-- What the shots give to a cell. -/
def sumD (l : List Sh) (x y : Int) : Int := match l with
  | [] => 0
  | s :: t => (if inB s.b x y then s.d else 0) + sumD t x y
theorem sumD_append (s t : List Sh) (x y : Int) : sumD (s ++ t) x y = sumD s x y + sumD t x y := by
  induction s with
  | nil => simp [sumD]
  | cons a s ih => rw [List.cons_append, sumD, sumD, ih]; omega
theorem sumD_take {l : List Sh} {k : Nat} (h : k < l.length) (x y : Int) : sumD (l.take (k + 1)) x y = sumD (l.take k) x y + (if inB l[k].b x y then l[k].d else 0) := by
  rw [List.take_succ_eq_append_getElem h, sumD_append]
  simp [sumD]
theorem sumD_bound {l : List Sh} (h : ∀ x ∈ l, 0 ≤ x.d ∧ x.d ≤ 1000) (x y : Int) : 0 ≤ sumD l x y ∧ sumD l x y ≤ 1000 * l.length := by
  induction l with
  | nil => simp [sumD]
  | cons a l ih =>
    have h1 := h a (by simp)
    have h2 := ih fun c hc => h c (by simp [hc])
    simp only [sumD, List.length_cons]
    split <;> omega
theorem sumD_small {l : List Sh} (hl : l.length ≤ 40) (h : ∀ x ∈ l, 0 ≤ x.d ∧ x.d ≤ 1000) (k : Nat) (x y : Int) : 0 ≤ sumD (l.take k) x y ∧ sumD (l.take k) x y ≤ 40000 := by
  have h1 := sumD_bound (l := l.take k) (fun c hc => h c (List.mem_of_mem_take hc)) x y
  have h2 : (l.take k).length ≤ 40 := by rw [List.length_take]; omega
  omega
/-- A row, and a map, of numbers that are told place by place. -/
def rowG (G : Nat → Int) (n : Nat) : List Int := (List.range n).map G
def gridL (G : Nat → Nat → Int) (h n : Nat) : List (List Int) := (List.range h).map fun i => rowG (G i) n
theorem rowG_succ (G : Nat → Int) (n : Nat) : rowG G (n + 1) = rowG G n ++ [G n] := by unfold rowG; rw [List.range_succ, List.map_append]; rfl
theorem rowG_len (G : Nat → Int) (n : Nat) : (rowG G n).length = n := by simp [rowG]
theorem gridL_succ (G : Nat → Nat → Int) (h n : Nat) : gridL G (h + 1) n = gridL G h n ++ [rowG (G h) n] := by unfold gridL; rw [List.range_succ, List.map_append]; rfl
theorem gridL_len (G : Nat → Nat → Int) (h n : Nat) : (gridL G h n).length = h := by simp [gridL]
theorem gridL_at (G : Nat → Nat → Int) {h n i : Nat} (hi : i < h) : (gridL G h n).getD i [] = rowG (G i) n := by simp [gridL, hi]
theorem rowG_at (G : Nat → Int) {n j : Nat} (hj : j < n) : (rowG G n).getD j 0 = G j := by simp [rowG, hj]
def wdN (f : Bx) : Nat := (f.x1 - f.x0).toNat
def htN (f : Bx) : Nat := (f.y1 - f.y0).toNat
def mapG (l : List Sh) (f : Bx) : Nat → Nat → Int := fun i j => sumD l (f.x0 + (j : Int)) (f.y0 + (i : Int))
def mapV (l : List Sh) (f : Bx) : List (List Int) := gridL (mapG l f) (htN f) (wdN f)
def dmC (l : List Sh) (f : Bx) : Int := if shF l = 0 then frF f else shF l
def dmL (l : List Sh) (f : Bx) : List (List Int) := if dmC l f = 0 then mapV l f else []
theorem frF_box {f : Bx} (h : frF f = 0) : (f.x0 < f.x1 ∧ f.y0 < f.y1 ∧ -10000 ≤ f.x0 ∧ -10000 ≤ f.y0 ∧ f.x1 ≤ 10000 ∧ f.y1 ≤ 10000) ∧ f.x1 - f.x0 ≤ 24 ∧ f.y1 - f.y0 ≤ 24 := by
  have h1 := frF_good h
  exact ⟨bfK_good h1.1, h1.2⟩
theorem dmC_good {l : List Sh} {f : Bx} (h : dmC l f = 0) : shF l = 0 ∧ frF f = 0 := by
  unfold dmC at h
  by_cases h1 : shF l = 0
  · rw [if_pos h1] at h; exact ⟨h1, h⟩
  · rw [if_neg h1] at h; exact absurd h h1
theorem totG (G : Nat → Nat → Int) (h n : Nat) (hh : h ≤ 24) (hn : n ≤ 24) : (gridL G h n).length ≤ 24 ∧ ∀ i, ((gridL G h n).getD i []).length ≤ 24 := by
  refine ⟨by rw [gridL_len]; exact hh, fun i => ?_⟩
  by_cases hi : i < h
  · rw [gridL_at G hi, rowG_len]; exact hn
  · simp [gridL, hi]

end Go.Proofs.Ytmdijanohjkeeaa

namespace Go.Proofs.Ytmdijanohjkeeaa
set_option linter.unusedVariables false
set_option linter.unusedSimpArgs false

/-- A sum of the first k. -/
def sgm (p : Nat → Int) : Nat → Int
  | 0 => 0
  | k + 1 => sgm p k + p k
theorem sgm_congr {p q : Nat → Int} : ∀ {k : Nat}, (∀ m, m < k → p m = q m) → sgm p k = sgm q k
  | 0, _ => rfl
  | k + 1, h => by rw [sgm, sgm, sgm_congr (fun m hm => h m (by omega)), h k (by omega)]
theorem sgm_mul (c : Int) (p : Nat → Int) : ∀ k, sgm (fun i => c * p i) k = c * sgm p k
  | 0 => by simp [sgm]
  | k + 1 => by rw [sgm, sgm, sgm_mul c p k, Int.mul_add]
theorem sgm_bd {p : Nat → Int} {c : Int} (h : ∀ m, 0 ≤ p m ∧ p m ≤ c) : ∀ k : Nat, 0 ≤ sgm p k ∧ sgm p k ≤ k * c
  | 0 => by simp [sgm]
  | k + 1 => by
    have := sgm_bd h k; have := h k
    have e : ((k + 1 : Nat) : Int) * c = k * c + c := by rw [Int.natCast_add, Int.add_mul]; simp
    rw [sgm, e]; omega
/-- Where what is near begins and ends. -/
def loN (r x : Nat) : Nat := x - r
def hiN (W r x : Nat) : Nat := if x + r + 1 ≤ W then x + r + 1 else W
theorem lohi {W r x : Nat} (h : x < W) : loN r x ≤ x ∧ x < hiN W r x ∧ hiN W r x ≤ W ∧ loN r x ≤ hiN W r x := by
  unfold loN hiN; split <;> omega
/-- A sum over what is near. -/
def nrS (g : Nat → Int) (W r x : Nat) : Int := sgm (fun i => g (loN r x + i)) (hiN W r x - loN r x)
/-- .. place by place, those that are not there left out: k of them. -/
def nrK (g : Nat → Int) (W r x : Nat) : Nat → Int
  | 0 => 0
  | k + 1 => nrK g W r x k + if r ≤ x + k ∧ x + k < W + r then g (x + k - r) else 0
theorem nrK_step (g : Nat → Int) {W r x : Nat} (hx : x < W) : ∀ k, nrK g W r x k = sgm (fun i => g (loN r x + i)) ((if x + k ≤ r then loN r x else if x + k - r ≤ W then x + k - r else W) - loN r x)
  | 0 => by
    rw [nrK]
    have : (if x + 0 ≤ r then loN r x else if x + 0 - r ≤ W then x + 0 - r else W) - loN r x = 0 := by
      unfold loN; split
      · omega
      · split <;> omega
    rw [this, sgm]
  | k + 1 => by
    rw [nrK, nrK_step g hx k]
    by_cases h1 : x + k < r
    · rw [if_pos (by omega), if_neg (by omega), if_pos (by omega), Int.add_zero]
    · by_cases h2 : x + k - r < W
      · rw [if_pos (show r ≤ x + k ∧ x + k < W + r by omega)]
        have e1 : (if x + k ≤ r then loN r x else if x + k - r ≤ W then x + k - r else W) - loN r x = x + k - r - loN r x := by
          unfold loN; split
          · omega
          · split <;> omega
        have e2 : (if x + (k + 1) ≤ r then loN r x else if x + (k + 1) - r ≤ W then x + (k + 1) - r else W) - loN r x = (x + k - r - loN r x) + 1 := by
          unfold loN
          rw [if_neg (by omega), if_pos (by omega)]
          omega
        rw [e1, e2, sgm]
        have e3 : loN r x + (x + k - r - loN r x) = x + k - r := by unfold loN; omega
        rw [e3]
      · rw [if_neg (show ¬ (r ≤ x + k ∧ x + k < W + r) by omega), Int.add_zero]
        have e1 : (if x + k ≤ r then loN r x else if x + k - r ≤ W then x + k - r else W) = W := by
          rw [if_neg (by omega)]; split <;> omega
        have e2 : (if x + (k + 1) ≤ r then loN r x else if x + (k + 1) - r ≤ W then x + (k + 1) - r else W) = W := by
          rw [if_neg (by omega)]; split <;> omega
        rw [e1, e2]
theorem nrK_all (g : Nat → Int) {W r x : Nat} (hx : x < W) : nrK g W r x (2 * r + 1) = nrS g W r x := by
  rw [nrK_step g hx]
  unfold nrS
  congr 2
  unfold loN hiN
  split
  · split <;> omega
  · split
    · rw [if_pos (by omega)]; omega
    · rw [if_neg (by omega)]
/-- What is scattered to a place. -/
def spV (G : Nat → Nat → Int) (H W r : Nat) (own share : Int) (y x : Nat) : Int := own * G y x + share * nrS (fun v => nrS (G v) W r x) H r y
/-- .. as the model adds it up: of row after row, place after place. -/
def rwK (G : Nat → Nat → Int) (H W r : Nat) (share : Int) (y x i : Nat) : Nat → Int
  | 0 => 0
  | k + 1 => rwK G H W r share y x i k + if (r ≤ y + i ∧ y + i < H + r) ∧ (r ≤ x + k ∧ x + k < W + r) then share * G (y + i - r) (x + k - r) else 0
def alK (G : Nat → Nat → Int) (H W r : Nat) (share : Int) (y x : Nat) : Nat → Int
  | 0 => 0
  | i + 1 => alK G H W r share y x i + rwK G H W r share y x i (2 * r + 1)
theorem rwK_in (G : Nat → Nat → Int) {H W r : Nat} (share : Int) {y x i : Nat} (h : r ≤ y + i ∧ y + i < H + r) : ∀ k, rwK G H W r share y x i k = share * nrK (G (y + i - r)) W r x k
  | 0 => by simp [rwK, nrK]
  | k + 1 => by
    rw [rwK, rwK_in G share h k, nrK, Int.mul_add]
    by_cases h2 : r ≤ x + k ∧ x + k < W + r
    · rw [if_pos ⟨h, h2⟩, if_pos h2]
    · rw [if_neg (fun e => h2 e.2), if_neg h2]; simp
theorem rwK_out (G : Nat → Nat → Int) {H W r : Nat} (share : Int) {y x i : Nat} (h : ¬ (r ≤ y + i ∧ y + i < H + r)) : ∀ k, rwK G H W r share y x i k = 0
  | 0 => rfl
  | k + 1 => by rw [rwK, rwK_out G share h k, if_neg (fun e => h e.1)]; rfl
theorem alK_is (G : Nat → Nat → Int) {H W r : Nat} (share : Int) {y x : Nat} (hx : x < W) : ∀ i, alK G H W r share y x i = share * nrK (fun v => nrS (G v) W r x) H r y i
  | 0 => by simp [alK, nrK]
  | i + 1 => by
    rw [alK, alK_is G share hx i, nrK, Int.mul_add]
    by_cases h : r ≤ y + i ∧ y + i < H + r
    · rw [if_pos h, rwK_in G share h, nrK_all _ hx]
    · rw [if_neg h, rwK_out G share h]; simp
theorem alK_all (G : Nat → Nat → Int) {H W r : Nat} (own share : Int) {y x : Nat} (hy : y < H) (hx : x < W) : own * G y x + alK G H W r share y x (2 * r + 1) = spV G H W r own share y x := by
  unfold spV
  rw [alK_is G share hx, nrK_all _ hy]
theorem nrS_bd {g : Nat → Int} {c : Int} (h : ∀ m, 0 ≤ g m ∧ g m ≤ c) {W r x : Nat} (hx : x < W) (hc : 0 ≤ c) : 0 ≤ nrS g W r x ∧ nrS g W r x ≤ W * c := by
  unfold nrS
  have := sgm_bd (p := fun i => g (loN r x + i)) (fun i => h _) (hiN W r x - loN r x)
  refine ⟨this.1, Int.le_trans this.2 ?_⟩
  have h2 := lohi (r := r) hx
  exact Int.mul_le_mul_of_nonneg_right (by omega) hc

end Go.Proofs.Ytmdijanohjkeeaa
