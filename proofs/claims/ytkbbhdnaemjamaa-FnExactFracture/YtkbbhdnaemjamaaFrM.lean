/- Proved here: the arithmetic of pieces: how many there are, and which. -/
import Derived.Test.YtkbbhdnaemjamaaBoxBase
namespace Go.Proofs.Ytkbbhdnaemjamaa
set_option linter.unusedVariables false
set_option linter.unusedSimpArgs false

/-- How many pieces there are from lo to hi. -/
def cntP (lo hi m : Int) : Nat := ((hi - lo + m - 1) / m).toNat
theorem cntP_lt {lo hi m : Int} (hm : 1 ≤ m) (hl : lo < hi) (j : Nat) : lo + j * m < hi ↔ j < cntP lo hi m := by
  unfold cntP
  have h0 : 0 ≤ (hi - lo + m - 1) / m := Int.ediv_nonneg (by omega) (by omega)
  have h1 : (j : Int) + 1 ≤ (hi - lo + m - 1) / m ↔ ((j : Int) + 1) * m ≤ hi - lo + m - 1 := Int.le_ediv_iff_mul_le (by omega)
  rw [Int.add_mul, Int.one_mul] at h1
  constructor
  · intro h
    have := h1.2 (by omega)
    omega
  · intro h
    have := h1.1 (by omega)
    omega
theorem cntP_int {lo hi m : Int} (hm : 1 ≤ m) (hl : lo < hi) : ((cntP lo hi m : Nat) : Int) = (hi - lo + m - 1) / m := by
  unfold cntP
  have h0 : 0 ≤ (hi - lo + m - 1) / m := Int.ediv_nonneg (by omega) (by omega)
  omega
theorem cntP_tdiv {lo hi m : Int} (hm : 1 ≤ m) (hl : lo < hi) : (hi - lo + m - 1).tdiv m = ((cntP lo hi m : Nat) : Int) := by
  rw [cntP_int hm hl, Int.tdiv_eq_ediv_of_nonneg (by omega)]
theorem cntP_le {lo hi m : Int} (hm : 1 ≤ m) (hl : lo < hi) (hd : hi - lo ≤ 20000) : cntP lo hi m ≤ 20000 := by
  rcases Nat.lt_or_ge 20000 (cntP lo hi m) with h | h
  · have := (cntP_lt hm hl 20000).2 h
    have e : ((20000 : Nat) : Int) * 1 ≤ ((20000 : Nat) : Int) * m := Int.mul_le_mul_of_nonneg_left hm (by omega)
    omega
  · exact h
def minP (a b : Int) : Int := if a < b then a else b
/-- The first i pieces of a row. -/
def rowP (b : Bx) (m y : Int) (i : Nat) : List Bx := (List.range i).map fun k : Nat => ⟨b.x0 + k * m, y, minP (b.x0 + k * m + m) b.x1, minP (y + m) b.y1⟩
/-- The first j rows of a box. -/
def rowsP (b : Bx) (m : Int) (j : Nat) : List Bx := (List.range j).flatMap fun k : Nat => rowP b m (b.y0 + k * m) (cntP b.x0 b.x1 m)
def pcsP (b : Bx) (m : Int) : List Bx := rowsP b m (cntP b.y0 b.y1 m)
def pcsL (s : List Bx) (m : Int) : List Bx := s.flatMap fun b => pcsP b m
def frN (s : List Bx) (m : Int) : Nat := match s with
  | [] => 0
  | b :: t => cntP b.x0 b.x1 m * cntP b.y0 b.y1 m + frN t m
theorem rowP_succ (b : Bx) (m y : Int) (i : Nat) : rowP b m y (i + 1) = rowP b m y i ++ [⟨b.x0 + i * m, y, minP (b.x0 + i * m + m) b.x1, minP (y + m) b.y1⟩] := by
  unfold rowP; rw [List.range_succ, List.map_append]; rfl
theorem rowsP_succ (b : Bx) (m : Int) (j : Nat) : rowsP b m (j + 1) = rowsP b m j ++ rowP b m (b.y0 + j * m) (cntP b.x0 b.x1 m) := by
  unfold rowsP; rw [List.range_succ, List.flatMap_append]; simp
theorem rowP_len (b : Bx) (m y : Int) (i : Nat) : (rowP b m y i).length = i := by simp [rowP]
theorem rowsP_len (b : Bx) (m : Int) (j : Nat) : (rowsP b m j).length = j * cntP b.x0 b.x1 m := by
  induction j with
  | zero => simp [rowsP]
  | succ j ih => rw [rowsP_succ, List.length_append, ih, rowP_len, Nat.succ_mul]
theorem pcsP_len (b : Bx) (m : Int) : (pcsP b m).length = cntP b.x0 b.x1 m * cntP b.y0 b.y1 m := by rw [pcsP, rowsP_len, Nat.mul_comm]
theorem pcsL_len (s : List Bx) (m : Int) : (pcsL s m).length = frN s m := by
  induction s with
  | nil => rfl
  | cons b t ih =>
    unfold pcsL at ih ⊢
    rw [List.flatMap_cons, List.length_append, ih, pcsP_len, frN]
theorem frN_append (s t : List Bx) (m : Int) : frN (s ++ t) m = frN s m + frN t m := by
  induction s with
  | nil => simp [frN]
  | cons b s ih => rw [List.cons_append, frN, frN, ih, Nat.add_assoc]
theorem frN_take {s : List Bx} {k : Nat} (h : k < s.length) (m : Int) : frN (s.take (k + 1)) m = frN (s.take k) m + cntP (bat s k).x0 (bat s k).x1 m * cntP (bat s k).y0 (bat s k).y1 m := by
  rw [take_bat h, frN_append]; rfl
theorem pcsL_take {s : List Bx} {k : Nat} (h : k < s.length) (m : Int) : pcsL (s.take (k + 1)) m = pcsL (s.take k) m ++ pcsP (bat s k) m := by
  rw [take_bat h]; unfold pcsL; rw [List.flatMap_append]; simp
theorem frN_take_le (s : List Bx) (k : Nat) (m : Int) : frN (s.take k) m ≤ frN s m := by
  have h := frN_append (s.take k) (s.drop k) m
  rw [List.take_append_drop] at h
  omega
theorem cnt2 {a b : Nat} (ha : a ≤ 20000) (hb : b ≤ 20000) : a * b ≤ 400000000 := Nat.le_trans (Nat.mul_le_mul ha hb) (by decide)
def OkB (b : Bx) : Prop := b.x0 < b.x1 ∧ b.y0 < b.y1 ∧ -10000 ≤ b.x0 ∧ -10000 ≤ b.y0 ∧ b.x1 ≤ 10000 ∧ b.y1 ≤ 10000
theorem frN_le (s : List Bx) (m : Int) (hm : 1 ≤ m) (h : ∀ b ∈ s, OkB b) : frN s m ≤ s.length * 400000000 := by
  induction s with
  | nil => simp [frN]
  | cons b t ih =>
    have hb := h b (by simp)
    unfold OkB at hb
    have h1 := cnt2 (cntP_le (lo := b.x0) (hi := b.x1) hm hb.1 (by omega)) (cntP_le (lo := b.y0) (hi := b.y1) hm hb.2.1 (by omega))
    have h2 := ih fun c hc => h c (by simp [hc])
    rw [frN, List.length_cons, Nat.add_mul]
    omega
theorem rows_in {i j cx cy : Nat} (hj : j < cy) (hi : i ≤ cx) : j * cx + i ≤ cx * cy := by
  have h := Nat.mul_le_mul_right cx (show j + 1 ≤ cy by omega)
  rw [Nat.add_mul, Nat.one_mul, Nat.mul_comm cy cx] at h
  omega
theorem step_in {lo hi m : Int} (hm : 1 ≤ m) (hM : m ≤ 1000) (hl : lo < hi) {j : Nat} (hj : j ≤ cntP lo hi m) : lo + j * m ≤ hi + 1000 ∧ lo ≤ lo + j * m := by
  have h0 : 0 ≤ (j : Int) * m := Int.mul_nonneg (by omega) (by omega)
  refine ⟨?_, by omega⟩
  cases j with
  | zero => simp; omega
  | succ j =>
    have := (cntP_lt hm hl j).2 (by omega)
    have e : ((j + 1 : Nat) : Int) * m = j * m + m := by rw [Int.natCast_add, Int.add_mul]; simp
    omega
theorem step_next (lo m : Int) (j : Nat) : lo + ((j + 1 : Nat) : Int) * m = lo + j * m + m := by
  rw [Int.natCast_add, Int.add_mul]; simp; omega

end Go.Proofs.Ytkbbhdnaemjamaa
