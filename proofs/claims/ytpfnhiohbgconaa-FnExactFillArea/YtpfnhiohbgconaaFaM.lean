/- Proved here: the arithmetic of fills: how many squares there are, and which stay. -/
import Derived.Test.YtpfnhiohbgconaaMtI
import Derived.Test.YtpfnhiohbgconaaTold
namespace Go.Proofs.Ytpfnhiohbgconaa
set_option linter.unusedVariables false
set_option linter.unusedSimpArgs false

/-- How many squares there is room for. -/
def roomN (len z p : Int) : Nat := if len < z then 0 else ((len - z) / p + 1).toNat
theorem roomN_lt {len z p : Int} (hp : 1 ≤ p) (j : Nat) : j * p + z ≤ len ↔ j < roomN len z p := by
  unfold roomN
  have h0j : 0 ≤ (j : Int) * p := Int.mul_nonneg (by omega) (by omega)
  split
  · constructor
    · intro h; omega
    · intro h; omega
  · have h0 : 0 ≤ (len - z) / p := Int.ediv_nonneg (by omega) (by omega)
    have h1 : (j : Int) ≤ (len - z) / p ↔ (j : Int) * p ≤ len - z := Int.le_ediv_iff_mul_le (by omega)
    constructor
    · intro h
      have := h1.2 (by omega)
      omega
    · intro h
      have := h1.1 (by omega)
      omega
theorem roomN_int {len z p : Int} (hp : 1 ≤ p) (h : ¬ len < z) : (len - z).tdiv p + 1 = ((roomN len z p : Nat) : Int) := by
  unfold roomN
  rw [if_neg h, Int.tdiv_eq_ediv_of_nonneg (by omega)]
  have h0 : 0 ≤ (len - z) / p := Int.ediv_nonneg (by omega) (by omega)
  omega
theorem roomN_le {len z p : Int} (hp : 1 ≤ p) (hz : 1 ≤ z) (hd : len ≤ 20000) : roomN len z p ≤ 20000 := by
  rcases Nat.lt_or_ge 20000 (roomN len z p) with h | h
  · have := (roomN_lt hp 20000).2 h
    have e : ((20000 : Nat) : Int) * 1 ≤ ((20000 : Nat) : Int) * p := Int.mul_le_mul_of_nonneg_left hp (by omega)
    omega
  · exact h
/-- The first i squares of a row. -/
def sqR (a : Bx) (z p y : Int) (i : Nat) : List Bx := (List.range i).map fun k : Nat => ⟨a.x0 + k * p, y, a.x0 + k * p + z, y + z⟩
/-- The first j rows. -/
def sqS (a : Bx) (z p : Int) (j : Nat) : List Bx := (List.range j).flatMap fun k : Nat => sqR a z p (a.y0 + k * p) (roomN (a.x1 - a.x0) z p)
def sqL (a : Bx) (z p : Int) : List Bx := sqS a z p (roomN (a.y1 - a.y0) z p)
theorem sqR_succ (a : Bx) (z p y : Int) (i : Nat) : sqR a z p y (i + 1) = sqR a z p y i ++ [⟨a.x0 + i * p, y, a.x0 + i * p + z, y + z⟩] := by
  unfold sqR; rw [List.range_succ, List.map_append]; rfl
theorem sqS_succ (a : Bx) (z p : Int) (j : Nat) : sqS a z p (j + 1) = sqS a z p j ++ sqR a z p (a.y0 + j * p) (roomN (a.x1 - a.x0) z p) := by
  unfold sqS; rw [List.range_succ, List.flatMap_append]; simp
theorem sqR_len (a : Bx) (z p y : Int) (i : Nat) : (sqR a z p y i).length = i := by simp [sqR]
theorem sqS_len (a : Bx) (z p : Int) (j : Nat) : (sqS a z p j).length = j * roomN (a.x1 - a.x0) z p := by
  induction j with
  | zero => simp [sqS]
  | succ j ih => rw [sqS_succ, List.length_append, ih, sqR_len, Nat.succ_mul]
theorem sqL_len (a : Bx) (z p : Int) : (sqL a z p).length = roomN (a.x1 - a.x0) z p * roomN (a.y1 - a.y0) z p := by rw [sqL, sqS_len, Nat.mul_comm]
def grwB (d : Int) (b : Bx) : Bx := ⟨b.x0 - d, b.y0 - d, b.x1 + d, b.y1 + d⟩
/-- Those from which nothing that is kept is near. -/
def flP (keep : List Bx) (d : Int) (b : Bx) : Bool := !(meetL (grwB d b) keep)
def flL (a : Bx) (keep : List Bx) (z p d : Int) : List Bx := (sqL a z p).filter (flP keep d)
theorem sq_mem {a : Bx} {z p : Int} {j : Nat} {b : Bx} (h : b ∈ sqS a z p j) : ∃ k i : Nat, k < j ∧ i < roomN (a.x1 - a.x0) z p ∧ b = ⟨a.x0 + i * p, a.y0 + k * p, a.x0 + i * p + z, a.y0 + k * p + z⟩ := by
  unfold sqS at h
  obtain ⟨k, hk, hb⟩ := List.mem_flatMap.1 h
  unfold sqR at hb
  obtain ⟨i, hi, rfl⟩ := List.mem_map.1 hb
  exact ⟨k, i, List.mem_range.1 hk, List.mem_range.1 hi, rfl⟩
def OkA (b : Bx) : Prop := b.x0 < b.x1 ∧ b.y0 < b.y1 ∧ -10000 ≤ b.x0 ∧ -10000 ≤ b.y0 ∧ b.x1 ≤ 10000 ∧ b.y1 ≤ 10000
theorem bfK_okA {b : Bx} (h : bfK b = 0) : OkA b := by
  unfold bfK at h
  unfold OkA
  split at h
  · cases h
  · split at h
    · cases h
    · omega
/-- The squares lie within the area. -/
theorem sqL_in {a : Bx} {z p : Int} (ha : OkA a) (hz : 1 ≤ z) (hp : 1 ≤ p) {b : Bx} (h : b ∈ sqL a z p) : b.x0 < b.x1 ∧ b.y0 < b.y1 ∧ a.x0 ≤ b.x0 ∧ a.y0 ≤ b.y0 ∧ b.x1 ≤ a.x1 ∧ b.y1 ≤ a.y1 := by
  obtain ⟨k, i, hk, hi, rfl⟩ := sq_mem h
  have h1 := (roomN_lt (len := a.x1 - a.x0) (z := z) hp i).2 hi
  have h2 := (roomN_lt (len := a.y1 - a.y0) (z := z) hp k).2 hk
  have g1 : 0 ≤ (i : Int) * p := Int.mul_nonneg (by omega) (by omega)
  have g2 : 0 ≤ (k : Int) * p := Int.mul_nonneg (by omega) (by omega)
  simp only
  omega
def faIn (z p d : Int) : Prop := (1 ≤ z ∧ z ≤ 1000) ∧ (z ≤ p ∧ p ≤ 1000) ∧ (0 ≤ d ∧ d ≤ 1000)
instance (z p d : Int) : Decidable (faIn z p d) := by unfold faIn; infer_instance
def faN (a : Bx) (z p : Int) : Nat := roomN (a.x1 - a.x0) z p * roomN (a.y1 - a.y0) z p
def faC (a : Bx) (keep : List Bx) (z p d : Int) : Int :=
  if bfK a = 0 then (if shapeK keep = 0 then (if faIn z p d then (if 150 < faN a z p then 2 else toldC (opOf (takesK 1) (flL a keep z p d) []).length) else 3) else shapeK keep) else bfK a
def faL (a : Bx) (keep : List Bx) (z p d : Int) : List Bx :=
  if bfK a = 0 ∧ shapeK keep = 0 ∧ faIn z p d ∧ ¬ 150 < faN a z p then toldL (opOf (takesK 1) (flL a keep z p d) []) else []
theorem faL_length (a : Bx) (keep : List Bx) (z p d : Int) : (faL a keep z p d).length ≤ 150 := by
  unfold faL
  split
  · unfold toldL; split
    · assumption
    · simp
  · simp
theorem faK_zero {s : List Bx} (h : shapeK s = 0) : boxesK s = 0 := by
  unfold shapeK at h
  split at h
  · assumption
  · assumption
theorem flL_len (a : Bx) (keep : List Bx) (z p d : Int) : (flL a keep z p d).length ≤ faN a z p := by
  unfold flL faN
  rw [← sqL_len]
  exact List.length_filter_le _ _
theorem cntA {a b : Nat} (ha : a ≤ 20000) (hb : b ≤ 20000) : a * b ≤ 400000000 := Nat.le_trans (Nat.mul_le_mul ha hb) (by decide)
theorem rowsA {i j cx cy : Nat} (hj : j < cy) (hi : i ≤ cx) : j * cx + i ≤ cx * cy := by
  have h := Nat.mul_le_mul_right cx (show j + 1 ≤ cy by omega)
  rw [Nat.add_mul, Nat.one_mul, Nat.mul_comm cy cx] at h
  omega
theorem nextA (lo p : Int) (j : Nat) : lo + ((j + 1 : Nat) : Int) * p = lo + j * p + p := by
  rw [Int.natCast_add, Int.add_mul]; simp; omega
theorem stepA {lo len z p : Int} (hp : 1 ≤ p) (hP : p ≤ 1000) (hz : 1 ≤ z) (hl : 0 < len) {j : Nat} (hj : j ≤ roomN len z p) : lo + j * p ≤ lo + len + 1000 ∧ lo ≤ lo + j * p := by
  have h0 : 0 ≤ (j : Int) * p := Int.mul_nonneg (by omega) (by omega)
  refine ⟨?_, by omega⟩
  cases j with
  | zero => simp; omega
  | succ j =>
    have := (roomN_lt (len := len) (z := z) hp j).2 (by omega)
    have e : ((j + 1 : Nat) : Int) * p = j * p + p := by rw [Int.natCast_add, Int.add_mul]; simp
    omega

end Go.Proofs.Ytpfnhiohbgconaa
