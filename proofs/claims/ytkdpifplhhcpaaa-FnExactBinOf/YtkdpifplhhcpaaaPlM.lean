/- Proved here: what BinOf answers. Arithmetic alone. -/
import Derived.Test.YtkdpifplhhcpaaaPlC
import Derived.Test.YtkdpifplhhcpaaaPbM
namespace Go.Proofs.Ytkdpifplhhcpaaa
open Go.RowKit
set_option linter.unusedVariables false
set_option linter.unusedSimpArgs false

def liW (l : Li) : Bool := decide (l.hi < l.lo) || oo 2 99 l.bi
def biF : List Int → List Li → Int
  | x :: xs, l :: ls => if l.lo ≤ x ∧ x ≤ l.hi then biF xs ls else l.bi
  | _, _ => 1
def biC (m : List Int) (s : List Li) : Int := if 40 < m.length then 2 else if s.length ≠ m.length then 1 else if s.any liW = true then 1 else 0
def biV (m : List Int) (s : List Li) : Int := if biC m s = 0 then biF m s else 0
theorem biF_step {m : List Int} {s : List Li} {k : Nat} (h : k < m.length) (h' : k < s.length) : biF (m.drop k) (s.drop k) = if s[k].lo ≤ m.getD k 0 ∧ m.getD k 0 ≤ s[k].hi then biF (m.drop (k + 1)) (s.drop (k + 1)) else s[k].bi := by
  rw [getD_at h, List.drop_eq_getElem_cons h, List.drop_eq_getElem_cons h', biF]
theorem biF_end {m : List Int} {s : List Li} {k : Nat} (h : m.length ≤ k) : biF (m.drop k) (s.drop k) = 1 := by
  rw [List.drop_eq_nil_of_le h, biF]; intros; contradiction
theorem biC_many {m : List Int} {s : List Li} (h : 40 < m.length) : biC m s = 2 ∧ biV m s = 0 := by
  have : biC m s = 2 := by rw [biC, if_pos h]
  exact ⟨this, by rw [biV, this, if_neg (by decide)]⟩
theorem biC_len {m : List Int} {s : List Li} (h : ¬ 40 < m.length) (h1 : s.length ≠ m.length) : biC m s = 1 ∧ biV m s = 0 := by
  have : biC m s = 1 := by rw [biC, if_neg h, if_pos h1]
  exact ⟨this, by rw [biV, this, if_neg (by decide)]⟩
theorem biC_bad {m : List Int} {s : List Li} (h : ¬ 40 < m.length) (h1 : s.length = m.length) (h2 : s.any liW = true) : biC m s = 1 ∧ biV m s = 0 := by
  have : biC m s = 1 := by rw [biC, if_neg h, if_neg (by simpa using h1), if_pos h2]
  exact ⟨this, by rw [biV, this, if_neg (by decide)]⟩
theorem biC_ok {m : List Int} {s : List Li} (h : ¬ 40 < m.length) (h1 : s.length = m.length) (h2 : s.any liW = false) : biC m s = 0 ∧ biV m s = biF m s := by
  have : biC m s = 0 := by rw [biC, if_neg h, if_neg (by simpa using h1), h2, if_neg (by decide)]
  exact ⟨this, by rw [biV, this, if_pos rfl]⟩
theorem li_cells {w : World} {k : Nat} {j : Li} (h : w.heap[k]? = some (.cells #[.int .i64 j.lo, .int .i64 j.hi, .int .i64 j.bi] 62)) : w.cell? ⟨k, 0, none⟩ = some (.int .i64 j.lo) ∧ w.cell? ⟨k, 1, none⟩ = some (.int .i64 j.hi) ∧ w.cell? ⟨k, 2, none⟩ = some (.int .i64 j.bi) ∧ k < w.heap.size := by
  refine ⟨by simp [World.cell?, h], by simp [World.cell?, h], by simp [World.cell?, h], ?_⟩
  rcases Nat.lt_or_ge k w.heap.size with h1 | h1
  · exact h1
  · rw [Array.getElem?_eq_none h1] at h; cases h

end Go.Proofs.Ytkdpifplhhcpaaa
