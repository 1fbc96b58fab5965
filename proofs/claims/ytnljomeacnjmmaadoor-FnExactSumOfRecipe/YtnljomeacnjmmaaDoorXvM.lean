/- Proved here: what a value's text is; the small functions that ask whether a number lies within its bounds. -/
import Derived.Test.YtnljomeacnjmmaaDoorReZ
import Derived.Test.YtnljomeacnjmmaaDoorItoS
import Derived.Test.YtnljomeacnjmmaaDoorNmFault
import Derived.Test.YtnljomeacnjmmaaDoorStrL
namespace Go.Proofs.YtnljomeacnjmmaaDoor
open Go.ChangeShapes Go.WideShapes Go.ChangeAt Go.RowKit Go.Joins
set_option linter.unusedVariables false
set_option linter.unusedSimpArgs false

/-- The text of a value; empty: it is none. -/
def vtS (x : Vl) : ByteArray :=
  if x.k = 1 then (if x.s = ⟨#[]⟩ ∧ -1000000 ≤ x.n ∧ x.n ≤ 1000000 then itoaS x.n else ⟨#[]⟩)
  else if x.k = 2 then (if x.n = 0 ∧ nameK x.s = 0 then ⟨#[36]⟩ ++ x.s else ⟨#[]⟩) else ⟨#[]⟩
theorem vtS_num {n : Int} (h : -1000000 ≤ n ∧ n ≤ 1000000) : vtS ⟨1, n, ⟨#[]⟩⟩ = itoaS n := by
  unfold vtS; rw [if_pos rfl, if_pos ⟨rfl, h⟩]
theorem vtS_num_no {n : Int} {s : ByteArray} (h : ¬ (s = ⟨#[]⟩ ∧ -1000000 ≤ n ∧ n ≤ 1000000)) : vtS ⟨1, n, s⟩ = ⟨#[]⟩ := by
  unfold vtS; rw [if_pos rfl, if_neg h]
theorem vtS_par {s : ByteArray} (h : nameK s = 0) : vtS ⟨2, 0, s⟩ = ⟨#[36]⟩ ++ s := by
  unfold vtS; rw [if_neg (by simp), if_pos rfl, if_pos ⟨rfl, h⟩]
theorem vtS_par_no {n : Int} {s : ByteArray} (h : ¬ (n = 0 ∧ nameK s = 0)) : vtS ⟨2, n, s⟩ = ⟨#[]⟩ := by
  unfold vtS; rw [if_neg (by simp), if_pos rfl, if_neg h]
theorem vtS_none {k n : Int} {s : ByteArray} (h1 : ¬ k = 1) (h2 : ¬ k = 2) : vtS ⟨k, n, s⟩ = ⟨#[]⟩ := by
  unfold vtS; rw [if_neg h1, if_neg h2]
theorem nameK_01 (s : ByteArray) : nameK s = 0 ∨ nameK s = 1 := by unfold nameK; split <;> simp
theorem nameK_len {s : ByteArray} (h : nameK s = 0) : 1 ≤ s.size ∧ s.size ≤ 16 := by
  unfold nameK at h
  split at h
  · rename_i h'; exact ⟨h'.1, h'.2.1⟩
  · cases h

def outB (n : Int) : Bool := decide (n < -1000000) || decide (1000000 < n)
theorem outB_no {n : Int} (h : -1000000 ≤ n ∧ n ≤ 1000000) : outB n = false := by unfold outB; simp; omega
theorem outB_yes {n : Int} (h : ¬ (-1000000 ≤ n ∧ n ≤ 1000000)) : outB n = true := by unfold outB; simp; omega
def insB (n a b : Int) : Bool := decide (a ≤ n) && decide (n ≤ b)
theorem insB_yes {n a b : Int} (h : a ≤ n ∧ n ≤ b) : insB n a b = true := by unfold insB; simp; omega
theorem insB_no {n a b : Int} (h : ¬ (a ≤ n ∧ n ≤ b)) : insB n a b = false := by unfold insB; simp; omega
set_option maxHeartbeats 400000 in
theorem spec_out (n : Int) (w : World) : Calls Tryd.prog 46 #[.int .i64 n] w fun e w' => e = .returned (.bool (outB n)) ∧ w' = w := by
  go_enter Tryd.func46, Tryd.ntmps46
  by_cases h : n < -1000000
  · go_wp2
    go_returns
    exact ⟨by simp [outB, h], rfl⟩
  · go_wp2
    go_returns
    exact ⟨by simp [outB]; omega, rfl⟩
set_option maxHeartbeats 400000 in
theorem impl_ins (n a b : Int) (w : World) : Calls Tryd.prog 52 #[.int .i64 n, .int .i64 a, .int .i64 b] w fun e w' => e = .returned (.bool (insB n a b)) ∧ w' = w := by
  go_enter Tryd.func52, Tryd.ntmps52
  by_cases h : a ≤ n
  · go_wp2
    go_returns
    exact ⟨by simp [insB, h], rfl⟩
  · go_wp2
    go_returns
    exact ⟨by simp [insB]; omega, rfl⟩
end Go.Proofs.YtnljomeacnjmmaaDoor
