/- LibFault's code, as a function of the list of cells. Arithmetic alone. -/
import Derived.Test.YtafghanpfnhkpaaDoorPlBase
import Derived.Test.YtafghanpfnhkpaaDoorStrL
import Derived.Test.YtafghanpfnhkpaaDoorNmFault
import Derived.Test.YtafghanpfnhkpaaDoorBoxF
namespace Go.Proofs.YtafghanpfnhkpaaDoor
open Go.RowKit
set_option linter.unusedVariables false

/-- How many of the first n cells bear the name. -/
def aheadN (s : List Cl) (n : Nat) (nm : ByteArray) : Nat := ((s.take n).filter fun c => decide (c.nm = nm)).length
theorem aheadN_zero (s : List Cl) (nm : ByteArray) : aheadN s 0 nm = 0 := by simp [aheadN]
theorem aheadN_succ {s : List Cl} {n : Nat} (h : n < s.length) (nm : ByteArray) : aheadN s (n + 1) nm = aheadN s n nm + if s[n].nm = nm then 1 else 0 := by
  unfold aheadN
  rw [← List.take_append_getElem h, List.filter_append, List.length_append]
  congr 1
  by_cases e : s[n].nm = nm <;> simp [e]
theorem aheadN_le (s : List Cl) (n : Nat) (nm : ByteArray) : aheadN s n nm ≤ n := by
  unfold aheadN
  refine Nat.le_trans (List.length_filter_le _ _) ?_
  rw [List.length_take]; omega
theorem aheadN_pos {s : List Cl} {n : Nat} {nm : ByteArray} : 0 < aheadN s n nm ↔ ∃ i, ∃ h : i < s.length, i < n ∧ s[i].nm = nm := by
  unfold aheadN
  rw [List.length_pos_iff_exists_mem]
  constructor
  · rintro ⟨c, hc⟩
    obtain ⟨h1, h2⟩ := List.mem_filter.1 hc
    obtain ⟨i, hi, rfl⟩ := List.getElem_of_mem h1
    rw [List.length_take] at hi
    refine ⟨i, by omega, by omega, ?_⟩
    simpa using h2
  · rintro ⟨i, hi, hn, e⟩
    refine ⟨s[i], List.mem_filter.2 ⟨?_, by simpa using e⟩⟩
    rw [List.mem_iff_getElem]
    exact ⟨i, by rw [List.length_take]; omega, by simp⟩

/-- A box on a layer. -/
def lbK (x : Lb) : Int := if x.l < 0 ∨ 15 < x.l then 1 else bfK x.b
/-- A place; ah: is its cell ahead? -/
def inN (n a b : Int) : Bool := decide (a ≤ n) && decide (n ≤ b)
def farN (n : Int) : Bool := decide (n < -10000) || decide (10000 < n)
def plK (ah : Bool) (p : Pl) : Int :=
  if ah = false then 4
  else if inN p.t 0 3 = true ∧ inN p.nx 1 20 = true ∧ inN p.ny 1 20 = true then (if farN p.x = true ∨ farN p.y = true ∨ farN p.dx = true ∨ farN p.dy = true then 3 else 0)
  else 1
/-- The first code that is not 0. -/
def firstOf {α : Type} (f : α → Int) : List α → Int
  | [] => 0
  | x :: t => if f x = 0 then firstOf f t else f x
theorem firstOf_hit {α : Type} {f : α → Int} {s : List α} {k : Nat} (h : k < s.length) (hK : firstOf f (s.drop k) = firstOf f s) (h0 : ¬ f s[k] = 0) : firstOf f s = f s[k] := by
  rw [← hK, List.drop_eq_getElem_cons h]; unfold firstOf; rw [if_neg h0]
theorem firstOf_miss {α : Type} {f : α → Int} {s : List α} {k : Nat} (h : k < s.length) (hK : firstOf f (s.drop k) = firstOf f s) (h0 : f s[k] = 0) : firstOf f (s.drop (k + 1)) = firstOf f s := by
  rw [← hK]
  conv => rhs; rw [List.drop_eq_getElem_cons h]
  unfold firstOf
  rw [if_pos h0]
  cases s.drop (k + 1) <;> rfl
theorem firstOf_end {α : Type} {f : α → Int} {s : List α} {k : Nat} (h : s.length ≤ k) (hK : firstOf f (s.drop k) = firstOf f s) : firstOf f s = 0 := by
  rw [← hK, List.drop_eq_nil_of_le h]; rfl
/-- A cell; ah: which names are ahead? -/
def clK (ah : ByteArray → Bool) (c : Cl) : Int :=
  if nameK c.nm = 0 then
    (if ah c.nm = true then 1
     else if 60 < c.bs.length ∨ 20 < c.ps.length then 2
     else if firstOf lbK c.bs = 0 then firstOf (fun p => plK (ah p.c) p) c.ps else firstOf lbK c.bs)
  else nameK c.nm
def ahB (s : List Cl) (n : Nat) (nm : ByteArray) : Bool := decide (0 < aheadN s n nm)
/-- A layout, cell by cell. -/
def libR (s : List Cl) (i : Nat) : Nat → Int
  | 0 => 0
  | n + 1 => if h : i < s.length then (if clK (ahB s i) s[i] = 0 then libR s (i + 1) n else clK (ahB s i) s[i]) else 0
def libK (s : List Cl) : Int := if 20 < s.length then 2 else libR s 0 s.length
theorem libR_hit {s : List Cl} {i n : Nat} (h : i < s.length) (hn : n = s.length - i) (h0 : ¬ clK (ahB s i) s[i] = 0) : libR s i n = clK (ahB s i) s[i] := by
  obtain ⟨m, rfl⟩ : ∃ m, n = m + 1 := ⟨n - 1, by omega⟩
  unfold libR
  rw [dif_pos h, if_neg h0]
theorem libR_miss {s : List Cl} {i n : Nat} (h : i < s.length) (hn : n = s.length - i) (h0 : clK (ahB s i) s[i] = 0) : libR s i n = libR s (i + 1) (s.length - (i + 1)) := by
  obtain ⟨m, rfl⟩ : ∃ m, n = m + 1 := ⟨n - 1, by omega⟩
  have e : s.length - (i + 1) = m := by omega
  rw [e]
  conv => lhs; unfold libR
  rw [dif_pos h, if_pos h0]
theorem libR_end {s : List Cl} {i : Nat} (h : s.length ≤ i) : libR s i (s.length - i) = 0 := by
  have e : s.length - i = 0 := by omega
  rw [e]; rfl

end Go.Proofs.YtafghanpfnhkpaaDoor
