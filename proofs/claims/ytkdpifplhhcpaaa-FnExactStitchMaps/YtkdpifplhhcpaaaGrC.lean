/- Proved here: lists of lists of numbers: how they are read. No condition on the program. -/
import Derived.Test.YtkdpifplhhcpaaaRwM
import Derived.LoopTactic
import Derived.OpenShut
import Derived.Lib.SmallJoins
namespace Go.Proofs.Ytkdpifplhhcpaaa
open Go.ChangeShapes Go.WideShapes Go.ChangeAt Go.RowKit Go.Joins Go.Deep
set_option linter.unusedVariables false
set_option linter.unusedSimpArgs false

/-- A slice that can be read as a list of lists of numbers. -/
def RdR (w : World) (v : Value) (ls : List (List Int)) : Prop :=
  ∃ a c, v = .slice a ls.length c ∧ (0 < ls.length → ∃ g o, a = some ⟨g, o, none⟩ ∧ g < w.heap.size ∧ ∀ j, j < ls.length → ∃ u, w.cell? ⟨g, o + j, none⟩ = some u ∧ RdI w u (ls.getD j []))
theorem RdR.form {w : World} {v : Value} {ls : List (List Int)} (h : RdR w v ls) : ∃ a c, v = .slice a ls.length c := by
  obtain ⟨a, c, rfl, _⟩ := h; exact ⟨a, c, rfl⟩
theorem RdR.len {w : World} {a : Option Addr} {n c : Nat} {ls : List (List Int)} (h : RdR w (.slice a n c) ls) : n = ls.length := by
  obtain ⟨_, _, e⟩ := h.form; injection e
theorem RdR.below {w w' : World} {v : Value} {ls : List (List Int)} (h : RdR w v ls) (hb : Below w.heap.size w w') : RdR w' v ls := by
  obtain ⟨a, c, rfl, h⟩ := h
  refine ⟨a, c, rfl, fun hn => ?_⟩
  obtain ⟨g, o, rfl, hg, hj⟩ := h hn
  refine ⟨g, o, rfl, Nat.lt_of_lt_of_le hg hb.size, fun j hl => ?_⟩
  obtain ⟨u, h1, h2⟩ := hj j hl
  exact ⟨u, (hb.cell (p := ⟨g, o + j, none⟩) hg).trans h1, h2.below hb⟩
theorem RdR.at {w : World} {a : Option Addr} {n c : Nat} {ls : List (List Int)} (h : RdR w (.slice a n c) ls) {j : Nat} (hj : j < n) :
    ∃ g o ua un uc, a = some ⟨g, o, none⟩ ∧ g < w.heap.size ∧ w.cell? ⟨g, o + j, none⟩ = some (.slice ua un uc) ∧ un = (ls.getD j []).length ∧ RdI w (.slice ua un uc) (ls.getD j []) := by
  have hn := h.len
  obtain ⟨a', c', e, h⟩ := h
  injection e with e1 e2 e3
  subst e1
  obtain ⟨g, o, rfl, hg, hx⟩ := h (by omega)
  obtain ⟨u, h1, h2⟩ := hx j (by omega)
  obtain ⟨ua, uc, rfl⟩ := h2.form
  exact ⟨g, o, ua, _, uc, rfl, hg, h1, rfl, h2⟩
theorem RI.rd {w : World} {B : Nat} {v : Value} {ls : List (List Int)} {vs : List Value} (h : RI w B v ls vs) : RdR w v ls := by
  obtain ⟨a, c, rfl⟩ := h.form
  refine ⟨a, c, rfl, fun hp => ?_⟩
  obtain ⟨g, cap, e, hB, hg, hx⟩ := h.pos hp
  injection e with e1 e2 e3
  subst e1
  exact ⟨g, 0, rfl, hg, fun j hj => ⟨_, by rw [Nat.zero_add]; exact hx j hj, (h.bx j hj).rg⟩⟩

/-- How many numbers the first i rows have. -/
def totR (ls : List (List Int)) : Nat → Nat
  | 0 => 0
  | i + 1 => totR ls i + (ls.getD i []).length
theorem totR_mono (ls : List (List Int)) {i j : Nat} (h : i ≤ j) : totR ls i ≤ totR ls j := by
  induction j with
  | zero => rw [show i = 0 by omega]; exact Nat.le_refl _
  | succ j ih =>
    rcases Nat.lt_or_ge i (j + 1) with h1 | h1
    · have := ih (by omega); rw [totR]; omega
    · rw [show i = j + 1 by omega]; exact Nat.le_refl _
theorem totR_each (ls : List (List Int)) {i : Nat} (h : i < ls.length) : (ls.getD i []).length ≤ totR ls ls.length := by
  have := totR_mono ls (show i + 1 ≤ ls.length from h)
  rw [totR] at this
  omega
/-- Not too many rows and numbers in all. -/
structure SmR (ls : List (List Int)) : Prop where
  len : ls.length ≤ 1048576
  tot : totR ls ls.length ≤ 1048576
theorem SmR.row {ls : List (List Int)} (h : SmR ls) (i : Nat) : (ls.getD i []).length ≤ 1048576 := by
  by_cases hi : i < ls.length
  · exact Nat.le_trans (totR_each ls hi) h.tot
  · rw [List.getD_eq_getElem?_getD, List.getElem?_eq_none (by omega)]; simp
theorem SmR.upto {ls : List (List Int)} (h : SmR ls) {i : Nat} (hi : i ≤ ls.length) : totR ls i ≤ 1048576 := Nat.le_trans (totR_mono ls hi) h.tot

end Go.Proofs.Ytkdpifplhhcpaaa
