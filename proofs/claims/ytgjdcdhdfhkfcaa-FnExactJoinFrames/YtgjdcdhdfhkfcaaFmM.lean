/- Proved here: what FramesOf answers: fmC, fmL; parts of a list of floats. No program. -/
import Derived.Test.YtgjdcdhdfhkfcaaFmA
import Derived.Test.YtgjdcdhdfhkfcaaFwR
namespace Go.Proofs.Ytgjdcdhdfhkfcaa
open Go.RowKit
set_option linter.unusedVariables false
set_option linter.unusedSimpArgs false

def fmR (s : List Nat) (j : Nat) : List (Option Nat) := (List.range 8).map fun i => if 8 * j + i < s.length then fv (s.getD (8 * j + i) 0) else none
def fmN (s : List Nat) : Nat := (s.length + 7) / 8
def fmV (s : List Nat) : List (List (Option Nat)) := (List.range (fmN s)).map (fmR s)
def fmC (s : List Nat) : Int := if 200 < s.length then 2 else 0
def fmL (s : List Nat) : List (List (Option Nat)) := if 200 < s.length then [] else fmV s
/-- Rows of the call's own that have these values. -/
def FmP (w : World) (B : Nat) (v : Value) (F : List (List (Option Nat))) : Prop := ∃ vs L, RoL w B v L vs ∧ L.map (List.map fv) = F
theorem bt_val (x : Nat) : fv (btV x).toNat = fv x := by
  unfold btV
  cases h : fv x with
  | none => simp only [Option.isNone_none, if_true]; decide
  | some y => simp only [Option.isNone_some, Bool.false_eq_true, if_false, Int.toNat_natCast]; exact h
theorem fm_row {s : List Nat} {j m : Nat} (hm : m = min 8 (s.length - 8 * j)) (hj : 8 * j < s.length) : ((List.range 8).map fun i => (frV ((s.drop (8 * j)).take m) i).toNat).map fv = fmR s j := by
  have hl : ((s.drop (8 * j)).take m).length = m := by rw [List.length_take, List.length_drop]; omega
  rw [List.map_map, fmR]
  apply List.map_congr_left
  intro i hi
  rw [List.mem_range] at hi
  simp only [Function.comp, frV, hl]
  by_cases hin : 8 * j + i < s.length
  · rw [if_pos hin, if_pos (by omega), bt_val]
    congr 1
    rw [List.getD_eq_getElem?_getD, List.getElem?_take_of_lt (by omega), List.getElem?_drop, ← List.getD_eq_getElem?_getD]
  · rw [if_neg hin, if_neg (by omega)]; decide
theorem fm_next (s : List Nat) (j : Nat) : (List.range (j + 1)).map (fmR s) = (List.range j).map (fmR s) ++ [fmR s j] := by rw [List.range_succ, List.map_append]; rfl
/-- A part of a list that is read. -/
theorem RFl.part {w : World} {g o n c : Nat} {s : List Nat} (h : RFl w (.slice (some ⟨g, o, none⟩) n c) s) {a m : Nat} (ham : a + m ≤ n) (c' : Nat) : RFl w (.slice (some ⟨g, o + a, none⟩) m c') ((s.drop a).take m) := by
  have hn : n = s.length := h.len
  have hl : ((s.drop a).take m).length = m := by rw [List.length_take, List.length_drop]; omega
  refine ⟨some ⟨g, o + a, none⟩, c', by rw [hl], fun hne => ?_⟩
  have hm : 0 < m := by
    rcases Nat.eq_zero_or_pos m with h0 | h0
    · subst h0; exact absurd (List.take_zero ..) hne
    · exact h0
  obtain ⟨g', o', c2, he, hg, hx⟩ := h.pos (by omega)
  injection he with he1
  injection he1 with he1
  injection he1 with he2 he3
  subst he2 he3
  refine ⟨_, _, rfl, hg, fun j hj i hi => ?_⟩
  have := hx (a + j) (by omega) i hi
  rw [show o + a + j * 1 + i = o + (a + j) * 1 + i by omega, this]
  simp

end Go.Proofs.Ytgjdcdhdfhkfcaa
