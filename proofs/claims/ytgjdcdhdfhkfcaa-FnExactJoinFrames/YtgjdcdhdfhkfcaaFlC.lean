/- Proved here: lists of floats in memory: how they are read (RG 1 flC), owned (OG), grown by one. No condition on the program but on its table of types. -/
import Derived.Test.YtgjdcdhdfhkfcaaFlB
import Derived.Test.YtgjdcdhdfhkfcaaGen
import Derived.Test.YtgjdcdhdfhkfcaaIntsBase
import Derived.Deep.AppendLies
namespace Go.Proofs.Ytgjdcdhdfhkfcaa
open Go.RowKit
set_option linter.unusedVariables false
set_option linter.unusedSimpArgs false

def flC (x : Nat) : List Value := [.float .f64 x]
theorem flC_len (x : Nat) : (flC x).length = 1 := rfl
theorem info_fl : (Try.prog.info? 55).map (fun i => (i.zero, i.size, i.bytes)) = some (some (.float .f64 0), 1, 8) := by kernel_rfl
/-- A slice that can be read as a list of floats; one of the call's own. -/
abbrev RFl (w : World) (v : Value) (s : List Nat) : Prop := RG 1 flC w v s
abbrev OFl (w : World) (B : Nat) (v : Value) (s : List Nat) : Prop := OG 55 1 flC w B v s
theorem OFl.rg {w : World} {B : Nat} {v : Value} {s : List Nat} (h : OFl w B v s) : RFl w v s := OG.rg flC_len h
theorem rf_at {w : World} {a : Option Addr} {n c : Nat} {s : List Nat} (h : RFl w (.slice a n c) s) {j : Nat} (hj : j < n) : ∃ (g o z : Nat), a = some ⟨g, o, none⟩ ∧ g < w.heap.size ∧ s[j]? = some z ∧ w.cell? ⟨g, o + j, none⟩ = some (.float .f64 z) := by
  have hn : n = s.length := h.len
  obtain ⟨g, o, c2, he, hg, hx⟩ := h.pos (by omega)
  injection he with he1 he2 he3
  subst he1
  have hl : j < s.length := by omega
  refine ⟨g, o, s[j], rfl, hg, List.getElem?_eq_getElem hl, ?_⟩
  have := hx j hl 0 (by omega)
  rw [Nat.add_zero, Nat.mul_one] at this
  rw [this]; rfl
theorem OFl.snoc {w : World} {B : Nat} {v : Value} {s : List Nat} {z : Nat} (h : w.ownsRow B 55 1 v (s.length + 1) (s.flatMap flC ++ [.float .f64 z])) : OFl w B v (s ++ [z]) := by
  show w.ownsRow B 55 1 v (s ++ [z]).length ((s ++ [z]).flatMap flC)
  rw [List.length_append, List.flatMap_append]
  simpa [flC] using h
theorem fl_get {s : List Nat} {j z : Nat} (h : s[j]? = some z) : s.getD j 0 = z := by simp [List.getD_eq_getElem?_getD, h]

end Go.Proofs.Ytgjdcdhdfhkfcaa
