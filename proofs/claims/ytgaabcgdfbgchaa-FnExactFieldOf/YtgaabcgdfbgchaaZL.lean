/- Proved here: lists of complex numbers in memory: how they are read (RG 2 zC), owned (OG), grown by one. No condition on the program but on its table of types. -/
import Derived.Test.YtgaabcgdfbgchaaZM
import Derived.Test.YtgaabcgdfbgchaaGen
import Derived.Deep.AppendLies
namespace Go.Proofs.Ytgaabcgdfbgchaa
open Go.RowKit
set_option linter.unusedVariables false
set_option linter.unusedSimpArgs false

def zC (z : Zf) : List Value := [.float .f64 z.re, .float .f64 z.im]
theorem zC_len (z : Zf) : (zC z).length = 2 := rfl
theorem info_z : (Try.prog.info? 24).map (fun i => (i.zero, i.size, i.bytes)) = some (some (.agg #[.float .f64 0, .float .f64 0]), 2, 16) := by kernel_rfl
/-- A slice that can be read as a list of complex numbers; one of the call's own. -/
abbrev RZs (w : World) (v : Value) (s : List Zf) : Prop := RG 2 zC w v s
abbrev OZs (w : World) (B : Nat) (v : Value) (s : List Zf) : Prop := OG 24 2 zC w B v s
theorem OZs.rg {w : World} {B : Nat} {v : Value} {s : List Zf} (h : OZs w B v s) : RZs w v s := OG.rg zC_len h
theorem rz_at {w : World} {a : Option Addr} {n c : Nat} {s : List Zf} (h : RZs w (.slice a n c) s) {j : Nat} (hj : j < n) : ∃ (g o : Nat) (z : Zf), a = some ⟨g, o, none⟩ ∧ g < w.heap.size ∧ s[j]? = some z ∧ w.cell? ⟨g, o + j * 2, none⟩ = some (.float .f64 z.re) ∧ w.cell? ⟨g, o + j * 2 + 1, none⟩ = some (.float .f64 z.im) := by
  have hn : n = s.length := h.len
  obtain ⟨g, o, c2, he, hg, hx⟩ := h.pos (by omega)
  injection he with he1 he2 he3
  subst he1
  have hl : j < s.length := by omega
  refine ⟨g, o, s[j], rfl, hg, List.getElem?_eq_getElem hl, ?_, ?_⟩
  · have := hx j hl 0 (by omega)
    rw [Nat.add_zero] at this
    rw [this]; rfl
  · have := hx j hl 1 (by omega)
    rw [this]; rfl
theorem OZs.snoc {w : World} {B : Nat} {v : Value} {s : List Zf} {z : Zf} (h : w.ownsRow B 24 2 v (s.length + 1) (s.flatMap zC ++ [.float .f64 z.re, .float .f64 z.im])) : OZs w B v (s ++ [z]) := by
  show w.ownsRow B 24 2 v (s ++ [z]).length ((s ++ [z]).flatMap zC)
  rw [List.length_append, List.flatMap_append]
  simpa [zC] using h

end Go.Proofs.Ytgaabcgdfbgchaa
