/- Proved here: lists of bytes in memory: how they are read (RG 1 byC), owned (OG), grown by one. No condition on the program but on its table of types. -/
import Derived.Test.YtejpjbihdclngaaGen
import Derived.Test.YtejpjbihdclngaaIntsBase
import Derived.Deep.AppendLies
namespace Go.Proofs.Ytejpjbihdclngaa
open Go.RowKit
set_option linter.unusedVariables false
set_option linter.unusedSimpArgs false

def byC (x : UInt8) : List Value := [.int .u8 (x.toNat : Int)]
theorem byC_len (x : UInt8) : (byC x).length = 1 := rfl
theorem info_by : (Try.prog.info? 5).map (fun i => (i.zero, i.size, i.bytes)) = some (some (.int .u8 0), 1, 1) := by kernel_rfl
/-- A slice that can be read as a list of bytes; one of the call's own. -/
abbrev RBy (w : World) (v : Value) (s : List UInt8) : Prop := RG 1 byC w v s
abbrev OBy (w : World) (B : Nat) (v : Value) (s : List UInt8) : Prop := OG 5 1 byC w B v s
theorem OBy.rg {w : World} {B : Nat} {v : Value} {s : List UInt8} (h : OBy w B v s) : RBy w v s := OG.rg byC_len h
theorem rb_at {w : World} {a : Option Addr} {n c : Nat} {s : List UInt8} (h : RBy w (.slice a n c) s) {j : Nat} (hj : j < n) : ∃ (g o : Nat) (z : UInt8), a = some ⟨g, o, none⟩ ∧ g < w.heap.size ∧ s[j]? = some z ∧ w.cell? ⟨g, o + j, none⟩ = some (.int .u8 (z.toNat : Int)) := by
  have hn : n = s.length := h.len
  obtain ⟨g, o, c2, he, hg, hx⟩ := h.pos (by omega)
  injection he with he1 he2 he3
  subst he1
  have hl : j < s.length := by omega
  refine ⟨g, o, s[j], rfl, hg, List.getElem?_eq_getElem hl, ?_⟩
  have := hx j hl 0 (by omega)
  rw [Nat.add_zero, Nat.mul_one] at this
  rw [this]; rfl
theorem OBy.snoc {w : World} {B : Nat} {v : Value} {s : List UInt8} {z : UInt8} (h : w.ownsRow B 5 1 v (s.length + 1) (s.flatMap byC ++ [.int .u8 (z.toNat : Int)])) : OBy w B v (s ++ [z]) := by
  show w.ownsRow B 5 1 v (s ++ [z]).length ((s ++ [z]).flatMap byC)
  rw [List.length_append, List.flatMap_append]
  simpa [byC] using h
theorem by_get {s : List UInt8} {j : Nat} {z : UInt8} (h : s[j]? = some z) : s.getD j 0 = z := by simp [List.getD_eq_getElem?_getD, h]
theorem byC_one (s : List UInt8) : ∀ u ∈ s.flatMap byC, u.oneCell' = true := by
  intro u hu
  obtain ⟨x, _, hx⟩ := List.mem_flatMap.1 hu
  simp only [byC, List.mem_singleton] at hx
  rw [hx]; rfl
theorem by_flat (s : List UInt8) : s.flatMap byC = s.map (fun x => Value.int .u8 (x.toNat : Int)) := by
  induction s with
  | nil => rfl
  | cons a t ih => rw [List.flatMap_cons, ih]; rfl
theorem by_flen (s : List UInt8) : (s.flatMap byC).length = s.length * 1 := fm_length byC_len s
theorem by_lt (x : UInt8) : (0 : Int) ≤ (x.toNat : Int) ∧ (x.toNat : Int) ≤ 255 := by have := x.toNat_lt; omega
theorem OBy.nil (w : World) (B : Nat) : OBy w B (.slice none 0 0) [] := ⟨rfl, Or.inl ⟨rfl, rfl⟩⟩
theorem OBy.lit0 (w : World) (B : Nat) (hB : B ≤ w.heap.size) : OBy (w.alloc (.cells #[] 5)) B (.slice (some ⟨w.heap.size, 0, none⟩) 0 0) [] := by
  have := World.ownsRow_lit (e := 5) (size := 1) (base := B) w #[] 0 hB (by decide) (by simp)
  exact this
theorem OBy.form {w : World} {B : Nat} {v : Value} {s : List UInt8} (h : OBy w B v s) : ∃ a c, v = .slice a s.length c := h.rg.form
theorem OBy.join {w : World} {B : Nat} {v : Value} {s t : List UInt8} (h : w.ownsRow B 5 1 v (s.length + t.length) (s.flatMap byC ++ t.flatMap byC)) : OBy w B v (s ++ t) := by
  show w.ownsRow B 5 1 v (s ++ t).length ((s ++ t).flatMap byC)
  rw [List.length_append, List.flatMap_append]
  exact h
/-- What is read of a list, for an append: nil is empty, the cells stand. -/
theorem by_news {w : World} {a : Option Addr} {n c : Nat} {s : List UInt8} (h : RBy w (.slice a n c) s) : ∀ ad, a = some ad → ∀ j u, (s.flatMap byC)[j]? = some u → w.cell? (ad.add j) = some u := by
  intro ad had j u hu
  subst had
  have hn := h.len
  have hj : j < s.length := by
    rcases Nat.lt_or_ge j s.length with h' | h'
    · exact h'
    · rw [List.getElem?_eq_none (by rw [by_flen]; omega)] at hu; cases hu
  obtain ⟨g, o, z, he, hg, hz, hc⟩ := rb_at (j := j) h (by omega)
  obtain rfl := Option.some.inj he
  have hadd : (⟨g, o, none⟩ : Addr).add j = ⟨g, o + j, none⟩ := by unfold Addr.add; split <;> simp_all
  rw [hadd, hc]
  rw [by_flat, List.getElem?_map, hz] at hu
  exact hu

end Go.Proofs.Ytejpjbihdclngaa
