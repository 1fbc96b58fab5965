/- Proved here: how lists of numbers are read. No condition on the program but on its table of types. -/
import Derived.Test.YtjbghflphngnkaaGen
import Derived.Test.YtjbghflphngnkaaTkR
namespace Go.Proofs.Ytjbghflphngnkaa
open Go.RowKit
set_option linter.unusedVariables false
set_option linter.unusedSimpArgs false

def inC (x : Int) : List Value := [.int .i64 x]
theorem inC_len (x : Int) : (inC x).length = 1 := rfl
theorem inC_fm (s : List Int) : s.flatMap inC = s.map (Value.int .i64) := by
  induction s with
  | nil => rfl
  | cons a t ih => rw [List.flatMap_cons, ih]; rfl
theorem og_is {w : World} {B : Nat} {v : Value} {s : List Int} : OG 2 1 inC w B v s ↔ IS w B v s := by
  unfold OG IS; rw [inC_fm]
/-- A slice that can be read as a list of numbers. -/
abbrev RdI (w : World) (v : Value) (s : List Int) : Prop := RG 1 inC w v s
theorem IS.rg {w : World} {B : Nat} {v : Value} {s : List Int} (h : IS w B v s) : RdI w v s := OG.rg inC_len (og_is.2 h)
theorem IS.lt {w : World} {B : Nat} {v : Value} {s : List Int} (h : IS w B v s) : ∀ g, v.ownBlock = some g → B ≤ g ∧ g < w.heap.size := World.ownsRow.lt h
theorem IS.bel {w w' : World} {B : Nat} {v : Value} {s : List Int} (h : IS w B v s) (hb : Below w.heap.size w w') : IS w' B v s := og_is.1 ((og_is.2 h).below hb)
theorem IS.low {w : World} {A B : Nat} {v : Value} {s : List Int} (h : IS w B v s) (hab : A ≤ B) : IS w A v s := og_is.1 (OG.low (og_is.2 h) hab)
/-- From that block on. -/
theorem IS.from {w : World} {B g n c : Nat} {s : List Int} (h : IS w B (.slice (some ⟨g, 0, none⟩) n c) s) : IS w g (.slice (some ⟨g, 0, none⟩) n c) s := by
  refine ⟨h.1, ?_⟩
  rcases h.2 with ⟨h1, _⟩ | ⟨g', cap, cur, h1, h2, h3⟩
  · cases h1
  · refine Or.inr ⟨g', cap, cur, h1, ?_, h3⟩
    simp only [Value.slice.injEq, Option.some.injEq, Addr.mk.injEq, and_true] at h1
    omega
theorem RG.ri {w : World} {v : Value} {s : List Int} (h : RdI w v s) (hn : 0 < s.length) :
    ∃ g o c, v = .slice (some ⟨g, o, none⟩) s.length c ∧ g < w.heap.size ∧ ∀ j, j < s.length → w.cell? ⟨g, o + j, none⟩ = some (.int .i64 (s.getD j 0)) := by
  obtain ⟨g, o, c, rfl, hg, hj⟩ := h.pos hn
  refine ⟨g, o, c, rfl, hg, fun j hl => ?_⟩
  have := hj j hl 0 (by omega)
  simp only [Nat.mul_one, Nat.add_zero] at this
  rw [this]
  simp [inC, List.getElem?_eq_getElem hl]

/-- A world behind one whose first block of its own is o. -/
structure SB (w : World) (o : Obj) (W : World) : Prop where
  bl : Below w.heap.size w W
  bx : W.heap[w.heap.size]? = some o
theorem SB.next {w : World} {o : Obj} {V V' : World} (h : SB w o V) (hb : Below V.heap.size V V') : SB w o V' := by
  have hlt : w.heap.size < V.heap.size := by
    rcases Nat.lt_or_ge w.heap.size V.heap.size with h' | h'
    · exact h'
    · have := h.bx; rw [Array.getElem?_eq_none h'] at this; cases this
  exact ⟨h.bl.trans (hb.mono h.bl.size), (hb.block _ hlt).trans h.bx⟩
theorem SB.new (w : World) (o : Obj) : SB w o (w.alloc o) := ⟨by (repeat' (first | (with_reducible exact Below.refl _ _) | (with_reducible assumption) | (with_reducible refine Below.setCell ?_ ?_ _) | (with_reducible refine Below.alloc ?_ ?_ _) | (with_reducible refine below_drewN ?_ _) | (with_reducible refine Below.drew ?_) | (with_reducible exact Nat.le_refl _) | omega | (simp; done) | (simp; omega))), heap_alloc_new w o⟩

theorem rd_at {w : World} {a : Option Addr} {n c : Nat} {s : List Int} (h : RdI w (.slice a n c) s) {j : Nat} (hj : j < n) : ∃ g o, a = some ⟨g, o, none⟩ ∧ g < w.heap.size ∧ w.cell? ⟨g, o + j, none⟩ = some (.int .i64 (s.getD j 0)) := by
  have hn : n = s.length := h.len
  obtain ⟨g, o, c2, he, hg, hx⟩ := h.ri (by omega)
  injection he with he1 he2 he3
  subst he1
  exact ⟨g, o, rfl, hg, hx j (by omega)⟩

end Go.Proofs.Ytjbghflphngnkaa
