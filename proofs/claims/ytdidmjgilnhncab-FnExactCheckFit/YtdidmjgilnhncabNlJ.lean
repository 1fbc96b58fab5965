/- Proved here: how lists of numbers are read. No condition on the program but on its table of types. (And ahead of it: Proved here: what it is that a slice of the call's own holds a list of numbers, and that it stays while its block does. No condition on the program but one on its table of types.) -/
import Derived.Test.YtdidmjgilnhncabUnd
import Derived.Test.YtdidmjgilnhncabRows
import Derived.LoopTactic
import Derived.Test.YtdidmjgilnhncabGen
namespace Go.Proofs.Ytdidmjgilnhncab
open Go.RowKit
set_option linter.unusedVariables false

theorem info_i64 : (Try.prog.info? 2).map (fun i => (i.zero, i.size, i.bytes)) = some (some (.int .i64 0), 1, 8) := by kernel_rfl

/-- A list of numbers that a slice of the call's own holds. -/
def IS (w : World) (B : Nat) (v : Value) (xs : List Int) : Prop := w.ownsRow B 2 1 v xs.length (xs.map (Value.int .i64))

theorem IS.zero {w : World} {B : Nat} {v : Value} (h : IS w B v []) : ∃ a c, v = .slice a 0 c := by
  rcases h.2 with ⟨rfl, _⟩ | ⟨g, cap, cur, rfl, _⟩
  · exact ⟨_, _, rfl⟩
  · exact ⟨_, _, rfl⟩
theorem IS.form {w : World} {B : Nat} {v : Value} {xs : List Int} (h : IS w B v xs) : ∃ a c, v = .slice a xs.length c := by
  rcases h.2 with ⟨rfl, h0⟩ | ⟨g, cap, cur, rfl, _⟩
  · exact ⟨none, 0, by rw [h0]⟩
  · exact ⟨_, _, rfl⟩
theorem IS.pos {w : World} {B : Nat} {v : Value} {xs : List Int} (h : IS w B v xs) (hp : 0 < xs.length) :
    ∃ g cap, v = .slice (some ⟨g, 0, none⟩) xs.length cap ∧ B ≤ g ∧ g < w.heap.size ∧ ∀ j, j < xs.length → w.cell? ⟨g, j, none⟩ = some (.int .i64 (xs.getD j 0)) := by
  rcases h.2 with ⟨_, h0⟩ | ⟨g, cap, cur, rfl, hB, hg, hn, hm, hs, ht⟩
  · omega
  · refine ⟨g, cap, rfl, hB, ?_, fun j hj => ?_⟩
    · rcases Nat.lt_or_ge g w.heap.size with h' | h'
      · exact h'
      · rw [Array.getElem?_eq_none h'] at hg; cases hg
    · have := World.ownsRow.cellAt (w := w) (g := g) (cap := cap) h j (by omega)
      rw [this]
      simp [List.getElem?_map, List.getElem?_eq_getElem hj]

/-- Nothing has turned but the cells of block g. -/
structure Only (g : Nat) (w w' : World) : Prop where
  os : w'.os = w.os
  tape : w'.tape = w.tape
  output : w'.output = w.output
  size : w'.heap.size = w.heap.size
  block : ∀ k, k ≠ g → w'.heap[k]? = w.heap[k]?
theorem Only.refl (g : Nat) (w : World) : Only g w w := ⟨rfl, rfl, rfl, rfl, fun _ _ => rfl⟩
theorem Only.set {g : Nat} {w w' : World} (h : Only g w w') (o : Nat) (u : Value) : Only g w (w'.setCell ⟨g, o, none⟩ u) :=
  ⟨h.os, h.tape, h.output, by simpa using h.size, fun k hk => (heap_setCell_other w' ⟨g, o, none⟩ k u (fun e => hk (by simpa using e))).trans (h.block k hk)⟩
theorem Only.below {g B : Nat} {w w' : World} (h : Only g w w') (hg : B ≤ g) : Below B w w' :=
  ⟨h.os, h.tape, h.output, by rw [h.size]; exact Nat.le_refl _, fun k hk => h.block k (by omega)⟩

/-- A list stays while its block does. -/
theorem IS.kept {w w' : World} {B : Nat} {v : Value} {xs : List Int} (h : IS w B v xs) (hb : ∀ g, v.ownBlock = some g → w'.heap[g]? = w.heap[g]?) : IS w' B v xs := by
  refine ⟨h.1, ?_⟩
  rcases h.2 with h' | ⟨g, cap, cur, rfl, hB, hg, hr⟩
  · exact Or.inl h'
  · exact Or.inr ⟨g, cap, cur, rfl, hB, by rw [hb g rfl]; exact hg, hr⟩

end Go.Proofs.Ytdidmjgilnhncab

namespace Go.Proofs.Ytdidmjgilnhncab
open Go.RowKit
set_option linter.unusedVariables false
set_option linter.unusedSimpArgs false

def inC (x : Int) : List Value := [.int .i64 x]
theorem inC_len (x : Int) : (inC x).length = 1 := rfl
theorem inC_fm (s : List Int) : s.flatMap inC = s.map (Value.int .i64) := by
  induction s with
  | nil => rfl
  | cons a t ih => rw [List.flatMap_cons, ih]; rfl
theorem og_is {w : World} {B : Nat} {v : Value} {s : List Int} : OG 2 1 inC w B v s ↔ IS w B v s := by
  unfold OG IS; rw [inC_fm]
/-- A slice that can be read as a list of numbers. -/
abbrev RdI (w : World) (v : Value) (s : List Int) : Prop := RG 1 inC w v s
theorem IS.rg {w : World} {B : Nat} {v : Value} {s : List Int} (h : IS w B v s) : RdI w v s := OG.rg inC_len (og_is.2 h)
theorem IS.lt {w : World} {B : Nat} {v : Value} {s : List Int} (h : IS w B v s) : ∀ g, v.ownBlock = some g → B ≤ g ∧ g < w.heap.size := World.ownsRow.lt h
theorem IS.bel {w w' : World} {B : Nat} {v : Value} {s : List Int} (h : IS w B v s) (hb : Below w.heap.size w w') : IS w' B v s := og_is.1 ((og_is.2 h).below hb)
theorem IS.low {w : World} {A B : Nat} {v : Value} {s : List Int} (h : IS w B v s) (hab : A ≤ B) : IS w A v s := og_is.1 (OG.low (og_is.2 h) hab)
/-- From that block on. -/
theorem IS.from {w : World} {B g n c : Nat} {s : List Int} (h : IS w B (.slice (some ⟨g, 0, none⟩) n c) s) : IS w g (.slice (some ⟨g, 0, none⟩) n c) s := by
  refine ⟨h.1, ?_⟩
  rcases h.2 with ⟨h1, _⟩ | ⟨g', cap, cur, h1, h2, h3⟩
  · cases h1
  · refine Or.inr ⟨g', cap, cur, h1, ?_, h3⟩
    simp only [Value.slice.injEq, Option.some.injEq, Addr.mk.injEq, and_true] at h1
    omega
theorem RG.ri {w : World} {v : Value} {s : List Int} (h : RdI w v s) (hn : 0 < s.length) :
    ∃ g o c, v = .slice (some ⟨g, o, none⟩) s.length c ∧ g < w.heap.size ∧ ∀ j, j < s.length → w.cell? ⟨g, o + j, none⟩ = some (.int .i64 (s.getD j 0)) := by
  obtain ⟨g, o, c, rfl, hg, hj⟩ := h.pos hn
  refine ⟨g, o, c, rfl, hg, fun j hl => ?_⟩
  have := hj j hl 0 (by omega)
  simp only [Nat.mul_one, Nat.add_zero] at this
  rw [this]
  simp [inC, List.getElem?_eq_getElem hl]

/-- A world behind one whose first block of its own is o. -/
structure SB (w : World) (o : Obj) (W : World) : Prop where
  bl : Below w.heap.size w W
  bx : W.heap[w.heap.size]? = some o
theorem SB.next {w : World} {o : Obj} {V V' : World} (h : SB w o V) (hb : Below V.heap.size V V') : SB w o V' := by
  have hlt : w.heap.size < V.heap.size := by
    rcases Nat.lt_or_ge w.heap.size V.heap.size with h' | h'
    · exact h'
    · have := h.bx; rw [Array.getElem?_eq_none h'] at this; cases this
  exact ⟨h.bl.trans (hb.mono h.bl.size), (hb.block _ hlt).trans h.bx⟩
theorem SB.new (w : World) (o : Obj) : SB w o (w.alloc o) := ⟨by (repeat' (first | (with_reducible exact Below.refl _ _) | (with_reducible assumption) | (with_reducible refine Below.setCell ?_ ?_ _) | (with_reducible refine Below.alloc ?_ ?_ _) | (with_reducible refine below_drewN ?_ _) | (with_reducible refine Below.drew ?_) | (with_reducible exact Nat.le_refl _) | omega | (simp; done) | (simp; omega))), heap_alloc_new w o⟩

theorem rd_at {w : World} {a : Option Addr} {n c : Nat} {s : List Int} (h : RdI w (.slice a n c) s) {j : Nat} (hj : j < n) : ∃ g o, a = some ⟨g, o, none⟩ ∧ g < w.heap.size ∧ w.cell? ⟨g, o + j, none⟩ = some (.int .i64 (s.getD j 0)) := by
  have hn : n = s.length := h.len
  obtain ⟨g, o, c2, he, hg, hx⟩ := h.ri (by omega)
  injection he with he1 he2 he3
  subst he1
  exact ⟨g, o, rfl, hg, hx j (by omega)⟩

end Go.Proofs.Ytdidmjgilnhncab
