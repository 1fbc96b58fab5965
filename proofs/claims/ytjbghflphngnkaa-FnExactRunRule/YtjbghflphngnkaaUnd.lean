/- Proved here: a general rule for a statement whose operations Go may carry out in several orders, and which reads old memory and calls functions that make new memory alone: one walk in the order of the text serves every order. No condition on the program. -/
import Derived.WalkKit
import Derived.ProofKit
import Derived.Handy
import Derived.WalkSpells
import Derived.WalkLawsBesides
import Derived.BigQuiet
import Derived.BigRegion
import Derived.Deep.Quiet
import Derived.Deep.QuietTactic
namespace Go.Proofs.Ytjbghflphngnkaa
open Go.RowKit
set_option linter.unusedVariables false

/-- A world that, below block B, is as w was. -/
structure Und (B : Nat) (w : World) where
  W : World
  below : Below B w W

@[go_sem] theorem und_const {B : Nat} {w : World} (p : Prop) : (Und B w → p) ↔ p := ⟨fun h => h ⟨w, Below.refl B w⟩, fun h _ => h⟩

theorem Und.cell {w : World} (x : Und w.heap.size w) (b o : Nat) (h : b < w.heap.size) : x.W.cell? ⟨b, o, none⟩ = w.cell? ⟨b, o, none⟩ :=
  x.below.cell (p := ⟨b, o, none⟩) h
theorem Und.size {w : World} (x : Und w.heap.size w) : w.heap.size ≤ x.W.heap.size := x.below.size

/-- Every order at once, over the worlds that are as w was below its size. -/
theorem wp_region_und {P : Program} {id : Nat} {Q : Exit → Act → World → Prop} {a : Act} {w : World} {l : List Oper} (hm : P.follows .mixedOrders = true) (hB : Region.lexB .any l.toArray = true)
    (h : (∀ (x : Und w.heap.size w) (b o : Nat), b < w.heap.size → x.W.cell? ⟨b, o, none⟩ = w.cell? ⟨b, o, none⟩) → wpQuiet P l.toArray (fun w' => ∃ x : Und w.heap.size w, w' = x.W) (fun a' => ∀ w', Below w.heap.size w w' → Q .normal a' w') l a) : (Code.region id l.toArray true).wp P Q a w := by
  refine wp_region_quiet (C := fun w' => ∃ x : Und w.heap.size w, w' = x.W) hm hB ⟨⟨_, (Below.refl _ w).drew⟩, rfl⟩ ?_
  have h' := h Und.cell
  have e : (fun a' => ∀ w', Below w.heap.size w w' → Q .normal a' w') = (fun a' => ∀ w', (∃ x : Und w.heap.size w, w' = x.W) → Q .normal a' w') := by
    funext a'
    apply propext
    constructor
    · rintro h _ ⟨x, rfl⟩; exact h _ x.below
    · intro h w' hb; exact h w' ⟨⟨w', hb⟩, rfl⟩
  rw [e] at h'
  simpa using h'

/-- A callee's contract, met in such a world. -/
theorem und_call {P : Program} {f : FuncId} {args : Array Value} {B : Nat} {w : World} {v : Value} {x : Und B w} (hB : B ≤ w.heap.size)
    (h : Calls P f args x.W fun e w' => e = .returned v ∧ Below x.W.heap.size x.W w') : Calls P f args x.W fun e w'' => e = .returned v ∧ ∃ y : Und B w, w'' = y.W :=
  h.mono fun _ w' ⟨he, hb⟩ => ⟨he, ⟨⟨w', x.below.trans (hb.mono (Nat.le_trans hB x.below.size))⟩, rfl⟩⟩
theorem und_call_same {P : Program} {f : FuncId} {args : Array Value} {B : Nat} {w : World} {v : Value} {x : Und B w}
    (h : Calls P f args x.W fun e w' => e = .returned v ∧ w' = x.W) : Calls P f args x.W fun e w'' => e = .returned v ∧ ∃ y : Und B w, w'' = y.W :=
  h.mono fun _ w' ⟨he, hb⟩ => ⟨he, ⟨x, hb⟩⟩
theorem und_call_drewN {P : Program} {f : FuncId} {args : Array Value} {B : Nat} {w : World} {v : Value} {x : Und B w}
    (h : Calls P f args x.W fun e w' => e = .returned v ∧ ∃ n, w' = x.W.drewN n) : Calls P f args x.W fun e w'' => e = .returned v ∧ ∃ y : Und B w, w'' = y.W :=
  h.mono fun _ w' ⟨he, n, hb⟩ => ⟨he, ⟨⟨w', by rw [hb]; exact below_drewN x.below n⟩, rfl⟩⟩

theorem undcell {W w1 : World} (hb : Below W.heap.size W w1) : (∀ b o, b < W.heap.size → w1.cell? ⟨b, o, none⟩ = W.cell? ⟨b, o, none⟩) ∧ (∀ b o, b < W.heap.size → w1.frozen? ⟨b, o, none⟩ = W.frozen? ⟨b, o, none⟩) :=
  ⟨fun b o h => hb.cell (p := ⟨b, o, none⟩) h, fun b o h => hb.frozen (p := ⟨b, o, none⟩) h⟩

end Go.Proofs.Ytjbghflphngnkaa
