/- Proved here: small rules on worlds that have grown: what was there is there still. No condition on the program. (And ahead of it: Proved here: worlds that differ in some blocks alone. No condition on the program.) (And ahead of it: Proved here: what it is that a slice of the call's own holds a list of numbers, and that it stays while its block does. No condition on the program but one on its table of types.) -/
import Derived.Test.YtjacmneopijiaaaGen
import Derived.Test.YtjacmneopijiaaaRows
import Derived.LoopTactic
namespace Go.Proofs.Ytjacmneopijiaaa
open Go.RowKit
set_option linter.unusedVariables false

theorem info_i64 : (Try.prog.info? 2).map (fun i => (i.zero, i.size, i.bytes)) = some (some (.int .i64 0), 1, 8) := by kernel_rfl

/-- A list of numbers that a slice of the call's own holds. -/
def IS (w : World) (B : Nat) (v : Value) (xs : List Int) : Prop := w.ownsRow B 2 1 v xs.length (xs.map (Value.int .i64))

theorem IS.zero {w : World} {B : Nat} {v : Value} (h : IS w B v []) : ∃ a c, v = .slice a 0 c := by
  rcases h.2 with ⟨rfl, _⟩ | ⟨g, cap, cur, rfl, _⟩
  · exact ⟨_, _, rfl⟩
  · exact ⟨_, _, rfl⟩
theorem IS.form {w : World} {B : Nat} {v : Value} {xs : List Int} (h : IS w B v xs) : ∃ a c, v = .slice a xs.length c := by
  rcases h.2 with ⟨rfl, h0⟩ | ⟨g, cap, cur, rfl, _⟩
  · exact ⟨none, 0, by rw [h0]⟩
  · exact ⟨_, _, rfl⟩
theorem IS.pos {w : World} {B : Nat} {v : Value} {xs : List Int} (h : IS w B v xs) (hp : 0 < xs.length) :
    ∃ g cap, v = .slice (some ⟨g, 0, none⟩) xs.length cap ∧ B ≤ g ∧ g < w.heap.size ∧ ∀ j, j < xs.length → w.cell? ⟨g, j, none⟩ = some (.int .i64 (xs.getD j 0)) := by
  rcases h.2 with ⟨_, h0⟩ | ⟨g, cap, cur, rfl, hB, hg, hn, hm, hs, ht⟩
  · omega
  · refine ⟨g, cap, rfl, hB, ?_, fun j hj => ?_⟩
    · rcases Nat.lt_or_ge g w.heap.size with h' | h'
      · exact h'
      · rw [Array.getElem?_eq_none h'] at hg; cases hg
    · have := World.ownsRow.cellAt (w := w) (g := g) (cap := cap) h j (by omega)
      rw [this]
      simp [List.getElem?_map, List.getElem?_eq_getElem hj]

/-- Nothing has turned but the cells of block g. -/
structure Only (g : Nat) (w w' : World) : Prop where
  os : w'.os = w.os
  tape : w'.tape = w.tape
  output : w'.output = w.output
  size : w'.heap.size = w.heap.size
  block : ∀ k, k ≠ g → w'.heap[k]? = w.heap[k]?
theorem Only.refl (g : Nat) (w : World) : Only g w w := ⟨rfl, rfl, rfl, rfl, fun _ _ => rfl⟩
theorem Only.set {g : Nat} {w w' : World} (h : Only g w w') (o : Nat) (u : Value) : Only g w (w'.setCell ⟨g, o, none⟩ u) :=
  ⟨h.os, h.tape, h.output, by simpa using h.size, fun k hk => (heap_setCell_other w' ⟨g, o, none⟩ k u (fun e => hk (by simpa using e))).trans (h.block k hk)⟩
theorem Only.below {g B : Nat} {w w' : World} (h : Only g w w') (hg : B ≤ g) : Below B w w' :=
  ⟨h.os, h.tape, h.output, by rw [h.size]; exact Nat.le_refl _, fun k hk => h.block k (by omega)⟩

/-- A list stays while its block does. -/
theorem IS.kept {w w' : World} {B : Nat} {v : Value} {xs : List Int} (h : IS w B v xs) (hb : ∀ g, v.ownBlock = some g → w'.heap[g]? = w.heap[g]?) : IS w' B v xs := by
  refine ⟨h.1, ?_⟩
  rcases h.2 with h' | ⟨g, cap, cur, rfl, hB, hg, hr⟩
  · exact Or.inl h'
  · exact Or.inr ⟨g, cap, cur, rfl, hB, by rw [hb g rfl]; exact hg, hr⟩

end Go.Proofs.Ytjacmneopijiaaa

namespace Go.Proofs.Ytjacmneopijiaaa
open Go.RowKit
set_option linter.unusedVariables false
set_option linter.unusedSimpArgs false

/-- Nothing but blocks from B on and below Z has turned. -/
structure Chg (B Z : Nat) (w w' : World) : Prop where
  os : w'.os = w.os
  tape : w'.tape = w.tape
  output : w'.output = w.output
  size : w.heap.size ≤ w'.heap.size
  block : ∀ k, k < w.heap.size → (k < B ∨ Z ≤ k) → w'.heap[k]? = w.heap[k]?

theorem Chg.refl (B Z : Nat) (w : World) : Chg B Z w w := ⟨rfl, rfl, rfl, Nat.le_refl _, fun _ _ _ => rfl⟩
theorem Chg.trans {B Z : Nat} {w w' w'' : World} (h : Chg B Z w w') (h' : Chg B Z w' w'') : Chg B Z w w'' :=
  ⟨h'.os.trans h.os, h'.tape.trans h.tape, h'.output.trans h.output, Nat.le_trans h.size h'.size, fun k hk hb => (h'.block k (Nat.lt_of_lt_of_le hk h.size) hb).trans (h.block k hk hb)⟩
theorem Chg.set {B Z g o : Nat} (w : World) (u : Value) (h1 : B ≤ g) (h2 : g < Z) : Chg B Z w (w.setCell ⟨g, o, none⟩ u) :=
  ⟨rfl, rfl, rfl, by simp, fun k hk hb => heap_setCell_other _ _ _ _ (by simp; omega)⟩
theorem Chg.only {B Z g : Nat} {w w' : World} (h : Only g w w') (h1 : B ≤ g) (h2 : g < Z) : Chg B Z w w' :=
  ⟨h.os, h.tape, h.output, by rw [h.size]; exact Nat.le_refl _, fun k hk hb => h.block k (by omega)⟩
theorem Chg.below {B Z A : Nat} {w w' : World} (h : Chg B Z w w') (hA : A ≤ B) (hs : A ≤ w.heap.size) : Below A w w' :=
  ⟨h.os, h.tape, h.output, h.size, fun k hk => h.block k (by omega) (Or.inl (by omega))⟩
theorem Chg.of_below {B Z : Nat} {w w' : World} (h : Below w.heap.size w w') : Chg B Z w w' :=
  ⟨h.os, h.tape, h.output, h.size, fun k hk _ => h.block k hk⟩

end Go.Proofs.Ytjacmneopijiaaa

namespace Go.Proofs.Ytjacmneopijiaaa
open Go.RowKit
set_option linter.unusedVariables false

/-- What lay in W lies in w still. -/
def KS (W w : World) : Prop := (∀ b o, b < W.heap.size → w.cell? ⟨b, o, none⟩ = W.cell? ⟨b, o, none⟩) ∧ Below W.heap.size W w

theorem KS.of {W w : World} (h : Below W.heap.size W w) : KS W w := ⟨fun b o hb => h.cell (p := ⟨b, o, none⟩) hb, h⟩
theorem KS.start (W : World) : KS W W.drew := KS.of ((Below.refl _ _).drew)
theorem KS.call {W w w' : World} (h : KS W w) (hb : Below w.heap.size w w') : KS W w' := KS.of (h.2.trans (hb.mono h.2.size))
theorem KS.alloc {W w : World} (h : KS W w) (o : Obj) : KS W (w.alloc o) := KS.of (h.2.alloc h.2.size o)
theorem KS.set {W w : World} (h : KS W w) {p : Addr} (hp : W.heap.size ≤ p.block) (u : Value) : KS W (w.setCell p u) := KS.of (h.2.setCell hp u)

end Go.Proofs.Ytjacmneopijiaaa
