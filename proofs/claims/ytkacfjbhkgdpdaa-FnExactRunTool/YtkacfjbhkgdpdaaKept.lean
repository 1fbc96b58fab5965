/- Proved here: small rules on worlds that have grown: what was there is there still. No condition on the program. (And ahead of it: Proved here: worlds that differ in some blocks alone. No condition on the program.) (And ahead of it: The fault of a tool, as a function of it. Arithmetic alone.) -/
import Derived.Test.YtkacfjbhkgdpdaaAtL
import Derived.Test.YtkacfjbhkgdpdaaTiM
import Derived.Test.YtkacfjbhkgdpdaaNmFault
import Derived.Test.YtkacfjbhkgdpdaaNlJ
import Derived.Test.YtkacfjbhkgdpdaaIntsBase
namespace Go.Proofs.Ytkacfjbhkgdpdaa
open Go.ChangeShapes Go.WideShapes Go.ChangeAt Go.RowKit Go.Joins
set_option linter.unusedVariables false
set_option linter.unusedSimpArgs false

def apD : Ap := ⟨⟨#[]⟩, 0⟩
/-- What is wrong with the approval k. -/
def apF (s : List Ap) (k : Nat) : Int := if nameK (s.getD k apD).nm ≠ 0 then nameK (s.getD k apD).nm else if 0 ≤ atL ((s.take k).map (·.nm)) (s.getD k apD).nm then 1 else 0
/-- What is kept behind a loss of power: its fault. -/
def kpF (U L : Int) (s : List Ap) : Int := if ¬ (1 ≤ L ∧ L ≤ 1000) ∨ ¬ (0 ≤ U ∧ U ≤ L) then 3 else if 20 < s.length then 2 else fnz (apF s) s.length
/-- Does all else fit the state? -/
def fsB (A : Int) (R : ByteArray) (S U L : Int) (Q : Bool) (s : List Ap) : Bool :=
  if A = 2 then Q && apB s R S else if A = 3 then (Q && apB s R S) && decide (U < L) else decide (R = ⟨#[]⟩) && decide (S = 0)
def tlF (A : Int) (R : ByteArray) (S U L : Int) (Q : Bool) (s : List Ap) : Int :=
  if ¬ (0 ≤ A ∧ A ≤ 6) then 1 else if kpF U L s ≠ 0 then kpF U L s else if fsB A R S U L Q s = true then 0 else 1
theorem getA {s : List Ap} {k : Nat} (h : k < s.length) : s.getD k apD = s[k] := by rw [List.getD_eq_getElem?_getD, List.getElem?_eq_getElem h]; rfl
theorem kpF_le {U L : Int} {s : List Ap} (h : kpF U L s = 0) : U ≤ L ∧ s.length ≤ 20 := by
  unfold kpF at h
  by_cases h1 : ¬ (1 ≤ L ∧ L ≤ 1000) ∨ ¬ (0 ≤ U ∧ U ≤ L)
  · rw [if_pos h1] at h; cases h
  · rw [if_neg h1] at h
    by_cases h2 : 20 < s.length
    · rw [if_pos h2] at h; cases h
    · have h3 : 0 ≤ U ∧ U ≤ L := Decidable.byContradiction fun e => h1 (Or.inr e)
      omega
theorem tf_seven {w : World} {k : Nat} {a b c d e f g : Value} {T : TypeId} (h : w.heap[k]? = some (.cells #[a, b, c, d, e, f, g] T)) :
    w.cell? ⟨k, 0, none⟩ = some a ∧ w.cell? ⟨k, 1, none⟩ = some b ∧ w.cell? ⟨k, 2, none⟩ = some c ∧ w.cell? ⟨k, 3, none⟩ = some d ∧ w.cell? ⟨k, 4, none⟩ = some e ∧ w.cell? ⟨k, 5, none⟩ = some f ∧ w.cell? ⟨k, 6, none⟩ = some g ∧ k < w.heap.size := by
  refine ⟨by simp [World.cell?, h], by simp [World.cell?, h], by simp [World.cell?, h], by simp [World.cell?, h], by simp [World.cell?, h], by simp [World.cell?, h], by simp [World.cell?, h], ?_⟩
  rcases Nat.lt_or_ge k w.heap.size with h' | h'
  · exact h'
  · rw [Array.getElem?_eq_none h'] at h; cases h

end Go.Proofs.Ytkacfjbhkgdpdaa

namespace Go.Proofs.Ytkacfjbhkgdpdaa
open Go.RowKit
set_option linter.unusedVariables false
set_option linter.unusedSimpArgs false

/-- Nothing but blocks from B on and below Z has turned. -/
structure Chg (B Z : Nat) (w w' : World) : Prop where
  os : w'.os = w.os
  tape : w'.tape = w.tape
  output : w'.output = w.output
  size : w.heap.size ≤ w'.heap.size
  block : ∀ k, k < w.heap.size → (k < B ∨ Z ≤ k) → w'.heap[k]? = w.heap[k]?

theorem Chg.refl (B Z : Nat) (w : World) : Chg B Z w w := ⟨rfl, rfl, rfl, Nat.le_refl _, fun _ _ _ => rfl⟩
theorem Chg.trans {B Z : Nat} {w w' w'' : World} (h : Chg B Z w w') (h' : Chg B Z w' w'') : Chg B Z w w'' :=
  ⟨h'.os.trans h.os, h'.tape.trans h.tape, h'.output.trans h.output, Nat.le_trans h.size h'.size, fun k hk hb => (h'.block k (Nat.lt_of_lt_of_le hk h.size) hb).trans (h.block k hk hb)⟩
theorem Chg.set {B Z g o : Nat} (w : World) (u : Value) (h1 : B ≤ g) (h2 : g < Z) : Chg B Z w (w.setCell ⟨g, o, none⟩ u) :=
  ⟨rfl, rfl, rfl, by simp, fun k hk hb => heap_setCell_other _ _ _ _ (by simp; omega)⟩
theorem Chg.only {B Z g : Nat} {w w' : World} (h : Only g w w') (h1 : B ≤ g) (h2 : g < Z) : Chg B Z w w' :=
  ⟨h.os, h.tape, h.output, by rw [h.size]; exact Nat.le_refl _, fun k hk hb => h.block k (by omega)⟩
theorem Chg.below {B Z A : Nat} {w w' : World} (h : Chg B Z w w') (hA : A ≤ B) (hs : A ≤ w.heap.size) : Below A w w' :=
  ⟨h.os, h.tape, h.output, h.size, fun k hk => h.block k (by omega) (Or.inl (by omega))⟩
theorem Chg.of_below {B Z : Nat} {w w' : World} (h : Below w.heap.size w w') : Chg B Z w w' :=
  ⟨h.os, h.tape, h.output, h.size, fun k hk _ => h.block k hk⟩

end Go.Proofs.Ytkacfjbhkgdpdaa

namespace Go.Proofs.Ytkacfjbhkgdpdaa
open Go.RowKit
set_option linter.unusedVariables false

/-- What lay in W lies in w still. -/
def KS (W w : World) : Prop := (∀ b o, b < W.heap.size → w.cell? ⟨b, o, none⟩ = W.cell? ⟨b, o, none⟩) ∧ Below W.heap.size W w

theorem KS.of {W w : World} (h : Below W.heap.size W w) : KS W w := ⟨fun b o hb => h.cell (p := ⟨b, o, none⟩) hb, h⟩
theorem KS.start (W : World) : KS W W.drew := KS.of ((Below.refl _ _).drew)
theorem KS.call {W w w' : World} (h : KS W w) (hb : Below w.heap.size w w') : KS W w' := KS.of (h.2.trans (hb.mono h.2.size))
theorem KS.alloc {W w : World} (h : KS W w) (o : Obj) : KS W (w.alloc o) := KS.of (h.2.alloc h.2.size o)
theorem KS.set {W w : World} (h : KS W w) {p : Addr} (hp : W.heap.size ≤ p.block) (u : Value) : KS W (w.setCell p u) := KS.of (h.2.setCell hp u)

end Go.Proofs.Ytkacfjbhkgdpdaa
