/- Proved here: three lists of numbers of the call's own: small facts. -/
import Derived.Test.YtgbbigokbbllgaaTwA
namespace Go.Proofs.Ytgbbigokbbllgaa
open Go.RowKit
set_option linter.unusedVariables false
set_option linter.unusedSimpArgs false

def OwF (V : World) (B : Nat) (v1 v2 v3 : Value) (L E M : List Int) : Prop := OwL V B v1 v2 L E ∧ IS V B v3 M ∧ ∀ g, v3.ownBlock = some g → ¬ BkL v1 v2 g
def BkF (v1 v2 v3 : Value) (q : Nat) : Prop := BkL v1 v2 q ∨ v3.ownBlock = some q
theorem OwF.blk {V : World} {B : Nat} {v1 v2 v3 : Value} {L E M : List Int} (h : OwF V B v1 v2 v3 L E M) {q : Nat} (hq : BkF v1 v2 v3 q) : B ≤ q ∧ q < V.heap.size := by
  rcases hq with hq | hq
  · exact h.1.blk hq
  · exact IS.lt h.2.1 q hq
theorem OwF.keep {V V' : World} {B : Nat} {v1 v2 v3 : Value} {L E M : List Int} (h : OwF V B v1 v2 v3 L E M) (hk : ∀ q, BkF v1 v2 v3 q → V'.heap[q]? = V.heap[q]?) : OwF V' B v1 v2 v3 L E M :=
  ⟨h.1.keep fun q hq => hk q (Or.inl hq), h.2.1.kept fun q hq => hk q (Or.inr hq), h.2.2⟩
theorem OwF.low {V : World} {A B : Nat} {v1 v2 v3 : Value} {L E M : List Int} (h : OwF V B v1 v2 v3 L E M) (hab : A ≤ B) : OwF V A v1 v2 v3 L E M := ⟨h.1.low hab, h.2.1.low hab, h.2.2⟩
structure RdF3 (V : World) (v1 v2 v3 : Value) (L E M : List Int) : Prop where
  l : RdL V v1 v2 L E
  m : RdI V v3 M
theorem OwF.rd {V : World} {B : Nat} {v1 v2 v3 : Value} {L E M : List Int} (h : OwF V B v1 v2 v3 L E M) : RdF3 V v1 v2 v3 L E M := ⟨h.1.rd, h.2.1.rg⟩
def LtF3 (v1 v2 v3 : Value) (Z : Nat) : Prop := ∀ q, BkF v1 v2 v3 q → q < Z
theorem OwF.lt {V : World} {B : Nat} {v1 v2 v3 : Value} {L E M : List Int} (h : OwF V B v1 v2 v3 L E M) : LtF3 v1 v2 v3 V.heap.size := fun q hq => (h.blk hq).2
theorem Ow.rF3 {V : World} {B hi : Nat} {v1 v2 v3 : Value} {L E M : List Int} (h : OwF V B v1 v2 v3 L E M) (h1 : B ≤ hi) (h2 : hi ≤ V.heap.size) (hh : LtF3 v1 v2 v3 hi) : Ow B hi (fun V => OwF V B v1 v2 v3 L E M) V :=
  Ow.and (Ow.rL2 h.1 h1 h2 fun g hg => hh g (Or.inl hg)) (Ow.and (Ow.row h.2.1 h1 h2 fun g hg => hh g (Or.inr hg)) ⟨h.2.2, fun _ _ => h.2.2, ⟨h1, h2⟩⟩)
theorem Ow.rAllF3 {V V0 : World} {v1 v2 v3 : Value} {L E M : List Int} (h : OwF V V0.heap.size v1 v2 v3 L E M) (hb : Below V0.heap.size V0 V) : Ow V0.heap.size V.heap.size (fun V => OwF V V0.heap.size v1 v2 v3 L E M) V :=
  Ow.rF3 h hb.size (Nat.le_refl _) h.lt
def MkF3 (V : World) (B : Nat) (v1 v2 v3 : Value) (n m k : Nat) : Prop := (V.ownsRow B 2 1 v1 n (mkV 1 n) ∧ V.ownsRow B 2 1 v2 m (mkV (1 + (n : Int)) m)) ∧ V.ownsRow B 2 1 v3 k (mkV (1 + (n : Int) + (m : Int)) k)
theorem Ow.mF3 {V : World} {B hi n m k : Nat} {v1 v2 v3 : Value} (h : MkF3 V B v1 v2 v3 n m k) (h1 : B ≤ hi) (h2 : hi ≤ V.heap.size) (hh : LtF3 v1 v2 v3 hi) : Ow B hi (fun V => MkF3 V B v1 v2 v3 n m k) V :=
  Ow.and (Ow.and (Ow.row h.1.1 h1 h2 fun g hg => hh g (Or.inl (Or.inl hg))) (Ow.row h.1.2 h1 h2 fun g hg => hh g (Or.inl (Or.inr hg)))) (Ow.row h.2 h1 h2 fun g hg => hh g (Or.inr hg))
theorem five_F {w : World} {k : Nat} {a b c d e : Value} {T : TypeId} (h : w.heap[k]? = some (.cells #[a, b, c, d, e] T)) :
    w.cell? ⟨k, 0, none⟩ = some a ∧ w.cell? ⟨k, 1, none⟩ = some b ∧ w.cell? ⟨k, 2, none⟩ = some c ∧ w.cell? ⟨k, 3, none⟩ = some d ∧ w.cell? ⟨k, 4, none⟩ = some e ∧ (∀ i, w.frozen? ⟨k, i, none⟩ = false) ∧ k < w.heap.size := ⟨cellOf h 0 rfl, cellOf h 1 rfl, cellOf h 2 rfl, cellOf h 3 rfl, cellOf h 4 rfl, frozOf h, ltOf h⟩

end Go.Proofs.Ytgbbigokbbllgaa
