/- Proved here: a list of the call's own grows by one element; what is made with room. No condition. -/
import Derived.Test.YtecobfhlpjlpkaaGen
namespace Go.Proofs.Ytecobfhlpjlpkaa
open Go.RowKit
set_option linter.unusedVariables false
set_option linter.unusedSimpArgs false


theorem OG.fm {α : Type} {T k : Nat} {enc : α → List Value} {w : World} {B : Nat} {v : Value} {s : List α} (h : OG T k enc w B v s) : ∃ a c, v = .slice a s.length c := by
  rcases h.2 with ⟨rfl, h0⟩ | ⟨g, cap, cur, rfl, _⟩
  · exact ⟨none, 0, by rw [h0]⟩
  · exact ⟨_, _, rfl⟩
theorem OG.nl (T k : Nat) {α : Type} (enc : α → List Value) (w : World) (B : Nat) : OG T k enc w B (.slice none 0 0) ([] : List α) := ⟨by simp, Or.inl ⟨rfl, rfl⟩⟩
/-- One more, over a world that has grown by W. -/
theorem OG.st {α : Type} {T k : Nat} {enc : α → List Value} {w V w5 : World} {B : Nat} {v v5 : Value} {s : List α} (p : α) (h : OG T k enc V B v s) (hb : Below B w V) (hl : B ≤ V.heap.size) (ho : w5.ownsRow B T k v5 (s.length + 1) (s.flatMap enc ++ enc p)) (hg : V.grownBy w5 v.ownBlock) : OG T k enc w5 B v5 (s ++ [p]) ∧ Below B w w5 ∧ B ≤ w5.heap.size := by
  refine ⟨?_, hb.grown hg hl (fun q hq => (World.ownsRow.lt h q hq).1), Nat.le_trans hl hg.size⟩
  unfold OG
  rw [List.length_append, List.flatMap_append]
  simpa using ho
theorem OG.s1 {α : Type} {T k : Nat} {enc : α → List Value} {w5 : World} {B : Nat} {v5 : Value} {s : List α} (p : α) (ho : w5.ownsRow B T k v5 (s.length + 1) (s.flatMap enc ++ enc p)) : OG T k enc w5 B v5 (s ++ [p]) := by
  unfold OG
  rw [List.length_append, List.flatMap_append]
  simpa using ho
theorem OG.al {α : Type} {T k : Nat} {enc : α → List Value} {V : World} {B : Nat} {v : Value} {s : List α} (h : OG T k enc V B v s) (o : Obj) : OG T k enc (V.alloc o) B v s := World.ownsRow.alloc h o
theorem OG.kp {α : Type} {T k : Nat} {enc : α → List Value} {w w' : World} {B : Nat} {v : Value} {s : List α} {row : Option Nat} (h : OG T k enc w B v s) (hg : w.grownBy w' row) (hne : v.ownBlock = none ∨ v.ownBlock ≠ row) : OG T k enc w' B v s := World.ownsRow.kept h hg hne

end Go.Proofs.Ytecobfhlpjlpkaa
