/- Proved here: small rules for lists in structs. -/
import Derived.Test.YtcdpaokmjoklcaaDoorChM
import Derived.Test.YtcdpaokmjoklcaaDoorCpA
import Derived.Test.YtcdpaokmjoklcaaDoorLwS
import Derived.Deep.AppendLies
import Derived.Maps.AppendAt
namespace Go.Proofs.YtcdpaokmjoklcaaDoor
open Go.RowKit Go.Maps
set_option linter.unusedVariables false
set_option linter.unusedSimpArgs false

theorem run_three {w : World} {k : Nat} {a b c : Value} {T : TypeId} (h : w.heap[k]? = some (.cells #[a, b, c] T)) :
    w.cell? ⟨k, 0, none⟩ = some a ∧ w.cell? ⟨k, 1, none⟩ = some b ∧ w.cell? ⟨k, 2, none⟩ = some c ∧ w.frozen? ⟨k, 0, none⟩ = false ∧ w.frozen? ⟨k, 1, none⟩ = false ∧ w.frozen? ⟨k, 2, none⟩ = false ∧ k < w.heap.size := ⟨cellOf h 0 rfl, cellOf h 1 rfl, cellOf h 2 rfl, frozOf h 0, frozOf h 1, frozOf h 2, ltOf h⟩
theorem run_own {wr : World} {B : Nat} {va : Option Addr} {n vc : Nat} {cur : List Int} (h : IS wr B (.slice va n vc) cur) (hn : n = cur.length) : wr.ownsRow B 2 1 (.slice va n vc) n (cur.map (Value.int .i64)) := by
  unfold IS at h
  rw [← hn] at h
  exact h
theorem run_snoc {w : World} {B n : Nat} {v : Value} {xs : List Int} {y : Int} (hn : n = xs.length) (h : w.ownsRow B 2 1 v (n + 1) (xs.map (Value.int .i64) ++ [.int .i64 y])) : IS w B v (xs ++ [y]) := by
  unfold IS
  rw [List.length_append, List.map_append, ← hn]
  exact h
theorem run_nil (w : World) (B : Nat) : IS w B (.slice none 0 0) [] := ⟨rfl, Or.inl ⟨rfl, rfl⟩⟩


end Go.Proofs.YtcdpaokmjoklcaaDoor
