/- Proved here: a map from numbers to jobs that the call has made: looking up with whether it is there, writing, deleting. -/
import Derived.Test.YtecobfhlpjlpkaaDjC
import Derived.Test.YtecobfhlpjlpkaaUnd
import Derived.Maps.Own
import Derived.Maps.Views
import Derived.Maps.OwnSet
namespace Go.Proofs.Ytecobfhlpjlpkaa
open Go.RowKit Go.Maps
set_option linter.unusedVariables false
set_option linter.unusedSimpArgs false


def jkI (x : Int) : Lit := .int .i64 x
theorem jkI_lit (x : Int) : WideAt.IsKeyLit (jkI x) := by simp [jkI, WideAt.IsKeyLit]
theorem jkI_ne {x y : Int} (h : ¬ x = y) : jkI y ≠ jkI x := by
  intro e; unfold jkI at e; injection e with _ e; exact h e.symm
theorem jI_law : Keyed Try.prog 2 := int_keyed Try.underlying2
theorem jI_key {x : Int} (h : (Lit.int .i64 x).wf = true) : keyOf Try.prog 2 (.int .i64 x) = some (jkI x) := keyOf_int_mk Try.underlying2 h
def jbE (v : Value) : Option (DataW Jb × List MemPlace) :=
  match v with
  | .agg ⟨[.int .i64 a, .int .i64 b, .int .i64 c, .int .i64 d, .int .i64 e, .int .i64 f, .int .i64 g]⟩ => some (.held ⟨a, b, c, d, e, f, g⟩, [])
  | _ => none
theorem jbE_mk (j : Jb) : jbE (.agg #[.int .i64 j.id, .int .i64 j.co, .int .i64 j.ti, .int .i64 j.se, .int .i64 j.du, .int .i64 j.we, .int .i64 j.ki]) = some (.held j, []) := rfl
theorem jbE_inv {v : Value} {y : DataW Jb × List MemPlace} (h : jbE v = some y) : ∃ j : Jb, v = .agg #[.int .i64 j.id, .int .i64 j.co, .int .i64 j.ti, .int .i64 j.se, .int .i64 j.du, .int .i64 j.we, .int .i64 j.ki] ∧ y = (.held j, []) := by
  unfold jbE at h
  split at h
  · cases h; exact ⟨⟨_, _, _, _, _, _, _⟩, rfl, rfl⟩
  · cases h
theorem jm_ty : Try.prog.underlying 76 = some (.map 2 48) := Try.underlying76
theorem jb_zero (w : World) : (zeroValue 48).run Try.prog w = .ok (.agg #[.int .i64 0, .int .i64 0, .int .i64 0, .int .i64 0, .int .i64 0, .int .i64 0, .int .i64 0]) w := by kernel_rfl
/-- The map in block b, with at most n entries, has just what f says. -/
structure JM (w : World) (b n : Nat) (f : Int → Option Jb) : Prop where
  own : ∃ D : DataW Jb, w.ownsMap Try.prog 2 jbE b n D ∧ (∀ x, Maps.has D (jkI x) = (f x).isSome) ∧ ∀ x j, f x = some j → ∀ z, D.atKey (jkI x) z = .held j
section
variable {w w' : World} {b n : Nat} {f : Int → Option Jb}
theorem JM.lt (h : JM w b n f) : b < w.heap.size := by obtain ⟨D, h1, _⟩ := h.own; exact h1.lt
theorem JM.block (h : JM w b n f) (hb : w'.heap[b]? = w.heap[b]?) : JM w' b n f := by
  obtain ⟨D, ⟨es, cl, h1, h2⟩, h3⟩ := h.own
  exact ⟨D, ⟨es, cl, hb.trans h1, h2⟩, h3⟩
theorem JM.below (h : JM w b n f) (hb : Below w.heap.size w w') : JM w' b n f := h.block (hb.block b h.lt)
theorem JM.made (w : World) : JM (w.alloc (.map #[] 0)) w.heap.size 0 (fun _ => none) := ⟨.map [], World.ownsMap_made _ _ _ _, fun _ => rfl, fun _ _ h => by cases h⟩
theorem JM.conv {g : Int → Option Jb} (h : JM w b n f) (e : ∀ x, f x = g x) : JM w b n g := by
  have : f = g := funext e
  subst this; exact h
theorem JM.look_ok (h : JM w b n f) {x : Int} (hx : (Lit.int .i64 x).wf = true) {j : Jb} (hj : j = (f x).getD default) :
    (Instr.lookup 76 (.map (some b)) (.int .i64 x) true).run Try.prog w = .ok (.tuple #[.agg #[.int .i64 j.id, .int .i64 j.co, .int .i64 j.ti, .int .i64 j.se, .int .i64 j.du, .int .i64 j.we, .int .i64 j.ki], .bool (f x).isSome]) w := by
  obtain ⟨D, h1, h2, h3⟩ := h.own
  obtain ⟨v, ps, hrun, hv⟩ := h1.look_ok jI_law jm_ty (jb_zero w) (jbE_mk default) (jI_key hx)
  obtain ⟨u, rfl, hu⟩ := jbE_inv hv
  injection hu with hu _
  rw [hrun, h2 x]
  have e : u = j := by
    rw [hj]
    cases hf : f x with
    | none =>
      have hn : Maps.has D (jkI x) = false := by rw [h2, hf]; rfl
      rw [atKey_of_not_has hn] at hu
      injection hu with hu
      exact hu.symm
    | some q =>
      rw [h3 x q hf] at hu
      injection hu with hu
      exact hu.symm
  rw [e]
theorem JM.put (h : JM w b n f) (hn : n ≤ 1000000) {x : Int} {j : Jb} (hx : (Lit.int .i64 x).wf = true) :
    ∃ w', (Instr.mapUpdate 76 (.map (some b)) (.int .i64 x) (.agg #[.int .i64 j.id, .int .i64 j.co, .int .i64 j.ti, .int .i64 j.se, .int .i64 j.du, .int .i64 j.we, .int .i64 j.ki])).run Try.prog w = .ok () w' ∧ JM w' b (n + 1) (fun q => if x = q then some j else f q) ∧ w.grownBy w' (some b) := by
  obtain ⟨D, h1, h2, h3⟩ := h.own
  obtain ⟨w', hrun, r1, r2⟩ := h1.update jI_law jm_ty (by unfold maxLen; omega) (jI_key hx) (jbE_mk j)
  refine ⟨w', hrun, ⟨_, r1, fun q => ?_, fun q u hu z => ?_⟩, r2⟩
  · by_cases e : x = q
    · subst e
      rw [if_pos rfl]
      exact has_put_same h1.isMap (jkI_lit _) _
    · rw [if_neg e, has_put_other (jkI_ne e)]
      exact h2 q
  · by_cases e : x = q
    · subst e
      rw [if_pos rfl] at hu
      cases hu
      exact atKey_put_same h1.isMap (jkI_lit _) _ _
    · rw [if_neg e] at hu
      rw [atKey_put_other (jkI_ne e)]
      exact h3 q u hu z
end
/-- 'delete(m, k)' at the operation. -/
theorem wpList_del_jm {w : World} {ops : Array Oper} {rest : List Oper} {o : Oper} {a : Act} {Q : Exit → Act → World → Prop} (hg : o.guard = none) (m x : Operand) (hop : o.op = Op.call { callee := Callee.builtin Builtin.delete, args := #[m, x], argTypes := #[76, 2] })
    (b n : Nat) (f : Int → Option Jb) (hm : a.eval m = .map (some b)) (hT : JM w b n f) (y : Int) (hx : a.eval x = .int .i64 y) (hw : (Lit.int .i64 y).wf = true)
    (hK : ∀ w', JM w' b n (fun q => if y = q then none else f q) → w.grownBy w' (some b) → w'.heap.size = w.heap.size → wpList Try.prog ops Q rest (a.put o.dst (.tuple #[])) w') :
    wpList Try.prog ops Q (o :: rest) a w := by
  obtain ⟨D, h1, h2, h3⟩ := hT.own
  refine wpList_plain hg fun K' hK' => ?_
  obtain ⟨w', hrun, r1, r3⟩ := h1.drop jI_law jm_ty (jI_key hw) o.type
  unfold Oper.wp
  simp [execOp, hop, resolve, invoke, builtin, hm, hx, hrun, Result.andThen]
  refine hK' _ _ (hK w' ⟨_, r1, fun q => ?_, fun q u hu z => ?_⟩ r3.grown ?_)
  · by_cases e : y = q
    · subst e; rw [if_pos rfl]; exact has_del_same
    · rw [if_neg e, has_del_other (jkI_ne e)]; exact h2 q
  · by_cases e : y = q
    · subst e; rw [if_pos rfl] at hu; cases hu
    · rw [if_neg e] at hu; rw [atKey_del_other (jkI_ne e)]; exact h3 q u hu z
  · obtain ⟨es, cl, es', cl', _, rfl⟩ := r3
    simp [ChangeMaps.setBlock]

end Go.Proofs.Ytecobfhlpjlpkaa
