/- Proved here: a map from names to numbers that the call has made: what it holds is a function; looking up, and writing one name. -/
import Derived.Test.YtafghanpfnhkpaaDoorStrL
import Derived.Test.YtafghanpfnhkpaaDoorProg
import Derived.Test.YtafghanpfnhkpaaDoorUnd
import Derived.Maps.Own
import Derived.Maps.Views
import Derived.Maps.OwnSet
import Derived.StringKeys
namespace Go.Proofs.YtafghanpfnhkpaaDoor
open Go.RowKit Go.WideMaps Go.Maps
set_option linter.unusedVariables false
set_option linter.unusedSimpArgs false

theorem nk_law : Keyed Tryd.prog 9 := string_keyed Tryd.underlying9
theorem nk_zero (w : World) : (zeroValue 2).run Tryd.prog w = .ok (.int .i64 0) w := by kernel_rfl
theorem nk_make (v : Int) (w : World) : (Instr.makeMap 64 (some (.int .i64 v))).run Tryd.prog w = .ok (.map (some w.heap.size)) (w.alloc (.map #[] 0)) := by
  have h := run_underlying Tryd.underlying64 w
  simp [Instr.makeMap, h, asInt]
  rfl

/-- The map in block b tells cnt of each name. -/
structure MN (w : World) (b n : Nat) (cnt : ByteArray → Int) : Prop where
  own : ∃ D : DataW Unit, w.ownsMap Tryd.prog 9 (plainElem Tryd.prog 2) b n D ∧ ∀ s : ByteArray, s.size ≤ maxLen → D.atKey (.string s.data.toList) (.lit (.int .i64 0)) = .lit (.int .i64 (cnt s))
theorem MN.lt {w : World} {b n : Nat} {cnt : ByteArray → Int} (h : MN w b n cnt) : b < w.heap.size := by
  obtain ⟨D, h1, _⟩ := h.own; exact h1.lt
theorem MN.block {w w' : World} {b n : Nat} {cnt : ByteArray → Int} (h : MN w b n cnt) (hb : w'.heap[b]? = w.heap[b]?) : MN w' b n cnt := by
  obtain ⟨D, ⟨es, cl, h1, h2⟩, h3⟩ := h.own
  exact ⟨D, ⟨es, cl, hb.trans h1, h2⟩, h3⟩
theorem MN.below {w w' : World} {b n : Nat} {cnt : ByteArray → Int} (h : MN w b n cnt) (hb : Below w.heap.size w w') : MN w' b n cnt := h.block (hb.block b h.lt)
theorem MN.made (w : World) : MN (w.alloc (.map #[] 0)) w.heap.size 0 (fun _ => 0) :=
  ⟨.map [], World.ownsMap_made _ _ _ _, fun s _ => rfl⟩
theorem MN.look {w : World} {b n : Nat} {cnt : ByteArray → Int} (h : MN w b n cnt) {s : ByteArray} (hs : s.size ≤ maxLen) : (Instr.lookup 64 (.map (some b)) (.string s) false).run Tryd.prog w = .ok (.int .i64 (cnt s)) w := by
  obtain ⟨D, h1, h2⟩ := h.own
  obtain ⟨c, hrun, hat, _⟩ := h1.lookup_int nk_law Tryd.underlying64 Tryd.underlying2 (nk_zero _) (keyOf_string_mk Tryd.underlying9 hs)
  rw [h2 s hs] at hat
  simp only [DataW.lit.injEq, Lit.int.injEq, true_and] at hat
  rw [hrun, hat]
theorem data_ne {x y : ByteArray} (h : ¬ x = y) : (Lit.string x.data.toList) ≠ .string y.data.toList := by
  intro e
  injection e with e
  exact h (ByteArray.ext (Array.toList_inj.1 e))
theorem MN.put {w w' : World} {b n : Nat} {cnt : ByteArray → Int} (h : MN w b n cnt) {s : ByteArray} (hs : s.size ≤ maxLen) {D : DataW Unit} (hD : w.ownsMap Tryd.prog 9 (plainElem Tryd.prog 2) b n D) (hat : ∀ s : ByteArray, s.size ≤ maxLen → D.atKey (.string s.data.toList) (.lit (.int .i64 0)) = .lit (.int .i64 (cnt s))) {v : Int}
    (hw : w'.ownsMap Tryd.prog 9 (plainElem Tryd.prog 2) b (n + 1) (D.put (.string s.data.toList) (.lit (.int .i64 v)))) : MN w' b (n + 1) (fun q => if s = q then v else cnt q) := by
  refine ⟨_, hw, fun q hq => ?_⟩
  by_cases e : s = q
  · subst e
    rw [if_pos rfl]
    exact atKey_put_same hD.isMap (by simp [WideAt.IsKeyLit]) _ _
  · rw [if_neg e, atKey_put_other (data_ne (fun h => e h.symm))]
    exact hat q hq

end Go.Proofs.YtafghanpfnhkpaaDoor
