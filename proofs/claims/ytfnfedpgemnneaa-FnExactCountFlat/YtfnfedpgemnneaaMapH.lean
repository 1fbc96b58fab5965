/- Proved here: as MapN, with which names are there: 'v, ok := m[k]'. -/
import Derived.Test.YtfnfedpgemnneaaMapN
namespace Go.Proofs.Ytfnfedpgemnneaa
open Go.RowKit Go.WideMaps Go.Maps
set_option linter.unusedVariables false
set_option linter.unusedSimpArgs false

structure MH (w : World) (b n : Nat) (cnt : ByteArray → Int) (hs : ByteArray → Bool) : Prop where
  own : ∃ D : DataW Unit, w.ownsMap Try.prog 9 (plainElem Try.prog 2) b n D ∧ (∀ s : ByteArray, s.size ≤ maxLen → D.atKey (.string s.data.toList) (.lit (.int .i64 0)) = .lit (.int .i64 (cnt s))) ∧ ∀ s : ByteArray, Maps.has D (.string s.data.toList) = hs s
theorem MH.mn {w : World} {b n : Nat} {cnt : ByteArray → Int} {hs : ByteArray → Bool} (h : MH w b n cnt hs) : MN w b n cnt := by
  obtain ⟨D, h1, h2, _⟩ := h.own; exact ⟨D, h1, h2⟩
theorem MH.lt {w : World} {b n : Nat} {cnt : ByteArray → Int} {hs : ByteArray → Bool} (h : MH w b n cnt hs) : b < w.heap.size := h.mn.lt
theorem MH.below {w w' : World} {b n : Nat} {cnt : ByteArray → Int} {hs : ByteArray → Bool} (h : MH w b n cnt hs) (hb : Below w.heap.size w w') : MH w' b n cnt hs := by
  have hl := h.lt
  obtain ⟨D, ⟨es, cl, h1, h2⟩, h3⟩ := h.own
  exact ⟨D, ⟨es, cl, (hb.block b hl).trans h1, h2⟩, h3⟩
theorem MH.made (w : World) : MH (w.alloc (.map #[] 0)) w.heap.size 0 (fun _ => 0) (fun _ => false) :=
  ⟨.map [], World.ownsMap_made _ _ _ _, fun s _ => rfl, fun s => rfl⟩
theorem MH.look {w : World} {b n : Nat} {cnt : ByteArray → Int} {hs : ByteArray → Bool} (h : MH w b n cnt hs) {s : ByteArray} (hl : s.size ≤ maxLen) : (Instr.lookup 56 (.map (some b)) (.string s) true).run Try.prog w = .ok (.tuple #[.int .i64 (cnt s), .bool (hs s)]) w := by
  obtain ⟨D, h1, h2, h3⟩ := h.own
  obtain ⟨v, ps, hrun, hv⟩ := h1.look_ok nk_law Try.underlying56 (nk_zero _) (plainElem_int Try.underlying2 (a := 0) (by decide)) (keyOf_string_mk Try.underlying9 hl)
  rw [h2 s hl] at hv
  obtain ⟨c, rfl, hc, _⟩ := plainElem_int_inv Try.underlying2 hv
  simp only [Prod.mk.injEq, DataW.lit.injEq, Lit.int.injEq, true_and] at hc
  rw [hrun, h3 s, hc.1]
theorem MH.put {w w' : World} {b n : Nat} {cnt : ByteArray → Int} {hs : ByteArray → Bool} {s : ByteArray} {D : DataW Unit} (hD : w.ownsMap Try.prog 9 (plainElem Try.prog 2) b n D) (hat : ∀ s : ByteArray, s.size ≤ maxLen → D.atKey (.string s.data.toList) (.lit (.int .i64 0)) = .lit (.int .i64 (cnt s))) (hh : ∀ s : ByteArray, Maps.has D (.string s.data.toList) = hs s) {v : Int}
    (hw : w'.ownsMap Try.prog 9 (plainElem Try.prog 2) b (n + 1) (D.put (.string s.data.toList) (.lit (.int .i64 v)))) : MH w' b (n + 1) (fun q => if s = q then v else cnt q) (fun q => if s = q then true else hs q) := by
  refine ⟨_, hw, fun q hq => ?_, fun q => ?_⟩
  · by_cases e : s = q
    · subst e
      rw [if_pos rfl]
      exact atKey_put_same hD.isMap (by simp [WideAt.IsKeyLit]) _ _
    · rw [if_neg e, atKey_put_other (data_ne (fun h => e h.symm))]
      exact hat q hq
  · by_cases e : s = q
    · subst e
      rw [if_pos rfl]
      exact has_put_same hD.isMap (by simp [WideAt.IsKeyLit]) _
    · rw [if_neg e, has_put_other (data_ne (fun h => e h.symm))]
      exact hh q

end Go.Proofs.Ytfnfedpgemnneaa
