/- Proved here: 'inside' of the program. (And ahead of it: Proved here: a map from numbers to numbers that the call has made: looking up with whether it is there, writing.) -/
import Derived.Test.YtcfjanignfbidaaUnd
import Derived.Test.YtcfjanignfbidaaProg
import Derived.Maps.Own
import Derived.Maps.Views
import Derived.Maps.OwnSet
import Derived.Test.YtcfjanignfbidaaIntsBase
namespace Go.Proofs.Ytcfjanignfbidaa
open Go.RowKit Go.Maps
set_option linter.unusedVariables false
set_option linter.unusedSimpArgs false

def ikI (x : Int) : Lit := .int .i64 x
theorem ikI_lit (x : Int) : WideAt.IsKeyLit (ikI x) := by simp [ikI, WideAt.IsKeyLit]
theorem ikI_ne {x y : Int} (h : ¬ x = y) : ikI y ≠ ikI x := by
  intro e; unfold ikI at e; injection e with _ e; exact h e.symm
theorem ikI_same (x : Int) : (ikI x).sameKey (ikI x) = true := WideAt.sameKey_self (ikI_lit x)
theorem kI_law : Keyed Try.prog 2 := int_keyed Try.underlying2
theorem kI_key {x : Int} (h : (Lit.int .i64 x).wf = true) : keyOf Try.prog 2 (.int .i64 x) = some (ikI x) := keyOf_int_mk Try.underlying2 h
theorem wf64 {x : Int} (h : -1000000000000 ≤ x ∧ x ≤ 1000000000000) : (Lit.int .i64 x).wf = true := WalkArith.wf_i64 (by omega)
/-- The map in block b, with at most n entries, has just what f says. -/
structure IM (E : TypeId) (w : World) (b n : Nat) (f : Int → Option Int) : Prop where
  own : ∃ D : DataW Unit, w.ownsMap Try.prog 2 (plainElem Try.prog E) b n D ∧ (∀ x, D.atKey (ikI x) (.lit (.int .i64 0)) = .lit (.int .i64 ((f x).getD 0))) ∧ ∀ x, Maps.has D (ikI x) = (f x).isSome
section
variable {E T : TypeId} {w w' : World} {b n : Nat} {f : Int → Option Int}
theorem IM.lt (h : IM E w b n f) : b < w.heap.size := by obtain ⟨D, h1, _⟩ := h.own; exact h1.lt
theorem IM.block (h : IM E w b n f) (hb : w'.heap[b]? = w.heap[b]?) : IM E w' b n f := by
  obtain ⟨D, ⟨es, cl, h1, h2⟩, h3⟩ := h.own
  exact ⟨D, ⟨es, cl, hb.trans h1, h2⟩, h3⟩
theorem IM.below (h : IM E w b n f) (hb : Below w.heap.size w w') : IM E w' b n f := h.block (hb.block b h.lt)
theorem IM.made (E : TypeId) (w : World) : IM E (w.alloc (.map #[] 0)) w.heap.size 0 (fun _ => none) := ⟨.map [], World.ownsMap_made _ _ _ _, fun _ => rfl, fun _ => rfl⟩
theorem IM.conv {g : Int → Option Int} (h : IM E w b n f) (e : ∀ x, f x = g x) : IM E w b n g := by
  have : f = g := funext e
  subst this; exact h
theorem IM.mono {n' : Nat} (h : IM E w b n f) (hn : n ≤ n') : IM E w b n' f := by
  obtain ⟨D, h1, h2⟩ := h.own; exact ⟨D, h1.mono hn, h2⟩
theorem IM.look (h : IM E w b n f) (hT : Try.prog.underlying T = some (.map 2 E)) (hE : Try.prog.underlying E = some (.int .i64)) (hz : (zeroValue E).run Try.prog w = .ok (.int .i64 0) w) {x : Int} (hx : (Lit.int .i64 x).wf = true) :
    (Instr.lookup T (.map (some b)) (.int .i64 x) false).run Try.prog w = .ok (.int .i64 ((f x).getD 0)) w := by
  obtain ⟨D, h1, h2, _⟩ := h.own
  obtain ⟨c, hrun, hat, _⟩ := h1.lookup_int kI_law hT hE hz (kI_key hx)
  rw [h2 x] at hat
  simp only [DataW.lit.injEq, Lit.int.injEq, true_and] at hat
  rw [hrun, hat]
theorem IM.look_ok (h : IM E w b n f) (hT : Try.prog.underlying T = some (.map 2 E)) (hE : Try.prog.underlying E = some (.int .i64)) (hz : (zeroValue E).run Try.prog w = .ok (.int .i64 0) w) {x : Int} (hx : (Lit.int .i64 x).wf = true) :
    (Instr.lookup T (.map (some b)) (.int .i64 x) true).run Try.prog w = .ok (.tuple #[.int .i64 ((f x).getD 0), .bool (f x).isSome]) w := by
  obtain ⟨D, h1, h2, h3⟩ := h.own
  obtain ⟨v, ps, hrun, hv⟩ := h1.look_ok kI_law hT hz (plainElem_int hE (a := 0) (by decide)) (kI_key hx)
  rw [h2 x] at hv
  obtain ⟨c, rfl, hc, _⟩ := plainElem_int_inv hE hv
  simp only [Prod.mk.injEq, DataW.lit.injEq, Lit.int.injEq, true_and] at hc
  rw [hrun, h3 x, hc.1]
theorem IM.put (h : IM E w b n f) (hT : Try.prog.underlying T = some (.map 2 E)) (hE : Try.prog.underlying E = some (.int .i64)) (hn : n ≤ 1000000) {x v : Int} (hx : (Lit.int .i64 x).wf = true) (hv : (Lit.int .i64 v).wf = true) :
    ∃ w', (Instr.mapUpdate T (.map (some b)) (.int .i64 x) (.int .i64 v)).run Try.prog w = .ok () w' ∧ IM E w' b (n + 1) (fun q => if x = q then some v else f q) ∧ w.grownBy w' (some b) := by
  obtain ⟨D, h1, h2, h3⟩ := h.own
  obtain ⟨w', hrun, r1, r2⟩ := h1.update kI_law hT (by unfold maxLen; omega) (kI_key hx) (plainElem_int hE hv)
  refine ⟨w', hrun, ⟨_, r1, fun q => ?_, fun q => ?_⟩, r2⟩
  · by_cases e : x = q
    · subst e
      rw [if_pos rfl]
      exact atKey_put_same h1.isMap (ikI_lit _) _ _
    · rw [if_neg e, atKey_put_other (ikI_ne e)]
      exact h2 q
  · by_cases e : x = q
    · subst e
      rw [if_pos rfl]
      exact has_put_same h1.isMap (ikI_lit _) _
    · rw [if_neg e, has_put_other (ikI_ne e)]
      exact h3 q
end

end Go.Proofs.Ytcfjanignfbidaa

namespace Go.Proofs.Ytcfjanignfbidaa
open Go.RowKit
set_option linter.unusedVariables false
set_option linter.unusedSimpArgs false

set_option maxHeartbeats 800000 in
theorem impl_insC (n a b : Int) (r : Bool) (hr : r = decide (a ≤ n ∧ n ≤ b)) (w : World) : Calls Try.prog 62 #[.int .i64 n, .int .i64 a, .int .i64 b] w fun e w' => e = .returned (.bool r) ∧ w' = w := by
  have H : Hid ((¬ a ≤ n → r = false) ∧ (a ≤ n → n ≤ b → r = true) ∧ (a ≤ n → ¬ n ≤ b → r = false)) := by
    unfold Hid; rw [hr]
    exact ⟨fun h => by simp [h], fun h1 h2 => by simp [h1, h2], fun h1 h2 => by simp [h1, h2]⟩
  clear hr
  by_cases h1 : a ≤ n
  · by_cases h2 : n ≤ b
    · obtain rfl := H.out.2.1 h1 h2
      go_enter Try.func62, Try.ntmps62
      go_wp2
      go_returns
      exact ⟨rfl, rfl⟩
    · obtain rfl := H.out.2.2 h1 h2
      go_enter Try.func62, Try.ntmps62
      go_wp2
      go_returns
      exact ⟨rfl, rfl⟩
  · obtain rfl := H.out.1 h1
    go_enter Try.func62, Try.ntmps62
    go_wp2
    go_returns
    exact ⟨rfl, rfl⟩

end Go.Proofs.Ytcfjanignfbidaa
