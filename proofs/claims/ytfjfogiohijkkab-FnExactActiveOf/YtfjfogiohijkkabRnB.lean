/- Proved here: Regions that draw their order, inside a round of a range over a function: what the plain walk shows serves there. No condition on the program. -/
import Derived.Test.YtfjfogiohijkkabReg
import Derived.RangeFuncNested
import Derived.RangeFuncBound
import Derived.RangeFuncCalls
import Derived.OrdersIn
import Derived.TacticsInMore
namespace Go.Proofs.Ytfjfogiohijkkab
open Go.RowKit

/-- It goes on; no other way out. -/
def OnlyN (K : Act → World → Prop) : Exit → Act → World → Prop
  | .normal, a, w => K a w
  | _, _, _ => False
def noDefer (ops : Array Oper) : Bool := ops.all fun o => match o.op with | .defer _ => false | _ => true
theorem noDefer_at {ops : Array Oper} (h : noDefer ops = true) {i : Nat} {o : Oper} (ho : ops[i]? = some o) : ∀ c, o.op ≠ .defer c := by
  intro c e
  obtain ⟨hi, rfl⟩ := Array.getElem?_eq_some_iff.1 ho
  have := Array.all_eq_true.1 h i hi
  rw [e] at this
  cases this
theorem rowsIn_wide {n : Nat} {P : Program} {row : String} {args : Array Value} {w : World} {R : Value → World → Prop} (h : Rows P row args w R) : RowsIn Fence.wide n P row args w R :=
  fun c cs _ => let ⟨v, w', r, s⟩ := h c cs; ⟨v, w', r, stepsIn_wide.2 s⟩
theorem wpOps_round {P : Program} {ops : Array Oper} {K : Act → World → Prop} (hnd : noDefer ops = true) (lp n : Nat) : ∀ (l : List Nat) (a : Act) (w : World), wpOps P ops (NoPanic (OnlyN K)) l a w → wpOpsIn (Fence.wide.inRound lp) n P ops (NoPanic (OnlyN K)) l a w := by
  have hno : ¬ LetsOut (NoPanic (OnlyN K)) := fun ⟨_, _, h⟩ => h
  intro l
  induction l with
  | nil => intro a w h; exact h
  | cons i rest ih =>
    intro a w h
    simp only [wpOps, wpOpsIn] at h ⊢
    cases ho : ops[i]? with
    | none => simp only [ho] at h ⊢; exact ih _ _ h
    | some o =>
      simp only [ho] at h ⊢
      by_cases hw : Region.wanted o (yielded ops a.tmps) = true
      · simp only [hw, if_true] at h ⊢
        rcases h with h | h
        · refine ⟨fun _ _ => trivial, ?_⟩
          unfold Oper.wp at h
          show Oper.uponIn _ _ _ _ _ _ _ ((o.semAt (some lp) a.eval).run P w)
          rw [Oper.semAt_some lp a.eval o (noDefer_at hnd ho)]
          generalize (execOp a.eval o).run P w = r at h
          cases r with
          | ok x w' =>
            cases x with
            | value v => exact ih _ _ h
            | skip => exact ih _ _ h
            | defer d => exact ih _ _ h
            | enter f args =>
              refine ⟨fun e => (by cases e), CallsIn.inRound lp (callsIn_wide.2 (Calls.mono h fun e w'' he => ?_))⟩
              cases e with
              | returned v => exact ih _ _ he
              | panicked c => exact he
              | outgrown => exact he
            | row row args => exact ⟨fun e => (by cases e), fun c cs hr => rowsIn_wide (Rows.mono h fun v w'' he => ih _ _ he) c cs hr⟩
            | _ => exact h.elim
          | halt x w' =>
            cases x with
            | panic v => exact h
            | _ => exact h.elim
        · exact absurd h.2 hno
      · simp only [hw, if_false, Bool.false_eq_true] at h ⊢
        exact ⟨fun _ _ => trivial, ih _ _ h⟩
/-- A region that draws its order, in a round. -/
theorem region_round {P : Program} {ops : Array Oper} {K : Act → World → Prop} {Q : Exit → Act → World → Prop} {S : World → Prop} {id lp n : Nat} {a : Act} {w : World} (hm : P.follows .mixedOrders = true) (hnd : noDefer ops = true) (h0 : S w.drew)
    (h : S w.drew → wpAnyH P .any ops (NoPanic (OnlyN K)) S ops.size (Array.replicate ops.size false) a w.drew) (hK : ∀ a w, K a w → Q .normal a w) : (Code.region id ops true).wpIn (Fence.wide.inRound lp) n P Q a w := by
  refine wpIn_mono (Q := NoPanic (OnlyN K)) ?_ ?_
  · refine wpIn_region_draw fun t => wpOps_round hnd lp n _ _ _ ?_
    simp only [Region.schedule, hm, Bool.true_or, if_true]
    exact wpAny_sound ops.size t _ a _ (wpAny_of_held _ _ _ _ (h h0))
  · intro e a' w' h'
    cases e <;> first | exact hK _ _ h' | exact (h' : False).elim

end Go.Proofs.Ytfjfogiohijkkab
