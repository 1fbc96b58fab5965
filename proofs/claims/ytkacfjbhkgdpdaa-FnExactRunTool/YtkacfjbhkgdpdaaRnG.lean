/- Proved here: a log of a tool under way in memory: a code, a run and the tool put into it. -/
import Derived.Test.YtkacfjbhkgdpdaaMkI
import Derived.Deep.AppendLies
namespace Go.Proofs.Ytkacfjbhkgdpdaa
open Go.RowKit
set_option linter.unusedVariables false
set_option linter.unusedSimpArgs false

structure GT (V W : World) (K : Nat) (x : Ts) (vt vc vr : Value) (s : List Ap) (cs : List Int) (rs : List Ap) : Prop where
  bl : Below V.heap.size V W
  t : OG 72 2 apC W V.heap.size vt s
  c : IS W V.heap.size vc cs
  r : OG 72 2 apC W V.heap.size vr rs
  o : W.heap[K]? = some (.cells #[.int .i64 0, .int .i64 x.A, .string x.R, .int .i64 x.S, .int .i64 x.U, .int .i64 x.L, .bool x.Q, vt, vc, vr] 47)
  lo : V.heap.size ≤ K
  tc : ∀ g, vt.ownBlock = some g → vc.ownBlock ≠ some g
  tr : ∀ g, vt.ownBlock = some g → vr.ownBlock ≠ some g
  cr : ∀ g, vc.ownBlock = some g → vr.ownBlock ≠ some g
  ko : vt.ownBlock ≠ some K ∧ vc.ownBlock ≠ some K ∧ vr.ownBlock ≠ some K
theorem og_keep {W W' : World} {B : Nat} {v : Value} {s : List Ap} (h : OG 72 2 apC W B v s) (hk : ∀ q, v.ownBlock = some q → W'.heap[q]? = W.heap[q]?) : OG 72 2 apC W' B v s := ownsRow_keep h hk
theorem GT.bel {V W W1 : World} {K : Nat} {x : Ts} {vt vc vr : Value} {s : List Ap} {cs : List Int} {rs : List Ap} (h : GT V W K x vt vc vr s cs rs) (hb : Below W.heap.size W W1) : GT V W1 K x vt vc vr s cs rs :=
  ⟨h.bl.trans (hb.mono h.bl.size), OG.below h.t hb, h.c.bel hb, OG.below h.r hb, (hb.block _ (ltOf h.o)).trans h.o, h.lo, h.tc, h.tr, h.cr, h.ko⟩
theorem GT.appC {V W1 w6 : World} {K : Nat} {x : Ts} {vt vc vr v6 : Value} {s : List Ap} {cs M : List Int} {rs : List Ap} {z : Int} (h : GT V W1 K x vt vc vr s cs rs) (hM : M = cs ++ [z]) (hown : IS w6 V.heap.size v6 (cs ++ [z])) (hg : W1.grownBy w6 vc.ownBlock) (hat : v6.ownBlock = vc.ownBlock ∨ v6.ownBlock = some W1.heap.size) : GT V (w6.setCell ⟨K, 8, none⟩ v6) K x vt v6 vr s M rs := by
  subst hM
  have hne : ∀ q, v6.ownBlock = some q → vc.ownBlock = some q ∨ q = W1.heap.size := fun q hq => by
    rcases hat with e | e
    · exact Or.inl (by rw [← e]; exact hq)
    · rw [e] at hq; exact Or.inr (Option.some.inj hq).symm
  have hKl := ltOf h.o
  have h6 : ∀ q, q < W1.heap.size → vc.ownBlock ≠ some q → w6.heap[q]? = W1.heap[q]? := fun q h1 h2 => hg.block q h1 (fun e => h2 e.symm)
  have hK6 := (h6 K hKl h.ko.2.1).trans h.o
  have hoff : ∀ p, p ≠ K → (w6.setCell ⟨K, 8, none⟩ v6).heap[p]? = w6.heap[p]? := fun p hp => heap_setCell_other _ _ _ _ (by simpa using hp)
  have hK : v6.ownBlock ≠ some K := fun e => by
    rcases hne K e with e1 | e1
    · exact h.ko.2.1 e1
    · omega
  refine ⟨below_setCells K h.lo [v6] 8 _ (h.bl.grown hg h.bl.size (fun q hq => (IS.lt h.c q hq).1)), ?_, hown.kept fun p hp => hoff p (fun e => hK (by rw [← e]; exact hp)), ?_, ?_, h.lo, fun g h1 h2 => ?_, h.tr, fun g h1 h2 => ?_, ⟨h.ko.1, hK, h.ko.2.2⟩⟩
  · exact og_keep h.t fun p hp => (hoff p (fun e => h.ko.1 (by rw [← e]; exact hp))).trans (h6 p (OG.lt h.t p hp).2 (h.tc p hp))
  · exact og_keep h.r fun p hp => (hoff p (fun e => h.ko.2.2 (by rw [← e]; exact hp))).trans (h6 p (OG.lt h.r p hp).2 (fun e => h.cr p e hp))
  · have s8 := heap_setCell_same _ _ 8 _ _ v6 hK6
    simpa using s8
  · rcases hne g h2 with e | e
    · exact h.tc g h1 e
    · have := (OG.lt h.t g h1).2; omega
  · rcases hne g h1 with e | e
    · exact h.cr g e h2
    · have := (OG.lt h.r g h2).2; omega
theorem GT.appR {V W1 w6 : World} {K : Nat} {x : Ts} {vt vc vr v6 : Value} {s : List Ap} {cs : List Int} {rs M : List Ap} {z : Ap} (h : GT V W1 K x vt vc vr s cs rs) (hM : M = rs ++ [z]) (hown : OG 72 2 apC w6 V.heap.size v6 (rs ++ [z])) (hg : W1.grownBy w6 vr.ownBlock) (hat : v6.ownBlock = vr.ownBlock ∨ v6.ownBlock = some W1.heap.size) : GT V (w6.setCell ⟨K, 9, none⟩ v6) K x vt vc v6 s cs M := by
  subst hM
  have hne : ∀ q, v6.ownBlock = some q → vr.ownBlock = some q ∨ q = W1.heap.size := fun q hq => by
    rcases hat with e | e
    · exact Or.inl (by rw [← e]; exact hq)
    · rw [e] at hq; exact Or.inr (Option.some.inj hq).symm
  have hKl := ltOf h.o
  have h6 : ∀ q, q < W1.heap.size → vr.ownBlock ≠ some q → w6.heap[q]? = W1.heap[q]? := fun q h1 h2 => hg.block q h1 (fun e => h2 e.symm)
  have hK6 := (h6 K hKl h.ko.2.2).trans h.o
  have hoff : ∀ p, p ≠ K → (w6.setCell ⟨K, 9, none⟩ v6).heap[p]? = w6.heap[p]? := fun p hp => heap_setCell_other _ _ _ _ (by simpa using hp)
  have hK : v6.ownBlock ≠ some K := fun e => by
    rcases hne K e with e1 | e1
    · exact h.ko.2.2 e1
    · omega
  refine ⟨below_setCells K h.lo [v6] 9 _ (h.bl.grown hg h.bl.size (fun q hq => (OG.lt h.r q hq).1)), ?_, ?_, og_keep hown fun p hp => hoff p (fun e => hK (by rw [← e]; exact hp)), ?_, h.lo, h.tc, fun g h1 h2 => ?_, fun g h1 h2 => ?_, ⟨h.ko.1, h.ko.2.1, hK⟩⟩
  · exact og_keep h.t fun p hp => (hoff p (fun e => h.ko.1 (by rw [← e]; exact hp))).trans (h6 p (OG.lt h.t p hp).2 (h.tr p hp))
  · exact h.c.kept fun p hp => (hoff p (fun e => h.ko.2.1 (by rw [← e]; exact hp))).trans (h6 p (IS.lt h.c p hp).2 (h.cr p hp))
  · have s9 := heap_setCell_same _ _ 9 _ _ v6 hK6
    simpa using s9
  · rcases hne g h2 with e | e
    · exact h.tr g h1 e
    · have := (OG.lt h.t g h1).2; omega
  · rcases hne g h2 with e | e
    · exact h.cr g h1 e
    · have := (IS.lt h.c g h1).2; omega
/-- The tool put into the log: its seven cells. -/
def putT (W : World) (K : Nat) (y : Ts) (v : Value) : World := ((((((W.setCell ⟨K, 1, none⟩ (.int .i64 y.A)).setCell ⟨K, 2, none⟩ (.string y.R)).setCell ⟨K, 3, none⟩ (.int .i64 y.S)).setCell ⟨K, 4, none⟩ (.int .i64 y.U)).setCell ⟨K, 5, none⟩ (.int .i64 y.L)).setCell ⟨K, 6, none⟩ (.bool y.Q)).setCell ⟨K, 7, none⟩ v
theorem GT.tool {V W : World} {K : Nat} {x y : Ts} {vt vc vr v : Value} {s : List Ap} {cs : List Int} {rs : List Ap} (h : GT V W K x vt vc vr s cs rs) (ht : OG 72 2 apC W V.heap.size v s) (hn : ∀ q, v.ownBlock = some q → q ≠ K ∧ vc.ownBlock ≠ some q ∧ vr.ownBlock ≠ some q) : GT V (putT W K y v) K y v vc vr s cs rs := by
  have hoff : ∀ p, p ≠ K → (putT W K y v).heap[p]? = W.heap[p]? := fun p hp => by
    unfold putT
    rw [heap_setCell_other _ _ _ _ (by simpa using hp), heap_setCell_other _ _ _ _ (by simpa using hp), heap_setCell_other _ _ _ _ (by simpa using hp), heap_setCell_other _ _ _ _ (by simpa using hp), heap_setCell_other _ _ _ _ (by simpa using hp), heap_setCell_other _ _ _ _ (by simpa using hp), heap_setCell_other _ _ _ _ (by simpa using hp)]
  refine ⟨?_, og_keep ht fun q hq => hoff q (hn q hq).1, h.c.kept fun q hq => hoff q (fun e => h.ko.2.1 (by rw [← e]; exact hq)), og_keep h.r fun q hq => hoff q (fun e => h.ko.2.2 (by rw [← e]; exact hq)), ?_, h.lo, fun g hg => (hn g hg).2.1, fun g hg => (hn g hg).2.2, h.cr, ⟨fun e => (hn K e).1 rfl, h.ko.2⟩⟩
  · unfold putT
    exact below_setCells K h.lo [v] 7 _ (below_setCells K h.lo [.bool y.Q] 6 _ (below_setCells K h.lo [.int .i64 y.L] 5 _ (below_setCells K h.lo [.int .i64 y.U] 4 _ (below_setCells K h.lo [.int .i64 y.S] 3 _ (below_setCells K h.lo [.string y.R] 2 _ (below_setCells K h.lo [.int .i64 y.A] 1 _ h.bl))))))
  · unfold putT
    have s1 := heap_setCell_same _ _ 1 _ _ (.int .i64 y.A) h.o
    have s2 := heap_setCell_same _ _ 2 _ _ (.string y.R) s1
    have s3 := heap_setCell_same _ _ 3 _ _ (.int .i64 y.S) s2
    have s4 := heap_setCell_same _ _ 4 _ _ (.int .i64 y.U) s3
    have s5 := heap_setCell_same _ _ 5 _ _ (.int .i64 y.L) s4
    have s6 := heap_setCell_same _ _ 6 _ _ (.bool y.Q) s5
    have s7 := heap_setCell_same _ _ 7 _ _ v s6
    simpa using s7

end Go.Proofs.Ytkacfjbhkgdpdaa
