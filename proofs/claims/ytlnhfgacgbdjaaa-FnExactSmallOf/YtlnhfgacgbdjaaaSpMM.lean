/- Proved here: the least and the greatest of two, of the model. (And ahead of it: Proved here: lists of shapes of the call's own; the parts of a shape, each in the one form, by their first boxes.) (And ahead of it: Proved here: lists of boxes of the call's own with any capacity: what keeps them. (And ahead of it: Proved here: the boxes of one label, in their order; a list of boxes of the call's own grows.)) -/
import Derived.Test.YtlnhfgacgbdjaaaPrF
import Derived.Test.YtlnhfgacgbdjaaaISweep
import Derived.Test.YtlnhfgacgbdjaaaRimA
namespace Go.Proofs.Ytlnhfgacgbdjaaa
open Go.RowKit
set_option linter.unusedVariables false
set_option linter.unusedSimpArgs false

/-- Of the first k boxes those that have a label. -/
def selB (s : List Bx) (F : Nat → Nat) (p : Nat) : Nat → List Bx
  | 0 => []
  | k + 1 => if F k = p then selB s F p k ++ [bat s k] else selB s F p k
theorem selB_len (s : List Bx) (F : Nat → Nat) (p k : Nat) : (selB s F p k).length ≤ k := by
  induction k with
  | zero => exact Nat.le_refl _
  | succ k ih =>
    simp only [selB]; split
    · simp; omega
    · omega
theorem selB_mem {s : List Bx} {F : Nat → Nat} {p k : Nat} {b : Bx} (h : b ∈ selB s F p k) : ∃ a, a < k ∧ F a = p ∧ b = bat s a := by
  induction k with
  | zero => cases h
  | succ k ih =>
    simp only [selB] at h
    split at h
    · rcases List.mem_append.1 h with h | h
      · obtain ⟨a, h1, h2⟩ := ih h; exact ⟨a, by omega, h2⟩
      · exact ⟨k, by omega, by assumption, by simpa using h⟩
    · obtain ⟨a, h1, h2⟩ := ih h; exact ⟨a, by omega, h2⟩
theorem selB_congr {s : List Bx} {F G : Nat → Nat} {p q k : Nat} (h : ∀ a, a < k → (F a = p ↔ G a = q)) : selB s F p k = selB s G q k := by
  induction k with
  | zero => rfl
  | succ k ih =>
    simp only [selB]
    rw [ih fun a ha => h a (by omega)]
    have := h k (by omega)
    by_cases e : F k = p
    · rw [if_pos e, if_pos (this.1 e)]
    · rw [if_neg e, if_neg fun e' => e (this.2 e')]
/-- A list of boxes of the call's own. -/
structure SW (w wr : World) (v : Value) (l : List Bx) : Prop where
  o : BS wr w.heap.size v l
  bl : Below w.heap.size w wr
theorem SW.push {w wr w1 : World} {v v' : Value} {l : List Bx} {b : Bx} {o1 o2 : Obj} (h : SW w wr v l) (ho : w1.ownsRow w.heap.size 44 4 v' (l.length + 1) (bflat l ++ bcells b)) (hg : ((wr.alloc o1).alloc o2).grownBy w1 v.ownBlock) : SW w w1 v' (l ++ [b]) := by
  have hsz := h.bl.size
  refine ⟨?_, ((h.bl.alloc hsz o1).alloc (by simp; omega) o2).grown hg (by simp; omega) (fun k hk => (World.ownsRow.lt h.o k hk).1)⟩
  unfold BS
  rw [bflat_append, List.length_append]
  have e : bflat [b] = bcells b := by simp [bflat]
  rw [e]; exact ho

end Go.Proofs.Ytlnhfgacgbdjaaa

namespace Go.Proofs.Ytlnhfgacgbdjaaa
open Go.RowKit
set_option linter.unusedVariables false
set_option linter.unusedSimpArgs false

theorem BC.kept {w w' : World} {B : Nat} {v : Value} {s : List Bx} (h : BC w B v s) (hb : ∀ g, v.ownBlock = some g → w'.heap[g]? = w.heap[g]?) : BC w' B v s := by
  obtain ⟨a, c, c', rfl, h⟩ := h
  exact ⟨a, c, c', rfl, h.kept fun g hg => hb g (by cases a <;> simp_all [Value.ownBlock])⟩
theorem BC.lt {w : World} {B g : Nat} {v : Value} {s : List Bx} (h : BC w B v s) (hg : v.ownBlock = some g) : B ≤ g := by
  obtain ⟨a, c, c', rfl, h⟩ := h
  exact (World.ownsRow.lt h g (by cases a <;> simp_all [Value.ownBlock])).1

end Go.Proofs.Ytlnhfgacgbdjaaa

namespace Go.Proofs.Ytlnhfgacgbdjaaa
open Go.RowKit
set_option linter.unusedVariables false
set_option linter.unusedSimpArgs false

theorem info_shape : (Try.prog.info? 28).map (fun i => (i.zero, i.size, i.bytes)) = some (some (.slice none 0 0), 1, 24) := by kernel_rfl
/-- The parts whose first box stands ahead of k. -/
def partsL (s : List Bx) (F : Nat → Nat) (n : Nat) : Nat → List (List Bx)
  | 0 => []
  | k + 1 => if F k = k then partsL s F n k ++ [opOf (takesK 1) (selB s F k n) []] else partsL s F n k
theorem partsL_len (s : List Bx) (F : Nat → Nat) (n k : Nat) : (partsL s F n k).length ≤ k := by
  induction k with
  | zero => exact Nat.le_refl _
  | succ k ih =>
    simp only [partsL]; split
    · simp; omega
    · omega
theorem BC.blk {w : World} {B g : Nat} {v : Value} {s : List Bx} (h : BC w B v s) (hg : v.ownBlock = some g) : g < w.heap.size ∧ ∃ cs, w.heap[g]? = some (.cells cs 44 (0, 0)) := by
  obtain ⟨a, c, c', rfl, h⟩ := h
  have hg' : (Value.slice a s.length c).ownBlock = some g := by cases a <;> simp_all [Value.ownBlock]
  refine ⟨(World.ownsRow.lt h g hg').2, ?_⟩
  rcases h.2 with ⟨e, _⟩ | ⟨g', cap, cur, e, hB, hgg, hr⟩
  · rw [e] at hg'; cases hg'
  · rw [e] at hg'
    simp only [Value.ownBlock, Option.some.injEq] at hg'
    subst hg'
    exact ⟨_, hgg⟩
/-- A list of shapes: the row's cells, and each one's boxes; no two have memory in common. -/
structure PL (w : World) (B : Nat) (v : Value) (ls : List (List Bx)) (vs : List Value) : Prop where
  o : w.ownsRow B 28 1 v ls.length vs
  bx : ∀ i, i < ls.length → BC w B (vs.getD i (.slice none 0 0)) (ls.getD i [])
  ds : ∀ i j, i < j → j < ls.length → ∀ g, (vs.getD i (.slice none 0 0)).ownBlock = some g → (vs.getD j (.slice none 0 0)).ownBlock ≠ some g
theorem PL.len {w : World} {B : Nat} {v : Value} {ls : List (List Bx)} {vs : List Value} (h : PL w B v ls vs) : vs.length = ls.length := by have := h.o.1; omega
theorem PL.nil (w : World) (B : Nat) : PL w B (.slice none 0 0) [] [] := ⟨World.ownsRow_nil _ _ _ _, fun i h => absurd h (by simp), fun i j _ h => absurd h (by simp)⟩
theorem PL.below {w w' : World} {B : Nat} {v : Value} {ls : List (List Bx)} {vs : List Value} (h : PL w B v ls vs) (hb : Below w.heap.size w w') : PL w' B v ls vs := by
  refine ⟨⟨h.o.1, ?_⟩, fun i hi => (h.bx i hi).below hb, h.ds⟩
  rcases h.o.2 with h' | ⟨g, cap, cur, rfl, hB, hg, hr⟩
  · exact Or.inl h'
  · refine Or.inr ⟨g, cap, cur, rfl, hB, ?_, hr⟩
    rw [hb.block g (World.ownsRow.lt h.o g rfl).2]; exact hg
theorem PL.low {w : World} {A B : Nat} {v : Value} {ls : List (List Bx)} {vs : List Value} (h : PL w B v ls vs) (hab : A ≤ B) : PL w A v ls vs := by
  refine ⟨⟨h.o.1, ?_⟩, fun i hi => (h.bx i hi).low hab, h.ds⟩
  rcases h.o.2 with h' | ⟨g, cap, cur, rfl, hB, hr⟩
  · exact Or.inl h'
  · exact Or.inr ⟨g, cap, cur, rfl, by omega, hr⟩
theorem PL.form {w : World} {B : Nat} {v : Value} {ls : List (List Bx)} {vs : List Value} (h : PL w B v ls vs) : ∃ a c, v = .slice a ls.length c := by
  rcases h.o.2 with ⟨rfl, h0⟩ | ⟨g, cap, cur, rfl, _⟩
  · exact ⟨none, 0, by rw [h0]⟩
  · exact ⟨_, _, rfl⟩
theorem PL.rowNot {w : World} {B g k : Nat} {v : Value} {ls : List (List Bx)} {vs : List Value} {cs : Array Value} (h : PL w B v ls vs) (hg : v.ownBlock = some g) (hk : w.heap[k]? = some (.cells cs 44 (0, 0))) : k ≠ g := by
  rintro rfl
  rcases h.o.2 with ⟨rfl, _⟩ | ⟨g', cap, cur, rfl, hB, hgg, hr⟩
  · cases hg
  · simp only [Value.ownBlock, Option.some.injEq] at hg
    subst hg
    rw [hgg] at hk
    simp only [Option.some.injEq, Obj.cells.injEq] at hk
    exact absurd hk.2.1 (by decide)
/-- One more shape, whose memory is new. -/
theorem PL.push {wr W w1 : World} {B : Nat} {v v' u : Value} {ls : List (List Bx)} {vs : List Value} {l : List Bx} {ob : Obj} (h : PL wr B v ls vs) (hb : Below wr.heap.size wr W) (hB : B ≤ wr.heap.size) (hu : BC W wr.heap.size u l)
    (ho : w1.ownsRow B 28 1 v' (ls.length + 1) (vs ++ [u])) (hg : (W.alloc ob).grownBy w1 v.ownBlock) : PL w1 B v' (ls ++ [l]) (vs ++ [u]) := by
  have hl := h.len
  have kept : ∀ g cs, g < W.heap.size → W.heap[g]? = some (.cells cs 44 (0, 0)) → w1.heap[g]? = W.heap[g]? := by
    intro g cs hgl hgc
    rw [hg.block g (by simp; omega) ?_]
    · exact Below.heap_alloc _ _ _ hgl
    · intro e
      exact (h.below hb).rowNot e.symm hgc rfl
  have gl : ∀ i, i < ls.length → (vs ++ [u]).getD i (.slice none 0 0) = vs.getD i (.slice none 0 0) := fun i hi => by
    rw [List.getD_eq_getElem?_getD, List.getElem?_append_left (by omega), ← List.getD_eq_getElem?_getD]
  have gt : (vs ++ [u]).getD ls.length (.slice none 0 0) = u := by
    rw [List.getD_eq_getElem?_getD, List.getElem?_append_right (by omega)]; simp [hl]
  refine ⟨by rw [List.length_append]; exact ho, fun i hi => ?_, fun i j hij hj g hgi => ?_⟩
  · simp only [List.length_append, List.length_singleton] at hi
    by_cases e : i < ls.length
    · rw [gl i e, List.getD_eq_getElem?_getD (l := ls ++ [l]), List.getElem?_append_left e, ← List.getD_eq_getElem?_getD]
      have h1 := (h.bx i e).below hb
      exact h1.kept fun g hgo => by obtain ⟨h2, cs, h3⟩ := h1.blk hgo; exact kept g cs h2 h3
    · have ei : i = ls.length := by omega
      rw [ei, gt, List.getD_eq_getElem?_getD, List.getElem?_append_right (by omega)]
      simp only [Nat.sub_self, List.getElem?_cons_zero, Option.getD_some]
      exact (hu.low hB).kept fun g hgo => by obtain ⟨h2, cs, h3⟩ := hu.blk hgo; exact kept g cs h2 h3
  · simp only [List.length_append, List.length_singleton] at hj
    by_cases e : j < ls.length
    · rw [gl i (by omega)] at hgi
      rw [gl j e]
      exact h.ds i j hij e g hgi
    · have ej : j = ls.length := by omega
      rw [ej, gt]
      rw [gl i (by omega)] at hgi
      intro hgu
      have h1 := hu.lt hgu
      have h2 := ((h.bx i (by omega)).blk hgi).1
      omega

end Go.Proofs.Ytlnhfgacgbdjaaa

namespace Go.Proofs.Ytlnhfgacgbdjaaa
open Go.RowKit
set_option linter.unusedVariables false
set_option linter.unusedSimpArgs false

set_option maxHeartbeats 400000 in
theorem spec_min (a b : Int) (w : World) : Calls Try.prog 64 #[.int .i64 a, .int .i64 b] w fun e w' => e = .returned (.int .i64 (minI a b)) ∧ w' = w := by
  unfold minI
  by_cases h : a < b
  · rw [if_pos h]
    go_enter Try.func64, Try.ntmps64
    go_wp2
    go_returns
    exact ⟨rfl, rfl⟩
  · rw [if_neg h]
    go_enter Try.func64, Try.ntmps64
    go_wp2
    go_returns
    exact ⟨rfl, rfl⟩
set_option maxHeartbeats 400000 in
theorem spec_max (a b : Int) (w : World) : Calls Try.prog 65 #[.int .i64 a, .int .i64 b] w fun e w' => e = .returned (.int .i64 (maxI a b)) ∧ w' = w := by
  unfold maxI
  by_cases h : b < a
  · rw [if_pos h]
    go_enter Try.func65, Try.ntmps65
    go_wp2
    go_returns
    exact ⟨rfl, rfl⟩
  · rw [if_neg h]
    go_enter Try.func65, Try.ntmps65
    go_wp2
    go_returns
    exact ⟨rfl, rfl⟩

end Go.Proofs.Ytlnhfgacgbdjaaa
