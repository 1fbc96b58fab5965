/- Proved here: lists of places of the call's own; the search and the memory that it stands in. -/
import Derived.Test.YtngpjglcjbdblaaVgD
import Derived.Test.YtngpjglcjbdblaaIntsBase
import Derived.Test.YtngpjglcjbdblaaTmC
namespace Go.Proofs.Ytngpjglcjbdblaa
open Go.RowKit
set_option linter.unusedVariables false
set_option linter.unusedSimpArgs false

theorem info_int : (Try.prog.info? 3).map (fun i => (i.zero, i.size, i.bytes)) = some (some (.int .i64 0), 1, 8) := by kernel_rfl
def nv (n : Nat) : Value := .int .i64 (n : Int)
/-- A list of places that a slice of the call's own holds. -/
def IN (w : World) (B : Nat) (v : Value) (xs : List Nat) : Prop := w.ownsRow B 3 1 v xs.length (xs.map nv)
theorem IN.form {w : World} {B : Nat} {v : Value} {xs : List Nat} (h : IN w B v xs) : ∃ a c, v = .slice a xs.length c := by
  rcases h.2 with ⟨rfl, h0⟩ | ⟨g, cap, cur, rfl, _⟩
  · exact ⟨none, 0, by rw [h0]⟩
  · exact ⟨_, _, rfl⟩
theorem IN.pos {w : World} {B : Nat} {v : Value} {xs : List Nat} (h : IN w B v xs) (hp : 0 < xs.length) :
    ∃ g cap, v = .slice (some ⟨g, 0, none⟩) xs.length cap ∧ B ≤ g ∧ g < w.heap.size ∧ ∀ j, j < xs.length → w.cell? ⟨g, j, none⟩ = some (.int .i64 (xs.getD j 0 : Nat)) := by
  rcases h.2 with ⟨_, h0⟩ | ⟨g, cap, cur, rfl, hB, hg, hn, hm, hs, ht⟩
  · omega
  · refine ⟨g, cap, rfl, hB, ?_, fun j hj => ?_⟩
    · rcases Nat.lt_or_ge g w.heap.size with h' | h'
      · exact h'
      · rw [Array.getElem?_eq_none h'] at hg; cases hg
    · have := World.ownsRow.cellAt (w := w) (g := g) (cap := cap) h j (by omega)
      rw [this]
      simp [List.getElem?_map, List.getElem?_eq_getElem hj, nv]
theorem IN.kept {w w' : World} {B : Nat} {v : Value} {xs : List Nat} (h : IN w B v xs) (hb : ∀ g, v.ownBlock = some g → w'.heap[g]? = w.heap[g]?) : IN w' B v xs := by
  refine ⟨h.1, ?_⟩
  rcases h.2 with h' | ⟨g, cap, cur, rfl, hB, hg, hr⟩
  · exact Or.inl h'
  · exact Or.inr ⟨g, cap, cur, rfl, hB, by rw [hb g rfl]; exact hg, hr⟩
theorem IN.below {w w' : World} {B : Nat} {v : Value} {xs : List Nat} (h : IN w B v xs) (hb : Below w.heap.size w w') : IN w' B v xs :=
  h.kept fun g hg => hb.block g (World.ownsRow.lt h g hg).2
theorem IS.below' {w w' : World} {B : Nat} {v : Value} {xs : List Int} (h : IS w B v xs) (hb : Below w.heap.size w w') : IS w' B v xs :=
  h.kept fun g hg => hb.block g (World.ownsRow.lt h g hg).2
theorem IS.lit0 (w : World) (B : Nat) (hB : B ≤ w.heap.size) : IS (w.alloc (.cells #[] 2)) B (.slice (some ⟨w.heap.size, 0, none⟩) 0 0) [] :=
  World.ownsRow_lit w #[] 0 hB (by decide) (by simp)
theorem IS.setP {w : World} {B g n c : Nat} {xs : List Int} (h : IS w B (.slice (some ⟨g, 0, none⟩) n c) xs) (j : Nat) (y : Int) : IS (w.setCell ⟨g, j, none⟩ (.int .i64 y)) B (.slice (some ⟨g, 0, none⟩) n c) (xs.set j y) := by
  have hn : n = xs.length := by obtain ⟨_, _, e⟩ := h.form; injection e
  subst hn
  have := (World.ownsRow.stored h j (.int .i64 y)).1
  unfold IS
  rw [List.length_set, List.map_set]
  exact this
theorem IS.frozenP {w : World} {B g n c : Nat} {xs : List Int} (h : IS w B (.slice (some ⟨g, 0, none⟩) n c) xs) (j : Nat) : w.frozen? ⟨g, j, none⟩ = false := by
  have hn : n = xs.length := by obtain ⟨_, _, e⟩ := h.form; injection e
  subst hn
  exact World.ownsRow.frozenAt h j
theorem IS.notIN {w : World} {A B g n c : Nat} {v : Value} {xs : List Int} {td : List Nat} (h : IS w B (.slice (some ⟨g, 0, none⟩) n c) xs) (k : IN w A v td) : v.ownBlock ≠ some g := by
  intro e
  rcases k.2 with ⟨rfl, _⟩ | ⟨g', cap, cur, rfl, hB, hg, hr⟩
  · cases e
  · simp only [Value.ownBlock, Option.some.injEq] at e
    subst e
    rcases h.2 with ⟨h', _⟩ | ⟨g2, cap2, cur2, he, hB2, hg2, hr2⟩
    · cases h'
    · simp only [Value.slice.injEq, Option.some.injEq, Addr.mk.injEq, and_true] at he
      obtain ⟨rfl, _, _⟩ := he
      rw [hg] at hg2
      simp only [Option.some.injEq, Obj.cells.injEq] at hg2
      exact absurd hg2.2.1 (by decide)
theorem IN.lit1 (w : World) (B : Nat) (hB : B ≤ w.heap.size) (i : Nat) : IN (w.alloc (.cells #[.int .i64 (i : Int)] 3)) B (.slice (some ⟨w.heap.size, 0, none⟩) 1 1) [i] :=
  ⟨rfl, Or.inr ⟨w.heap.size, 1, #[.int .i64 (i : Int)], rfl, hB, heap_alloc_new w _, Nat.le_refl _, by unfold maxLen; omega, rfl, rfl⟩⟩
theorem IN.init {w : World} {B g n c q : Nat} {td : List Nat} (h : IN w B (.slice (some ⟨g, 0, none⟩) n c) (td ++ [q])) : IN w B (.slice (some ⟨g, 0, none⟩) td.length c) td ∧ td.length + 1 ≤ c := by
  rcases h.2 with ⟨h', _⟩ | ⟨g2, cap2, cur2, he, hB2, hg2, hc, hm, hs, ht⟩
  · cases h'
  · simp only [Value.slice.injEq, Option.some.injEq, Addr.mk.injEq, and_true] at he
    obtain ⟨rfl, _, rfl⟩ := he
    simp only [List.length_append, List.length_singleton] at hc ht
    refine ⟨⟨by simp, Or.inr ⟨g, c, cur2, rfl, hB2, hg2, by omega, hm, hs, ?_⟩⟩, hc⟩
    have h1 : cur2.toList.take (td.length * 1) = (cur2.toList.take ((td.length + 1) * 1)).take (td.length * 1) := by
      rw [List.take_take]; congr 1; omega
    rw [h1, ht, List.map_append]
    exact List.take_left' (by simp)
theorem IN.capN {w : World} {B g n c : Nat} {td : List Nat} (h : IN w B (.slice (some ⟨g, 0, none⟩) n c) td) : n ≤ c := by
  rcases h.2 with ⟨h', _⟩ | ⟨g2, cap2, cur2, he, hB2, hg2, hc, hm, hs, ht⟩
  · cases h'
  · simp only [Value.slice.injEq, Option.some.injEq, Addr.mk.injEq, and_true] at he
    obtain ⟨_, e, rfl⟩ := he
    omega
def lnV : Value → Nat
  | .slice _ n _ => n
  | _ => 0
def numC : Option Value → Int
  | some (.int _ z) => z
  | _ => 0
def negW (w : World) (g n : Nat) : Nat := negs (fun a => numC (w.cell? ⟨g, a, none⟩)) n
theorem negW_eq {w : World} {B g n c : Nat} {xs : List Int} (h : IS w B (.slice (some ⟨g, 0, none⟩) n c) xs) : negW w g n = negs (fun a => xs.getD a 0) n := by
  have hn : n = xs.length := by obtain ⟨_, _, e⟩ := h.form; injection e
  rcases Nat.eq_zero_or_pos n with h0 | hp
  · rw [h0]; rfl
  · obtain ⟨g', c', he, _, _, hj⟩ := h.pos (by omega)
    simp only [Value.slice.injEq, Option.some.injEq, Addr.mk.injEq, and_true] at he
    obtain ⟨rfl, _, _⟩ := he
    exact negs_congr fun a ha => by rw [hj a (by omega)]; rfl

theorem negs_le (f : Nat → Int) (n : Nat) : negs f n ≤ n := by
  induction n with
  | zero => exact Nat.le_refl _
  | succ n ih => simp only [negs]; split <;> omega
/-- The search, and the memory it stands in. -/
structure PQ (nb : Nat → Nat → Bool) (n : Nat) (F : Nat → Nat) (w wr : World) (vo vt : Value) (xs : List Int) (td : List Nat) (i k j : Nat) : Prop where
  o : IS wr w.heap.size vo xs
  t : IN wr w.heap.size vt td
  df : DF nb n F i xs td k j
  bl : Below w.heap.size w wr
theorem PQ.next {nb : Nat → Nat → Bool} {n : Nat} {F : Nat → Nat} {w wr w' : World} {vo vt : Value} {xs : List Int} {td : List Nat} {i k j : Nat} (h : PQ nb n F w wr vo vt xs td i k j) (hb : Below wr.heap.size wr w') : PQ nb n F w w' vo vt xs td i k j :=
  ⟨h.o.below' hb, h.t.below hb, h.df, h.bl.trans (hb.mono h.bl.size)⟩
theorem PQ.tset {nb : Nat → Nat → Bool} {n : Nat} {F : Nat → Nat} {w wr : World} {g m c : Nat} {vt : Value} {xs : List Int} {td : List Nat} {i k j : Nat} (h : PQ nb n F w wr (.slice (some ⟨g, 0, none⟩) m c) vt xs td i k j) (q : Nat) (y : Int) : IN (wr.setCell ⟨g, q, none⟩ (.int .i64 y)) w.heap.size vt td :=
  h.t.kept fun b hb => heap_setCell_other _ _ _ _ fun e => h.o.notIN h.t (by rw [hb]; exact congrArg some e)
theorem PQ.mark {nb : Nat → Nat → Bool} {n : Nat} {F : Nat → Nat} {w wr w5 : World} {g m c : Nat} {vt vt' : Value} {xs : List Int} {td : List Nat} {i k j : Nat} {ob : Obj} (h : PQ nb n F w wr (.slice (some ⟨g, 0, none⟩) m c) vt xs td i k j) (hg : w.heap.size ≤ g) (hj : j < n) (hF : F j = i) (hx : xs.getD j 0 < 0)
    (ho : w5.ownsRow w.heap.size 3 1 vt' (td.length + 1) (td.map nv ++ [.int .i64 (j : Int)])) (hgr : ((wr.setCell ⟨g, j, none⟩ (.int .i64 ((cnt F i : Nat) : Int))).alloc ob).grownBy w5 vt.ownBlock) :
    PQ nb n F w w5 (.slice (some ⟨g, 0, none⟩) m c) vt' (xs.set j (cnt F i : Nat)) (td ++ [j]) i k (j + 1) := by
  have hs := h.o.setP j ((cnt F i : Nat) : Int)
  have hgl : g < wr.heap.size := (World.ownsRow.lt h.o g rfl).2
  have hsz := h.bl.size
  refine ⟨hs.kept fun b hb => ?_, ?_, h.df.mark hj hF hx, ?_⟩
  · simp only [Value.ownBlock, Option.some.injEq] at hb
    subst hb
    rw [hgr.block g (by simp; omega) (fun e => h.o.notIN h.t e.symm)]
    exact Below.heap_alloc _ _ _ (by simpa using hgl)
  · unfold IN
    rw [List.map_append, List.length_append]
    exact ho
  · exact ((h.bl.setCell hg _).alloc (by simpa using hsz) ob).grown hgr (by simp; omega) (fun b hb => (World.ownsRow.lt h.t b hb).1)

end Go.Proofs.Ytngpjglcjbdblaa
