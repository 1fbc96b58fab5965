/- Proved here: lists of lists of numbers of the call's own: how they lie, grow and turn. -/
import Derived.Test.YtkdpifplhhcpaaaNlJ
import Derived.Test.YtkdpifplhhcpaaaRwG
namespace Go.Proofs.Ytkdpifplhhcpaaa
open Go.RowKit
set_option linter.unusedVariables false
set_option linter.unusedSimpArgs false

theorem info_row : (Try.prog.info? 22).map (fun i => (i.zero, i.size, i.bytes)) = some (some (.slice none 0 0), 1, 24) := by kernel_rfl
/-- A list of lists of numbers. -/
structure RI (w : World) (B : Nat) (v : Value) (ls : List (List Int)) (vs : List Value) : Prop where
  o : w.ownsRow B 22 1 v ls.length vs
  bx : ∀ i, i < ls.length → IS w B (rat vs i) (ls.getD i [])
  ds : ∀ i j, i ≠ j → i < ls.length → j < ls.length → ∀ g, (rat vs i).ownBlock = some g → (rat vs j).ownBlock ≠ some g
theorem RI.len {w : World} {B : Nat} {v : Value} {ls : List (List Int)} {vs : List Value} (h : RI w B v ls vs) : vs.length = ls.length := by have := h.o.1; omega
theorem RI.kept {w w' : World} {B : Nat} {v : Value} {ls : List (List Int)} {vs : List Value} (h : RI w B v ls vs) (hr : ∀ g, v.ownBlock = some g → w'.heap[g]? = w.heap[g]?) (hb : ∀ i, i < ls.length → ∀ g, (rat vs i).ownBlock = some g → w'.heap[g]? = w.heap[g]?) : RI w' B v ls vs :=
  ⟨rowKept h.o hr, fun i hi => (h.bx i hi).kept (hb i hi), h.ds⟩
theorem RI.below {w w' : World} {B : Nat} {v : Value} {ls : List (List Int)} {vs : List Value} (h : RI w B v ls vs) (hb : Below w.heap.size w w') : RI w' B v ls vs :=
  h.kept (fun g hg => hb.block g (rowBlk h.o hg).2.1) fun i hi g hg => hb.block g (rowBlk (h.bx i hi) hg).2.1
theorem RI.low {w : World} {A B : Nat} {v : Value} {ls : List (List Int)} {vs : List Value} (h : RI w B v ls vs) (hab : A ≤ B) : RI w A v ls vs :=
  ⟨rowLow h.o hab, fun i hi => rowLow (h.bx i hi) hab, h.ds⟩
theorem RI.form {w : World} {B : Nat} {v : Value} {ls : List (List Int)} {vs : List Value} (h : RI w B v ls vs) : ∃ a c, v = .slice a ls.length c := by
  rcases h.o.2 with ⟨rfl, h0⟩ | ⟨g, cap, cur, rfl, _⟩
  · exact ⟨none, 0, by rw [h0]⟩
  · exact ⟨_, _, rfl⟩
theorem RI.pos {w : World} {B : Nat} {v : Value} {ls : List (List Int)} {vs : List Value} (h : RI w B v ls vs) (hp : 0 < ls.length) :
    ∃ g cap, v = .slice (some ⟨g, 0, none⟩) ls.length cap ∧ B ≤ g ∧ g < w.heap.size ∧ ∀ j, j < ls.length → w.cell? ⟨g, j, none⟩ = some (rat vs j) := by
  have hl := h.len
  have ho := h.o
  rcases h.o.2 with ⟨_, h0⟩ | ⟨g, cap, cur, rfl, hB, hg, hn, hm, hs, ht⟩
  · omega
  · refine ⟨g, cap, rfl, hB, (World.ownsRow.lt ho g rfl).2, fun j hj => ?_⟩
    have := World.ownsRow.cellAt (w := w) (g := g) (cap := cap) ho j (by omega)
    rw [this]
    simp [rat, List.getElem?_eq_getElem (show j < vs.length by omega)]
theorem RI.rowNot {w : World} {B g k : Nat} {v : Value} {ls : List (List Int)} {vs : List Value} (h : RI w B v ls vs) (hg : v.ownBlock = some g) {A : Nat} {u : Value} {xs : List Int} (hu : IS w A u xs) (hk : u.ownBlock = some k) : k ≠ g := by
  rintro rfl
  obtain ⟨_, _, cs, h1⟩ := rowBlk h.o hg
  obtain ⟨_, _, ds, h2⟩ := rowBlk hu hk
  exact kindsR h1 h2 (by decide)
theorem RI.nil (w : World) (B : Nat) : RI w B (.slice none 0 0) [] [] := ⟨World.ownsRow_nil _ _ _ _, fun i h => absurd h (by simp), fun i j _ h => absurd h (by simp)⟩
theorem RI.lit0 (w : World) (B : Nat) (hB : B ≤ w.heap.size) : RI (w.alloc (.cells #[] 22)) B (.slice (some ⟨w.heap.size, 0, none⟩) 0 0) [] [] :=
  ⟨World.ownsRow_lit w #[] 0 hB (by decide) (by simp), fun i h => absurd h (by simp), fun i j _ h => absurd h (by simp)⟩
/-- One more row, whose memory is new. -/
theorem RI.push {wr W w1 : World} {B : Nat} {v v' u : Value} {ls : List (List Int)} {vs : List Value} {l : List Int} {ob : Obj} (h : RI wr B v ls vs) (hb : Below wr.heap.size wr W) (hB : B ≤ wr.heap.size) (hu : IS W wr.heap.size u l)
    (ho : w1.ownsRow B 22 1 v' (ls.length + 1) (vs ++ [u])) (hg : (W.alloc ob).grownBy w1 v.ownBlock) : RI w1 B v' (ls ++ [l]) (vs ++ [u]) := by
  have hl := h.len
  have hW := h.below hb
  have kept : ∀ {A : Nat} {q : Value} {xs : List Int}, IS W A q xs → ∀ g, q.ownBlock = some g → w1.heap[g]? = W.heap[g]? := by
    intro A q xs hq g hqg
    have hlt := (rowBlk hq hqg).2.1
    rw [hg.block g (by simp; omega) ?_]
    · exact Below.heap_alloc _ _ _ hlt
    · intro e
      exact hW.rowNot e.symm hq hqg rfl
  have gl : ∀ i, i < ls.length → rat (vs ++ [u]) i = rat vs i := fun i hi => by
    unfold rat
    rw [List.getD_eq_getElem?_getD, List.getElem?_append_left (by omega), ← List.getD_eq_getElem?_getD]
  have gt : rat (vs ++ [u]) ls.length = u := by
    unfold rat
    rw [List.getD_eq_getElem?_getD, List.getElem?_append_right (by omega)]; simp [hl]
  have ll : ∀ i, i < ls.length → (ls ++ [l]).getD i [] = ls.getD i [] := fun i hi => by
    rw [List.getD_eq_getElem?_getD, List.getElem?_append_left hi, ← List.getD_eq_getElem?_getD]
  have lt : (ls ++ [l]).getD ls.length [] = l := by
    rw [List.getD_eq_getElem?_getD, List.getElem?_append_right (Nat.le_refl _)]; simp
  have old : ∀ i, i < ls.length → ∀ g, (rat vs i).ownBlock = some g → g < wr.heap.size := fun i hi g hg => (rowBlk (h.bx i hi) hg).2.1
  have new : ∀ g, u.ownBlock = some g → wr.heap.size ≤ g := fun g hg => (rowBlk hu hg).1
  refine ⟨by rw [List.length_append]; exact ho, fun i hi => ?_, fun i j hij hi hj g hgi => ?_⟩
  · simp only [List.length_append, List.length_singleton] at hi
    by_cases e : i < ls.length
    · rw [gl i e, ll i e]
      exact (hW.bx i e).kept (kept (hW.bx i e))
    · have e2 : i = ls.length := by omega
      rw [e2, gt, lt]
      exact rowLow (IS.kept hu (kept hu)) hB
  · simp only [List.length_append, List.length_singleton] at hi hj
    by_cases e1 : i < ls.length
    · by_cases e2 : j < ls.length
      · rw [gl i e1] at hgi; rw [gl j e2]; exact h.ds i j hij e1 e2 g hgi
      · have e3 : j = ls.length := by omega
        rw [gl i e1] at hgi
        rw [e3, gt]
        intro e4
        have h1 := old i e1 g hgi
        have h2 := new g e4
        omega
    · have e3 : i = ls.length := by omega
      have e2 : j < ls.length := by omega
      rw [e3, gt] at hgi
      rw [gl j e2]
      intro e4
      have h1 := old j e2 g e4
      have h2 := new g hgi
      omega
/-- A row turns: its block alone. -/
theorem RI.turn {w w' : World} {B k : Nat} {v : Value} {ls : List (List Int)} {vs : List Value} {l : List Int} (h : RI w B v ls vs) (hk : k < ls.length) (hu : IS w' B (rat vs k) l) (hO : ∀ g, (rat vs k).ownBlock ≠ some g → w'.heap[g]? = w.heap[g]?) : RI w' B v (ls.set k l) vs := by
  refine ⟨by rw [List.length_set]; exact rowKept h.o (fun g hg => hO g fun e => h.rowNot hg (h.bx k hk) e rfl), fun i hi => ?_, fun i j hij hi hj => ?_⟩
  · rw [List.length_set] at hi
    by_cases e : i = k
    · subst e
      have : (ls.set i l).getD i [] = l := by simp [hi]
      rw [this]; exact hu
    · have : (ls.set k l).getD i [] = ls.getD i [] := by
        rw [List.getD_eq_getElem?_getD, List.getElem?_set_ne (by omega), ← List.getD_eq_getElem?_getD]
      rw [this]
      exact (h.bx i hi).kept fun g hg => hO g fun e2 => h.ds i k e hi hk g hg e2
  · rw [List.length_set] at hi hj
    exact h.ds i j hij hi hj
/-- A row is put in, whose memory is new. -/
theorem RI.put {wr W : World} {B g k n c : Nat} {ls : List (List Int)} {vs : List Value} {u : Value} {l : List Int} (h : RI wr B (.slice (some ⟨g, 0, none⟩) n c) ls vs) (hb : Below wr.heap.size wr W) (hB : B ≤ wr.heap.size) (hk : k < ls.length) (hu : IS W wr.heap.size u l) :
    RI (W.setCell ⟨g, k, none⟩ u) B (.slice (some ⟨g, 0, none⟩) n c) (ls.set k l) (vs.set k u) := by
  have hl := h.len
  have hW := h.below hb
  have hrow : (Value.slice (some ⟨g, 0, none⟩) n c).ownBlock = some g := rfl
  have kept : ∀ {A : Nat} {q : Value} {xs : List Int}, IS W A q xs → ∀ g', q.ownBlock = some g' → (W.setCell ⟨g, k, none⟩ u).heap[g']? = W.heap[g']? := by
    intro A q xs hq g' hqg
    exact heap_setCell_other _ _ _ _ (by have := hW.rowNot hrow hq hqg; simpa using this)
  have r1 : ∀ i, i ≠ k → rat (vs.set k u) i = rat vs i := fun i hi => by
    unfold rat
    rw [List.getD_eq_getElem?_getD, List.getElem?_set_ne (by omega), ← List.getD_eq_getElem?_getD]
  have r2 : rat (vs.set k u) k = u := by unfold rat; simp [hl, hk]
  have old : ∀ i, i < ls.length → ∀ g, (rat vs i).ownBlock = some g → g < wr.heap.size := fun i hi g hg => (rowBlk (h.bx i hi) hg).2.1
  have new : ∀ g, u.ownBlock = some g → wr.heap.size ≤ g := fun g hg => (rowBlk hu hg).1
  refine ⟨?_, fun i hi => ?_, fun i j hij hi hj g' hgi => ?_⟩
  · rw [List.length_set]
    have hn : n = ls.length := by obtain ⟨_, _, e⟩ := h.form; injection e
    subst hn
    exact (World.ownsRow.stored hW.o k u).1
  · rw [List.length_set] at hi
    by_cases e : i = k
    · subst e
      have : (ls.set i l).getD i [] = l := by simp [hi]
      rw [this, r2]; exact rowLow (IS.kept hu (kept hu)) hB
    · have : (ls.set k l).getD i [] = ls.getD i [] := by
        rw [List.getD_eq_getElem?_getD, List.getElem?_set_ne (by omega), ← List.getD_eq_getElem?_getD]
      rw [this, r1 i e]
      exact (hW.bx i hi).kept (kept (hW.bx i hi))
  · rw [List.length_set] at hi hj
    by_cases e1 : i = k
    · subst e1
      rw [r2] at hgi
      rw [r1 j (by omega)]
      intro e4
      have h1 := old j hj g' e4
      have h2 := new g' hgi
      omega
    · by_cases e2 : j = k
      · subst e2
        rw [r1 i e1] at hgi
        rw [r2]
        intro e4
        have h1 := old i hi g' hgi
        have h2 := new g' e4
        omega
      · rw [r1 i e1] at hgi
        rw [r1 j e2]
        exact h.ds i j hij hi hj g' hgi

theorem IS.setR {w : World} {B g n c : Nat} {xs : List Int} (h : IS w B (.slice (some ⟨g, 0, none⟩) n c) xs) (j : Nat) (y : Int) : IS (w.setCell ⟨g, j, none⟩ (.int .i64 y)) B (.slice (some ⟨g, 0, none⟩) n c) (xs.set j y) := by
  have hn : n = xs.length := by obtain ⟨_, _, e⟩ := h.form; injection e
  subst hn
  have := (World.ownsRow.stored h j (.int .i64 y)).1
  unfold IS
  rw [List.length_set, List.map_set]
  exact this
theorem IS.snocR {w : World} {B : Nat} {v : Value} {xs : List Int} {y : Int} (h : w.ownsRow B 2 1 v (xs.length + 1) (xs.map (Value.int .i64) ++ [.int .i64 y])) : IS w B v (xs ++ [y]) := by
  unfold IS
  rw [List.length_append, List.map_append]
  exact h

end Go.Proofs.Ytkdpifplhhcpaaa
