/- Proved here: lists of lists of Byte: how they lie, grow, turn and are read. -/
import Derived.Test.YtejpjbihdclngaaByC
import Derived.Test.YtejpjbihdclngaaRwG
import Derived.LoopTactic
import Derived.OpenShut
import Derived.Lib.SmallJoins
namespace Go.Proofs.Ytejpjbihdclngaa
open Go.ChangeShapes Go.WideShapes Go.ChangeAt Go.RowKit Go.Joins Go.Deep
set_option linter.unusedVariables false
set_option linter.unusedSimpArgs false

theorem OG.kept {α : Type} {T k : Nat} {enc : α → List Value} {w w' : World} {B : Nat} {v : Value} {s : List α} (h : OG T k enc w B v s) (hb : ∀ g, v.ownBlock = some g → w'.heap[g]? = w.heap[g]?) : OG T k enc w' B v s := rowKept h hb
theorem OG.form {α : Type} {T k : Nat} {enc : α → List Value} {w : World} {B : Nat} {v : Value} {s : List α} (h : OG T k enc w B v s) : ∃ a c, v = .slice a s.length c := by
  rcases h.2 with ⟨rfl, h0⟩ | ⟨g, cap, cur, rfl, _⟩
  · exact ⟨none, 0, by rw [h0]⟩
  · exact ⟨_, _, rfl⟩


theorem info_rowY : (Try.prog.info? 22).map (fun i => (i.zero, i.size, i.bytes)) = some (some (.slice none 0 0), 1, 24) := by kernel_rfl
/-- A list of lists of numbers. -/
structure RoY (w : World) (B : Nat) (v : Value) (ls : List (List UInt8)) (vs : List Value) : Prop where
  o : w.ownsRow B 22 1 v ls.length vs
  bx : ∀ i, i < ls.length → OG 5 1 byC w B (rat vs i) (ls.getD i [])
  ds : ∀ i j, i ≠ j → i < ls.length → j < ls.length → ∀ g, (rat vs i).ownBlock = some g → (rat vs j).ownBlock ≠ some g
theorem RoY.len {w : World} {B : Nat} {v : Value} {ls : List (List UInt8)} {vs : List Value} (h : RoY w B v ls vs) : vs.length = ls.length := by have := h.o.1; omega
theorem RoY.kept {w w' : World} {B : Nat} {v : Value} {ls : List (List UInt8)} {vs : List Value} (h : RoY w B v ls vs) (hr : ∀ g, v.ownBlock = some g → w'.heap[g]? = w.heap[g]?) (hb : ∀ i, i < ls.length → ∀ g, (rat vs i).ownBlock = some g → w'.heap[g]? = w.heap[g]?) : RoY w' B v ls vs :=
  ⟨rowKept h.o hr, fun i hi => (h.bx i hi).kept (hb i hi), h.ds⟩
theorem RoY.below {w w' : World} {B : Nat} {v : Value} {ls : List (List UInt8)} {vs : List Value} (h : RoY w B v ls vs) (hb : Below w.heap.size w w') : RoY w' B v ls vs :=
  h.kept (fun g hg => hb.block g (rowBlk h.o hg).2.1) fun i hi g hg => hb.block g (rowBlk (h.bx i hi) hg).2.1
theorem RoY.low {w : World} {A B : Nat} {v : Value} {ls : List (List UInt8)} {vs : List Value} (h : RoY w B v ls vs) (hab : A ≤ B) : RoY w A v ls vs :=
  ⟨rowLow h.o hab, fun i hi => rowLow (h.bx i hi) hab, h.ds⟩
theorem RoY.form {w : World} {B : Nat} {v : Value} {ls : List (List UInt8)} {vs : List Value} (h : RoY w B v ls vs) : ∃ a c, v = .slice a ls.length c := by
  rcases h.o.2 with ⟨rfl, h0⟩ | ⟨g, cap, cur, rfl, _⟩
  · exact ⟨none, 0, by rw [h0]⟩
  · exact ⟨_, _, rfl⟩
theorem RoY.pos {w : World} {B : Nat} {v : Value} {ls : List (List UInt8)} {vs : List Value} (h : RoY w B v ls vs) (hp : 0 < ls.length) :
    ∃ g cap, v = .slice (some ⟨g, 0, none⟩) ls.length cap ∧ B ≤ g ∧ g < w.heap.size ∧ ∀ j, j < ls.length → w.cell? ⟨g, j, none⟩ = some (rat vs j) := by
  have hl := h.len
  have ho := h.o
  rcases h.o.2 with ⟨_, h0⟩ | ⟨g, cap, cur, rfl, hB, hg, hn, hm, hs, ht⟩
  · omega
  · refine ⟨g, cap, rfl, hB, (World.ownsRow.lt ho g rfl).2, fun j hj => ?_⟩
    have := World.ownsRow.cellAt (w := w) (g := g) (cap := cap) ho j (by omega)
    rw [this]
    simp [rat, List.getElem?_eq_getElem (show j < vs.length by omega)]
theorem RoY.rowNot {w : World} {B g k : Nat} {v : Value} {ls : List (List UInt8)} {vs : List Value} (h : RoY w B v ls vs) (hg : v.ownBlock = some g) {A : Nat} {u : Value} {xs : List UInt8} (hu : OG 5 1 byC w A u xs) (hk : u.ownBlock = some k) : k ≠ g := by
  rintro rfl
  obtain ⟨_, _, cs, h1⟩ := rowBlk h.o hg
  obtain ⟨_, _, ds, h2⟩ := rowBlk hu hk
  exact kindsR h1 h2 (by decide)
theorem RoY.nil (w : World) (B : Nat) : RoY w B (.slice none 0 0) [] [] := ⟨World.ownsRow_nil _ _ _ _, fun i h => absurd h (by simp), fun i j _ h => absurd h (by simp)⟩
theorem RoY.lit0 (w : World) (B : Nat) (hB : B ≤ w.heap.size) : RoY (w.alloc (.cells #[] 22)) B (.slice (some ⟨w.heap.size, 0, none⟩) 0 0) [] [] :=
  ⟨World.ownsRow_lit w #[] 0 hB (by decide) (by simp), fun i h => absurd h (by simp), fun i j _ h => absurd h (by simp)⟩
/-- One more row, whose memory is new. -/
theorem RoY.push {wr W w1 : World} {B : Nat} {v v' u : Value} {ls : List (List UInt8)} {vs : List Value} {l : List UInt8} {ob : Obj} (h : RoY wr B v ls vs) (hb : Below wr.heap.size wr W) (hB : B ≤ wr.heap.size) (hu : OG 5 1 byC W wr.heap.size u l)
    (ho : w1.ownsRow B 22 1 v' (ls.length + 1) (vs ++ [u])) (hg : (W.alloc ob).grownBy w1 v.ownBlock) : RoY w1 B v' (ls ++ [l]) (vs ++ [u]) := by
  have hl := h.len
  have hW := h.below hb
  have kept : ∀ {A : Nat} {q : Value} {xs : List UInt8}, OG 5 1 byC W A q xs → ∀ g, q.ownBlock = some g → w1.heap[g]? = W.heap[g]? := by
    intro A q xs hq g hqg
    have hlt := (rowBlk hq hqg).2.1
    rw [hg.block g (by simp; omega) ?_]
    · exact Below.heap_alloc _ _ _ hlt
    · intro e
      exact hW.rowNot e.symm hq hqg rfl
  have gl : ∀ i, i < ls.length → rat (vs ++ [u]) i = rat vs i := fun i hi => by
    unfold rat
    rw [List.getD_eq_getElem?_getD, List.getElem?_append_left (by omega), ← List.getD_eq_getElem?_getD]
  have gt : rat (vs ++ [u]) ls.length = u := by
    unfold rat
    rw [List.getD_eq_getElem?_getD, List.getElem?_append_right (by omega)]; simp [hl]
  have ll : ∀ i, i < ls.length → (ls ++ [l]).getD i [] = ls.getD i [] := fun i hi => by
    rw [List.getD_eq_getElem?_getD, List.getElem?_append_left hi, ← List.getD_eq_getElem?_getD]
  have lt : (ls ++ [l]).getD ls.length [] = l := by
    rw [List.getD_eq_getElem?_getD, List.getElem?_append_right (Nat.le_refl _)]; simp
  have old : ∀ i, i < ls.length → ∀ g, (rat vs i).ownBlock = some g → g < wr.heap.size := fun i hi g hg => (rowBlk (h.bx i hi) hg).2.1
  have new : ∀ g, u.ownBlock = some g → wr.heap.size ≤ g := fun g hg => (rowBlk hu hg).1
  refine ⟨by rw [List.length_append]; exact ho, fun i hi => ?_, fun i j hij hi hj g hgi => ?_⟩
  · simp only [List.length_append, List.length_singleton] at hi
    by_cases e : i < ls.length
    · rw [gl i e, ll i e]
      exact (hW.bx i e).kept (kept (hW.bx i e))
    · have e2 : i = ls.length := by omega
      rw [e2, gt, lt]
      exact rowLow (OG.kept hu (kept hu)) hB
  · simp only [List.length_append, List.length_singleton] at hi hj
    by_cases e1 : i < ls.length
    · by_cases e2 : j < ls.length
      · rw [gl i e1] at hgi; rw [gl j e2]; exact h.ds i j hij e1 e2 g hgi
      · have e3 : j = ls.length := by omega
        rw [gl i e1] at hgi
        rw [e3, gt]
        intro e4
        have h1 := old i e1 g hgi
        have h2 := new g e4
        omega
    · have e3 : i = ls.length := by omega
      have e2 : j < ls.length := by omega
      rw [e3, gt] at hgi
      rw [gl j e2]
      intro e4
      have h1 := old j e2 g e4
      have h2 := new g hgi
      omega
/-- A row turns: its block alone. -/
theorem RoY.turn {w w' : World} {B k : Nat} {v : Value} {ls : List (List UInt8)} {vs : List Value} {l : List UInt8} (h : RoY w B v ls vs) (hk : k < ls.length) (hu : OG 5 1 byC w' B (rat vs k) l) (hO : ∀ g, (rat vs k).ownBlock ≠ some g → w'.heap[g]? = w.heap[g]?) : RoY w' B v (ls.set k l) vs := by
  refine ⟨by rw [List.length_set]; exact rowKept h.o (fun g hg => hO g fun e => h.rowNot hg (h.bx k hk) e rfl), fun i hi => ?_, fun i j hij hi hj => ?_⟩
  · rw [List.length_set] at hi
    by_cases e : i = k
    · subst e
      have : (ls.set i l).getD i [] = l := by simp [hi]
      rw [this]; exact hu
    · have : (ls.set k l).getD i [] = ls.getD i [] := by
        rw [List.getD_eq_getElem?_getD, List.getElem?_set_ne (by omega), ← List.getD_eq_getElem?_getD]
      rw [this]
      exact (h.bx i hi).kept fun g hg => hO g fun e2 => h.ds i k e hi hk g hg e2
  · rw [List.length_set] at hi hj
    exact h.ds i j hij hi hj
/-- A row is put in, whose memory is new. -/
theorem RoY.put {wr W : World} {B g k n c : Nat} {ls : List (List UInt8)} {vs : List Value} {u : Value} {l : List UInt8} (h : RoY wr B (.slice (some ⟨g, 0, none⟩) n c) ls vs) (hb : Below wr.heap.size wr W) (hB : B ≤ wr.heap.size) (hk : k < ls.length) (hu : OG 5 1 byC W wr.heap.size u l) :
    RoY (W.setCell ⟨g, k, none⟩ u) B (.slice (some ⟨g, 0, none⟩) n c) (ls.set k l) (vs.set k u) := by
  have hl := h.len
  have hW := h.below hb
  have hrow : (Value.slice (some ⟨g, 0, none⟩) n c).ownBlock = some g := rfl
  have kept : ∀ {A : Nat} {q : Value} {xs : List UInt8}, OG 5 1 byC W A q xs → ∀ g', q.ownBlock = some g' → (W.setCell ⟨g, k, none⟩ u).heap[g']? = W.heap[g']? := by
    intro A q xs hq g' hqg
    exact heap_setCell_other _ _ _ _ (by have := hW.rowNot hrow hq hqg; simpa using this)
  have r1 : ∀ i, i ≠ k → rat (vs.set k u) i = rat vs i := fun i hi => by
    unfold rat
    rw [List.getD_eq_getElem?_getD, List.getElem?_set_ne (by omega), ← List.getD_eq_getElem?_getD]
  have r2 : rat (vs.set k u) k = u := by unfold rat; simp [hl, hk]
  have old : ∀ i, i < ls.length → ∀ g, (rat vs i).ownBlock = some g → g < wr.heap.size := fun i hi g hg => (rowBlk (h.bx i hi) hg).2.1
  have new : ∀ g, u.ownBlock = some g → wr.heap.size ≤ g := fun g hg => (rowBlk hu hg).1
  refine ⟨?_, fun i hi => ?_, fun i j hij hi hj g' hgi => ?_⟩
  · rw [List.length_set]
    have hn : n = ls.length := by obtain ⟨_, _, e⟩ := h.form; injection e
    subst hn
    exact (World.ownsRow.stored hW.o k u).1
  · rw [List.length_set] at hi
    by_cases e : i = k
    · subst e
      have : (ls.set i l).getD i [] = l := by simp [hi]
      rw [this, r2]; exact rowLow (OG.kept hu (kept hu)) hB
    · have : (ls.set k l).getD i [] = ls.getD i [] := by
        rw [List.getD_eq_getElem?_getD, List.getElem?_set_ne (by omega), ← List.getD_eq_getElem?_getD]
      rw [this, r1 i e]
      exact (hW.bx i hi).kept (kept (hW.bx i hi))
  · rw [List.length_set] at hi hj
    by_cases e1 : i = k
    · subst e1
      rw [r2] at hgi
      rw [r1 j (by omega)]
      intro e4
      have h1 := old j hj g' e4
      have h2 := new g' hgi
      omega
    · by_cases e2 : j = k
      · subst e2
        rw [r1 i e1] at hgi
        rw [r2]
        intro e4
        have h1 := old i hi g' hgi
        have h2 := new g' e4
        omega
      · rw [r1 i e1] at hgi
        rw [r1 j e2]
        exact h.ds i j hij hi hj g' hgi



/-- A slice that can be read as a list of lists of numbers. -/
def RsY (w : World) (v : Value) (ls : List (List UInt8)) : Prop :=
  ∃ a c, v = .slice a ls.length c ∧ (0 < ls.length → ∃ g o, a = some ⟨g, o, none⟩ ∧ g < w.heap.size ∧ ∀ j, j < ls.length → ∃ u, w.cell? ⟨g, o + j, none⟩ = some u ∧ RG 1 byC w u (ls.getD j []))
theorem RsY.form {w : World} {v : Value} {ls : List (List UInt8)} (h : RsY w v ls) : ∃ a c, v = .slice a ls.length c := by
  obtain ⟨a, c, rfl, _⟩ := h; exact ⟨a, c, rfl⟩
theorem RsY.len {w : World} {a : Option Addr} {n c : Nat} {ls : List (List UInt8)} (h : RsY w (.slice a n c) ls) : n = ls.length := by
  obtain ⟨_, _, e⟩ := h.form; injection e
theorem RsY.below {w w' : World} {v : Value} {ls : List (List UInt8)} (h : RsY w v ls) (hb : Below w.heap.size w w') : RsY w' v ls := by
  obtain ⟨a, c, rfl, h⟩ := h
  refine ⟨a, c, rfl, fun hn => ?_⟩
  obtain ⟨g, o, rfl, hg, hj⟩ := h hn
  refine ⟨g, o, rfl, Nat.lt_of_lt_of_le hg hb.size, fun j hl => ?_⟩
  obtain ⟨u, h1, h2⟩ := hj j hl
  exact ⟨u, (hb.cell (p := ⟨g, o + j, none⟩) hg).trans h1, h2.below hb⟩
theorem RsY.at {w : World} {a : Option Addr} {n c : Nat} {ls : List (List UInt8)} (h : RsY w (.slice a n c) ls) {j : Nat} (hj : j < n) :
    ∃ g o ua un uc, a = some ⟨g, o, none⟩ ∧ g < w.heap.size ∧ w.cell? ⟨g, o + j, none⟩ = some (.slice ua un uc) ∧ un = (ls.getD j []).length ∧ RG 1 byC w (.slice ua un uc) (ls.getD j []) := by
  have hn := h.len
  obtain ⟨a', c', e, h⟩ := h
  injection e with e1 e2 e3
  subst e1
  obtain ⟨g, o, rfl, hg, hx⟩ := h (by omega)
  obtain ⟨u, h1, h2⟩ := hx j (by omega)
  obtain ⟨ua, uc, rfl⟩ := h2.form
  exact ⟨g, o, ua, _, uc, rfl, hg, h1, rfl, h2⟩
theorem RoY.rd {w : World} {B : Nat} {v : Value} {ls : List (List UInt8)} {vs : List Value} (h : RoY w B v ls vs) : RsY w v ls := by
  obtain ⟨a, c, rfl⟩ := h.form
  refine ⟨a, c, rfl, fun hp => ?_⟩
  obtain ⟨g, cap, e, hB, hg, hx⟩ := h.pos hp
  injection e with e1 e2 e3
  subst e1
  exact ⟨g, 0, rfl, hg, fun j hj => ⟨_, by rw [Nat.zero_add]; exact hx j hj, OG.rg byC_len (h.bx j hj)⟩⟩

/-- How many numbers the first i rows have. -/
def totY (ls : List (List UInt8)) : Nat → Nat
  | 0 => 0
  | i + 1 => totY ls i + (ls.getD i []).length
theorem totY_mono (ls : List (List UInt8)) {i j : Nat} (h : i ≤ j) : totY ls i ≤ totY ls j := by
  induction j with
  | zero => rw [show i = 0 by omega]; exact Nat.le_refl _
  | succ j ih =>
    rcases Nat.lt_or_ge i (j + 1) with h1 | h1
    · have := ih (by omega); rw [totY]; omega
    · rw [show i = j + 1 by omega]; exact Nat.le_refl _
theorem totY_each (ls : List (List UInt8)) {i : Nat} (h : i < ls.length) : (ls.getD i []).length ≤ totY ls ls.length := by
  have := totY_mono ls (show i + 1 ≤ ls.length from h)
  rw [totY] at this
  omega
/-- Not too many rows and numbers in all. -/
structure SmY (ls : List (List UInt8)) : Prop where
  len : ls.length ≤ 1048576
  tot : totY ls ls.length ≤ 1048576
theorem SmY.row {ls : List (List UInt8)} (h : SmY ls) (i : Nat) : (ls.getD i []).length ≤ 1048576 := by
  by_cases hi : i < ls.length
  · exact Nat.le_trans (totY_each ls hi) h.tot
  · rw [List.getD_eq_getElem?_getD, List.getElem?_eq_none (by omega)]; simp
theorem SmY.upto {ls : List (List UInt8)} (h : SmY ls) {i : Nat} (hi : i ≤ ls.length) : totY ls i ≤ 1048576 := Nat.le_trans (totY_mono ls hi) h.tot


end Go.Proofs.Ytejpjbihdclngaa
