/- Proved here: what is scattered: sums over all that is near, told in two ways. No condition on the program. (And ahead of it: Proved here: the arithmetic of maps of doses.) (And ahead of it: Proved here: lists of lists of numbers of the call's own: how they lie, grow and turn. (And ahead of it: Proved here: small rules on rows of the call's own memory. No condition on the program.)) -/
import Derived.Test.YtmpbcdolikafpaaGen
import Derived.Test.YtmpbcdolikafpaaNlJ
import Derived.Test.YtmpbcdolikafpaaWtB
import Derived.Test.YtmpbcdolikafpaaWtF
namespace Go.Proofs.Ytmpbcdolikafpaa
open Go.RowKit
set_option linter.unusedVariables false
set_option linter.unusedSimpArgs false

def rat (vs : List Value) (i : Nat) : Value := vs.getD i (.slice none 0 0)
theorem rat_get {vs : List Value} {i : Nat} (h : i < vs.length) : rat vs i = vs[i] := by simp [rat, h]
theorem kindsR {w : World} {g : Nat} {cs ds : Array Value} {s t : TypeId} (h1 : w.heap[g]? = some (.cells cs s (0, 0))) (h2 : w.heap[g]? = some (.cells ds t (0, 0))) (hn : s ≠ t) : False := by
  rw [h1] at h2
  simp only [Option.some.injEq, Obj.cells.injEq] at h2
  exact hn h2.2.1
theorem rowKept {w w' : World} {B T k n : Nat} {v : Value} {xs : List Value} (h : w.ownsRow B T k v n xs) (hb : ∀ g, v.ownBlock = some g → w'.heap[g]? = w.heap[g]?) : w'.ownsRow B T k v n xs := by
  refine ⟨h.1, ?_⟩
  rcases h.2 with h' | ⟨g, cap, cur, rfl, hB, hg, hr⟩
  · exact Or.inl h'
  · exact Or.inr ⟨g, cap, cur, rfl, hB, by rw [hb g rfl]; exact hg, hr⟩
theorem rowBlk {w : World} {B T k n g : Nat} {v : Value} {xs : List Value} (h : w.ownsRow B T k v n xs) (hg : v.ownBlock = some g) : B ≤ g ∧ g < w.heap.size ∧ ∃ cs, w.heap[g]? = some (.cells cs T (0, 0)) := by
  refine ⟨(World.ownsRow.lt h g hg).1, (World.ownsRow.lt h g hg).2, ?_⟩
  rcases h.2 with ⟨e, _⟩ | ⟨g', cap, cur, e, hB, hgg, hr⟩
  · rw [e] at hg; cases hg
  · rw [e] at hg
    simp only [Value.ownBlock, Option.some.injEq] at hg
    subst hg
    exact ⟨_, hgg⟩
theorem rowLow {w : World} {A B T k n : Nat} {v : Value} {xs : List Value} (h : w.ownsRow B T k v n xs) (hab : A ≤ B) : w.ownsRow A T k v n xs := by
  refine ⟨h.1, ?_⟩
  rcases h.2 with h' | ⟨g, cap, cur, rfl, hB, hr⟩
  · exact Or.inl h'
  · exact Or.inr ⟨g, cap, cur, rfl, by omega, hr⟩

end Go.Proofs.Ytmpbcdolikafpaa

namespace Go.Proofs.Ytmpbcdolikafpaa
open Go.RowKit
set_option linter.unusedVariables false
set_option linter.unusedSimpArgs false

theorem info_row : (Try.prog.info? 29).map (fun i => (i.zero, i.size, i.bytes)) = some (some (.slice none 0 0), 1, 24) := by kernel_rfl
/-- A list of lists of numbers. -/
structure RI (w : World) (B : Nat) (v : Value) (ls : List (List Int)) (vs : List Value) : Prop where
  o : w.ownsRow B 29 1 v ls.length vs
  bx : ∀ i, i < ls.length → IS w B (rat vs i) (ls.getD i [])
  ds : ∀ i j, i ≠ j → i < ls.length → j < ls.length → ∀ g, (rat vs i).ownBlock = some g → (rat vs j).ownBlock ≠ some g
theorem RI.len {w : World} {B : Nat} {v : Value} {ls : List (List Int)} {vs : List Value} (h : RI w B v ls vs) : vs.length = ls.length := by have := h.o.1; omega
theorem RI.kept {w w' : World} {B : Nat} {v : Value} {ls : List (List Int)} {vs : List Value} (h : RI w B v ls vs) (hr : ∀ g, v.ownBlock = some g → w'.heap[g]? = w.heap[g]?) (hb : ∀ i, i < ls.length → ∀ g, (rat vs i).ownBlock = some g → w'.heap[g]? = w.heap[g]?) : RI w' B v ls vs :=
  ⟨rowKept h.o hr, fun i hi => (h.bx i hi).kept (hb i hi), h.ds⟩
theorem RI.below {w w' : World} {B : Nat} {v : Value} {ls : List (List Int)} {vs : List Value} (h : RI w B v ls vs) (hb : Below w.heap.size w w') : RI w' B v ls vs :=
  h.kept (fun g hg => hb.block g (rowBlk h.o hg).2.1) fun i hi g hg => hb.block g (rowBlk (h.bx i hi) hg).2.1
theorem RI.low {w : World} {A B : Nat} {v : Value} {ls : List (List Int)} {vs : List Value} (h : RI w B v ls vs) (hab : A ≤ B) : RI w A v ls vs :=
  ⟨rowLow h.o hab, fun i hi => rowLow (h.bx i hi) hab, h.ds⟩
theorem RI.form {w : World} {B : Nat} {v : Value} {ls : List (List Int)} {vs : List Value} (h : RI w B v ls vs) : ∃ a c, v = .slice a ls.length c := by
  rcases h.o.2 with ⟨rfl, h0⟩ | ⟨g, cap, cur, rfl, _⟩
  · exact ⟨none, 0, by rw [h0]⟩
  · exact ⟨_, _, rfl⟩
theorem RI.pos {w : World} {B : Nat} {v : Value} {ls : List (List Int)} {vs : List Value} (h : RI w B v ls vs) (hp : 0 < ls.length) :
    ∃ g cap, v = .slice (some ⟨g, 0, none⟩) ls.length cap ∧ B ≤ g ∧ g < w.heap.size ∧ ∀ j, j < ls.length → w.cell? ⟨g, j, none⟩ = some (rat vs j) := by
  have hl := h.len
  have ho := h.o
  rcases h.o.2 with ⟨_, h0⟩ | ⟨g, cap, cur, rfl, hB, hg, hn, hm, hs, ht⟩
  · omega
  · refine ⟨g, cap, rfl, hB, (World.ownsRow.lt ho g rfl).2, fun j hj => ?_⟩
    have := World.ownsRow.cellAt (w := w) (g := g) (cap := cap) ho j (by omega)
    rw [this]
    simp [rat, List.getElem?_eq_getElem (show j < vs.length by omega)]
theorem RI.rowNot {w : World} {B g k : Nat} {v : Value} {ls : List (List Int)} {vs : List Value} (h : RI w B v ls vs) (hg : v.ownBlock = some g) {A : Nat} {u : Value} {xs : List Int} (hu : IS w A u xs) (hk : u.ownBlock = some k) : k ≠ g := by
  rintro rfl
  obtain ⟨_, _, cs, h1⟩ := rowBlk h.o hg
  obtain ⟨_, _, ds, h2⟩ := rowBlk hu hk
  exact kindsR h1 h2 (by decide)
theorem RI.nil (w : World) (B : Nat) : RI w B (.slice none 0 0) [] [] := ⟨World.ownsRow_nil _ _ _ _, fun i h => absurd h (by simp), fun i j _ h => absurd h (by simp)⟩
theorem RI.lit0 (w : World) (B : Nat) (hB : B ≤ w.heap.size) : RI (w.alloc (.cells #[] 29)) B (.slice (some ⟨w.heap.size, 0, none⟩) 0 0) [] [] :=
  ⟨World.ownsRow_lit w #[] 0 hB (by decide) (by simp), fun i h => absurd h (by simp), fun i j _ h => absurd h (by simp)⟩
/-- One more row, whose memory is new. -/
theorem RI.push {wr W w1 : World} {B : Nat} {v v' u : Value} {ls : List (List Int)} {vs : List Value} {l : List Int} {ob : Obj} (h : RI wr B v ls vs) (hb : Below wr.heap.size wr W) (hB : B ≤ wr.heap.size) (hu : IS W wr.heap.size u l)
    (ho : w1.ownsRow B 29 1 v' (ls.length + 1) (vs ++ [u])) (hg : (W.alloc ob).grownBy w1 v.ownBlock) : RI w1 B v' (ls ++ [l]) (vs ++ [u]) := by
  have hl := h.len
  have hW := h.below hb
  have kept : ∀ {A : Nat} {q : Value} {xs : List Int}, IS W A q xs → ∀ g, q.ownBlock = some g → w1.heap[g]? = W.heap[g]? := by
    intro A q xs hq g hqg
    have hlt := (rowBlk hq hqg).2.1
    rw [hg.block g (by simp; omega) ?_]
    · exact Below.heap_alloc _ _ _ hlt
    · intro e
      exact hW.rowNot e.symm hq hqg rfl
  have gl : ∀ i, i < ls.length → rat (vs ++ [u]) i = rat vs i := fun i hi => by
    unfold rat
    rw [List.getD_eq_getElem?_getD, List.getElem?_append_left (by omega), ← List.getD_eq_getElem?_getD]
  have gt : rat (vs ++ [u]) ls.length = u := by
    unfold rat
    rw [List.getD_eq_getElem?_getD, List.getElem?_append_right (by omega)]; simp [hl]
  have ll : ∀ i, i < ls.length → (ls ++ [l]).getD i [] = ls.getD i [] := fun i hi => by
    rw [List.getD_eq_getElem?_getD, List.getElem?_append_left hi, ← List.getD_eq_getElem?_getD]
  have lt : (ls ++ [l]).getD ls.length [] = l := by
    rw [List.getD_eq_getElem?_getD, List.getElem?_append_right (Nat.le_refl _)]; simp
  have old : ∀ i, i < ls.length → ∀ g, (rat vs i).ownBlock = some g → g < wr.heap.size := fun i hi g hg => (rowBlk (h.bx i hi) hg).2.1
  have new : ∀ g, u.ownBlock = some g → wr.heap.size ≤ g := fun g hg => (rowBlk hu hg).1
  refine ⟨by rw [List.length_append]; exact ho, fun i hi => ?_, fun i j hij hi hj g hgi => ?_⟩
  · simp only [List.length_append, List.length_singleton] at hi
    by_cases e : i < ls.length
    · rw [gl i e, ll i e]
      exact (hW.bx i e).kept (kept (hW.bx i e))
    · have e2 : i = ls.length := by omega
      rw [e2, gt, lt]
      exact rowLow (IS.kept hu (kept hu)) hB
  · simp only [List.length_append, List.length_singleton] at hi hj
    by_cases e1 : i < ls.length
    · by_cases e2 : j < ls.length
      · rw [gl i e1] at hgi; rw [gl j e2]; exact h.ds i j hij e1 e2 g hgi
      · have e3 : j = ls.length := by omega
        rw [gl i e1] at hgi
        rw [e3, gt]
        intro e4
        have h1 := old i e1 g hgi
        have h2 := new g e4
        omega
    · have e3 : i = ls.length := by omega
      have e2 : j < ls.length := by omega
      rw [e3, gt] at hgi
      rw [gl j e2]
      intro e4
      have h1 := old j e2 g e4
      have h2 := new g hgi
      omega
/-- A row turns: its block alone. -/
theorem RI.turn {w w' : World} {B k : Nat} {v : Value} {ls : List (List Int)} {vs : List Value} {l : List Int} (h : RI w B v ls vs) (hk : k < ls.length) (hu : IS w' B (rat vs k) l) (hO : ∀ g, (rat vs k).ownBlock ≠ some g → w'.heap[g]? = w.heap[g]?) : RI w' B v (ls.set k l) vs := by
  refine ⟨by rw [List.length_set]; exact rowKept h.o (fun g hg => hO g fun e => h.rowNot hg (h.bx k hk) e rfl), fun i hi => ?_, fun i j hij hi hj => ?_⟩
  · rw [List.length_set] at hi
    by_cases e : i = k
    · subst e
      have : (ls.set i l).getD i [] = l := by simp [hi]
      rw [this]; exact hu
    · have : (ls.set k l).getD i [] = ls.getD i [] := by
        rw [List.getD_eq_getElem?_getD, List.getElem?_set_ne (by omega), ← List.getD_eq_getElem?_getD]
      rw [this]
      exact (h.bx i hi).kept fun g hg => hO g fun e2 => h.ds i k e hi hk g hg e2
  · rw [List.length_set] at hi hj
    exact h.ds i j hij hi hj
/-- A row is put in, whose memory is new. -/
theorem RI.put {wr W : World} {B g k n c : Nat} {ls : List (List Int)} {vs : List Value} {u : Value} {l : List Int} (h : RI wr B (.slice (some ⟨g, 0, none⟩) n c) ls vs) (hb : Below wr.heap.size wr W) (hB : B ≤ wr.heap.size) (hk : k < ls.length) (hu : IS W wr.heap.size u l) :
    RI (W.setCell ⟨g, k, none⟩ u) B (.slice (some ⟨g, 0, none⟩) n c) (ls.set k l) (vs.set k u) := by
  have hl := h.len
  have hW := h.below hb
  have hrow : (Value.slice (some ⟨g, 0, none⟩) n c).ownBlock = some g := rfl
  have kept : ∀ {A : Nat} {q : Value} {xs : List Int}, IS W A q xs → ∀ g', q.ownBlock = some g' → (W.setCell ⟨g, k, none⟩ u).heap[g']? = W.heap[g']? := by
    intro A q xs hq g' hqg
    exact heap_setCell_other _ _ _ _ (by have := hW.rowNot hrow hq hqg; simpa using this)
  have r1 : ∀ i, i ≠ k → rat (vs.set k u) i = rat vs i := fun i hi => by
    unfold rat
    rw [List.getD_eq_getElem?_getD, List.getElem?_set_ne (by omega), ← List.getD_eq_getElem?_getD]
  have r2 : rat (vs.set k u) k = u := by unfold rat; simp [hl, hk]
  have old : ∀ i, i < ls.length → ∀ g, (rat vs i).ownBlock = some g → g < wr.heap.size := fun i hi g hg => (rowBlk (h.bx i hi) hg).2.1
  have new : ∀ g, u.ownBlock = some g → wr.heap.size ≤ g := fun g hg => (rowBlk hu hg).1
  refine ⟨?_, fun i hi => ?_, fun i j hij hi hj g' hgi => ?_⟩
  · rw [List.length_set]
    have hn : n = ls.length := by obtain ⟨_, _, e⟩ := h.form; injection e
    subst hn
    exact (World.ownsRow.stored hW.o k u).1
  · rw [List.length_set] at hi
    by_cases e : i = k
    · subst e
      have : (ls.set i l).getD i [] = l := by simp [hi]
      rw [this, r2]; exact rowLow (IS.kept hu (kept hu)) hB
    · have : (ls.set k l).getD i [] = ls.getD i [] := by
        rw [List.getD_eq_getElem?_getD, List.getElem?_set_ne (by omega), ← List.getD_eq_getElem?_getD]
      rw [this, r1 i e]
      exact (hW.bx i hi).kept (kept (hW.bx i hi))
  · rw [List.length_set] at hi hj
    by_cases e1 : i = k
    · subst e1
      rw [r2] at hgi
      rw [r1 j (by omega)]
      intro e4
      have h1 := old j hj g' e4
      have h2 := new g' hgi
      omega
    · by_cases e2 : j = k
      · subst e2
        rw [r1 i e1] at hgi
        rw [r2]
        intro e4
        have h1 := old i hi g' hgi
        have h2 := new g' e4
        omega
      · rw [r1 i e1] at hgi
        rw [r1 j e2]
        exact h.ds i j hij hi hj g' hgi

theorem IS.setR {w : World} {B g n c : Nat} {xs : List Int} (h : IS w B (.slice (some ⟨g, 0, none⟩) n c) xs) (j : Nat) (y : Int) : IS (w.setCell ⟨g, j, none⟩ (.int .i64 y)) B (.slice (some ⟨g, 0, none⟩) n c) (xs.set j y) := by
  have hn : n = xs.length := by obtain ⟨_, _, e⟩ := h.form; injection e
  subst hn
  have := (World.ownsRow.stored h j (.int .i64 y)).1
  unfold IS
  rw [List.length_set, List.map_set]
  exact this
theorem IS.snocR {w : World} {B : Nat} {v : Value} {xs : List Int} {y : Int} (h : w.ownsRow B 2 1 v (xs.length + 1) (xs.map (Value.int .i64) ++ [.int .i64 y])) : IS w B v (xs ++ [y]) := by
  unfold IS
  rw [List.length_append, List.map_append]
  exact h

end Go.Proofs.Ytmpbcdolikafpaa

namespace Go.Proofs.Ytmpbcdolikafpaa
open Go.RowKit
set_option linter.unusedVariables false
set_option linter.unusedSimpArgs false

def inB (b : Bx) (x y : Int) : Prop := b.x0 ≤ x ∧ x < b.x1 ∧ b.y0 ≤ y ∧ y < b.y1
instance (b : Bx) (x y : Int) : Decidable (inB b x y) := by unfold inB; infer_instance
/-- What the shots give to a cell. -/
def sumD (l : List Sh) (x y : Int) : Int := match l with
  | [] => 0
  | s :: t => (if inB s.b x y then s.d else 0) + sumD t x y
theorem sumD_append (s t : List Sh) (x y : Int) : sumD (s ++ t) x y = sumD s x y + sumD t x y := by
  induction s with
  | nil => simp [sumD]
  | cons a s ih => rw [List.cons_append, sumD, sumD, ih]; omega
theorem sumD_take {l : List Sh} {k : Nat} (h : k < l.length) (x y : Int) : sumD (l.take (k + 1)) x y = sumD (l.take k) x y + (if inB l[k].b x y then l[k].d else 0) := by
  rw [List.take_succ_eq_append_getElem h, sumD_append]
  simp [sumD]
theorem sumD_bound {l : List Sh} (h : ∀ x ∈ l, 0 ≤ x.d ∧ x.d ≤ 1000) (x y : Int) : 0 ≤ sumD l x y ∧ sumD l x y ≤ 1000 * l.length := by
  induction l with
  | nil => simp [sumD]
  | cons a l ih =>
    have h1 := h a (by simp)
    have h2 := ih fun c hc => h c (by simp [hc])
    simp only [sumD, List.length_cons]
    split <;> omega
theorem sumD_small {l : List Sh} (hl : l.length ≤ 40) (h : ∀ x ∈ l, 0 ≤ x.d ∧ x.d ≤ 1000) (k : Nat) (x y : Int) : 0 ≤ sumD (l.take k) x y ∧ sumD (l.take k) x y ≤ 40000 := by
  have h1 := sumD_bound (l := l.take k) (fun c hc => h c (List.mem_of_mem_take hc)) x y
  have h2 : (l.take k).length ≤ 40 := by rw [List.length_take]; omega
  omega
/-- A row, and a map, of numbers that are told place by place. -/
def rowG (G : Nat → Int) (n : Nat) : List Int := (List.range n).map G
def gridL (G : Nat → Nat → Int) (h n : Nat) : List (List Int) := (List.range h).map fun i => rowG (G i) n
theorem rowG_succ (G : Nat → Int) (n : Nat) : rowG G (n + 1) = rowG G n ++ [G n] := by unfold rowG; rw [List.range_succ, List.map_append]; rfl
theorem rowG_len (G : Nat → Int) (n : Nat) : (rowG G n).length = n := by simp [rowG]
theorem gridL_succ (G : Nat → Nat → Int) (h n : Nat) : gridL G (h + 1) n = gridL G h n ++ [rowG (G h) n] := by unfold gridL; rw [List.range_succ, List.map_append]; rfl
theorem gridL_len (G : Nat → Nat → Int) (h n : Nat) : (gridL G h n).length = h := by simp [gridL]
theorem gridL_at (G : Nat → Nat → Int) {h n i : Nat} (hi : i < h) : (gridL G h n).getD i [] = rowG (G i) n := by simp [gridL, hi]
theorem rowG_at (G : Nat → Int) {n j : Nat} (hj : j < n) : (rowG G n).getD j 0 = G j := by simp [rowG, hj]
def wdN (f : Bx) : Nat := (f.x1 - f.x0).toNat
def htN (f : Bx) : Nat := (f.y1 - f.y0).toNat
def mapG (l : List Sh) (f : Bx) : Nat → Nat → Int := fun i j => sumD l (f.x0 + (j : Int)) (f.y0 + (i : Int))
def mapV (l : List Sh) (f : Bx) : List (List Int) := gridL (mapG l f) (htN f) (wdN f)
def dmC (l : List Sh) (f : Bx) : Int := if shF l = 0 then frF f else shF l
def dmL (l : List Sh) (f : Bx) : List (List Int) := if dmC l f = 0 then mapV l f else []
theorem frF_box {f : Bx} (h : frF f = 0) : (f.x0 < f.x1 ∧ f.y0 < f.y1 ∧ -10000 ≤ f.x0 ∧ -10000 ≤ f.y0 ∧ f.x1 ≤ 10000 ∧ f.y1 ≤ 10000) ∧ f.x1 - f.x0 ≤ 24 ∧ f.y1 - f.y0 ≤ 24 := by
  have h1 := frF_good h
  exact ⟨bfK_good h1.1, h1.2⟩
theorem dmC_good {l : List Sh} {f : Bx} (h : dmC l f = 0) : shF l = 0 ∧ frF f = 0 := by
  unfold dmC at h
  by_cases h1 : shF l = 0
  · rw [if_pos h1] at h; exact ⟨h1, h⟩
  · rw [if_neg h1] at h; exact absurd h h1
theorem totG (G : Nat → Nat → Int) (h n : Nat) (hh : h ≤ 24) (hn : n ≤ 24) : (gridL G h n).length ≤ 24 ∧ ∀ i, ((gridL G h n).getD i []).length ≤ 24 := by
  refine ⟨by rw [gridL_len]; exact hh, fun i => ?_⟩
  by_cases hi : i < h
  · rw [gridL_at G hi, rowG_len]; exact hn
  · simp [gridL, hi]

end Go.Proofs.Ytmpbcdolikafpaa

namespace Go.Proofs.Ytmpbcdolikafpaa
set_option linter.unusedVariables false
set_option linter.unusedSimpArgs false

/-- A sum of the first k. -/
def sgm (p : Nat → Int) : Nat → Int
  | 0 => 0
  | k + 1 => sgm p k + p k
theorem sgm_congr {p q : Nat → Int} : ∀ {k : Nat}, (∀ m, m < k → p m = q m) → sgm p k = sgm q k
  | 0, _ => rfl
  | k + 1, h => by rw [sgm, sgm, sgm_congr (fun m hm => h m (by omega)), h k (by omega)]
theorem sgm_mul (c : Int) (p : Nat → Int) : ∀ k, sgm (fun i => c * p i) k = c * sgm p k
  | 0 => by simp [sgm]
  | k + 1 => by rw [sgm, sgm, sgm_mul c p k, Int.mul_add]
theorem sgm_bd {p : Nat → Int} {c : Int} (h : ∀ m, 0 ≤ p m ∧ p m ≤ c) : ∀ k : Nat, 0 ≤ sgm p k ∧ sgm p k ≤ k * c
  | 0 => by simp [sgm]
  | k + 1 => by
    have := sgm_bd h k; have := h k
    have e : ((k + 1 : Nat) : Int) * c = k * c + c := by rw [Int.natCast_add, Int.add_mul]; simp
    rw [sgm, e]; omega
/-- Where what is near begins and ends. -/
def loN (r x : Nat) : Nat := x - r
def hiN (W r x : Nat) : Nat := if x + r + 1 ≤ W then x + r + 1 else W
theorem lohi {W r x : Nat} (h : x < W) : loN r x ≤ x ∧ x < hiN W r x ∧ hiN W r x ≤ W ∧ loN r x ≤ hiN W r x := by
  unfold loN hiN; split <;> omega
/-- A sum over what is near. -/
def nrS (g : Nat → Int) (W r x : Nat) : Int := sgm (fun i => g (loN r x + i)) (hiN W r x - loN r x)
/-- .. place by place, those that are not there left out: k of them. -/
def nrK (g : Nat → Int) (W r x : Nat) : Nat → Int
  | 0 => 0
  | k + 1 => nrK g W r x k + if r ≤ x + k ∧ x + k < W + r then g (x + k - r) else 0
theorem nrK_step (g : Nat → Int) {W r x : Nat} (hx : x < W) : ∀ k, nrK g W r x k = sgm (fun i => g (loN r x + i)) ((if x + k ≤ r then loN r x else if x + k - r ≤ W then x + k - r else W) - loN r x)
  | 0 => by
    rw [nrK]
    have : (if x + 0 ≤ r then loN r x else if x + 0 - r ≤ W then x + 0 - r else W) - loN r x = 0 := by
      unfold loN; split
      · omega
      · split <;> omega
    rw [this, sgm]
  | k + 1 => by
    rw [nrK, nrK_step g hx k]
    by_cases h1 : x + k < r
    · rw [if_pos (by omega), if_neg (by omega), if_pos (by omega), Int.add_zero]
    · by_cases h2 : x + k - r < W
      · rw [if_pos (show r ≤ x + k ∧ x + k < W + r by omega)]
        have e1 : (if x + k ≤ r then loN r x else if x + k - r ≤ W then x + k - r else W) - loN r x = x + k - r - loN r x := by
          unfold loN; split
          · omega
          · split <;> omega
        have e2 : (if x + (k + 1) ≤ r then loN r x else if x + (k + 1) - r ≤ W then x + (k + 1) - r else W) - loN r x = (x + k - r - loN r x) + 1 := by
          unfold loN
          rw [if_neg (by omega), if_pos (by omega)]
          omega
        rw [e1, e2, sgm]
        have e3 : loN r x + (x + k - r - loN r x) = x + k - r := by unfold loN; omega
        rw [e3]
      · rw [if_neg (show ¬ (r ≤ x + k ∧ x + k < W + r) by omega), Int.add_zero]
        have e1 : (if x + k ≤ r then loN r x else if x + k - r ≤ W then x + k - r else W) = W := by
          rw [if_neg (by omega)]; split <;> omega
        have e2 : (if x + (k + 1) ≤ r then loN r x else if x + (k + 1) - r ≤ W then x + (k + 1) - r else W) = W := by
          rw [if_neg (by omega)]; split <;> omega
        rw [e1, e2]
theorem nrK_all (g : Nat → Int) {W r x : Nat} (hx : x < W) : nrK g W r x (2 * r + 1) = nrS g W r x := by
  rw [nrK_step g hx]
  unfold nrS
  congr 2
  unfold loN hiN
  split
  · split <;> omega
  · split
    · rw [if_pos (by omega)]; omega
    · rw [if_neg (by omega)]
/-- What is scattered to a place. -/
def spV (G : Nat → Nat → Int) (H W r : Nat) (own share : Int) (y x : Nat) : Int := own * G y x + share * nrS (fun v => nrS (G v) W r x) H r y
/-- .. as the model adds it up: of row after row, place after place. -/
def rwK (G : Nat → Nat → Int) (H W r : Nat) (share : Int) (y x i : Nat) : Nat → Int
  | 0 => 0
  | k + 1 => rwK G H W r share y x i k + if (r ≤ y + i ∧ y + i < H + r) ∧ (r ≤ x + k ∧ x + k < W + r) then share * G (y + i - r) (x + k - r) else 0
def alK (G : Nat → Nat → Int) (H W r : Nat) (share : Int) (y x : Nat) : Nat → Int
  | 0 => 0
  | i + 1 => alK G H W r share y x i + rwK G H W r share y x i (2 * r + 1)
theorem rwK_in (G : Nat → Nat → Int) {H W r : Nat} (share : Int) {y x i : Nat} (h : r ≤ y + i ∧ y + i < H + r) : ∀ k, rwK G H W r share y x i k = share * nrK (G (y + i - r)) W r x k
  | 0 => by simp [rwK, nrK]
  | k + 1 => by
    rw [rwK, rwK_in G share h k, nrK, Int.mul_add]
    by_cases h2 : r ≤ x + k ∧ x + k < W + r
    · rw [if_pos ⟨h, h2⟩, if_pos h2]
    · rw [if_neg (fun e => h2 e.2), if_neg h2]; simp
theorem rwK_out (G : Nat → Nat → Int) {H W r : Nat} (share : Int) {y x i : Nat} (h : ¬ (r ≤ y + i ∧ y + i < H + r)) : ∀ k, rwK G H W r share y x i k = 0
  | 0 => rfl
  | k + 1 => by rw [rwK, rwK_out G share h k, if_neg (fun e => h e.1)]; rfl
theorem alK_is (G : Nat → Nat → Int) {H W r : Nat} (share : Int) {y x : Nat} (hx : x < W) : ∀ i, alK G H W r share y x i = share * nrK (fun v => nrS (G v) W r x) H r y i
  | 0 => by simp [alK, nrK]
  | i + 1 => by
    rw [alK, alK_is G share hx i, nrK, Int.mul_add]
    by_cases h : r ≤ y + i ∧ y + i < H + r
    · rw [if_pos h, rwK_in G share h, nrK_all _ hx]
    · rw [if_neg h, rwK_out G share h]; simp
theorem alK_all (G : Nat → Nat → Int) {H W r : Nat} (own share : Int) {y x : Nat} (hy : y < H) (hx : x < W) : own * G y x + alK G H W r share y x (2 * r + 1) = spV G H W r own share y x := by
  unfold spV
  rw [alK_is G share hx, nrK_all _ hy]
theorem nrS_bd {g : Nat → Int} {c : Int} (h : ∀ m, 0 ≤ g m ∧ g m ≤ c) {W r x : Nat} (hx : x < W) (hc : 0 ≤ c) : 0 ≤ nrS g W r x ∧ nrS g W r x ≤ W * c := by
  unfold nrS
  have := sgm_bd (p := fun i => g (loN r x + i)) (fun i => h _) (hiN W r x - loN r x)
  refine ⟨this.1, Int.le_trans this.2 ?_⟩
  have h2 := lohi (r := r) hx
  exact Int.mul_le_mul_of_nonneg_right (by omega) hc

end Go.Proofs.Ytmpbcdolikafpaa
