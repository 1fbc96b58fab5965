/- Proved here: a row of the call's own whose cells the library has laid anew (putRow, grow): it is the call's own still, with the new cells. No condition on the program. (And ahead of it: Proved here: made lists of noughts.) (And ahead of it: Proved here: how lists of numbers are read. No condition on the program but on its table of types.) (And ahead of it: Proved here: a map from places to counts: looking up, writing; ranging over it, a list is filled.) -/
import Derived.Test.YtjacmneopijiaaaTmC
import Derived.Test.YtjacmneopijiaaaGen
import Derived.Test.YtjacmneopijiaaaKept
import Derived.Sort.Row
import Derived.Sort.Grow
namespace Go.Proofs.Ytjacmneopijiaaa
open Go.RowKit
set_option linter.unusedVariables false
set_option linter.unusedSimpArgs false

theorem ck_law : Maps.Keyed Try.prog 3 := Maps.int_keyed Try.underlying3
theorem ck_zero (w : World) : (zeroValue 2).run Try.prog w = .ok (.int .i64 0) w := by kernel_rfl
theorem ck_make (w : World) : (Instr.makeMap 83 none).run Try.prog w = .ok (.map (some w.heap.size)) (w.alloc (.map #[] 0)) := by
  have h := run_underlying Try.underlying83 w
  simp [Instr.makeMap, h]
theorem ck_key (x : Nat) (h : x ≤ 1000000) : keyOf Try.prog 3 (.int .i64 (x : Int)) = some (.int .i64 (x : Int)) := Maps.keyOf_int_mk Try.underlying3 (ik_wf x (by omega) (by omega))
/-- D tells cnt of each place below m, and has no other keys. -/
structure CT (D : DataW Unit) (m : Nat) (cnt : Nat → Int) : Prop where
  el : ∀ i : Nat, D.atKey (.int .i64 (i : Int)) (.lit (.int .i64 0)) = .lit (.int .i64 (cnt i))
  ks : ∀ kl, Maps.has D kl = true → ∃ i : Nat, i < m ∧ kl = .int .i64 (i : Int)
structure CM (w : World) (b n m : Nat) (cnt : Nat → Int) : Prop where
  own : ∃ D : DataW Unit, w.ownsMap Try.prog 3 (plainElem Try.prog 2) b n D ∧ CT D m cnt
theorem CM.lt {w : World} {b n m : Nat} {cnt : Nat → Int} (h : CM w b n m cnt) : b < w.heap.size := by obtain ⟨D, h1, _⟩ := h.own; exact h1.lt
theorem CM.block {w w' : World} {b n m : Nat} {cnt : Nat → Int} (h : CM w b n m cnt) (hb : w'.heap[b]? = w.heap[b]?) : CM w' b n m cnt := by
  obtain ⟨D, ⟨es, cl, h1, h2⟩, h3⟩ := h.own
  exact ⟨D, ⟨es, cl, hb.trans h1, h2⟩, h3⟩
theorem CM.below {w w' : World} {b n m : Nat} {cnt : Nat → Int} (h : CM w b n m cnt) (hb : Below w.heap.size w w') : CM w' b n m cnt := h.block (hb.block b h.lt)
theorem CM.made (w : World) (m : Nat) : CM (w.alloc (.map #[] 0)) w.heap.size 0 m (fun _ => 0) :=
  ⟨.map [], World.ownsMap_made _ _ _ _, fun _ => rfl, fun kl h => by cases h⟩
theorem CM.look {w : World} {b n m : Nat} {cnt : Nat → Int} (h : CM w b n m cnt) {i : Nat} (hi : i ≤ 1000000) : (Instr.lookup 83 (.map (some b)) (.int .i64 (i : Int)) false).run Try.prog w = .ok (.int .i64 (cnt i)) w := by
  obtain ⟨D, h1, h2⟩ := h.own
  obtain ⟨c, hrun, hat, _⟩ := h1.lookup_int ck_law Try.underlying83 Try.underlying2 (ck_zero _) (ck_key i hi)
  rw [h2.el i] at hat
  simp only [DataW.lit.injEq, Lit.int.injEq, true_and] at hat
  rw [hrun, hat]
theorem lit_ne {i q : Nat} (h : ¬ i = q) : (Lit.int .i64 (q : Int)) ≠ .int .i64 (i : Int) := by
  intro e
  injection e with _ e
  omega
theorem CM.put {w : World} {b n m : Nat} {cnt : Nat → Int} (h : CM w b n m cnt) {i : Nat} (hi : i < m) (hm : m ≤ 1000000) (hn : n ≤ 1000000) {v : Int} (hv : 0 ≤ v ∧ v ≤ 1000000) :
    ∃ w', (Instr.mapUpdate 83 (.map (some b)) (.int .i64 (i : Int)) (.int .i64 v)).run Try.prog w = .ok () w' ∧ CM w' b (n + 1) m (fun q => if i = q then v else cnt q) ∧ w.grownBy w' (some b) := by
  obtain ⟨D, h1, h2⟩ := h.own
  obtain ⟨w', hrun, r1, r2⟩ := h1.update ck_law Try.underlying83 (by unfold maxLen; omega) (ck_key i (by omega)) (plainElem_int Try.underlying2 (ik_wf v (by omega) (by omega)))
  refine ⟨w', hrun, ⟨_, r1, fun q => ?_, fun kl hkl => ?_⟩, r2⟩
  · by_cases e : i = q
    · subst e
      rw [if_pos rfl]
      exact Maps.atKey_put_same h1.isMap (by simp [WideAt.IsKeyLit]) _ _
    · rw [if_neg e, Maps.atKey_put_other (lit_ne e)]
      exact h2.el q
  · by_cases e : kl = .int .i64 (i : Int)
    · exact ⟨i, hi, e⟩
    · rw [Maps.has_put_other e] at hkl
      exact h2.ks kl hkl
theorem CM.conv {w : World} {b n m : Nat} {cnt cnt' : Nat → Int} (h : CM w b n m cnt) (e : ∀ q, cnt q = cnt' q) : CM w b n m cnt' := by
  have : cnt = cnt' := funext e
  subst this; exact h
/-- While it is ranged over, the list L has what has come. -/
def CL (left : Lit → Bool) (cnt : Nat → Int) (m : Nat) (L : List Int) : Prop := L.length = m ∧ ∀ i : Nat, i < m → L[i]? = some (if left (.int .i64 (i : Int)) then 0 else cnt i)
theorem CL.start {D : DataW Unit} {m : Nat} {cnt : Nat → Int} (h : CT D m cnt) : CL (Maps.has D) cnt m (List.replicate m 0) := by
  refine ⟨by simp, fun i hi => ?_⟩
  cases hh : Maps.has D (.int .i64 (i : Int)) with
  | true => simp [hi]
  | false =>
    have h9 := h.el i
    rw [Maps.atKey_of_not_has hh] at h9
    simp only [DataW.lit.injEq, Lit.int.injEq, true_and] at h9
    simp [hi, ← h9]
theorem CL.step {left : Lit → Bool} {m : Nat} {cnt : Nat → Int} {L : List Int} (h : CL left cnt m L) {x : Nat} (hx : x < m) {c : Int} (hc : c = cnt x) : CL (fun z => left z && !z.sameKey (.int .i64 (x : Int))) cnt m (L.set x c) := by
  refine ⟨by simp [h.1], fun i hi => ?_⟩
  by_cases e : x = i
  · subst e
    rw [List.getElem?_set_self (by rw [h.1]; exact hi)]
    have : (Lit.int .i64 (x : Int)).sameKey (.int .i64 (x : Int)) = true := WideAt.sameKey_self (by simp [WideAt.IsKeyLit])
    simp [this, hc]
  · rw [List.getElem?_set_ne e, h.2 i hi]
    have h9 := Maps.sameKey_ne (lit_ne e)
    simp [h9]
theorem CL.stop {left : Lit → Bool} {m : Nat} {cnt : Nat → Int} {L : List Int} (h : CL left cnt m L) (hl : ∀ kl, left kl = false) : L = (List.range m).map cnt := by
  apply List.ext_getElem?
  intro i
  by_cases hi : i < m
  · rw [h.2 i hi, hl]; simp [hi]
  · rw [List.getElem?_eq_none (by rw [h.1]; omega)]; simp [hi]
/-- What comes is a place, with its count. -/
theorem CT.key {w : World} {D : DataW Unit} {b r n m k : Nat} {cnt : Nat → Int} {left : Lit → Bool} (h : CT D m cnt) (hr : w.ranges Try.prog 3 (plainElem Try.prog 2) b r n D left k) {x c : Int} (hl : left (.int .i64 x) = true) (hat : ∀ zd, D.atKey (.int .i64 x) zd = .lit (.int .i64 c)) : ∃ i : Nat, i < m ∧ x = i ∧ c = cnt i := by
  have hh : Maps.has D (.int .i64 x) = true := Maps.has_true_of_atKey hat
  obtain ⟨i, hi, e⟩ := h.ks _ hh
  injection e with _ e
  subst e
  refine ⟨i, hi, rfl, ?_⟩
  have h9 := hat (.lit (.int .i64 0))
  rw [h.el i] at h9
  simp only [DataW.lit.injEq, Lit.int.injEq, true_and] at h9
  exact h9.symm

end Go.Proofs.Ytjacmneopijiaaa

namespace Go.Proofs.Ytjacmneopijiaaa
open Go.RowKit
set_option linter.unusedVariables false
set_option linter.unusedSimpArgs false

def inC (x : Int) : List Value := [.int .i64 x]
theorem inC_len (x : Int) : (inC x).length = 1 := rfl
theorem inC_fm (s : List Int) : s.flatMap inC = s.map (Value.int .i64) := by
  induction s with
  | nil => rfl
  | cons a t ih => rw [List.flatMap_cons, ih]; rfl
theorem og_is {w : World} {B : Nat} {v : Value} {s : List Int} : OG 2 1 inC w B v s ↔ IS w B v s := by
  unfold OG IS; rw [inC_fm]
/-- A slice that can be read as a list of numbers. -/
abbrev RdI (w : World) (v : Value) (s : List Int) : Prop := RG 1 inC w v s
theorem IS.rg {w : World} {B : Nat} {v : Value} {s : List Int} (h : IS w B v s) : RdI w v s := OG.rg inC_len (og_is.2 h)
theorem IS.lt {w : World} {B : Nat} {v : Value} {s : List Int} (h : IS w B v s) : ∀ g, v.ownBlock = some g → B ≤ g ∧ g < w.heap.size := World.ownsRow.lt h
theorem IS.bel {w w' : World} {B : Nat} {v : Value} {s : List Int} (h : IS w B v s) (hb : Below w.heap.size w w') : IS w' B v s := og_is.1 ((og_is.2 h).below hb)
theorem IS.low {w : World} {A B : Nat} {v : Value} {s : List Int} (h : IS w B v s) (hab : A ≤ B) : IS w A v s := og_is.1 (OG.low (og_is.2 h) hab)
/-- From that block on. -/
theorem IS.from {w : World} {B g n c : Nat} {s : List Int} (h : IS w B (.slice (some ⟨g, 0, none⟩) n c) s) : IS w g (.slice (some ⟨g, 0, none⟩) n c) s := by
  refine ⟨h.1, ?_⟩
  rcases h.2 with ⟨h1, _⟩ | ⟨g', cap, cur, h1, h2, h3⟩
  · cases h1
  · refine Or.inr ⟨g', cap, cur, h1, ?_, h3⟩
    simp only [Value.slice.injEq, Option.some.injEq, Addr.mk.injEq, and_true] at h1
    omega
theorem RG.ri {w : World} {v : Value} {s : List Int} (h : RdI w v s) (hn : 0 < s.length) :
    ∃ g o c, v = .slice (some ⟨g, o, none⟩) s.length c ∧ g < w.heap.size ∧ ∀ j, j < s.length → w.cell? ⟨g, o + j, none⟩ = some (.int .i64 (s.getD j 0)) := by
  obtain ⟨g, o, c, rfl, hg, hj⟩ := h.pos hn
  refine ⟨g, o, c, rfl, hg, fun j hl => ?_⟩
  have := hj j hl 0 (by omega)
  simp only [Nat.mul_one, Nat.add_zero] at this
  rw [this]
  simp [inC, List.getElem?_eq_getElem hl]

/-- A world behind one whose first block of its own is o. -/
structure SB (w : World) (o : Obj) (W : World) : Prop where
  bl : Below w.heap.size w W
  bx : W.heap[w.heap.size]? = some o
theorem SB.next {w : World} {o : Obj} {V V' : World} (h : SB w o V) (hb : Below V.heap.size V V') : SB w o V' := by
  have hlt : w.heap.size < V.heap.size := by
    rcases Nat.lt_or_ge w.heap.size V.heap.size with h' | h'
    · exact h'
    · have := h.bx; rw [Array.getElem?_eq_none h'] at this; cases this
  exact ⟨h.bl.trans (hb.mono h.bl.size), (hb.block _ hlt).trans h.bx⟩
theorem SB.new (w : World) (o : Obj) : SB w o (w.alloc o) := ⟨by (repeat' (first | (with_reducible exact Below.refl _ _) | (with_reducible assumption) | (with_reducible refine Below.setCell ?_ ?_ _) | (with_reducible refine Below.alloc ?_ ?_ _) | (with_reducible refine below_drewN ?_ _) | (with_reducible refine Below.drew ?_) | (with_reducible exact Nat.le_refl _) | omega | (simp; done) | (simp; omega))), heap_alloc_new w o⟩

theorem rd_at {w : World} {a : Option Addr} {n c : Nat} {s : List Int} (h : RdI w (.slice a n c) s) {j : Nat} (hj : j < n) : ∃ g o, a = some ⟨g, o, none⟩ ∧ g < w.heap.size ∧ w.cell? ⟨g, o + j, none⟩ = some (.int .i64 (s.getD j 0)) := by
  have hn : n = s.length := h.len
  obtain ⟨g, o, c2, he, hg, hx⟩ := h.ri (by omega)
  injection he with he1 he2 he3
  subst he1
  exact ⟨g, o, rfl, hg, hx j (by omega)⟩

end Go.Proofs.Ytjacmneopijiaaa

namespace Go.Proofs.Ytjacmneopijiaaa
open Go.RowKit
set_option linter.unusedVariables false
set_option linter.unusedSimpArgs false

theorem made_zeros (m : Nat) : (madeCells (Value.cells (.int .i64 0)) (m * 1)).toList = (List.replicate m (0 : Int)).map (Value.int .i64) := by
  unfold madeCells
  simp [Value.cells]
  apply List.ext_getElem?
  intro i
  by_cases h : i < m
  · simp [h, Nat.mod_one]
  · simp [h]
theorem IS.made {w : World} {B g m : Nat} (h : w.ownsRow B 2 1 (.slice (some ⟨g, 0, none⟩) m m) m (madeCells (Value.cells (.int .i64 0)) (m * 1)).toList) : IS w B (.slice (some ⟨g, 0, none⟩) m m) (List.replicate m 0) := by
  unfold IS
  rw [← made_zeros, List.length_replicate]
  exact h
theorem IS.put {w : World} {B g n c : Nat} {xs : List Int} (h : IS w B (.slice (some ⟨g, 0, none⟩) n c) xs) (j : Nat) (y : Int) : IS (w.setCell ⟨g, j, none⟩ (.int .i64 y)) B (.slice (some ⟨g, 0, none⟩) n c) (xs.set j y) := by
  have hn : n = xs.length := by obtain ⟨_, _, e⟩ := h.form; injection e
  subst hn
  have h9 := (World.ownsRow.stored (show w.ownsRow B 2 1 (.slice (some ⟨g, 0, none⟩) xs.length c) xs.length (xs.map (Value.int .i64)) from h) j (.int .i64 y)).1
  unfold IS
  rw [List.length_set, List.map_set]
  exact h9
theorem IS.cellAt {w : World} {B g n c : Nat} {xs : List Int} (h : IS w B (.slice (some ⟨g, 0, none⟩) n c) xs) {j : Nat} {y : Int} (hj : xs[j]? = some y) : w.cell? ⟨g, j, none⟩ = some (.int .i64 y) ∧ w.frozen? ⟨g, j, none⟩ = false := by
  have hn : n = xs.length := by obtain ⟨_, _, e⟩ := h.form; injection e
  subst hn
  have hl : j < xs.length := by
    rcases Nat.lt_or_ge j xs.length with h1 | h1
    · exact h1
    · rw [List.getElem?_eq_none h1] at hj; cases hj
  refine ⟨?_, World.ownsRow.frozenAt h j⟩
  rw [World.ownsRow.cellAt h j (by omega), List.getElem?_map, hj]
  rfl

end Go.Proofs.Ytjacmneopijiaaa

namespace Go.Proofs.Ytjacmneopijiaaa
open Go.RowKit Go.Sort
set_option linter.unusedVariables false
set_option linter.unusedSimpArgs false

theorem put_block (w : World) (m g : Nat) (F : Array Value) (os : Array Obj) (k : Nat) (hk : k < w.heap.size) : (grow (putRow id (Sort.ahead w m) g 0 F) os).heap[k]? = if g = k then (w.heap[k]?).map (onCells (putCells id 0 F)) else w.heap[k]? := by
  show (((w.heap.modify g (onCells (putCells id 0 F)))) ++ os)[k]? = _
  rw [Array.getElem?_append_left (by simpa using hk), Array.getElem?_modify]

theorem put_below (w : World) (m g B : Nat) (F : Array Value) (os : Array Obj) (hB : B ≤ g) (hg : g < w.heap.size) : Below B w (grow (putRow id (Sort.ahead w m) g 0 F) os) := by
  refine ⟨rfl, rfl, rfl, ?_, fun k hk => ?_⟩
  · show w.heap.size ≤ ((w.heap.modify g (onCells (putCells id 0 F))) ++ os).size
    simp
  · rw [put_block w m g F os k (by omega), if_neg (by omega)]

theorem put_owns {w : World} {B T k g n cap : Nat} {cs : List Value} (h : w.ownsRow B T k (.slice (some ⟨g, 0, none⟩) n cap) n cs) (cs' : List Value) (hl : cs'.length = n * k) (m : Nat) (os : Array Obj) :
    (grow (putRow id (Sort.ahead w m) g 0 cs'.toArray) os).ownsRow B T k (.slice (some ⟨g, 0, none⟩) n cap) n cs' := by
  have hlt := (World.ownsRow.lt h g rfl).2
  refine ⟨hl, Or.inr ?_⟩
  rcases h.2 with ⟨e, _⟩ | ⟨g', cap', cur, e, hB, hg, hn, hm, hs, ht⟩
  · cases e
  · simp only [Value.slice.injEq, Option.some.injEq, Addr.mk.injEq, and_true, true_and] at e
    obtain ⟨rfl, rfl⟩ := e
    refine ⟨g, cap, putCells id 0 cs'.toArray cur, rfl, hB, ?_, hn, hm, by simpa [putCells] using hs, ?_⟩
    · rw [put_block w m g _ os g hlt, if_pos rfl, hg]
      rfl
    · apply List.ext_getElem?
      intro t
      rw [List.getElem?_take]
      have hnk : n * k ≤ cap * k := Nat.mul_le_mul_right _ hn
      rcases Nat.lt_or_ge t (n * k) with h1 | h1
      · rw [if_pos h1, Array.getElem?_toList]
        unfold putCells
        rw [Array.getElem?_mapIdx]
        have hc : t < cur.size := by omega
        rw [Array.getElem?_eq_getElem hc]
        have h2 : t < cs'.length := by omega
        simp [h1, h2, hl, List.getElem?_eq_getElem h2]
      · rw [if_neg (by omega), List.getElem?_eq_none (by omega)]

theorem owns_holds {w : World} {B T k g n cap : Nat} {cs : List Value} (h : w.ownsRow B T k (.slice (some ⟨g, 0, none⟩) n cap) n cs) : Holds id w g 0 cs.toArray := by
  intro j hj
  have hj' : j < cs.length := by simpa using hj
  rw [Nat.zero_add]
  refine ⟨?_, World.ownsRow.frozenAt h j⟩
  rw [World.ownsRow.cellAt h j (by have := h.1; omega)]
  simp [hj']

end Go.Proofs.Ytjacmneopijiaaa
