/- Proved here: a netlist, and a list of numbers, of the laws' package that came in: how they are read. No condition. -/
import Derived.Test.YtbfieehlekgjeaaNlT
import Derived.Test.YtbfieehlekgjeaaTyGen
namespace Go.Proofs.Ytbfieehlekgjeaa
open Go.ChangeShapes Go.WideShapes Go.ChangeAt Go.RowKit Go.Joins Go.Deep
set_option linter.unusedVariables false
set_option linter.unusedSimpArgs false

theorem int_cell {H : Type} {enc : TypeId × Value → H} {W : World} {fuel : Nat} {cs : List Value} {x : DataW H × List MemPlace} (h : DataW.trod enc Try.prog W 0 (fun _ => true) true fuel 2 cs = some x) : ∃ a : Int, cs = inC a ∧ True := by
  obtain ⟨n, k, _, _⟩ := DataW.trod_int Try.underlying2 h
  exact ⟨n, k, trivial⟩

set_option maxRecDepth 100000 in
theorem rd_cells {H : Type} {enc : TypeId × Value → H} {W : World} {fuel : Nat} {cs : List Value} {x : DataW H × List MemPlace} (h : DataW.trod enc Try.prog W 0 (fun _ => true) true fuel 104 cs = some x) : ∃ a : Rd, cs = rdC a ∧ ∃ d : Dv, Rd1 W a d ∧ okD d := by
  obtain ⟨n, hl, hf⟩ := trod_fields Try.underlying104 (by kernel_rfl) (by kernel_rfl) h
  obtain ⟨c0, c1, rfl⟩ : ∃ c0 c1, cs = [c0, c1] := by
    match cs, hl with
    | [c0, c1], _ => exact ⟨c0, c1, rfl⟩
  obtain ⟨_, y0, e0, t0⟩ := hf 0 _ rfl
  obtain ⟨_, y1, e1, t1⟩ := hf 1 _ rfl
  obtain ⟨n0, k0, _, _⟩ := DataW.trod_int Try.underlying2 t0
  have : Nonempty Int := ⟨0⟩
  obtain ⟨ba, bn, bc, bs, k1, hb1, hb2, _⟩ := rg_of_trod (Q := fun _ => True) Try.underlying46 (show Try.prog.cellsOf 2 = 1 by kernel_rfl) (by omega) inC_len (fun _ _ _ h => int_cell h) t1
  simp at e0 e1 k0 k1
  subst e0 e1
  subst k0 k1
  exact ⟨⟨n0, ba, bn, bc⟩, rfl, ⟨n0, bs⟩, ⟨rfl, hb1⟩, hb2⟩

set_option maxRecDepth 100000 in
/-- A list of devices, out of its cell. -/
theorem devices_cells {H : Type} {enc : TypeId × Value → H} {W : World} {fuel : Nat} {cs : List Value} {x : DataW H × List MemPlace} (h : DataW.trod enc Try.prog W 0 (fun _ => true) true fuel 35 cs = some x) :
    ∃ (a : Option Addr) (n c : Nat) (s : List Dv), cs = [.slice a n c] ∧ RD W (.slice a n c) s ∧ n ≤ maxLen ∧ ∀ j (h : j < s.length), okD s[j] := by
  obtain ⟨a, n, c, rs, hcs, h1, h2, h3⟩ := rg_of_trod (Q := fun a : Rd => ∃ d : Dv, Rd1 W a d ∧ okD d) Try.underlying35 (show Try.prog.cellsOf 104 = 2 by kernel_rfl) (by omega) rdC_len (fun _ _ _ h => rd_cells h) h
  have each : ∀ j, ∃ d : Dv, ∀ (h : j < rs.length), Rd1 W rs[j] d ∧ okD d := by
    intro j
    by_cases hj : j < rs.length
    · obtain ⟨d, hd⟩ := h3 j hj
      exact ⟨d, fun _ => hd⟩
    · exact ⟨⟨0, []⟩, fun h => absurd h hj⟩
  let f : Nat → Dv := fun i => Classical.choose (each i)
  have hf' : ∀ j (h : j < rs.length), Rd1 W rs[j] (f j) ∧ okD (f j) := fun j => Classical.choose_spec (each j)
  refine ⟨a, n, c, (List.range rs.length).map f, hcs, ⟨rs, h1, ⟨by simp, fun j hj hj' => ?_⟩⟩, by rw [h1.len]; exact h2, fun j hj => ?_⟩
  · have := (hf' j hj).1
    simpa using this
  · simp at hj
    have := (hf' j hj).2
    simpa using this

set_option maxRecDepth 100000 in
/-- A netlist that came in. -/
theorem netlist_open {H : Type} {enc : TypeId × Value → H} {W : World} {base : Nat} {v : Value} {d : DataW H} {p : List MemPlace}
    (hv : Value.okWide Try.prog W .any base 37 v) (h : DataW.Trod enc Try.prog W 0 (fun _ => true) true 37 v d p) :
    ∃ (N : Int) (a : Option Addr) (n c : Nat) (s : List Dv), v = .agg #[.int .i64 N, .slice a n c] ∧ RD W (.slice a n c) s ∧ n ≤ maxLen ∧ (∀ j (h : j < s.length), okD s[j]) ∧ (Lit.int .i64 N).wf = true := by
  obtain ⟨c0, c1, y0, y1, m, rfl, rfl, rfl, hy0, hy1⟩ := open_agg2 Try.underlying37 (by kernel_rfl) (by kernel_rfl) hv h
  obtain ⟨n0, k0, _, w0⟩ := DataW.trod_int Try.underlying2 hy0
  obtain ⟨a, n, c, s, k1, h1, h2, h3⟩ := devices_cells hy1
  simp at k0 k1
  subst k0 k1
  exact ⟨n0, a, n, c, s, rfl, h1, h2, h3, w0⟩

set_option maxRecDepth 100000 in
/-- A list of numbers that came in. -/
theorem ints_open {H : Type} {enc : TypeId × Value → H} {W : World} {base : Nat} {v : Value} {d : DataW H} {p : List MemPlace}
    (hv : Value.okWide Try.prog W .any base 46 v) (h : DataW.Trod enc Try.prog W 0 (fun _ => true) true 46 v d p) :
    ∃ (a : Option Addr) (n c : Nat) (s : List Int), v = .slice a n c ∧ RdI W v s ∧ s.length ≤ maxLen := by
  obtain ⟨a0, len0, cap0, rfl⟩ := okWide_slice Try.underlying46 hv
  obtain ⟨fuel, hf⟩ := h
  have : Nonempty Int := ⟨0⟩
  obtain ⟨a, n, c, s, hcs, h1, h2, _⟩ := rg_of_trod (Q := fun _ => True) Try.underlying46 (show Try.prog.cellsOf 2 = 1 by kernel_rfl) (by omega) inC_len (fun _ _ _ h => int_cell h) hf
  simp [Value.cells] at hcs
  obtain ⟨rfl, rfl, rfl⟩ := hcs
  exact ⟨a0, len0, cap0, s, rfl, h1, h2⟩

/-- A world behind one whose first block of its own is o. -/
structure SB (w : World) (o : Obj) (W : World) : Prop where
  bl : Below w.heap.size w W
  bx : W.heap[w.heap.size]? = some o
theorem SB.next {w : World} {o : Obj} {V V' : World} (h : SB w o V) (hb : Below V.heap.size V V') : SB w o V' := by
  have hlt : w.heap.size < V.heap.size := by
    rcases Nat.lt_or_ge w.heap.size V.heap.size with h' | h'
    · exact h'
    · have := h.bx; rw [Array.getElem?_eq_none h'] at this; cases this
  exact ⟨h.bl.trans (hb.mono h.bl.size), (hb.block _ hlt).trans h.bx⟩
theorem SB.new (w : World) (o : Obj) : SB w o (w.alloc o) := ⟨by (repeat' (first | (with_reducible exact Below.refl _ _) | (with_reducible assumption) | (with_reducible refine Below.setCell ?_ ?_ _) | (with_reducible refine Below.alloc ?_ ?_ _) | (with_reducible refine below_drewN ?_ _) | (with_reducible refine Below.drew ?_) | (with_reducible exact Nat.le_refl _) | omega | (simp; done) | (simp; omega))), heap_alloc_new w o⟩
/-- The same with two. -/
structure SB2 (w : World) (o o' : Obj) (W : World) : Prop where
  bl : Below w.heap.size w W
  bx : W.heap[w.heap.size]? = some o
  by_ : W.heap[w.heap.size + 1]? = some o'
theorem SB2.next {w : World} {o o' : Obj} {V V' : World} (h : SB2 w o o' V) (hb : Below V.heap.size V V') : SB2 w o o' V' := by
  have hlt : w.heap.size + 1 < V.heap.size := by
    rcases Nat.lt_or_ge (w.heap.size + 1) V.heap.size with h' | h'
    · exact h'
    · have := h.by_; rw [Array.getElem?_eq_none h'] at this; cases this
  exact ⟨h.bl.trans (hb.mono h.bl.size), (hb.block _ (by omega)).trans h.bx, (hb.block _ hlt).trans h.by_⟩
theorem SB2.new (w : World) (o o' : Obj) : SB2 w o o' ((w.alloc o).alloc o') := ⟨by (repeat' (first | (with_reducible exact Below.refl _ _) | (with_reducible assumption) | (with_reducible refine Below.setCell ?_ ?_ _) | (with_reducible refine Below.alloc ?_ ?_ _) | (with_reducible refine below_drewN ?_ _) | (with_reducible refine Below.drew ?_) | (with_reducible exact Nat.le_refl _) | omega | (simp; done) | (simp; omega))), (Below.heap_alloc _ _ _ (by simp)).trans (heap_alloc_new w o), hp_at1 w o o'⟩

end Go.Proofs.Ytbfieehlekgjeaa
