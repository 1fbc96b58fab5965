/- Proved here: what hangs on the blocks of a book of a law's own. (And ahead of it: Proved here: a book of lots of the laws' package that came in: how it is read. No condition.) (And ahead of it: Proved here: a struct of one-cell fields that came in by value, opened: its cells, each with its reading. No condition.) -/
import Derived.Test.YtcfjanignfbidaaProg
import Derived.OpenShut
import Derived.Lib.SmallJoins
import Derived.Test.YtcfjanignfbidaaQlB
import Derived.Deep.Slices
import Derived.Carry
import Derived.Test.YtcfjanignfbidaaQlU
import Derived.Test.YtcfjanignfbidaaQkB
import Derived.Test.YtcfjanignfbidaaQlE
namespace Go.Proofs.Ytcfjanignfbidaa
open Go.ChangeShapes Go.WideShapes Go.ChangeAt Go.RowKit Go.Joins Go.Deep
set_option linter.unusedVariables false

theorem agg_open {H : Type} {enc : TypeId × Value → H} {P : Program} {w : World} {r : Reach} {b0 base : Nat} {spare : Nat → Bool} {held : Bool} {t : TypeId} {fs : Array Field} {v : Value} {d : DataW H} {p : List MemPlace}
    (hs : P.underlying t = some (.struct fs)) (hone : oneCellFields P fs = true) (hC : P.cellsOf t = fs.size) (hv : Value.okWide P w r b0 t v) (h : DataW.Trod enc P w base spare held t v d p) :
    ∃ (l : List Value) (n : Nat), v = .agg l.toArray ∧ l.length = fs.size ∧ ∀ (i : Nat) (f : Field), fs[i]? = some f → ∃ c y, l[i]? = some c ∧ DataW.trod enc P w base spare held n f.type [c] = some y := by
  obtain ⟨cs, rfl, hsz⟩ := okWide_struct hs hv
  obtain ⟨l⟩ := cs
  obtain ⟨fuel, hf⟩ := h
  obtain ⟨xs, n, _, hx, hl, hlen, hg⟩ := DataW.trod_struct hs hf
  refine ⟨l, n, rfl, by simpa using hsz.trans hC, fun i f hi => ?_⟩
  obtain ⟨ho, hk⟩ := hone_of hone i f hi
  have hlt : i < fs.size := (Array.getElem?_eq_some_iff.1 hi).1
  have hll : l.length = fs.size := by simpa using hsz.trans hC
  have hil : i < l.length := by omega
  have := hg i f hi
  rw [ho, hk] at this
  have e : (((Value.agg l.toArray).cells.toList).drop i).take 1 = [l[i]] := by
    show (l.drop i).take 1 = [l[i]]
    rw [List.drop_eq_getElem_cons hil]
    rfl
  rw [e, List.getElem?_eq_getElem (by omega)] at this
  exact ⟨l[i], _, List.getElem?_eq_getElem hil, this⟩

theorem list5 {α : Type} {l : List α} (h : l.length = 5) : ∃ c0 c1 c2 c3 c4, l = [c0, c1, c2, c3, c4] := by
  match l, h with
  | [c0, c1, c2, c3, c4], _ => exact ⟨c0, c1, c2, c3, c4, rfl⟩
theorem list9 {α : Type} {l : List α} (h : l.length = 9) : ∃ c0 c1 c2 c3 c4 c5 c6 c7 c8, l = [c0, c1, c2, c3, c4, c5, c6, c7, c8] := by
  match l, h with
  | [c0, c1, c2, c3, c4, c5, c6, c7, c8], _ => exact ⟨c0, c1, c2, c3, c4, c5, c6, c7, c8, rfl⟩

end Go.Proofs.Ytcfjanignfbidaa

namespace Go.Proofs.Ytcfjanignfbidaa
open Go.ChangeShapes Go.WideShapes Go.ChangeAt Go.RowKit Go.Joins Go.Deep
set_option linter.unusedVariables false
set_option linter.unusedSimpArgs false

theorem list4q {α : Type} {l : List α} (h : l.length = 4) : ∃ c0 c1 c2 c3, l = [c0, c1, c2, c3] := by
  match l, h with
  | [c0, c1, c2, c3], _ => exact ⟨c0, c1, c2, c3, rfl⟩
theorem list5q {α : Type} {l : List α} (h : l.length = 5) : ∃ c0 c1 c2 c3 c4, l = [c0, c1, c2, c3, c4] := by
  match l, h with
  | [c0, c1, c2, c3, c4], _ => exact ⟨c0, c1, c2, c3, c4, rfl⟩
theorem list3q {α : Type} {l : List α} (h : l.length = 3) : ∃ c0 c1 c2, l = [c0, c1, c2] := by
  match l, h with
  | [c0, c1, c2], _ => exact ⟨c0, c1, c2, rfl⟩
theorem wd_cells {H : Type} {enc : TypeId × Value → H} {W : World} {fuel : Nat} {cs : List Value} {x : DataW H × List MemPlace} (h : DataW.trod enc Try.prog W 0 (fun _ => true) true fuel 105 cs = some x) : ∃ a : Wdw, cs = wdC a ∧ True := by
  obtain ⟨n, hl, hf⟩ := trod_fields Try.underlying105 (by kernel_rfl) (by kernel_rfl) h
  obtain ⟨c0, c1, c2, rfl⟩ := list3q hl
  obtain ⟨_, y0, e0, t0⟩ := hf 0 _ rfl
  obtain ⟨_, y1, e1, t1⟩ := hf 1 _ rfl
  obtain ⟨_, y2, e2, t2⟩ := hf 2 _ rfl
  obtain ⟨n0, k0, _, _⟩ := DataW.trod_int Try.underlying2 t0
  obtain ⟨n1, k1, _, _⟩ := DataW.trod_int Try.underlying2 t1
  obtain ⟨n2, k2, _, _⟩ := DataW.trod_int Try.underlying2 t2
  simp at e0 e1 e2 k0 k1 k2
  subst e0 e1 e2
  subst k0 k1 k2
  exact ⟨⟨n0, n1, n2⟩, rfl, trivial⟩
set_option maxRecDepth 100000 in
theorem lr_cells {H : Type} {enc : TypeId × Value → H} {W : World} {fuel : Nat} {cs : List Value} {x : DataW H × List MemPlace} (h : DataW.trod enc Try.prog W 0 (fun _ => true) true fuel 101 cs = some x) : ∃ a : Lr, cs = lrC a ∧ ∃ d : Lo, Lr1 W a d ∧ okLo d := by
  obtain ⟨n, hl, hf⟩ := trod_fields Try.underlying101 (by kernel_rfl) (by kernel_rfl) h
  obtain ⟨c0, c1, c2, c3, c4, rfl⟩ := list5q hl
  obtain ⟨_, y0, e0, t0⟩ := hf 0 _ rfl
  obtain ⟨_, y1, e1, t1⟩ := hf 1 _ rfl
  obtain ⟨_, y2, e2, t2⟩ := hf 2 _ rfl
  obtain ⟨_, y3, e3, t3⟩ := hf 3 _ rfl
  obtain ⟨_, y4, e4, t4⟩ := hf 4 _ rfl
  obtain ⟨n0, k0, _, _⟩ := DataW.trod_int Try.underlying2 t0
  obtain ⟨n1, k1, _, w1⟩ := DataW.trod_int Try.underlying2 t1
  obtain ⟨b3, k3, _⟩ := DataW.trod_bool Try.underlying4 t3
  have : Nonempty Int := ⟨0⟩
  obtain ⟨wa, wn, wc, ws, k2, hw1, hw2, _⟩ := rg_of_trod (Q := fun _ => True) Try.underlying24 (show Try.prog.cellsOf 2 = 1 by kernel_rfl) (by omega) inC_len (fun _ _ _ h => int_cell h) t2
  obtain ⟨da, dn, dc, ds, k4, hd1, hd2, _⟩ := rg_of_trod (Q := fun _ => True) Try.underlying24 (show Try.prog.cellsOf 2 = 1 by kernel_rfl) (by omega) inC_len (fun _ _ _ h => int_cell h) t4
  simp at e0 e1 e2 e3 e4 k0 k1 k2 k3 k4
  subst e0 e1 e2 e3 e4
  subst k0 k1 k2 k3 k4
  exact ⟨⟨n0, n1, wa, wn, wc, b3, da, dn, dc⟩, rfl, ⟨n0, n1, ws, b3, ds⟩, ⟨rfl, rfl, rfl, hw1, hd1⟩, hw2, hd2, w1⟩
set_option maxRecDepth 100000 in
theorem lots_cells {H : Type} {enc : TypeId × Value → H} {W : World} {fuel : Nat} {cs : List Value} {x : DataW H × List MemPlace} (h : DataW.trod enc Try.prog W 0 (fun _ => true) true fuel 23 cs = some x) :
    ∃ (a : Option Addr) (n c : Nat) (s : List Lo), cs = [.slice a n c] ∧ RLo W (.slice a n c) s ∧ s.length ≤ maxLen ∧ ∀ j (h : j < s.length), okLo s[j] := by
  obtain ⟨a, n, c, rs, hcs, h1, h2, h3⟩ := rg_of_trod (Q := fun a : Lr => ∃ d : Lo, Lr1 W a d ∧ okLo d) Try.underlying23 (show Try.prog.cellsOf 101 = 5 by kernel_rfl) (by omega) lrC_len (fun _ _ _ h => lr_cells h) h
  have each : ∀ j, ∃ d : Lo, ∀ (h : j < rs.length), Lr1 W rs[j] d ∧ okLo d := by
    intro j
    by_cases hj : j < rs.length
    · obtain ⟨d, hd⟩ := h3 j hj
      exact ⟨d, fun _ => hd⟩
    · exact ⟨⟨0, 0, [], false, []⟩, fun h => absurd h hj⟩
  let f : Nat → Lo := fun i => Classical.choose (each i)
  have hf' : ∀ j (h : j < rs.length), Lr1 W rs[j] (f j) ∧ okLo (f j) := fun j => Classical.choose_spec (each j)
  refine ⟨a, n, c, (List.range rs.length).map f, hcs, ⟨rs, h1, ⟨by simp, fun j hj hj' => ?_⟩⟩, by simpa using h2, fun j hj => ?_⟩
  · have := (hf' j hj).1
    simpa using this
  · simp at hj
    have := (hf' j hj).2
    simpa using this
set_option maxRecDepth 100000 in
/-- A book that came in. -/
theorem book_open {H : Type} {enc : TypeId × Value → H} {W : World} {base : Nat} {v : Value} {d : DataW H} {p : List MemPlace}
    (hv : Value.okWide Try.prog W .any base 26 v) (h : DataW.Trod enc Try.prog W 0 (fun _ => true) true 26 v d p) :
    ∃ (wa : Option Addr) (wn wc : Nat) (la : Option Addr) (ln lc : Nat) (xa : Option Addr) (xn xc : Nat) (b : Bk), v = .agg #[.int .i64 b.st, .slice wa wn wc, .slice la ln lc, .slice xa xn xc] ∧ RdBk W (.slice wa wn wc) (.slice la ln lc) (.slice xa xn xc) b ∧ okBk b := by
  obtain ⟨l, n, rfl, hl, hf⟩ := agg_open Try.underlying26 (by kernel_rfl) (by kernel_rfl) hv h
  obtain ⟨c0, c1, c2, c3, rfl⟩ := list4q hl
  obtain ⟨_, y0, e0, t0⟩ := hf 0 _ rfl
  obtain ⟨_, y1, e1, t1⟩ := hf 1 _ rfl
  obtain ⟨_, y2, e2, t2⟩ := hf 2 _ rfl
  obtain ⟨_, y3, e3, t3⟩ := hf 3 _ rfl
  obtain ⟨n0, k0, _, _⟩ := DataW.trod_int Try.underlying2 t0
  have i1 : Nonempty Wdw := ⟨⟨0, 0, 0⟩⟩
  have i2 : Nonempty Int := ⟨0⟩
  obtain ⟨wa, wn, wc, ws, k1, hw1, hw2, _⟩ := rg_of_trod (Q := fun _ : Wdw => True) Try.underlying22 (show Try.prog.cellsOf 105 = 3 by kernel_rfl) (by omega) wdC_len (fun _ _ _ h => wd_cells h) t1
  obtain ⟨la, ln, lc, ls, k2, hl1, hl2, hl3⟩ := lots_cells t2
  obtain ⟨xa, xn, xc, xs, k3, hx1, hx2, _⟩ := rg_of_trod (Q := fun _ => True) Try.underlying24 (show Try.prog.cellsOf 2 = 1 by kernel_rfl) (by omega) inC_len (fun _ _ _ h => int_cell h) t3
  simp at e0 e1 e2 e3 k0 k1 k2 k3
  subst e0 e1 e2 e3
  subst k0 k1 k2 k3
  exact ⟨wa, wn, wc, la, ln, lc, xa, xn, xc, ⟨n0, ws, ls, xs⟩, rfl, ⟨hw1, hl1, hx1⟩, ⟨hw2, hl2, hx2, hl3⟩⟩

end Go.Proofs.Ytcfjanignfbidaa

namespace Go.Proofs.Ytcfjanignfbidaa
open Go.RowKit
set_option linter.unusedVariables false
set_option linter.unusedSimpArgs false

theorem OBk.ow {V : World} {B hi : Nat} {vw vl vs : Value} {b : Bk} {rs : List Lr} (h : PB V B vw vl vs (wvO rs) b rs) (h1 : B ≤ hi) (h2 : hi ≤ V.heap.size) (hh : ∀ q, PBk vw vl vs (wvO rs) rs q → q < hi) : Ow B hi (fun V => OBk V B vw vl vs b) V :=
  ⟨⟨rs, h⟩, fun V' hq => ⟨rs, h.keep fun q hk => hq q (h.blk hk).1 (hh q hk)⟩, ⟨h1, h2⟩⟩
theorem Ow.bkAll {V V0 : World} {vw vl vs : Value} {b : Bk} (h : OBk V V0.heap.size vw vl vs b) (hb : Below V0.heap.size V0 V) : Ow V0.heap.size V.heap.size (fun V => OBk V V0.heap.size vw vl vs b) V := by
  obtain ⟨rs, h⟩ := h
  exact OBk.ow h hb.size (Nat.le_refl _) fun q hq => (h.blk hq).2

end Go.Proofs.Ytcfjanignfbidaa
