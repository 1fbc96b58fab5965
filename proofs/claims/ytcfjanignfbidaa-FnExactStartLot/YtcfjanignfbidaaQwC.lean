/- Proved here: windows of a book of lots: their cells. (And ahead of it: Proved here: cells of a block. No condition.) (And ahead of it: Proved here: how lists of numbers are read, and how the laws' package weighs, copies and compares them; how one that came in is read. No condition on the program but on its table of types.) (And ahead of it: Proved here (cut off NlI): how lists of numbers are read, and how the laws' package weighs, copies and compares them; how one that came in is read. No condition on the program but on its table of types.) (And ahead of it: Proved here: lists of numbers compared, in the laws. (And ahead of it: Proved here: how lists and structs that came in are opened, whatever they are made of. No condition.)) -/
import Derived.Test.YtcfjanignfbidaaIntsBase
import Derived.OpenShut
import Derived.Lib.SmallJoins
import Derived.Deep.Slices
import Derived.Carry
import Derived.Test.YtcfjanignfbidaaNlJ
namespace Go.Proofs.Ytcfjanignfbidaa
open Go.ChangeShapes Go.WideShapes Go.ChangeAt Go.RowKit Go.Joins Go.Deep
set_option linter.unusedVariables false
set_option linter.unusedSimpArgs false

/-- A struct of one-cell fields among the cells of an element. -/
theorem trod_fields {H : Type} {enc : TypeId × Value → H} {P : Program} {w : World} {base : Nat} {spare : Nat → Bool} {held : Bool} {t : TypeId} {fs : Array Field} {fuel : Nat} {cs : List Value} {x : DataW H × List MemPlace}
    (hs : P.underlying t = some (.struct fs)) (hone : oneCellFields P fs = true) (hC : P.cellsOf t = fs.size) (h : DataW.trod enc P w base spare held fuel t cs = some x) :
    ∃ n, cs.length = fs.size ∧ ∀ (i : Nat) (f : Field), fs[i]? = some f → ∃ c y, cs[i]? = some c ∧ DataW.trod enc P w base spare held n f.type [c] = some y := by
  obtain ⟨xs, n, _, hx, hl, hlen, hg⟩ := DataW.trod_struct hs h
  refine ⟨n, hl.trans hC, fun i f hi => ?_⟩
  obtain ⟨ho, hk⟩ := hone_of hone i f hi
  have hlt : i < fs.size := (Array.getElem?_eq_some_iff.1 hi).1
  have hil : i < cs.length := by rw [hl, hC]; exact hlt
  have := hg i f hi
  rw [ho, hk] at this
  have e : (cs.drop i).take 1 = [cs[i]] := by
    rw [List.drop_eq_getElem_cons hil]
    rfl
  rw [e, List.getElem?_eq_getElem (by omega)] at this
  exact ⟨cs[i], _, List.getElem?_eq_getElem hil, this⟩

/-- A list, element by element. -/
theorem rg_of_trod {α : Type} {H : Type} {enc : TypeId × Value → H} {W : World} {T E k : Nat} {en : α → List Value} {Q : α → Prop} (hT : Try.prog.underlying T = some (.slice E)) (hk : Try.prog.cellsOf E = k) (hpos : 0 < k) (hen : ∀ a, (en a).length = k) [Nonempty α]
    (hE : ∀ (fuel : Nat) (cs : List Value) (x : DataW H × List MemPlace), DataW.trod enc Try.prog W 0 (fun _ => true) true fuel E cs = some x → ∃ a, cs = en a ∧ Q a)
    {fuel : Nat} {cs : List Value} {x : DataW H × List MemPlace} (h : DataW.trod enc Try.prog W 0 (fun _ => true) true fuel T cs = some x) :
    ∃ (a : Option Addr) (n c : Nat) (s : List α), cs = [.slice a n c] ∧ RG k en W (.slice a n c) s ∧ s.length ≤ maxLen ∧ ∀ j (h : j < s.length), Q s[j] := by
  rcases open_slice hT h with ⟨hcs, _⟩ | ⟨x, len, cap, m, n, D, Pl, hcs, _, hl, hm, hmm, _, hx⟩
  · exact ⟨none, 0, 0, [], hcs, RG.nil _ _ _ _ _, by simp, fun j h => by simp at h⟩
  · simp only [if_true] at hmm
    subst hmm
    rw [hk] at hx
    have each : ∀ i, i < len → ∃ b : α, Q b ∧ ∀ j, j < k → W.cell? (x.add (i * k + j)) = (en b)[j]? := by
      intro i hi
      obtain ⟨cs', h1, h2⟩ := hx i (by omega)
      obtain ⟨_, _, hcell⟩ := World.cells?_some h1
      obtain ⟨b, rfl, hQ⟩ := hE _ _ _ h2
      refine ⟨b, hQ, fun j hj => ?_⟩
      rw [← add_add]; exact hcell j hj
    rcases Nat.eq_zero_or_pos len with h0 | hp
    · subst h0
      exact ⟨_, 0, _, [], hcs, RG.nil _ _ _ _ _, by simp, fun j h => by simp at h⟩
    · obtain ⟨b0, _, hb0⟩ := each 0 hp
      obtain ⟨g, off, spt⟩ := x
      have h00 := hb0 0 hpos
      rw [List.getElem?_eq_getElem (by rw [hen]; exact hpos)] at h00
      have hspt : spt = none := by simpa [Addr.add] using World.cell?_spot h00
      subst hspt
      have hadd : ∀ j, (⟨g, off, none⟩ : Addr).add j = ⟨g, off + j, none⟩ := fun j => by unfold Addr.add; split <;> simp_all
      have each' : ∀ i, ∃ b : α, i < len → Q b ∧ ∀ j, j < k → W.cell? ⟨g, off + (i * k + j), none⟩ = (en b)[j]? := by
        intro i
        by_cases hi : i < len
        · obtain ⟨b, hQ, hb⟩ := each i hi
          exact ⟨b, fun _ => ⟨hQ, fun j hj => by rw [← hadd]; exact hb j hj⟩⟩
        · obtain ⟨b⟩ := ‹Nonempty α›
          exact ⟨b, fun h => absurd h hi⟩
      let f : Nat → α := fun i => Classical.choose (each' i)
      have hf' : ∀ i, i < len → Q (f i) ∧ ∀ j, j < k → W.cell? ⟨g, off + (i * k + j), none⟩ = (en (f i))[j]? := fun i => Classical.choose_spec (each' i)
      refine ⟨_, len, _, (List.range len).map f, hcs, ⟨_, _, by simp; rfl, fun _ => ⟨g, off, rfl, ?_, fun j hj i hi => ?_⟩⟩, by simpa using Nat.le_trans hl hm, fun j hj => ?_⟩
      · have := (hf' 0 hp).2 0 hpos
        rw [List.getElem?_eq_getElem (by rw [hen]; exact hpos)] at this
        exact World.block_lt_of_cell? W ⟨g, off + (0 * k + 0), none⟩ this
      · simp at hj
        have := (hf' j hj).2 i hi
        rw [Nat.add_assoc, this]
        simp
      · simp at hj
        have := (hf' j hj).1
        simpa using this


end Go.Proofs.Ytcfjanignfbidaa

namespace Go.Proofs.Ytcfjanignfbidaa
open Go.ChangeShapes Go.WideShapes Go.ChangeAt Go.RowKit Go.Joins Go.Deep
set_option linter.unusedVariables false
set_option linter.unusedSimpArgs false

set_option maxHeartbeats 1600000 in
theorem eqInt64S_same {w : World} {va vb : Value} {s : List Int} (hn : s.length ≤ 1099511627776) (ha : RdI w va s) (hb : RdI w vb s) :
    Calls Try.prog 16 #[va, vb] w fun e w' => e = .returned (.bool true) ∧ Below w.heap.size w w' := by
  obtain ⟨a1, c1', rfl⟩ := ha.form
  obtain ⟨a2, c2', rfl⟩ := hb.form
  obtain ⟨n, hnn⟩ : ∃ n, n = s.length := ⟨_, rfl⟩
  rw [← hnn] at hn ha hb ⊢
  have H : Hid (RdI w (.slice a1 n c1') s ∧ RdI w (.slice a2 n c2') s ∧ n = s.length) := ⟨ha, hb, hnn⟩
  clear ha hb hnn
  go_enter Try.func16, Try.ntmps16
  go_wp2
  go_loopw [5] (fun i wr => ∃ j : Nat, j ≤ n ∧ i = .int .i64 j ∧ Hid (Below w.heap.size w wr)) (fun i _ => n - (intOf i).toNat)
  case atStart => exact ⟨0, Nat.zero_le _, rfl, Below.refl _ _⟩
  case round =>
    obtain ⟨j, hjn, rfl, hR⟩ := hrel
    by_cases hlt : j < n
    · have hjl : j < s.length := by rw [← H.out.2.2]; exact hlt
      obtain ⟨g, o, d1, he, hg, hj⟩ := (H.out.1.below hR.out).ri (by rw [← H.out.2.2]; omega)
      simp only [Value.slice.injEq] at he
      obtain ⟨rfl, hx1, hx2⟩ := he
      obtain ⟨g', o', d2, he', hg', hj'⟩ := (H.out.2.1.below hR.out).ri (by rw [← H.out.2.2]; omega)
      simp only [Value.slice.injEq] at he'
      obtain ⟨rfl, hx3, hx4⟩ := he'
      clear hx1 hx2 hx3 hx4
      have c0 := hj j hjl
      have e0 := hj' j hjl
      obtain ⟨x, hx⟩ : ∃ x, x = s.getD j 0 := ⟨_, rfl⟩
      rw [← hx] at c0 e0
      clear hx hj hj'
      have b0 : (0 : Int) ≤ (j : Int) := by omega
      have b1 : (j : Int) < (n : Int) := by omega
      go_wp2
      go_quiet (fail)
      go_wp2
      go_roundw
      case rel => exact ⟨j + 1, by omega, by go_num, below_drewN hR.out _⟩
      case measure => simp [intOf]; omega
    · go_wp2
      go_returns
      exact ⟨rfl, hR.out⟩


end Go.Proofs.Ytcfjanignfbidaa

namespace Go.Proofs.Ytcfjanignfbidaa
open Go.ChangeShapes Go.WideShapes Go.ChangeAt Go.RowKit Go.Joins Go.Deep
set_option linter.unusedVariables false
set_option linter.unusedSimpArgs false

set_option maxRecDepth 10000 in
set_option maxHeartbeats 3200000 in
theorem toInt64S_any {w : World} {v : Value} {s : List Int} (hn : s.length ≤ 1048576) (h : RdI w v s) :
    Calls Try.prog 12 #[v] w fun e w' => ∃ g, e = .returned (.slice (some ⟨g, 0, none⟩) s.length s.length) ∧ IS w' w.heap.size (.slice (some ⟨g, 0, none⟩) s.length s.length) s ∧ Below w.heap.size w w' := by
  obtain ⟨a, c, rfl⟩ := h.form
  have H : Hid (RdI w (.slice a s.length c) s) := h
  clear h
  obtain ⟨i0, hi, hz0, hz1, hz2⟩ := info_parts info_i64
  obtain ⟨n, hnn⟩ : ∃ n, n = s.length := ⟨_, rfl⟩
  have HN : Hid (n = s.length) := hnn
  rw [← hnn] at hn H ⊢
  clear hnn
  go_enter Try.func12, Try.ntmps12
  go_wp2_with (at_make; refine wpList_make_full _ rfl _ _ 24 rfl w.heap.size 2 i0 (.int .i64 0) 1 Try.underlying24 hi hz0 hz1 _ _ _ _ n rfl rfl rfl rfl (by rw [hz2]; omega) (by unfold maxLen; omega) (Nat.le_refl _) ?_; intro w2 hown2 hgrow2)
  have hb2 : Below w.heap.size w w2 := (Below.refl _ _).grown hgrow2 (Nat.le_refl _) (fun k h => by cases h)
  have HS : Hid (Fill 2 1 inC w2 w.heap.size w.heap.size n s 0 ∧ Below w.heap.size w w2) := ⟨⟨_, hown2, fun t ht => by omega⟩, hb2⟩
  clear hown2 hgrow2 hb2
  go_loopw [4] (fun i wr => ∃ j : Nat, j ≤ n ∧ i = .int .i64 j ∧ Hid (Fill 2 1 inC wr w.heap.size w.heap.size n s j ∧ Below w.heap.size w wr)) (fun i _ => n - (intOf i).toNat)
  case atStart => exact ⟨0, Nat.zero_le _, rfl, HS.out⟩
  case round =>
    clear HS
    obtain ⟨j, hjn, rfl, hR⟩ := hrel
    by_cases hlt : j < n
    · have hjl : j < s.length := by rw [← HN.out]; exact hlt
      obtain ⟨g, o, c2, he, hg, hj⟩ := (H.out.below hR.out.2).ri (by rw [← HN.out]; omega)
      simp only [Value.slice.injEq] at he
      obtain ⟨rfl, hx1, hx2⟩ := he
      clear hx1 hx2
      have c0 := hj j hjl
      obtain ⟨x, hx⟩ : ∃ x, x = s.getD j 0 := ⟨_, rfl⟩
      rw [← hx] at c0
      have HX : Hid (x = s[j]) := by unfold Hid; rw [hx]; simp [List.getD_eq_getElem?_getD, List.getElem?_eq_getElem hjl]
      clear hx hj
      have b0 : (0 : Int) ≤ (j : Int) := by omega
      have b1 : (j : Int) < (n : Int) := by omega
      obtain ⟨⟨u0, g0⟩, f0⟩ := hR.out.1.there j (by omega)
      have HP : Hid (Fill 2 1 inC (wr.setCell ⟨w.heap.size, j, none⟩ (.int .i64 x)) w.heap.size w.heap.size n s (j + 1) ∧ Below w.heap.size w (wr.setCell ⟨w.heap.size, j, none⟩ (.int .i64 x))) := by
        have h1 := hR.out.1.put inC_len HN.out hjl
        rw [← HX.out] at h1
        simp only [Nat.mul_one, inC, putsAt, Nat.add_zero] at h1
        exact ⟨h1, hR.out.2.setCell (Nat.le_refl _) _⟩
      clear hR
      go_wp2
      go_roundw
      case rel => exact ⟨j + 1, by omega, by go_num, HP.out⟩
      case measure => simp [intOf]; omega
    · have HD : Hid (IS wr w.heap.size (.slice (some ⟨w.heap.size, 0, none⟩) n n) s ∧ Below w.heap.size w wr) := ⟨og_is.1 (hR.out.1.done inC_len HN.out (by rw [← HN.out]; omega)), hR.out.2⟩
      clear hR
      go_wp2
      go_returns
      exact ⟨w.heap.size, rfl, HD.out.1, HD.out.2⟩

theorem int_cell {H : Type} {enc : TypeId × Value → H} {W : World} {fuel : Nat} {cs : List Value} {x : DataW H × List MemPlace} (h : DataW.trod enc Try.prog W 0 (fun _ => true) true fuel 2 cs = some x) : ∃ a : Int, cs = inC a ∧ True := by
  obtain ⟨n, k, _, _⟩ := DataW.trod_int Try.underlying2 h
  exact ⟨n, k, trivial⟩

set_option maxRecDepth 100000 in
/-- A list of numbers that came in. -/
theorem ints_open {H : Type} {enc : TypeId × Value → H} {W : World} {base : Nat} {v : Value} {d : DataW H} {p : List MemPlace}
    (hv : Value.okWide Try.prog W .any base 24 v) (h : DataW.Trod enc Try.prog W 0 (fun _ => true) true 24 v d p) :
    ∃ (a : Option Addr) (n c : Nat) (s : List Int), v = .slice a n c ∧ RdI W v s ∧ s.length ≤ maxLen := by
  obtain ⟨a0, len0, cap0, rfl⟩ := okWide_slice Try.underlying24 hv
  obtain ⟨fuel, hf⟩ := h
  have : Nonempty Int := ⟨0⟩
  obtain ⟨a, n, c, s, hcs, h1, h2, _⟩ := rg_of_trod (Q := fun _ => True) Try.underlying24 (show Try.prog.cellsOf 2 = 1 by kernel_rfl) (by omega) inC_len (fun _ _ _ h => int_cell h) hf
  simp [Value.cells] at hcs
  obtain ⟨rfl, rfl, rfl⟩ := hcs
  exact ⟨a0, len0, cap0, s, rfl, h1, h2⟩

end Go.Proofs.Ytcfjanignfbidaa

namespace Go.Proofs.Ytcfjanignfbidaa
open Go.ChangeShapes Go.WideShapes Go.ChangeAt Go.RowKit Go.Joins Go.Deep
set_option linter.unusedVariables false
set_option linter.unusedSimpArgs false

set_option maxHeartbeats 800000 in
theorem szInt64S_gen (a : Option Addr) (n c : Nat) (l : Int) (w : World) (h0 : 0 ≤ l) (h1 : l ≤ 1048576) (h2 : n ≤ maxLen) :
    Calls Try.prog 33 #[.slice a n c, .int .i64 l] w fun e w' => ∃ r, e = .returned (.int .i64 r) ∧ (r < 0 ∨ (0 ≤ r ∧ r ≤ l ∧ (n : Int) ≤ l)) ∧ Below w.heap.size w w' := by
  unfold maxLen at h2
  have hw : IntKind.i64.wrap (l - (n : Int)) = l - (n : Int) := by rw [IntKind.wrap_i64]; omega
  by_cases hn : l - (n : Int) < 0
  · go_enter Try.func33, Try.ntmps33
    go_wp2
    go_returns
    exact ⟨-1, rfl, Or.inl (by omega), by (repeat' (first | (with_reducible exact Below.refl _ _) | (with_reducible assumption) | (with_reducible refine Below.setCell ?_ ?_ _) | (with_reducible refine Below.alloc ?_ ?_ _) | (with_reducible refine below_drewN ?_ _) | (with_reducible refine Below.drew ?_) | (with_reducible exact Nat.le_refl _) | omega | (simp; done) | (simp; omega)))⟩
  · go_enter Try.func33, Try.ntmps33
    go_wp2
    go_returns
    exact ⟨_, rfl, Or.inr ⟨by omega, by omega, by omega⟩, by (repeat' (first | (with_reducible exact Below.refl _ _) | (with_reducible assumption) | (with_reducible refine Below.setCell ?_ ?_ _) | (with_reducible refine Below.alloc ?_ ?_ _) | (with_reducible refine below_drewN ?_ _) | (with_reducible refine Below.drew ?_) | (with_reducible exact Nat.le_refl _) | omega | (simp; done) | (simp; omega)))⟩


end Go.Proofs.Ytcfjanignfbidaa

namespace Go.Proofs.Ytcfjanignfbidaa
open Go.RowKit
set_option linter.unusedVariables false
set_option linter.unusedSimpArgs false

theorem cellOfQ {V : World} {k : Nat} {cs : Array Value} {T : TypeId} (h : V.heap[k]? = some (.cells cs T)) (i : Nat) {v : Value} (hi : cs[i]? = some v) : V.cell? ⟨k, i, none⟩ = some v := by
  simp [World.cell?, h, hi]
theorem frozOfQ {V : World} {k : Nat} {cs : Array Value} {T : TypeId} (h : V.heap[k]? = some (.cells cs T)) (i : Nat) : V.frozen? ⟨k, i, none⟩ = false := by
  simp [World.frozen?, h]
theorem ltOfQ {V : World} {k : Nat} {o : Obj} (h : V.heap[k]? = some o) : k < V.heap.size := by
  rcases Nat.lt_or_ge k V.heap.size with h' | h'
  · exact h'
  · rw [Array.getElem?_eq_none h'] at h; cases h

end Go.Proofs.Ytcfjanignfbidaa

namespace Go.Proofs.Ytcfjanignfbidaa
open Go.RowKit
set_option linter.unusedVariables false
set_option linter.unusedSimpArgs false

/-- A window: from a step, to a step, at most. -/
structure Wdw where
  f : Int
  t : Int
  m : Int
deriving DecidableEq

def wdC (x : Wdw) : List Value := [.int .i64 x.f, .int .i64 x.t, .int .i64 x.m]
theorem wdC_len (x : Wdw) : (wdC x).length = 3 := rfl
theorem wdC_one (x : Wdw) : ∀ u ∈ wdC x, u.oneCell' = true := by
  intro u hu
  simp only [wdC, List.mem_cons, List.not_mem_nil, or_false] at hu
  rcases hu with rfl | rfl | rfl <;> rfl
theorem info_Window : (Try.prog.info? 99).map (fun i => (i.zero, i.size, i.bytes)) = some (some (.agg #[.int .i64 0, .int .i64 0, .int .i64 0]), 3, 24) := by kernel_rfl
/-- The cells of an element, one by one. -/
theorem wdC_at {w : World} {g o : Nat} {x : Wdw} (h : ∀ i, i < 3 → w.cell? ⟨g, o + i, none⟩ = (wdC x)[i]?) : w.cell? ⟨g, o, none⟩ = some (.int .i64 x.f) ∧ w.cell? ⟨g, o + 1, none⟩ = some (.int .i64 x.t) ∧ w.cell? ⟨g, o + 2, none⟩ = some (.int .i64 x.m) :=
  ⟨h 0 (by omega), h 1 (by omega), h 2 (by omega)⟩

end Go.Proofs.Ytcfjanignfbidaa
