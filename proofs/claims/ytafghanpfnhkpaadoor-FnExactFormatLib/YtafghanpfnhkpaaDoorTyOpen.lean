/- Proved here: a list of cells of the laws' package that came in: how it is read. No condition. -/
import Derived.Test.YtafghanpfnhkpaaDoorTyCl
import Derived.Deep.Slices
import Derived.Carry
namespace Go.Proofs.YtafghanpfnhkpaaDoor
open Go.ChangeShapes Go.WideShapes Go.ChangeAt Go.RowKit Go.Joins Go.Deep
set_option linter.unusedVariables false
set_option linter.unusedSimpArgs false

theorem list3' {α : Type} {l : List α} (h : l.length = 3) : ∃ c0 c1 c2, l = [c0, c1, c2] := by
  match l, h with
  | [c0, c1, c2], _ => exact ⟨c0, c1, c2, rfl⟩
theorem list5' {α : Type} {l : List α} (h : l.length = 5) : ∃ c0 c1 c2 c3 c4, l = [c0, c1, c2, c3, c4] := by
  match l, h with
  | [c0, c1, c2, c3, c4], _ => exact ⟨c0, c1, c2, c3, c4, rfl⟩
theorem list9' {α : Type} {l : List α} (h : l.length = 9) : ∃ c0 c1 c2 c3 c4 c5 c6 c7 c8, l = [c0, c1, c2, c3, c4, c5, c6, c7, c8] := by
  match l, h with
  | [c0, c1, c2, c3, c4, c5, c6, c7, c8], _ => exact ⟨c0, c1, c2, c3, c4, c5, c6, c7, c8, rfl⟩
/-- A struct of one-cell fields among the cells of an element. -/
theorem trod_fields {H : Type} {enc : TypeId × Value → H} {P : Program} {w : World} {base : Nat} {spare : Nat → Bool} {held : Bool} {t : TypeId} {fs : Array Field} {fuel : Nat} {cs : List Value} {x : DataW H × List MemPlace}
    (hs : P.underlying t = some (.struct fs)) (hone : oneCellFields P fs = true) (hC : P.cellsOf t = fs.size) (h : DataW.trod enc P w base spare held fuel t cs = some x) :
    ∃ n, cs.length = fs.size ∧ ∀ (i : Nat) (f : Field), fs[i]? = some f → ∃ c y, cs[i]? = some c ∧ DataW.trod enc P w base spare held n f.type [c] = some y := by
  obtain ⟨xs, n, _, hx, hl, hlen, hg⟩ := DataW.trod_struct hs h
  refine ⟨n, hl.trans hC, fun i f hi => ?_⟩
  obtain ⟨ho, hk⟩ := hone_of hone i f hi
  have hlt : i < fs.size := (Array.getElem?_eq_some_iff.1 hi).1
  have hil : i < cs.length := by rw [hl, hC]; exact hlt
  have := hg i f hi
  rw [ho, hk] at this
  have e : (cs.drop i).take 1 = [cs[i]] := by
    rw [List.drop_eq_getElem_cons hil]
    rfl
  rw [e, List.getElem?_eq_getElem (by omega)] at this
  exact ⟨cs[i], _, List.getElem?_eq_getElem hil, this⟩

/-- A list, element by element. -/
theorem rg_of_trod {α : Type} {H : Type} {enc : TypeId × Value → H} {W : World} {T E k : Nat} {en : α → List Value} {Q : α → Prop} (hT : Tryd.prog.underlying T = some (.slice E)) (hk : Tryd.prog.cellsOf E = k) (hpos : 0 < k) (hen : ∀ a, (en a).length = k) [Nonempty α]
    (hE : ∀ (fuel : Nat) (cs : List Value) (x : DataW H × List MemPlace), DataW.trod enc Tryd.prog W 0 (fun _ => true) true fuel E cs = some x → ∃ a, cs = en a ∧ Q a)
    {fuel : Nat} {cs : List Value} {x : DataW H × List MemPlace} (h : DataW.trod enc Tryd.prog W 0 (fun _ => true) true fuel T cs = some x) :
    ∃ (a : Option Addr) (n c : Nat) (s : List α), cs = [.slice a n c] ∧ RG k en W (.slice a n c) s ∧ s.length ≤ maxLen ∧ ∀ j (h : j < s.length), Q s[j] := by
  rcases open_slice hT h with ⟨hcs, _⟩ | ⟨x, len, cap, m, n, D, Pl, hcs, _, hl, hm, hmm, _, hx⟩
  · exact ⟨none, 0, 0, [], hcs, RG.nil _ _ _ _ _, by simp, fun j h => by simp at h⟩
  · simp only [if_true] at hmm
    subst hmm
    rw [hk] at hx
    have each : ∀ i, i < len → ∃ b : α, Q b ∧ ∀ j, j < k → W.cell? (x.add (i * k + j)) = (en b)[j]? := by
      intro i hi
      obtain ⟨cs', h1, h2⟩ := hx i (by omega)
      obtain ⟨_, _, hcell⟩ := World.cells?_some h1
      obtain ⟨b, rfl, hQ⟩ := hE _ _ _ h2
      refine ⟨b, hQ, fun j hj => ?_⟩
      rw [← add_add]; exact hcell j hj
    rcases Nat.eq_zero_or_pos len with h0 | hp
    · subst h0
      exact ⟨_, 0, _, [], hcs, RG.nil _ _ _ _ _, by simp, fun j h => by simp at h⟩
    · obtain ⟨b0, _, hb0⟩ := each 0 hp
      obtain ⟨g, off, spt⟩ := x
      have h00 := hb0 0 hpos
      rw [List.getElem?_eq_getElem (by rw [hen]; exact hpos)] at h00
      have hspt : spt = none := by simpa [Addr.add] using World.cell?_spot h00
      subst hspt
      have hadd : ∀ j, (⟨g, off, none⟩ : Addr).add j = ⟨g, off + j, none⟩ := fun j => by unfold Addr.add; split <;> simp_all
      have each' : ∀ i, ∃ b : α, i < len → Q b ∧ ∀ j, j < k → W.cell? ⟨g, off + (i * k + j), none⟩ = (en b)[j]? := by
        intro i
        by_cases hi : i < len
        · obtain ⟨b, hQ, hb⟩ := each i hi
          exact ⟨b, fun _ => ⟨hQ, fun j hj => by rw [← hadd]; exact hb j hj⟩⟩
        · obtain ⟨b⟩ := ‹Nonempty α›
          exact ⟨b, fun h => absurd h hi⟩
      let f : Nat → α := fun i => Classical.choose (each' i)
      have hf' : ∀ i, i < len → Q (f i) ∧ ∀ j, j < k → W.cell? ⟨g, off + (i * k + j), none⟩ = (en (f i))[j]? := fun i => Classical.choose_spec (each' i)
      refine ⟨_, len, _, (List.range len).map f, hcs, ⟨_, _, by simp; rfl, fun _ => ⟨g, off, rfl, ?_, fun j hj i hi => ?_⟩⟩, by simpa using Nat.le_trans hl hm, fun j hj => ?_⟩
      · have := (hf' 0 hp).2 0 hpos
        rw [List.getElem?_eq_getElem (by rw [hen]; exact hpos)] at this
        exact World.block_lt_of_cell? W ⟨g, off + (0 * k + 0), none⟩ this
      · simp at hj
        have := (hf' j hj).2 i hi
        rw [Nat.add_assoc, this]
        simp
      · simp at hj
        have := (hf' j hj).1
        simpa using this

theorem cells_laws_Box3 : Tryd.prog.cellsOf 77 = 4 := by kernel_rfl
set_option maxRecDepth 100000 in
theorem lb_cells {H : Type} {enc : TypeId × Value → H} {W : World} {fuel : Nat} {cs : List Value} {x : DataW H × List MemPlace} (h : DataW.trod enc Tryd.prog W 0 (fun _ => true) true fuel 79 cs = some x) : ∃ a : Lb, cs = lbC a ∧ True := by
  obtain ⟨y0, y1, n, hx, hl, h0, h1⟩ := trod_struct2 Tryd.underlying79 h
  have k5 : Tryd.prog.cellsOf 79 = 5 := by kernel_rfl
  have k1 : Tryd.prog.cellsOf 2 = 1 := by kernel_rfl
  rw [k5] at hl
  obtain ⟨c0, c1, c2, c3, c4, rfl⟩ := list5' hl
  obtain ⟨n0, e0, _, _⟩ := DataW.trod_int Tryd.underlying2 h0
  obtain ⟨z0, z1, z2, z3, n2, hx2, hl2, q0, q1, q2, q3⟩ := trod_struct4 Tryd.underlying77 h1
  obtain ⟨m0, f0, _, _⟩ := DataW.trod_int Tryd.underlying2 q0
  obtain ⟨m1, f1, _, _⟩ := DataW.trod_int Tryd.underlying2 q1
  obtain ⟨m2, f2, _, _⟩ := DataW.trod_int Tryd.underlying2 q2
  obtain ⟨m3, f3, _, _⟩ := DataW.trod_int Tryd.underlying2 q3
  simp [k1, cells_laws_Box3] at e0 f0 f1 f2 f3
  subst e0 f0 f1 f2 f3
  exact ⟨⟨n0, ⟨m0, m1, m2, m3⟩⟩, rfl, trivial⟩

set_option maxRecDepth 100000 in
theorem pl_cells {H : Type} {enc : TypeId × Value → H} {W : World} {fuel : Nat} {cs : List Value} {x : DataW H × List MemPlace} (h : DataW.trod enc Tryd.prog W 0 (fun _ => true) true fuel 71 cs = some x) : ∃ a : Pl, cs = plC a ∧ a.c.size ≤ maxLen := by
  obtain ⟨n, hl, hf⟩ := trod_fields Tryd.underlying71 (by kernel_rfl) (by kernel_rfl) h
  obtain ⟨c0, c1, c2, c3, c4, c5, c6, c7, c8, rfl⟩ := list9' hl
  obtain ⟨_, y0, e0, t0⟩ := hf 0 _ rfl
  obtain ⟨_, y1, e1, t1⟩ := hf 1 _ rfl
  obtain ⟨_, y2, e2, t2⟩ := hf 2 _ rfl
  obtain ⟨_, y3, e3, t3⟩ := hf 3 _ rfl
  obtain ⟨_, y4, e4, t4⟩ := hf 4 _ rfl
  obtain ⟨_, y5, e5, t5⟩ := hf 5 _ rfl
  obtain ⟨_, y6, e6, t6⟩ := hf 6 _ rfl
  obtain ⟨_, y7, e7, t7⟩ := hf 7 _ rfl
  obtain ⟨_, y8, e8, t8⟩ := hf 8 _ rfl
  obtain ⟨s, k0, _, hs⟩ := DataW.trod_string Tryd.underlying9 t0
  obtain ⟨n1, k1, _, _⟩ := DataW.trod_int Tryd.underlying2 t1
  obtain ⟨n2, k2, _, _⟩ := DataW.trod_int Tryd.underlying2 t2
  obtain ⟨n3, k3, _, w3⟩ := DataW.trod_int Tryd.underlying2 t3
  obtain ⟨n4, k4, _⟩ := DataW.trod_bool Tryd.underlying4 t4
  obtain ⟨n5, k5, _, _⟩ := DataW.trod_int Tryd.underlying2 t5
  obtain ⟨n6, k6, _, _⟩ := DataW.trod_int Tryd.underlying2 t6
  obtain ⟨n7, k7, _, _⟩ := DataW.trod_int Tryd.underlying2 t7
  obtain ⟨n8, k8, _, _⟩ := DataW.trod_int Tryd.underlying2 t8
  simp at e0 e1 e2 e3 e4 e5 e6 e7 e8 k0 k1 k2 k3 k4 k5 k6 k7 k8
  subst e0 e1 e2 e3 e4 e5 e6 e7 e8
  subst k0 k1 k2 k3 k4 k5 k6 k7 k8
  exact ⟨⟨s, n1, n2, n3, n4, n5, n6, n7, n8⟩, rfl, hs⟩

set_option maxRecDepth 100000 in
theorem rc_cells {H : Type} {enc : TypeId × Value → H} {W : World} {fuel : Nat} {cs : List Value} {x : DataW H × List MemPlace} (h : DataW.trod enc Tryd.prog W 0 (fun _ => true) true fuel 33 cs = some x) : ∃ a : Rc, cs = rcC a ∧ ∃ c : Cl, Rc1 W a c ∧ okC c := by
  obtain ⟨n, hl, hf⟩ := trod_fields Tryd.underlying33 (by kernel_rfl) (by kernel_rfl) h
  obtain ⟨c0, c1, c2, rfl⟩ := list3' hl
  obtain ⟨_, y0, e0, t0⟩ := hf 0 _ rfl
  obtain ⟨_, y1, e1, t1⟩ := hf 1 _ rfl
  obtain ⟨_, y2, e2, t2⟩ := hf 2 _ rfl
  obtain ⟨s, k0, _, hs⟩ := DataW.trod_string Tryd.underlying9 t0
  have : Nonempty Lb := ⟨⟨0, ⟨0, 0, 0, 0⟩⟩⟩
  have : Nonempty Pl := ⟨⟨ByteArray.empty, 0, 0, 0, false, 0, 0, 0, 0⟩⟩
  obtain ⟨ba, bn, bc, bs, k1, hb1, hb2, _⟩ := rg_of_trod (Q := fun _ => True) Tryd.underlying30 (show Tryd.prog.cellsOf 79 = 5 by kernel_rfl) (by omega) lbC_len (fun _ _ _ h => lb_cells h) t1
  obtain ⟨pa, pn, pc, ps, k2, hp1, hp2, hp3⟩ := rg_of_trod (Q := fun a : Pl => a.c.size ≤ maxLen) Tryd.underlying31 (show Tryd.prog.cellsOf 71 = 9 by kernel_rfl) (by omega) plC_len (fun _ _ _ h => pl_cells h) t2
  simp at e0 e1 e2 k0 k1 k2
  subst e0 e1 e2
  subst k0 k1 k2
  exact ⟨⟨s, ba, bn, bc, pa, pn, pc⟩, rfl, ⟨s, bs, ps⟩, ⟨rfl, hb1, hp1⟩, ⟨hs, hb2, hp2, hp3⟩⟩

set_option maxRecDepth 100000 in
/-- A list of cells that came in. -/
theorem cells_open {H : Type} {enc : TypeId × Value → H} {W : World} {base : Nat} {v : Value} {d : DataW H} {p : List MemPlace}
    (hv : Value.okWide Tryd.prog W .any base 22 v) (h : DataW.Trod enc Tryd.prog W 0 (fun _ => true) true 22 v d p) :
    ∃ (a : Option Addr) (n c : Nat) (s : List Cl), v = .slice a n c ∧ RK W v s ∧ n ≤ maxLen ∧ ∀ j (h : j < s.length), okC s[j] := by
  obtain ⟨a0, len0, cap0, rfl⟩ := okWide_slice Tryd.underlying22 hv
  obtain ⟨fuel, hf⟩ := h
  have : Nonempty Rc := ⟨⟨ByteArray.empty, none, 0, 0, none, 0, 0⟩⟩
  obtain ⟨a, n, c, rs, hcs, h1, h2, h3⟩ := rg_of_trod (Q := fun a : Rc => ∃ c : Cl, Rc1 W a c ∧ okC c) Tryd.underlying22 (show Tryd.prog.cellsOf 33 = 3 by kernel_rfl) (by omega) rcC_len (fun _ _ _ h => rc_cells h) hf
  simp [Value.cells] at hcs
  obtain ⟨rfl, rfl, rfl⟩ := hcs
  have each : ∀ j, ∃ c : Cl, ∀ (h : j < rs.length), Rc1 W rs[j] c ∧ okC c := by
    intro j
    by_cases hj : j < rs.length
    · obtain ⟨c, hc⟩ := h3 j hj
      exact ⟨c, fun _ => hc⟩
    · exact ⟨⟨ByteArray.empty, [], []⟩, fun h => absurd h hj⟩
  let f : Nat → Cl := fun i => Classical.choose (each i)
  have hf' : ∀ j (h : j < rs.length), Rc1 W rs[j] (f j) ∧ okC (f j) := fun j => Classical.choose_spec (each j)
  refine ⟨a0, len0, cap0, (List.range rs.length).map f, rfl, ⟨rs, h1, ⟨by simp, fun j hj hj' => ?_⟩⟩, by rw [h1.len]; exact h2, fun j hj => ?_⟩
  · have := (hf' j hj).1
    simpa using this
  · simp at hj
    have := (hf' j hj).2
    simpa using this

end Go.Proofs.YtafghanpfnhkpaaDoor
