/- Proved here: a value and a recipe of the laws' package that came in: how they are read. No condition. -/
import Derived.Test.YtnljomeacnjmmaaDoorReZ
import Derived.Test.YtnljomeacnjmmaaDoorTyGen
import Derived.Test.YtnljomeacnjmmaaDoorAggOpen
import Derived.Deep.Slices
import Derived.Carry
namespace Go.Proofs.YtnljomeacnjmmaaDoor
open Go.ChangeShapes Go.WideShapes Go.ChangeAt Go.RowKit Go.Joins Go.Deep
set_option linter.unusedVariables false
set_option linter.unusedSimpArgs false

theorem list3x {α : Type} {l : List α} (h : l.length = 3) : ∃ c0 c1 c2, l = [c0, c1, c2] := by
  match l, h with
  | [c0, c1, c2], _ => exact ⟨c0, c1, c2, rfl⟩
theorem list4x {α : Type} {l : List α} (h : l.length = 4) : ∃ c0 c1 c2 c3, l = [c0, c1, c2, c3] := by
  match l, h with
  | [c0, c1, c2, c3], _ => exact ⟨c0, c1, c2, c3, rfl⟩
theorem list5x {α : Type} {l : List α} (h : l.length = 5) : ∃ c0 c1 c2 c3 c4, l = [c0, c1, c2, c3, c4] := by
  match l, h with
  | [c0, c1, c2, c3, c4], _ => exact ⟨c0, c1, c2, c3, c4, rfl⟩

/-- A list, element by element. -/
theorem rg_of_trodC {α : Type} {H : Type} {enc : TypeId × Value → H} {W : World} {T E k : Nat} {en : α → List Value} {Q : α → Prop} (hT : Tryd.prog.underlying T = some (.slice E)) (hk : Tryd.prog.cellsOf E = k) (hpos : 0 < k) (hen : ∀ a, (en a).length = k) [Nonempty α]
    (hE : ∀ (fuel : Nat) (cs : List Value) (x : DataW H × List MemPlace), DataW.trod enc Tryd.prog W 0 (fun _ => true) true fuel E cs = some x → ∃ a, cs = en a ∧ Q a)
    {fuel : Nat} {cs : List Value} {x : DataW H × List MemPlace} (h : DataW.trod enc Tryd.prog W 0 (fun _ => true) true fuel T cs = some x) :
    ∃ (a : Option Addr) (n c : Nat) (s : List α), cs = [.slice a n c] ∧ RG k en W (.slice a n c) s ∧ s.length ≤ maxLen ∧ (∀ j (h : j < s.length), Q s[j]) ∧ n ≤ c := by
  rcases open_slice hT h with ⟨hcs, _⟩ | ⟨x, len, cap, m, n, D, Pl, hcs, _, hl, hm, hmm, _, hx⟩
  · exact ⟨none, 0, 0, [], hcs, RG.nil _ _ _ _ _, by simp, fun j h => by simp at h, Nat.le_refl _⟩
  · simp only [if_true] at hmm
    subst hmm
    rw [hk] at hx
    have each : ∀ i, i < len → ∃ b : α, Q b ∧ ∀ j, j < k → W.cell? (x.add (i * k + j)) = (en b)[j]? := by
      intro i hi
      obtain ⟨cs', h1, h2⟩ := hx i (by omega)
      obtain ⟨_, _, hcell⟩ := World.cells?_some h1
      obtain ⟨b, rfl, hQ⟩ := hE _ _ _ h2
      refine ⟨b, hQ, fun j hj => ?_⟩
      rw [← add_add]; exact hcell j hj
    rcases Nat.eq_zero_or_pos len with h0 | hp
    · subst h0
      exact ⟨_, 0, _, [], hcs, RG.nil _ _ _ _ _, by simp, fun j h => by simp at h, Nat.zero_le _⟩
    · obtain ⟨b0, _, hb0⟩ := each 0 hp
      obtain ⟨g, off, spt⟩ := x
      have h00 := hb0 0 hpos
      rw [List.getElem?_eq_getElem (by rw [hen]; exact hpos)] at h00
      have hspt : spt = none := by simpa [Addr.add] using World.cell?_spot h00
      subst hspt
      have hadd : ∀ j, (⟨g, off, none⟩ : Addr).add j = ⟨g, off + j, none⟩ := fun j => by unfold Addr.add; split <;> simp_all
      have each' : ∀ i, ∃ b : α, i < len → Q b ∧ ∀ j, j < k → W.cell? ⟨g, off + (i * k + j), none⟩ = (en b)[j]? := by
        intro i
        by_cases hi : i < len
        · obtain ⟨b, hQ, hb⟩ := each i hi
          exact ⟨b, fun _ => ⟨hQ, fun j hj => by rw [← hadd]; exact hb j hj⟩⟩
        · obtain ⟨b⟩ := ‹Nonempty α›
          exact ⟨b, fun h => absurd h hi⟩
      let f : Nat → α := fun i => Classical.choose (each' i)
      have hf' : ∀ i, i < len → Q (f i) ∧ ∀ j, j < k → W.cell? ⟨g, off + (i * k + j), none⟩ = (en (f i))[j]? := fun i => Classical.choose_spec (each' i)
      refine ⟨_, len, _, (List.range len).map f, hcs, ⟨_, _, by simp; rfl, fun _ => ⟨g, off, rfl, ?_, fun j hj i hi => ?_⟩⟩, by simpa using Nat.le_trans hl hm, fun j hj => ?_, hl⟩
      · have := (hf' 0 hp).2 0 hpos
        rw [List.getElem?_eq_getElem (by rw [hen]; exact hpos)] at this
        exact World.block_lt_of_cell? W ⟨g, off + (0 * k + 0), none⟩ this
      · simp at hj
        have := (hf' j hj).2 i hi
        rw [Nat.add_assoc, this]
        simp
      · simp at hj
        have := (hf' j hj).1
        simpa using this

set_option maxRecDepth 100000 in
theorem value_open {H : Type} {enc : TypeId × Value → H} {W : World} {base : Nat} {v : Value} {d : DataW H} {p : List MemPlace}
    (hv : Value.okWide Tryd.prog W .any base 51 v) (h : DataW.Trod enc Tryd.prog W 0 (fun _ => true) true 51 v d p) :
    ∃ x : Vl, v = .agg #[.int .i64 x.k, .int .i64 x.n, .string x.s] ∧ x.s.size ≤ maxLen := by
  obtain ⟨l, n, rfl, hl, hf⟩ := agg_open Tryd.underlying51 (by kernel_rfl) (by kernel_rfl) hv h
  obtain ⟨c0, c1, c2, rfl⟩ := list3x hl
  obtain ⟨_, y0, e0, t0⟩ := hf 0 _ rfl
  obtain ⟨_, y1, e1, t1⟩ := hf 1 _ rfl
  obtain ⟨_, y2, e2, t2⟩ := hf 2 _ rfl
  obtain ⟨n0, k0, _, _⟩ := DataW.trod_int Tryd.underlying2 t0
  obtain ⟨n1, k1, _, _⟩ := DataW.trod_int Tryd.underlying2 t1
  obtain ⟨s, k2, _, hs⟩ := DataW.trod_string Tryd.underlying9 t2
  simp at e0 e1 e2 k0 k1 k2
  subst e0 e1 e2
  subst k0 k1 k2
  exact ⟨⟨n0, n1, s⟩, rfl, hs⟩
/-- The cells of a value. -/
theorem vl_cells {H : Type} {enc : TypeId × Value → H} {W : World} {fuel : Nat} {cs : List Value} {x : DataW H × List MemPlace} (h : DataW.trod enc Tryd.prog W 0 (fun _ => true) true fuel 51 cs = some x) : ∃ a : Vl, cs = vlC a ∧ a.s.size ≤ maxLen := by
  obtain ⟨n, hl, hf⟩ := trod_fields Tryd.underlying51 (by kernel_rfl) (by kernel_rfl) h
  obtain ⟨c0, c1, c2, rfl⟩ := list3x hl
  obtain ⟨_, y0, e0, t0⟩ := hf 0 _ rfl
  obtain ⟨_, y1, e1, t1⟩ := hf 1 _ rfl
  obtain ⟨_, y2, e2, t2⟩ := hf 2 _ rfl
  obtain ⟨n0, k0, _, _⟩ := DataW.trod_int Tryd.underlying2 t0
  obtain ⟨n1, k1, _, _⟩ := DataW.trod_int Tryd.underlying2 t1
  obtain ⟨s, k2, _, hs⟩ := DataW.trod_string Tryd.underlying9 t2
  simp at e0 e1 e2 k0 k1 k2
  subst e0 e1 e2
  subst k0 k1 k2
  exact ⟨⟨n0, n1, s⟩, rfl, hs⟩
theorem pm_cells {H : Type} {enc : TypeId × Value → H} {W : World} {fuel : Nat} {cs : List Value} {x : DataW H × List MemPlace} (h : DataW.trod enc Tryd.prog W 0 (fun _ => true) true fuel 48 cs = some x) : ∃ a : Pm, cs = pmC a ∧ okPm a := by
  obtain ⟨n, hl, hf⟩ := trod_fields Tryd.underlying48 (by kernel_rfl) (by kernel_rfl) h
  obtain ⟨c0, c1, c2, c3, rfl⟩ := list4x hl
  obtain ⟨_, y0, e0, t0⟩ := hf 0 _ rfl
  obtain ⟨_, y1, e1, t1⟩ := hf 1 _ rfl
  obtain ⟨_, y2, e2, t2⟩ := hf 2 _ rfl
  obtain ⟨_, y3, e3, t3⟩ := hf 3 _ rfl
  obtain ⟨s, k0, _, hs⟩ := DataW.trod_string Tryd.underlying9 t0
  obtain ⟨n1, k1, _, _⟩ := DataW.trod_int Tryd.underlying2 t1
  obtain ⟨n2, k2, _, _⟩ := DataW.trod_int Tryd.underlying2 t2
  obtain ⟨n3, k3, _, _⟩ := DataW.trod_int Tryd.underlying2 t3
  simp at e0 e1 e2 e3 k0 k1 k2 k3
  subst e0 e1 e2 e3
  subst k0 k1 k2 k3
  exact ⟨⟨s, n1, n2, n3⟩, rfl, hs⟩
set_option maxRecDepth 100000 in
theorem se_cells {H : Type} {enc : TypeId × Value → H} {W : World} {fuel : Nat} {cs : List Value} {x : DataW H × List MemPlace} (h : DataW.trod enc Tryd.prog W 0 (fun _ => true) true fuel 108 cs = some x) : ∃ a : Se, cs = seC a ∧ okSe a := by
  obtain ⟨y0, y1, n, hx, hl, h0, h1⟩ := trod_struct2 Tryd.underlying108 h
  have k4 : Tryd.prog.cellsOf 108 = 4 := by kernel_rfl
  have kv : Tryd.prog.cellsOf 51 = 3 := by kernel_rfl
  have ks : Tryd.prog.cellsOf 9 = 1 := by kernel_rfl
  rw [k4] at hl
  obtain ⟨c0, c1, c2, c3, rfl⟩ := list4x hl
  obtain ⟨s, e0, _, hs⟩ := DataW.trod_string Tryd.underlying9 h0
  obtain ⟨v, e1, hv⟩ := vl_cells h1
  simp [ks, kv, vlC] at e0 e1
  obtain ⟨rfl, rfl, rfl⟩ := e1
  subst e0
  exact ⟨⟨s, v⟩, rfl, hs, hv⟩
set_option maxRecDepth 100000 in
theorem rs_cells {H : Type} {enc : TypeId × Value → H} {W : World} {fuel : Nat} {cs : List Value} {x : DataW H × List MemPlace} (h : DataW.trod enc Tryd.prog W 0 (fun _ => true) true fuel 54 cs = some x) : ∃ a : Rs, cs = rsC a ∧ ∃ c : Sp, Rs1 W a c ∧ okSp c := by
  obtain ⟨xs, n, _, hx, hl, hlen, hf⟩ := DataW.trod_struct Tryd.underlying54 h
  have k5 : Tryd.prog.cellsOf 54 = 5 := by kernel_rfl
  have kv : Tryd.prog.cellsOf 51 = 3 := by kernel_rfl
  have ks : Tryd.prog.cellsOf 9 = 1 := by kernel_rfl
  have kl : Tryd.prog.cellsOf 52 = 1 := by kernel_rfl
  rw [k5] at hl
  obtain ⟨c0, c1, c2, c3, c4, rfl⟩ := list5x hl
  match xs, hlen with
  | [y0, y1, y2], _ =>
    have h0 := hf 0 _ rfl
    have h1 := hf 1 _ rfl
    have h2 := hf 2 _ rfl
    obtain ⟨s, e0, _, hs⟩ := DataW.trod_string Tryd.underlying9 h0
    obtain ⟨v, e1, hv⟩ := vl_cells h1
    have : Nonempty Se := ⟨⟨ByteArray.empty, ⟨0, 0, ByteArray.empty⟩⟩⟩
    obtain ⟨sa, sn, sc, ss, e2, r1, r2, r3, r4⟩ := rg_of_trodC (Q := okSe) Tryd.underlying52 (show Tryd.prog.cellsOf 108 = 4 by kernel_rfl) (by omega) seC_len (fun _ _ _ h => se_cells h) h2
    simp [ks, kv, kl, vlC] at e0 e1 e2
    obtain ⟨rfl, rfl, rfl⟩ := e1
    subst e0 e2
    exact ⟨⟨s, v, sa, sn, sc⟩, rfl, ⟨s, v, ss⟩, ⟨rfl, rfl, r1, r4⟩, ⟨hs, hv, r2, r3⟩⟩
set_option maxRecDepth 100000 in
theorem steps_cells {H : Type} {enc : TypeId × Value → H} {W : World} {fuel : Nat} {cs : List Value} {x : DataW H × List MemPlace} (h : DataW.trod enc Tryd.prog W 0 (fun _ => true) true fuel 23 cs = some x) :
    ∃ (a : Option Addr) (n c : Nat) (s : List Sp), cs = [.slice a n c] ∧ RKs W (.slice a n c) s ∧ s.length ≤ maxLen ∧ (∀ j (h : j < s.length), okSp s[j]) ∧ n ≤ c := by
  have : Nonempty Rs := ⟨⟨ByteArray.empty, ⟨0, 0, ByteArray.empty⟩, none, 0, 0⟩⟩
  obtain ⟨a, n, c, rs, hcs, h1, h2, h3, h4⟩ := rg_of_trodC (Q := fun a : Rs => ∃ c : Sp, Rs1 W a c ∧ okSp c) Tryd.underlying23 (show Tryd.prog.cellsOf 54 = 5 by kernel_rfl) (by omega) rsC_len (fun _ _ _ h => rs_cells h) h
  have each : ∀ j, ∃ c : Sp, ∀ (h : j < rs.length), Rs1 W rs[j] c ∧ okSp c := by
    intro j
    by_cases hj : j < rs.length
    · obtain ⟨c, hc⟩ := h3 j hj
      exact ⟨c, fun _ => hc⟩
    · exact ⟨⟨ByteArray.empty, ⟨0, 0, ByteArray.empty⟩, []⟩, fun h => absurd h hj⟩
  let f : Nat → Sp := fun i => Classical.choose (each i)
  have hf' : ∀ j (h : j < rs.length), Rs1 W rs[j] (f j) ∧ okSp (f j) := fun j => Classical.choose_spec (each j)
  refine ⟨a, n, c, (List.range rs.length).map f, hcs, ⟨rs, h1, ⟨by simp, fun j hj hj' => ?_⟩⟩, by simpa using h2, fun j hj => ?_, h4⟩
  · have := (hf' j hj).1
    simpa using this
  · simp at hj
    have := (hf' j hj).2
    simpa using this
set_option maxRecDepth 100000 in
/-- A recipe that came in. -/
theorem recipe_open {H : Type} {enc : TypeId × Value → H} {W : World} {base : Nat} {v : Value} {d : DataW H} {p : List MemPlace}
    (hv : Value.okWide Tryd.prog W .any base 25 v) (h : DataW.Trod enc Tryd.prog W 0 (fun _ => true) true 25 v d p) :
    ∃ (x : Rr) (c : Rp), v = .agg #[.string x.nm, .slice x.pa x.pn x.pc, .slice x.sa x.sn x.sc] ∧ Rr1 W x c ∧ okRp c := by
  obtain ⟨l, n, rfl, hl, hf⟩ := agg_open Tryd.underlying25 (by kernel_rfl) (by kernel_rfl) hv h
  obtain ⟨c0, c1, c2, rfl⟩ := list3x hl
  obtain ⟨_, y0, e0, t0⟩ := hf 0 _ rfl
  obtain ⟨_, y1, e1, t1⟩ := hf 1 _ rfl
  obtain ⟨_, y2, e2, t2⟩ := hf 2 _ rfl
  obtain ⟨s, k0, _, hs⟩ := DataW.trod_string Tryd.underlying9 t0
  have : Nonempty Pm := ⟨⟨ByteArray.empty, 0, 0, 0⟩⟩
  obtain ⟨pa, pn, pc, ps, k1, p1, p2, p3, p4⟩ := rg_of_trodC (Q := okPm) Tryd.underlying22 (show Tryd.prog.cellsOf 48 = 4 by kernel_rfl) (by omega) pmC_len (fun _ _ _ h => pm_cells h) t1
  obtain ⟨sa, sn, sc, ss, k2, s1, s2, s3, s4⟩ := steps_cells t2
  simp at e0 e1 e2 k0 k1 k2
  subst e0 e1 e2
  subst k0 k1 k2
  exact ⟨⟨s, pa, pn, pc, sa, sn, sc⟩, ⟨s, ps, ss⟩, rfl, ⟨rfl, p1, s1, p4, s4⟩, ⟨hs, p2, p3, s2, s3⟩⟩

end Go.Proofs.YtnljomeacnjmmaaDoor
