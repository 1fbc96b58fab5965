/- Proved here: how lists and structs that came in are opened, whatever they are made of. No condition. -/
import Derived.Test.YtjbghflphngnkaaGen
import Derived.OpenShut
import Derived.Lib.SmallJoins
import Derived.Deep.Slices
import Derived.Carry
namespace Go.Proofs.Ytjbghflphngnkaa
open Go.ChangeShapes Go.WideShapes Go.ChangeAt Go.RowKit Go.Joins Go.Deep
set_option linter.unusedVariables false
set_option linter.unusedSimpArgs false

/-- A struct of one-cell fields among the cells of an element. -/
theorem trod_fields {H : Type} {enc : TypeId × Value → H} {P : Program} {w : World} {base : Nat} {spare : Nat → Bool} {held : Bool} {t : TypeId} {fs : Array Field} {fuel : Nat} {cs : List Value} {x : DataW H × List MemPlace}
    (hs : P.underlying t = some (.struct fs)) (hone : oneCellFields P fs = true) (hC : P.cellsOf t = fs.size) (h : DataW.trod enc P w base spare held fuel t cs = some x) :
    ∃ n, cs.length = fs.size ∧ ∀ (i : Nat) (f : Field), fs[i]? = some f → ∃ c y, cs[i]? = some c ∧ DataW.trod enc P w base spare held n f.type [c] = some y := by
  obtain ⟨xs, n, _, hx, hl, hlen, hg⟩ := DataW.trod_struct hs h
  refine ⟨n, hl.trans hC, fun i f hi => ?_⟩
  obtain ⟨ho, hk⟩ := hone_of hone i f hi
  have hlt : i < fs.size := (Array.getElem?_eq_some_iff.1 hi).1
  have hil : i < cs.length := by rw [hl, hC]; exact hlt
  have := hg i f hi
  rw [ho, hk] at this
  have e : (cs.drop i).take 1 = [cs[i]] := by
    rw [List.drop_eq_getElem_cons hil]
    rfl
  rw [e, List.getElem?_eq_getElem (by omega)] at this
  exact ⟨cs[i], _, List.getElem?_eq_getElem hil, this⟩

/-- A list, element by element. -/
theorem rg_of_trod {α : Type} {H : Type} {enc : TypeId × Value → H} {W : World} {T E k : Nat} {en : α → List Value} {Q : α → Prop} (hT : Try.prog.underlying T = some (.slice E)) (hk : Try.prog.cellsOf E = k) (hpos : 0 < k) (hen : ∀ a, (en a).length = k) [Nonempty α]
    (hE : ∀ (fuel : Nat) (cs : List Value) (x : DataW H × List MemPlace), DataW.trod enc Try.prog W 0 (fun _ => true) true fuel E cs = some x → ∃ a, cs = en a ∧ Q a)
    {fuel : Nat} {cs : List Value} {x : DataW H × List MemPlace} (h : DataW.trod enc Try.prog W 0 (fun _ => true) true fuel T cs = some x) :
    ∃ (a : Option Addr) (n c : Nat) (s : List α), cs = [.slice a n c] ∧ RG k en W (.slice a n c) s ∧ s.length ≤ maxLen ∧ ∀ j (h : j < s.length), Q s[j] := by
  rcases open_slice hT h with ⟨hcs, _⟩ | ⟨x, len, cap, m, n, D, Pl, hcs, _, hl, hm, hmm, _, hx⟩
  · exact ⟨none, 0, 0, [], hcs, RG.nil _ _ _ _ _, by simp, fun j h => by simp at h⟩
  · simp only [if_true] at hmm
    subst hmm
    rw [hk] at hx
    have each : ∀ i, i < len → ∃ b : α, Q b ∧ ∀ j, j < k → W.cell? (x.add (i * k + j)) = (en b)[j]? := by
      intro i hi
      obtain ⟨cs', h1, h2⟩ := hx i (by omega)
      obtain ⟨_, _, hcell⟩ := World.cells?_some h1
      obtain ⟨b, rfl, hQ⟩ := hE _ _ _ h2
      refine ⟨b, hQ, fun j hj => ?_⟩
      rw [← add_add]; exact hcell j hj
    rcases Nat.eq_zero_or_pos len with h0 | hp
    · subst h0
      exact ⟨_, 0, _, [], hcs, RG.nil _ _ _ _ _, by simp, fun j h => by simp at h⟩
    · obtain ⟨b0, _, hb0⟩ := each 0 hp
      obtain ⟨g, off, spt⟩ := x
      have h00 := hb0 0 hpos
      rw [List.getElem?_eq_getElem (by rw [hen]; exact hpos)] at h00
      have hspt : spt = none := by simpa [Addr.add] using World.cell?_spot h00
      subst hspt
      have hadd : ∀ j, (⟨g, off, none⟩ : Addr).add j = ⟨g, off + j, none⟩ := fun j => by unfold Addr.add; split <;> simp_all
      have each' : ∀ i, ∃ b : α, i < len → Q b ∧ ∀ j, j < k → W.cell? ⟨g, off + (i * k + j), none⟩ = (en b)[j]? := by
        intro i
        by_cases hi : i < len
        · obtain ⟨b, hQ, hb⟩ := each i hi
          exact ⟨b, fun _ => ⟨hQ, fun j hj => by rw [← hadd]; exact hb j hj⟩⟩
        · obtain ⟨b⟩ := ‹Nonempty α›
          exact ⟨b, fun h => absurd h hi⟩
      let f : Nat → α := fun i => Classical.choose (each' i)
      have hf' : ∀ i, i < len → Q (f i) ∧ ∀ j, j < k → W.cell? ⟨g, off + (i * k + j), none⟩ = (en (f i))[j]? := fun i => Classical.choose_spec (each' i)
      refine ⟨_, len, _, (List.range len).map f, hcs, ⟨_, _, by simp; rfl, fun _ => ⟨g, off, rfl, ?_, fun j hj i hi => ?_⟩⟩, by simpa using Nat.le_trans hl hm, fun j hj => ?_⟩
      · have := (hf' 0 hp).2 0 hpos
        rw [List.getElem?_eq_getElem (by rw [hen]; exact hpos)] at this
        exact World.block_lt_of_cell? W ⟨g, off + (0 * k + 0), none⟩ this
      · simp at hj
        have := (hf' j hj).2 i hi
        rw [Nat.add_assoc, this]
        simp
      · simp at hj
        have := (hf' j hj).1
        simpa using this


end Go.Proofs.Ytjbghflphngnkaa
