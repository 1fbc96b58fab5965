/- Proved here: a list of shots that came in: how it is read. No condition. (And ahead of it: Proved here: how lists and structs that came in are opened, whatever they are made of. No condition.) (And ahead of it: Proved here: how the laws' package copies a writer. (And ahead of it: Proved here: a writer that came in: how it is read. No condition. (And ahead of it: Proved here: how many cells a box of the laws' package has. No condition.))) -/
import Derived.Test.YtmdijanohjkeeaaBxL
import Derived.OpenShut
import Derived.Lib.SmallJoins
import Derived.Deep.Slices
import Derived.Carry
import Derived.Test.YtmdijanohjkeeaaWtB
import Derived.Test.YtmdijanohjkeeaaGen
import Derived.Test.YtmdijanohjkeeaaShB
namespace Go.Proofs.Ytmdijanohjkeeaa
open Go.ChangeShapes Go.WideShapes Go.ChangeAt Go.RowKit Go.Joins Go.Deep

theorem cells_laws_Box : Try.prog.cellsOf 24 = 4 := by kernel_rfl

end Go.Proofs.Ytmdijanohjkeeaa

namespace Go.Proofs.Ytmdijanohjkeeaa
open Go.ChangeShapes Go.WideShapes Go.ChangeAt Go.RowKit Go.Joins Go.Deep
set_option linter.unusedVariables false
set_option linter.unusedSimpArgs false

set_option maxRecDepth 100000 in
/-- A writer that came in. -/
theorem writer_open {H : Type} {enc : TypeId × Value → H} {W : World} {base : Nat} {v : Value} {d : DataW H} {p : List MemPlace}
    (hv : Value.okWide Try.prog W .any base 26 v) (h : DataW.Trod enc Try.prog W 0 (fun _ => true) true 26 v d p) :
    ∃ x : Wt, v = .agg #[.int .i64 x.f.x0, .int .i64 x.f.y0, .int .i64 x.f.x1, .int .i64 x.f.y1, .int .i64 x.o, .int .i64 x.s, .int .i64 x.r] := by
  obtain ⟨cs, rfl, hsz⟩ := okWide_struct Try.underlying26 hv
  have k6 : Try.prog.cellsOf 26 = 7 := by kernel_rfl
  have k1 : Try.prog.cellsOf 2 = 1 := by kernel_rfl
  rw [k6] at hsz
  obtain ⟨l⟩ := cs
  obtain ⟨c0, c1, c2, c3, c4, c5, c6, rfl⟩ : ∃ c0 c1 c2 c3 c4 c5 c6, l = [c0, c1, c2, c3, c4, c5, c6] := by
    match l, hsz with
    | [c0, c1, c2, c3, c4, c5, c6], _ => exact ⟨c0, c1, c2, c3, c4, c5, c6, rfl⟩
  obtain ⟨fuel, hf⟩ := h
  obtain ⟨y0, y1, y2, y3, n, hx, hl, h0, h1, h2, h3⟩ := trod_struct4 Try.underlying26 hf
  obtain ⟨n4, e4, _, _⟩ := DataW.trod_int Try.underlying2 h1
  obtain ⟨n5, e5, _, _⟩ := DataW.trod_int Try.underlying2 h2
  obtain ⟨n6, e6, _, _⟩ := DataW.trod_int Try.underlying2 h3
  obtain ⟨z0, z1, z2, z3, n2, hx2, hl2, q0, q1, q2, q3⟩ := trod_struct4 Try.underlying24 h0
  obtain ⟨m0, f0, _, _⟩ := DataW.trod_int Try.underlying2 q0
  obtain ⟨m1, f1, _, _⟩ := DataW.trod_int Try.underlying2 q1
  obtain ⟨m2, f2, _, _⟩ := DataW.trod_int Try.underlying2 q2
  obtain ⟨m3, f3, _, _⟩ := DataW.trod_int Try.underlying2 q3
  simp [Value.cells, k1, cells_laws_Box] at e4 e5 e6 f0 f1 f2 f3
  subst e4 e5 e6 f0 f1 f2 f3
  exact ⟨⟨⟨m0, m1, m2, m3⟩, n4, n5, n6⟩, rfl⟩

end Go.Proofs.Ytmdijanohjkeeaa

namespace Go.Proofs.Ytmdijanohjkeeaa
open Go.RowKit
set_option linter.unusedVariables false
set_option linter.unusedSimpArgs false

theorem toWriter_is (a b c d o s r : Int) (w : World) : Calls Try.prog 8 #[.agg #[.int .i64 a, .int .i64 b, .int .i64 c, .int .i64 d, .int .i64 o, .int .i64 s, .int .i64 r]] w fun e w' => e = .returned (.agg #[.int .i64 a, .int .i64 b, .int .i64 c, .int .i64 d, .int .i64 o, .int .i64 s, .int .i64 r]) ∧ Below w.heap.size w w' := toWriter_any ⟨⟨a, b, c, d⟩, o, s, r⟩ w

end Go.Proofs.Ytmdijanohjkeeaa

namespace Go.Proofs.Ytmdijanohjkeeaa
open Go.ChangeShapes Go.WideShapes Go.ChangeAt Go.RowKit Go.Joins Go.Deep
set_option linter.unusedVariables false
set_option linter.unusedSimpArgs false

/-- A struct of one-cell fields among the cells of an element. -/
theorem trod_fields {H : Type} {enc : TypeId × Value → H} {P : Program} {w : World} {base : Nat} {spare : Nat → Bool} {held : Bool} {t : TypeId} {fs : Array Field} {fuel : Nat} {cs : List Value} {x : DataW H × List MemPlace}
    (hs : P.underlying t = some (.struct fs)) (hone : oneCellFields P fs = true) (hC : P.cellsOf t = fs.size) (h : DataW.trod enc P w base spare held fuel t cs = some x) :
    ∃ n, cs.length = fs.size ∧ ∀ (i : Nat) (f : Field), fs[i]? = some f → ∃ c y, cs[i]? = some c ∧ DataW.trod enc P w base spare held n f.type [c] = some y := by
  obtain ⟨xs, n, _, hx, hl, hlen, hg⟩ := DataW.trod_struct hs h
  refine ⟨n, hl.trans hC, fun i f hi => ?_⟩
  obtain ⟨ho, hk⟩ := hone_of hone i f hi
  have hlt : i < fs.size := (Array.getElem?_eq_some_iff.1 hi).1
  have hil : i < cs.length := by rw [hl, hC]; exact hlt
  have := hg i f hi
  rw [ho, hk] at this
  have e : (cs.drop i).take 1 = [cs[i]] := by
    rw [List.drop_eq_getElem_cons hil]
    rfl
  rw [e, List.getElem?_eq_getElem (by omega)] at this
  exact ⟨cs[i], _, List.getElem?_eq_getElem hil, this⟩

/-- A list, element by element. -/
theorem rg_of_trod {α : Type} {H : Type} {enc : TypeId × Value → H} {W : World} {T E k : Nat} {en : α → List Value} {Q : α → Prop} (hT : Try.prog.underlying T = some (.slice E)) (hk : Try.prog.cellsOf E = k) (hpos : 0 < k) (hen : ∀ a, (en a).length = k) [Nonempty α]
    (hE : ∀ (fuel : Nat) (cs : List Value) (x : DataW H × List MemPlace), DataW.trod enc Try.prog W 0 (fun _ => true) true fuel E cs = some x → ∃ a, cs = en a ∧ Q a)
    {fuel : Nat} {cs : List Value} {x : DataW H × List MemPlace} (h : DataW.trod enc Try.prog W 0 (fun _ => true) true fuel T cs = some x) :
    ∃ (a : Option Addr) (n c : Nat) (s : List α), cs = [.slice a n c] ∧ RG k en W (.slice a n c) s ∧ s.length ≤ maxLen ∧ ∀ j (h : j < s.length), Q s[j] := by
  rcases open_slice hT h with ⟨hcs, _⟩ | ⟨x, len, cap, m, n, D, Pl, hcs, _, hl, hm, hmm, _, hx⟩
  · exact ⟨none, 0, 0, [], hcs, RG.nil _ _ _ _ _, by simp, fun j h => by simp at h⟩
  · simp only [if_true] at hmm
    subst hmm
    rw [hk] at hx
    have each : ∀ i, i < len → ∃ b : α, Q b ∧ ∀ j, j < k → W.cell? (x.add (i * k + j)) = (en b)[j]? := by
      intro i hi
      obtain ⟨cs', h1, h2⟩ := hx i (by omega)
      obtain ⟨_, _, hcell⟩ := World.cells?_some h1
      obtain ⟨b, rfl, hQ⟩ := hE _ _ _ h2
      refine ⟨b, hQ, fun j hj => ?_⟩
      rw [← add_add]; exact hcell j hj
    rcases Nat.eq_zero_or_pos len with h0 | hp
    · subst h0
      exact ⟨_, 0, _, [], hcs, RG.nil _ _ _ _ _, by simp, fun j h => by simp at h⟩
    · obtain ⟨b0, _, hb0⟩ := each 0 hp
      obtain ⟨g, off, spt⟩ := x
      have h00 := hb0 0 hpos
      rw [List.getElem?_eq_getElem (by rw [hen]; exact hpos)] at h00
      have hspt : spt = none := by simpa [Addr.add] using World.cell?_spot h00
      subst hspt
      have hadd : ∀ j, (⟨g, off, none⟩ : Addr).add j = ⟨g, off + j, none⟩ := fun j => by unfold Addr.add; split <;> simp_all
      have each' : ∀ i, ∃ b : α, i < len → Q b ∧ ∀ j, j < k → W.cell? ⟨g, off + (i * k + j), none⟩ = (en b)[j]? := by
        intro i
        by_cases hi : i < len
        · obtain ⟨b, hQ, hb⟩ := each i hi
          exact ⟨b, fun _ => ⟨hQ, fun j hj => by rw [← hadd]; exact hb j hj⟩⟩
        · obtain ⟨b⟩ := ‹Nonempty α›
          exact ⟨b, fun h => absurd h hi⟩
      let f : Nat → α := fun i => Classical.choose (each' i)
      have hf' : ∀ i, i < len → Q (f i) ∧ ∀ j, j < k → W.cell? ⟨g, off + (i * k + j), none⟩ = (en (f i))[j]? := fun i => Classical.choose_spec (each' i)
      refine ⟨_, len, _, (List.range len).map f, hcs, ⟨_, _, by simp; rfl, fun _ => ⟨g, off, rfl, ?_, fun j hj i hi => ?_⟩⟩, by simpa using Nat.le_trans hl hm, fun j hj => ?_⟩
      · have := (hf' 0 hp).2 0 hpos
        rw [List.getElem?_eq_getElem (by rw [hen]; exact hpos)] at this
        exact World.block_lt_of_cell? W ⟨g, off + (0 * k + 0), none⟩ this
      · simp at hj
        have := (hf' j hj).2 i hi
        rw [Nat.add_assoc, this]
        simp
      · simp at hj
        have := (hf' j hj).1
        simpa using this


end Go.Proofs.Ytmdijanohjkeeaa

namespace Go.Proofs.Ytmdijanohjkeeaa
open Go.ChangeShapes Go.WideShapes Go.ChangeAt Go.RowKit Go.Joins Go.Deep
set_option linter.unusedVariables false
set_option linter.unusedSimpArgs false

set_option maxRecDepth 100000 in
theorem shot_cells {H : Type} {enc : TypeId × Value → H} {W : World} {fuel : Nat} {cs : List Value} {x : DataW H × List MemPlace} (h : DataW.trod enc Try.prog W 0 (fun _ => true) true fuel 55 cs = some x) : ∃ a : Sh, cs = shC a ∧ True := by
  obtain ⟨y0, y1, n, hx, hl, h0, h1⟩ := trod_struct2 Try.underlying55 h
  have k6 : Try.prog.cellsOf 55 = 5 := by kernel_rfl
  have k1 : Try.prog.cellsOf 2 = 1 := by kernel_rfl
  rw [k6] at hl
  obtain ⟨c0, c1, c2, c3, c4, rfl⟩ : ∃ c0 c1 c2 c3 c4, cs = [c0, c1, c2, c3, c4] := by
    match cs, hl with
    | [c0, c1, c2, c3, c4], _ => exact ⟨c0, c1, c2, c3, c4, rfl⟩
  obtain ⟨n4, e4, _, _⟩ := DataW.trod_int Try.underlying2 h1
  obtain ⟨z0, z1, z2, z3, n2, hx2, hl2, q0, q1, q2, q3⟩ := trod_struct4 Try.underlying24 h0
  obtain ⟨m0, f0, _, _⟩ := DataW.trod_int Try.underlying2 q0
  obtain ⟨m1, f1, _, _⟩ := DataW.trod_int Try.underlying2 q1
  obtain ⟨m2, f2, _, _⟩ := DataW.trod_int Try.underlying2 q2
  obtain ⟨m3, f3, _, _⟩ := DataW.trod_int Try.underlying2 q3
  simp [k1, cells_laws_Box] at e4 f0 f1 f2 f3
  subst e4 f0 f1 f2 f3
  exact ⟨⟨⟨m0, m1, m2, m3⟩, n4⟩, rfl, trivial⟩

set_option maxRecDepth 100000 in
/-- A list of shots that came in. -/
theorem shots_open {H : Type} {enc : TypeId × Value → H} {W : World} {base : Nat} {v : Value} {d : DataW H} {p : List MemPlace}
    (hv : Value.okWide Try.prog W .any base 22 v) (h : DataW.Trod enc Try.prog W 0 (fun _ => true) true 22 v d p) :
    ∃ (a : Option Addr) (n c : Nat) (s : List Sh), v = .slice a n c ∧ RG 5 shC W (.slice a n c) s ∧ s.length ≤ maxLen := by
  obtain ⟨a0, len0, cap0, rfl⟩ := okWide_slice Try.underlying22 hv
  obtain ⟨fuel, hf⟩ := h
  have : Nonempty Sh := ⟨⟨⟨0, 0, 0, 0⟩, 0⟩⟩
  obtain ⟨a, n, c, s, k, h1, h2, _⟩ := rg_of_trod (Q := fun _ => True) Try.underlying22 (show Try.prog.cellsOf 55 = 5 by kernel_rfl) (by omega) shC_len (fun _ _ _ h => shot_cells h) hf
  simp [Value.cells] at k
  obtain ⟨rfl, rfl, rfl⟩ := k
  exact ⟨_, _, _, s, rfl, h1, h2⟩

end Go.Proofs.Ytmdijanohjkeeaa
