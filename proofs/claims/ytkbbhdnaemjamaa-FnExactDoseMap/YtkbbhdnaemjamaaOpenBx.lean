/- Proved here: a box, and a list of boxes, of the laws' package that came in: how they are read. No condition. -/
import Derived.Test.YtkbbhdnaemjamaaLawBx
import Derived.Deep.Slices
import Derived.Carry
namespace Go.Proofs.Ytkbbhdnaemjamaa
open Go.ChangeShapes Go.WideShapes Go.ChangeAt Go.RowKit Go.Joins Go.Deep
set_option linter.unusedVariables false
set_option linter.unusedSimpArgs false

theorem cells_laws_Box : Try.prog.cellsOf 30 = 4 := by kernel_rfl

set_option maxRecDepth 100000 in
theorem box_shut {H : Type} {enc : TypeId × Value → H} {w : World} {base : Nat} {spare : Nat → Bool} {held : Bool} {a b c d : Int} (wa : (Lit.int .i64 a).wf = true) (wb : (Lit.int .i64 b).wf = true) (wc : (Lit.int .i64 c).wf = true) (wd : (Lit.int .i64 d).wf = true) :
    DataW.Trod enc Try.prog w base spare held 30 (.agg #[.int .i64 a, .int .i64 b, .int .i64 c, .int .i64 d]) (.agg [.lit (.int .i64 a), .lit (.int .i64 b), .lit (.int .i64 c), .lit (.int .i64 d)]) [] :=
  shut_agg4 (y0 := (.lit (.int .i64 a), [])) (y1 := (.lit (.int .i64 b), [])) (y2 := (.lit (.int .i64 c), [])) (y3 := (.lit (.int .i64 d), [])) Try.underlying30 (by kernel_rfl) cells_laws_Box
    ⟨1, by simp [DataW.trod, Try.underlying2, wa]⟩ ⟨1, by simp [DataW.trod, Try.underlying2, wb]⟩ ⟨1, by simp [DataW.trod, Try.underlying2, wc]⟩ ⟨1, by simp [DataW.trod, Try.underlying2, wd]⟩

set_option maxRecDepth 100000 in
theorem box_open {H : Type} {enc : TypeId × Value → H} {W : World} {base : Nat} {v : Value} {d : DataW H} {p : List MemPlace}
    (hv : Value.okWide Try.prog W .any base 30 v) (h : DataW.Trod enc Try.prog W 0 (fun _ => true) true 30 v d p) :
    ∃ b : Bx, v = .agg #[.int .i64 b.x0, .int .i64 b.y0, .int .i64 b.x1, .int .i64 b.y1] ∧ d = .agg [.lit (.int .i64 b.x0), .lit (.int .i64 b.y0), .lit (.int .i64 b.x1), .lit (.int .i64 b.y1)] ∧ p = [] ∧
      (Lit.int .i64 b.x0).wf = true ∧ (Lit.int .i64 b.y0).wf = true ∧ (Lit.int .i64 b.x1).wf = true ∧ (Lit.int .i64 b.y1).wf = true := by
  obtain ⟨c0, c1, c2, c3, y0, y1, y2, y3, m, rfl, rfl, rfl, hy0, hy1, hy2, hy3⟩ := open_agg4 Try.underlying30 (by kernel_rfl) cells_laws_Box hv h
  obtain ⟨n0, e0, rfl, wn0⟩ := DataW.trod_int Try.underlying2 hy0
  obtain ⟨n1, e1, rfl, wn1⟩ := DataW.trod_int Try.underlying2 hy1
  obtain ⟨n2, e2, rfl, wn2⟩ := DataW.trod_int Try.underlying2 hy2
  obtain ⟨n3, e3, rfl, wn3⟩ := DataW.trod_int Try.underlying2 hy3
  simp at e0 e1 e2 e3
  subst e0 e1 e2 e3
  exact ⟨⟨n0, n1, n2, n3⟩, rfl, rfl, rfl, wn0, wn1, wn2, wn3⟩

set_option maxRecDepth 100000 in
/-- The four cells of an element. -/
theorem box_cells {H : Type} {enc : TypeId × Value → H} {W : World} {sp : Nat → Bool} {held : Bool} {fuel : Nat} {cs : List Value} {x : DataW H × List MemPlace} (h : DataW.trod enc Try.prog W 0 sp held fuel 30 cs = some x) :
    ∃ b : Bx, cs = bcells b := by
  obtain ⟨y0, y1, y2, y3, n, hx, hl, h0, h1, h2, h3⟩ := trod_struct4 Try.underlying30 h
  rw [cells_laws_Box] at hl
  match cs, hl with
  | [c0, c1, c2, c3], _ =>
    have k : Try.prog.cellsOf 2 = 1 := by kernel_rfl
    obtain ⟨n0, e0, _, _⟩ := DataW.trod_int Try.underlying2 h0
    obtain ⟨n1, e1, _, _⟩ := DataW.trod_int Try.underlying2 h1
    obtain ⟨n2, e2, _, _⟩ := DataW.trod_int Try.underlying2 h2
    obtain ⟨n3, e3, _, _⟩ := DataW.trod_int Try.underlying2 h3
    simp [k] at e0 e1 e2 e3
    subst e0 e1 e2 e3
    exact ⟨⟨n0, n1, n2, n3⟩, rfl⟩

set_option maxRecDepth 100000 in
/-- A list of boxes that came in. -/
theorem boxes_open {H : Type} {enc : TypeId × Value → H} {W : World} {base : Nat} {v : Value} {d : DataW H} {p : List MemPlace}
    (hv : Value.okWide Try.prog W .any base 39 v) (h : DataW.Trod enc Try.prog W 0 (fun _ => true) true 39 v d p) :
    ∃ (a : Option Addr) (n c : Nat) (s : List Bx), v = .slice a n c ∧ RB W v s ∧ s.length ≤ maxLen := by
  obtain ⟨a0, len0, cap0, rfl⟩ := okWide_slice Try.underlying39 hv
  refine ⟨a0, len0, cap0, ?_⟩
  obtain ⟨fuel, hf⟩ := h
  rcases open_slice Try.underlying39 hf with ⟨hcs, _⟩ | ⟨x, len, cap, m, n, D, Pl, hcs, _, hl, hm, hmm, _, hx⟩
  · simp [Value.cells] at hcs
    obtain ⟨rfl, rfl, rfl⟩ := hcs
    exact ⟨[], rfl, ⟨none, 0, rfl, fun e => absurd rfl e⟩, by simp⟩
  · simp [Value.cells] at hcs
    obtain ⟨rfl, rfl, rfl⟩ := hcs
    simp only [if_true] at hmm
    subst hmm
    rw [cells_laws_Box] at hx
    have each : ∀ i, i < len0 → ∃ b : Bx, ∀ j, j < 4 → W.cell? (x.add (i * 4 + j)) = (bcells b)[j]? := by
      intro i hi
      obtain ⟨cs', h1, h2⟩ := hx i (by omega)
      obtain ⟨_, _, hcell⟩ := World.cells?_some h1
      obtain ⟨b, rfl⟩ := box_cells h2
      refine ⟨b, fun j hj => ?_⟩
      rw [← add_add]; exact hcell j hj
    rcases Nat.eq_zero_or_pos len0 with h0 | hp
    · subst h0
      exact ⟨[], rfl, ⟨_, _, rfl, fun e => absurd rfl e⟩, by simp⟩
    · obtain ⟨b0, hb0⟩ := each 0 hp
      obtain ⟨g, off, spt⟩ := x
      have hspt : spt = none := by simpa [Addr.add] using World.cell?_spot (v := .int .i64 b0.x0) (hb0 0 (by omega))
      subst hspt
      have hadd : ∀ j, (⟨g, off, none⟩ : Addr).add j = ⟨g, off + j, none⟩ := fun j => by unfold Addr.add; split <;> simp_all
      have each' : ∀ i, ∃ b : Bx, i < len0 → ∀ j, j < 4 → W.cell? ⟨g, off + (i * 4 + j), none⟩ = (bcells b)[j]? := by
        intro i
        by_cases hi : i < len0
        · obtain ⟨b, hb⟩ := each i hi
          exact ⟨b, fun _ j hj => by rw [← hadd]; exact hb j hj⟩
        · exact ⟨⟨0, 0, 0, 0⟩, fun h => absurd h hi⟩
      let f : Nat → Bx := fun i => Classical.choose (each' i)
      have hf' : ∀ i, i < len0 → ∀ j, j < 4 → W.cell? ⟨g, off + (i * 4 + j), none⟩ = (bcells (f i))[j]? := fun i => Classical.choose_spec (each' i)
      refine ⟨(List.range len0).map f, rfl, ⟨_, _, by simp; rfl, fun _ => ⟨g, off, rfl, ?_, fun j hj => ?_⟩⟩, by simpa using Nat.le_trans hl hm⟩
      · have := hf' 0 hp 0 (by omega)
        exact World.block_lt_of_cell? W ⟨g, off + (0 * 4 + 0), none⟩ this
      · simp at hj
        have e : bat ((List.range len0).map f) j = f j := by rw [bat_get (by simpa using hj)]; simp
        rw [e]
        have key := hf' j hj
        exact ⟨key 0 (by omega), key 1 (by omega), key 2 (by omega), key 3 (by omega)⟩

end Go.Proofs.Ytkbbhdnaemjamaa
