/- Proved here: a box, and a list of boxes, of the laws' package that came in: how they are read. No condition. (And ahead of it: Proved here: PartsOf of the model.) -/
import Derived.Test.YtlnhfgacgbdjaaaPoI
import Derived.Test.YtlnhfgacgbdjaaaPsW
import Derived.Test.YtlnhfgacgbdjaaaLawBx
import Derived.Deep.Slices
import Derived.Carry
namespace Go.Proofs.Ytlnhfgacgbdjaaa
open Go.RowKit
set_option linter.unusedVariables false
set_option linter.unusedSimpArgs false

set_option maxHeartbeats 4000000 in
theorem spec_partsOf {w : World} {a : Option Addr} {n c : Nat} {s : List Bx} (hn : s.length ≤ 1099511627776) (hc : n ≤ c) (h : RB w (.slice a n c) s) :
    Calls Try.prog 6 #[.slice a n c] w fun e w' => ∃ v vs, e = .returned (.agg #[.int .i64 (shapeK s), v]) ∧ PL w' w.heap.size v (partsV s) vs ∧ Below w.heap.size w w' := by
  have hlen : s.length = n := by obtain ⟨_, _, e⟩ := h.form; injection e with _ e2 _; exact e2.symm
  have H : Hid (RB w (.slice a n c) s ∧ s.length ≤ 1099511627776) := ⟨h, hn⟩
  have HN : Hid (n = s.length) := hlen.symm
  clear h hn hlen
  obtain ⟨z, hz⟩ : ∃ z, z = shapeK s := ⟨_, rfl⟩
  have HZ : Hid (z = shapeK s) := hz
  rw [← hz]
  clear hz
  by_cases hz0 : z = 0
  · have hsz := shapeK_zeroP (show shapeK s = 0 by rw [← HZ.out]; exact hz0)
    have hbz := boxesK_zero hsz.1
    have HL : Hid (s.length ≤ 150 ∧ Good s ∧ Rise s) := ⟨hbz.1, hbz.2, rise_of (fun b hb => ⟨(hbz.2 b hb).1, (hbz.2 b hb).2.1⟩) hsz.2⟩
    have HE : Hid (partsV s = partsL s (partF s) n n) := by unfold Hid partsV; rw [if_pos (by rw [← HZ.out]; exact hz0), ← HN.out]
    have hn150 : n ≤ 150 := by rw [HN.out]; exact HL.out.1
    clear hbz hsz
    subst hz0
    go_enter Try.func6, Try.ntmps6
    go_wp2_with (fail)
    refine (spec_shape (H.out.1.below ((Below.refl _ _).alloc (Nat.le_refl _) _))).mono ?_
    rintro e w1 ⟨rfl, hb1⟩
    rw [← HZ.out]
    obtain ⟨hk1, hlt1, hB1⟩ := res_keptP hb1
    have HK1 : Hid (w1.heap[w.heap.size]? = some (.cells #[.int .i64 0, .slice none 0 0] 26) ∧ Below w.heap.size w w1) := ⟨hk1, hB1⟩
    clear hb1 hk1 hB1
    go_wp2_with (fail)
    refine (spec_l4List hn150 HL.out.2.2 (by have := partF_lab s; rwa [← HN.out] at this) HL.out.2.1 (H.out.1.below HK1.out.2)).mono ?_
    rintro e w2 ⟨v2, vs, rfl, hpl, hb2⟩
    have HP : Hid (PL w2 w1.heap.size v2 (partsV s) vs ∧ Below w.heap.size w w2) := ⟨by rw [HE.out]; exact hpl, HK1.out.2.trans (hb2.mono HK1.out.2.size)⟩
    have hk2 := (hb2.block w.heap.size hlt1).trans HK1.out.1
    obtain ⟨va, vc, hv2⟩ := hpl.form
    subst hv2
    obtain ⟨r0, r1, f0, f1, hlt2⟩ := two_cells hk2
    clear hb2 hpl hk2
    have hw1 := HK1.out.2.size
    go_wp2
    refine bodyPost_ret (by simp [results, Try.results6, go_sem, r0, r1, hlt2]; rfl) rfl ⟨_, vs, rfl, ?_, ?_⟩
    · refine PL.low (PL.keptP HP.out.1 ?_) hw1
      intro g hg
      simp only [heap_setCell_other _ _ _ _ (show g ≠ (⟨w.heap.size, 0, none⟩ : Addr).block from fun e => by have e' : g = w.heap.size := e; omega), heap_setCell_other _ _ _ _ (show g ≠ (⟨w.heap.size, 1, none⟩ : Addr).block from fun e => by have e' : g = w.heap.size := e; omega)]
    · have hb := HP.out.2
      (repeat' (first | (with_reducible exact Below.refl _ _) | (with_reducible assumption) | (with_reducible refine Below.setCell ?_ ?_ _) | (with_reducible refine Below.alloc ?_ ?_ _) | (with_reducible refine below_drewN ?_ _) | (with_reducible refine Below.drew ?_) | (with_reducible exact Nat.le_refl _) | omega | (simp; done) | (simp; omega)))
  · have HE : Hid (partsV s = []) := by unfold Hid partsV; rw [if_neg (by rw [← HZ.out]; exact hz0)]
    go_enter Try.func6, Try.ntmps6
    go_wp2_with (fail)
    refine (spec_shape (H.out.1.below ((Below.refl _ _).alloc (Nat.le_refl _) _))).mono ?_
    rintro e w1 ⟨rfl, hb1⟩
    rw [← HZ.out]
    obtain ⟨hk1, hlt1, hB1⟩ := res_keptP hb1
    have HB1 : Hid (Below w.heap.size w w1) := hB1
    obtain ⟨r0, r1, f0, f1, hlt2⟩ := two_cells hk1
    clear hb1 hk1 hB1
    go_wp2
    refine bodyPost_ret (by simp [results, Try.results6, go_sem, r0, r1, hlt2]; rfl) rfl ⟨_, [], rfl, ?_, ?_⟩
    · rw [HE.out]; exact PL.nil _ _
    · have hb := HB1.out
      (repeat' (first | (with_reducible exact Below.refl _ _) | (with_reducible assumption) | (with_reducible refine Below.setCell ?_ ?_ _) | (with_reducible refine Below.alloc ?_ ?_ _) | (with_reducible refine below_drewN ?_ _) | (with_reducible refine Below.drew ?_) | (with_reducible exact Nat.le_refl _) | omega | (simp; done) | (simp; omega)))

end Go.Proofs.Ytlnhfgacgbdjaaa

namespace Go.Proofs.Ytlnhfgacgbdjaaa
open Go.ChangeShapes Go.WideShapes Go.ChangeAt Go.RowKit Go.Joins Go.Deep
set_option linter.unusedVariables false
set_option linter.unusedSimpArgs false

theorem cells_laws_Box : Try.prog.cellsOf 46 = 4 := by kernel_rfl

set_option maxRecDepth 100000 in
theorem box_shut {H : Type} {enc : TypeId × Value → H} {w : World} {base : Nat} {spare : Nat → Bool} {held : Bool} {a b c d : Int} (wa : (Lit.int .i64 a).wf = true) (wb : (Lit.int .i64 b).wf = true) (wc : (Lit.int .i64 c).wf = true) (wd : (Lit.int .i64 d).wf = true) :
    DataW.Trod enc Try.prog w base spare held 46 (.agg #[.int .i64 a, .int .i64 b, .int .i64 c, .int .i64 d]) (.agg [.lit (.int .i64 a), .lit (.int .i64 b), .lit (.int .i64 c), .lit (.int .i64 d)]) [] :=
  shut_agg4 (y0 := (.lit (.int .i64 a), [])) (y1 := (.lit (.int .i64 b), [])) (y2 := (.lit (.int .i64 c), [])) (y3 := (.lit (.int .i64 d), [])) Try.underlying46 (by kernel_rfl) cells_laws_Box
    ⟨1, by simp [DataW.trod, Try.underlying2, wa]⟩ ⟨1, by simp [DataW.trod, Try.underlying2, wb]⟩ ⟨1, by simp [DataW.trod, Try.underlying2, wc]⟩ ⟨1, by simp [DataW.trod, Try.underlying2, wd]⟩

set_option maxRecDepth 100000 in
theorem box_open {H : Type} {enc : TypeId × Value → H} {W : World} {base : Nat} {v : Value} {d : DataW H} {p : List MemPlace}
    (hv : Value.okWide Try.prog W .any base 46 v) (h : DataW.Trod enc Try.prog W 0 (fun _ => true) true 46 v d p) :
    ∃ b : Bx, v = .agg #[.int .i64 b.x0, .int .i64 b.y0, .int .i64 b.x1, .int .i64 b.y1] ∧ d = .agg [.lit (.int .i64 b.x0), .lit (.int .i64 b.y0), .lit (.int .i64 b.x1), .lit (.int .i64 b.y1)] ∧ p = [] ∧
      (Lit.int .i64 b.x0).wf = true ∧ (Lit.int .i64 b.y0).wf = true ∧ (Lit.int .i64 b.x1).wf = true ∧ (Lit.int .i64 b.y1).wf = true := by
  obtain ⟨c0, c1, c2, c3, y0, y1, y2, y3, m, rfl, rfl, rfl, hy0, hy1, hy2, hy3⟩ := open_agg4 Try.underlying46 (by kernel_rfl) cells_laws_Box hv h
  obtain ⟨n0, e0, rfl, wn0⟩ := DataW.trod_int Try.underlying2 hy0
  obtain ⟨n1, e1, rfl, wn1⟩ := DataW.trod_int Try.underlying2 hy1
  obtain ⟨n2, e2, rfl, wn2⟩ := DataW.trod_int Try.underlying2 hy2
  obtain ⟨n3, e3, rfl, wn3⟩ := DataW.trod_int Try.underlying2 hy3
  simp at e0 e1 e2 e3
  subst e0 e1 e2 e3
  exact ⟨⟨n0, n1, n2, n3⟩, rfl, rfl, rfl, wn0, wn1, wn2, wn3⟩

set_option maxRecDepth 100000 in
/-- The four cells of an element. -/
theorem box_cells {H : Type} {enc : TypeId × Value → H} {W : World} {sp : Nat → Bool} {held : Bool} {fuel : Nat} {cs : List Value} {x : DataW H × List MemPlace} (h : DataW.trod enc Try.prog W 0 sp held fuel 46 cs = some x) :
    ∃ b : Bx, cs = bcells b := by
  obtain ⟨y0, y1, y2, y3, n, hx, hl, h0, h1, h2, h3⟩ := trod_struct4 Try.underlying46 h
  rw [cells_laws_Box] at hl
  match cs, hl with
  | [c0, c1, c2, c3], _ =>
    have k : Try.prog.cellsOf 2 = 1 := by kernel_rfl
    obtain ⟨n0, e0, _, _⟩ := DataW.trod_int Try.underlying2 h0
    obtain ⟨n1, e1, _, _⟩ := DataW.trod_int Try.underlying2 h1
    obtain ⟨n2, e2, _, _⟩ := DataW.trod_int Try.underlying2 h2
    obtain ⟨n3, e3, _, _⟩ := DataW.trod_int Try.underlying2 h3
    simp [k] at e0 e1 e2 e3
    subst e0 e1 e2 e3
    exact ⟨⟨n0, n1, n2, n3⟩, rfl⟩

set_option maxRecDepth 100000 in
/-- A list of boxes that came in. -/
theorem boxes_open {H : Type} {enc : TypeId × Value → H} {W : World} {base : Nat} {v : Value} {d : DataW H} {p : List MemPlace}
    (hv : Value.okWide Try.prog W .any base 22 v) (h : DataW.Trod enc Try.prog W 0 (fun _ => true) true 22 v d p) :
    ∃ (a : Option Addr) (n c : Nat) (s : List Bx), v = .slice a n c ∧ RB W v s ∧ s.length ≤ maxLen := by
  obtain ⟨a0, len0, cap0, rfl⟩ := okWide_slice Try.underlying22 hv
  refine ⟨a0, len0, cap0, ?_⟩
  obtain ⟨fuel, hf⟩ := h
  rcases open_slice Try.underlying22 hf with ⟨hcs, _⟩ | ⟨x, len, cap, m, n, D, Pl, hcs, _, hl, hm, hmm, _, hx⟩
  · simp [Value.cells] at hcs
    obtain ⟨rfl, rfl, rfl⟩ := hcs
    exact ⟨[], rfl, ⟨none, 0, rfl, fun e => absurd rfl e⟩, by simp⟩
  · simp [Value.cells] at hcs
    obtain ⟨rfl, rfl, rfl⟩ := hcs
    simp only [if_true] at hmm
    subst hmm
    rw [cells_laws_Box] at hx
    have each : ∀ i, i < len0 → ∃ b : Bx, ∀ j, j < 4 → W.cell? (x.add (i * 4 + j)) = (bcells b)[j]? := by
      intro i hi
      obtain ⟨cs', h1, h2⟩ := hx i (by omega)
      obtain ⟨_, _, hcell⟩ := World.cells?_some h1
      obtain ⟨b, rfl⟩ := box_cells h2
      refine ⟨b, fun j hj => ?_⟩
      rw [← add_add]; exact hcell j hj
    rcases Nat.eq_zero_or_pos len0 with h0 | hp
    · subst h0
      exact ⟨[], rfl, ⟨_, _, rfl, fun e => absurd rfl e⟩, by simp⟩
    · obtain ⟨b0, hb0⟩ := each 0 hp
      obtain ⟨g, off, spt⟩ := x
      have hspt : spt = none := by simpa [Addr.add] using World.cell?_spot (v := .int .i64 b0.x0) (hb0 0 (by omega))
      subst hspt
      have hadd : ∀ j, (⟨g, off, none⟩ : Addr).add j = ⟨g, off + j, none⟩ := fun j => by unfold Addr.add; split <;> simp_all
      have each' : ∀ i, ∃ b : Bx, i < len0 → ∀ j, j < 4 → W.cell? ⟨g, off + (i * 4 + j), none⟩ = (bcells b)[j]? := by
        intro i
        by_cases hi : i < len0
        · obtain ⟨b, hb⟩ := each i hi
          exact ⟨b, fun _ j hj => by rw [← hadd]; exact hb j hj⟩
        · exact ⟨⟨0, 0, 0, 0⟩, fun h => absurd h hi⟩
      let f : Nat → Bx := fun i => Classical.choose (each' i)
      have hf' : ∀ i, i < len0 → ∀ j, j < 4 → W.cell? ⟨g, off + (i * 4 + j), none⟩ = (bcells (f i))[j]? := fun i => Classical.choose_spec (each' i)
      refine ⟨(List.range len0).map f, rfl, ⟨_, _, by simp; rfl, fun _ => ⟨g, off, rfl, ?_, fun j hj => ?_⟩⟩, by simpa using Nat.le_trans hl hm⟩
      · have := hf' 0 hp 0 (by omega)
        exact World.block_lt_of_cell? W ⟨g, off + (0 * 4 + 0), none⟩ this
      · simp at hj
        have e : bat ((List.range len0).map f) j = f j := by rw [bat_get (by simpa using hj)]; simp
        rw [e]
        have key := hf' j hj
        exact ⟨key 0 (by omega), key 1 (by omega), key 2 (by omega), key 3 (by omega)⟩

end Go.Proofs.Ytlnhfgacgbdjaaa
