/- Proved here: cuts of a list of boxes of the call's own: a part can be read as the part's boxes; the front is a list of the call's own. And what the sweep asks of heightsOf and edgesOf. -/
import Derived.Test.YtpfnhiohbgconaaIRaise
namespace Go.Proofs.Ytpfnhiohbgconaa
open Go.RowKit
set_option linter.unusedVariables false
set_option linter.unusedSimpArgs false

theorem bat_mid {p q r : List Bx} {j : Nat} (h : j < q.length) : bat (p ++ q ++ r) (p.length + j) = bat q j := by
  rw [bat_get (by simp; omega), bat_get h, List.getElem_append_left (by simp; omega), List.getElem_append_right (by omega)]
  congr 1
  omega
/-- A part of the list, read. -/
theorem BS.cut {w : World} {B g n c : Nat} {p q r : List Bx} (h : BS w B (.slice (some ⟨g, 0, none⟩) n c) (p ++ q ++ r)) {ao : Option Addr} (c' : Nat) (ha : q ≠ [] → ao = some ⟨g, p.length * 4, none⟩) : RB w (.slice ao q.length c') q := by
  refine ⟨ao, c', rfl, fun hq => ⟨g, p.length * 4, ha hq, (World.ownsRow.lt h g rfl).2, fun j hj => ?_⟩⟩
  have hn : (p ++ q ++ r).length = n := by obtain ⟨a, c, e⟩ := h.form; injection e with _ e2 _; exact e2.symm
  have key : ∀ i, i < 4 → w.cell? ⟨g, p.length * 4 + j * 4 + i, none⟩ = (bcells (bat q j))[i]? := by
    intro i hi
    have := h.ats hn (p.length + j) i (by simp; omega) hi
    rw [bat_mid hj, Nat.add_mul] at this
    exact this
  exact ⟨key 0 (by omega), key 1 (by omega), key 2 (by omega), key 3 (by omega)⟩
/-- The front of the list, with the room behind it. -/
theorem BS.front {w : World} {B g n c : Nat} {p q : List Bx} (h : BS w B (.slice (some ⟨g, 0, none⟩) n c) (p ++ q)) : BS w B (.slice (some ⟨g, 0, none⟩) p.length c) p := by
  refine ⟨bflat_length p, Or.inr ?_⟩
  rcases h.2 with ⟨e, _⟩ | ⟨g', cap, cur, e, hB, hg, hn, hm, hs, ht⟩
  · cases e
  · simp only [Value.slice.injEq, Option.some.injEq, Addr.mk.injEq, and_true] at e
    obtain ⟨rfl, rfl, rfl⟩ := e
    rw [List.length_append] at hn
    refine ⟨g, c, cur, rfl, hB, hg, by omega, hm, hs, ?_⟩
    have h2 := congrArg (List.take (p.length * 4)) ht
    rw [List.take_take, bflat_append, List.take_left' (bflat_length p), List.length_append] at h2
    rw [← h2]
    congr 1
    omega

/-- What heightsOf and edgesOf are asked. -/
def HeightsOk : Prop := ∀ (w : World) (va vb : Value) (a b : List Bx), a.length + b.length ≤ 200000 → RB w va a → RB w vb b →
  Calls Try.prog 122 #[va, vb] w fun e w' => ∃ v, e = .returned v ∧ IS w' w.heap.size v (endsF Bx.y0 Bx.y1 (endsF Bx.y0 Bx.y1 [] a) b) ∧ Below w.heap.size w w'
def EdgesOk : Prop := ∀ (w : World) (va vb : Value) (a b : List Bx), a.length + b.length ≤ 200000 → RB w va a → RB w vb b →
  Calls Try.prog 123 #[va, vb] w fun e w' => ∃ v E, e = .returned v ∧ ES w' w.heap.size v E ∧ E.Perm (edges a b) ∧ Rising E ∧ Below w.heap.size w w'

end Go.Proofs.Ytpfnhiohbgconaa
