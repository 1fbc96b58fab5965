/- Proved here: the program's scan of a fraction's text: as its letters tell (stF, ftB, cmB). -/
import Derived.Test.YtcojhkpdlmldcaaPzM
import Derived.Lib.OthersKept
import Derived.Laws.RangeAny
namespace Go.Proofs.Ytcojhkpdlmldcaa
open Go.RowKit
set_option linter.unusedVariables false
set_option linter.unusedSimpArgs false

/-- One letter, whatever it is (its rune is its byte below 128; above no letter fits). -/
theorem impl_take (s : ByteArray) (k : Nat) (r : Int) (w : World) (hk : k ≤ 4000) (hr : r = ltr s k ∨ (128 ≤ r ∧ 128 ≤ ltr s k)) :
    Calls Try.prog 18 #[fscV (stF s k), .int .i64 (k : Int), .int .i32 r] w fun e w' => (∃ y, e = .returned (.tuple #[fscV y, .bool (ftB s k)]) ∧ (ftB s k = true → y = stF s (k + 1))) ∧ Below w.heap.size w w' := by
  have hx := st_ok s k hk
  have e1 : stF s (k + 1) = tkF (stF s k) (k : Int) (ltr s k) := rfl
  by_cases h1 : 48 ≤ r ∧ r ≤ 57
  · have hl : r = ltr s k := by omega
    have hb : ftB s k = true := by unfold ftB tkB; rw [← hl]; exact decide_eq_true (Or.inl h1)
    refine (impl_take_d _ _ _ w hx h1.1 h1.2).mono ?_
    rintro e w1 ⟨rfl, hB⟩
    refine ⟨⟨_, by rw [hb], fun _ => ?_⟩, hB⟩
    rw [e1, ← hl]; unfold tkF; rw [if_pos h1]
  by_cases h2 : r = 45 ∧ (k : Int) = 0
  · have hl : r = ltr s k := by omega
    have hb : ftB s k = true := by unfold ftB tkB; rw [← hl]; exact decide_eq_true (Or.inr (Or.inl h2))
    have e2 : stF s (k + 1) = { stF s k with m := true } := by rw [e1, ← hl]; unfold tkF; rw [if_neg h1, if_pos h2]
    rw [h2.1, h2.2]
    refine (impl_take_m _ w).mono ?_
    rintro e w1 ⟨rfl, hB⟩
    exact ⟨⟨_, by rw [hb], fun _ => e2.symm⟩, hB⟩
  by_cases h3 : r = 47 ∧ (stF s k).s = 0 ∧ 0 < (stF s k).tc
  · have hl : r = ltr s k := by omega
    have hb : ftB s k = true := by unfold ftB tkB; rw [← hl]; exact decide_eq_true (Or.inr (Or.inr h3))
    have e2 : stF s (k + 1) = { stF s k with s := (k : Int) } := by rw [e1, ← hl]; unfold tkF; rw [if_neg h1, if_neg h2, if_pos h3]
    rw [h3.1]
    refine (impl_take_s _ _ w h3.2.1 h3.2.2).mono ?_
    rintro e w1 ⟨rfl, hB⟩
    exact ⟨⟨_, by rw [hb], fun _ => e2.symm⟩, hB⟩
  · have hb : ftB s k = false := by
      unfold ftB tkB
      refine decide_eq_false ?_
      rintro (h | h | h)
      · rcases hr with hr | hr
        · rw [← hr] at h; exact h1 h
        · omega
      · rcases hr with hr | hr
        · rw [← hr] at h; exact h2 h
        · omega
      · rcases hr with hr | hr
        · rw [← hr] at h; exact h3 h
        · omega
    refine (impl_take_no _ _ _ w h1 h2 h3).mono ?_
    rintro e w1 ⟨rfl, hB⟩
    exact ⟨⟨_, by rw [hb], fun h => by rw [hb] at h; cases h⟩, hB⟩

/-- How the scan answers. -/
def SCo (s : ByteArray) (v : Value) : Prop :=
  (∃ k, k < s.size ∧ (∀ j, j < k → ftB s j = true) ∧ ftB s k = false ∧ v = .tuple #[fscV fs0, .int .i64 (k : Int), .bool false]) ∨
  ((∀ j, j < s.size → ftB s j = true) ∧ cmB (stF s s.size) = false ∧ v = .tuple #[fscV fs0, .int .i64 (s.size : Int), .bool false]) ∨
  ((∀ j, j < s.size → ftB s j = true) ∧ cmB (stF s s.size) = true ∧ v = .tuple #[fscV (stF s s.size), .int .i64 0, .bool true])

/-- Where a scan stands in memory: the answer's box, the scan's box, the iterator. -/
structure SJ (w : World) (s : ByteArray) (k : Nat) (wr : World) : Prop where
  a : wr.heap[w.heap.size]? = some (.cells #[.bool false, .int .i64 0, .int .i64 0, .int .i64 0, .int .i64 0, .int .i64 0] 36)
  b : wr.heap[w.heap.size + 1]? = some (.cells #[.bool (stF s k).m, .int .i64 (stF s k).s, .int .i64 (stF s k).tc, .int .i64 (stF s k).tv, .int .i64 (stF s k).bc, .int .i64 (stF s k).bv] 36)
  i : wr.heap[w.heap.size + 2]? = some (.stringIter s k)
  f : ∀ j, j < k → ftB s j = true
  l : Below w.heap.size w wr

theorem iterPos_at {w : World} {k : Nat} {s : ByteArray} {p : Nat} (h : w.heap[k]? = some (.stringIter s p)) : w.iterPos k = p := by
  simp [World.iterPos, h]

theorem scan_start (w : World) (A B : Obj) (s : ByteArray) : (((w.alloc A).alloc B).iter s 0).heap[w.heap.size]? = some A ∧ (((w.alloc A).alloc B).iter s 0).heap[w.heap.size + 1]? = some B ∧ (((w.alloc A).alloc B).iter s 0).heap[w.heap.size + 2]? = some (.stringIter s 0) ∧ Below w.heap.size w (((w.alloc A).alloc B).iter s 0) := by
  refine ⟨?_, ?_, ?_, (((Below.refl _ _).alloc (Nat.le_refl _) A).alloc (by simp) B).alloc (by simp; omega) _⟩
  · show (((w.heap.push A).push B).push (.stringIter s 0))[w.heap.size]? = _
    rw [Array.getElem?_push, if_neg (by simp; omega), Array.getElem?_push, if_neg (by simp), Array.getElem?_push, if_pos rfl]
  · show (((w.heap.push A).push B).push (.stringIter s 0))[w.heap.size + 1]? = _
    rw [Array.getElem?_push, if_neg (by simp), Array.getElem?_push, if_pos (by simp)]
  · show (((w.heap.push A).push B).push (.stringIter s 0))[w.heap.size + 2]? = _
    rw [Array.getElem?_push, if_pos (by simp)]

/-- A box of six cells is written anew. -/
theorem pz6 {w : World} {k : Nat} {a0 a1 a2 a3 a4 a5 b0 b1 b2 b3 b4 b5 : Value} {T : TypeId} (h : w.heap[k]? = some (.cells #[a0, a1, a2, a3, a4, a5] T)) :
    ((((((w.setCell ⟨k, 0, none⟩ b0).setCell ⟨k, 1, none⟩ b1).setCell ⟨k, 2, none⟩ b2).setCell ⟨k, 3, none⟩ b3).setCell ⟨k, 4, none⟩ b4).setCell ⟨k, 5, none⟩ b5).heap[k]? = some (.cells #[b0, b1, b2, b3, b4, b5] T) := by
  have h0 := heap_setCell_same w k 0 _ _ b0 h
  have h1 := heap_setCell_same _ k 1 _ _ b1 h0
  have h2 := heap_setCell_same _ k 2 _ _ b2 h1
  have h3 := heap_setCell_same _ k 3 _ _ b3 h2
  have h4 := heap_setCell_same _ k 4 _ _ b4 h3
  have h5 := heap_setCell_same _ k 5 _ _ b5 h4
  exact h5
theorem pz6_other {w : World} {k j : Nat} {b0 b1 b2 b3 b4 b5 : Value} (h : j ≠ k) :
    ((((((w.setCell ⟨k, 0, none⟩ b0).setCell ⟨k, 1, none⟩ b1).setCell ⟨k, 2, none⟩ b2).setCell ⟨k, 3, none⟩ b3).setCell ⟨k, 4, none⟩ b4).setCell ⟨k, 5, none⟩ b5).heap[j]? = w.heap[j]? := by
  rw [Below.heap_setCell _ _ _ _ h, Below.heap_setCell _ _ _ _ h, Below.heap_setCell _ _ _ _ h, Below.heap_setCell _ _ _ _ h, Below.heap_setCell _ _ _ _ h, Below.heap_setCell _ _ _ _ h]
theorem pz6_below {w w0 : World} {B k : Nat} {b0 b1 b2 b3 b4 b5 : Value} (h : Below B w0 w) (hk : B ≤ k) :
    Below B w0 ((((((w.setCell ⟨k, 0, none⟩ b0).setCell ⟨k, 1, none⟩ b1).setCell ⟨k, 2, none⟩ b2).setCell ⟨k, 3, none⟩ b3).setCell ⟨k, 4, none⟩ b4).setCell ⟨k, 5, none⟩ b5) :=
  (((((h.setCell hk _).setCell hk _).setCell hk _).setCell hk _).setCell hk _).setCell hk _
/-- A round that goes on. -/
theorem SJ.next {w w1 : World} {s : ByteArray} {k : Nat} {O : Obj} {m : Value} {a1 a2 a3 a4 a5 : Value} {y : FSc} (hy : stF s (k + 1) = y)
    (hA : w1.heap[w.heap.size]? = some (.cells #[.bool false, .int .i64 0, .int .i64 0, .int .i64 0, .int .i64 0, .int .i64 0] 36))
    (hB : w1.heap[w.heap.size + 1]? = some (.cells #[m, a1, a2, a3, a4, a5] 36)) (hI : w1.heap[w.heap.size + 2]? = some (.stringIter s (k + 1)))
    (hF : ∀ j, j < k → ftB s j = true) (hf : ftB s k = true) (hL : Below w.heap.size w w1) :
    SJ w s (k + 1) (((((((w1.setCell ⟨w.heap.size + 1, 0, none⟩ (.bool y.m)).setCell ⟨w.heap.size + 1, 1, none⟩ (.int .i64 y.s)).setCell ⟨w.heap.size + 1, 2, none⟩ (.int .i64 y.tc)).setCell ⟨w.heap.size + 1, 3, none⟩ (.int .i64 y.tv)).setCell ⟨w.heap.size + 1, 4, none⟩ (.int .i64 y.bc)).setCell ⟨w.heap.size + 1, 5, none⟩ (.int .i64 y.bv)).alloc O) := by
  have g := pz6 (b0 := .bool y.m) (b1 := .int .i64 y.s) (b2 := .int .i64 y.tc) (b3 := .int .i64 y.tv) (b4 := .int .i64 y.bc) (b5 := .int .i64 y.bv) hB
  have o : ∀ j, j ≠ w.heap.size + 1 → ((((((w1.setCell ⟨w.heap.size + 1, 0, none⟩ (.bool y.m)).setCell ⟨w.heap.size + 1, 1, none⟩ (.int .i64 y.s)).setCell ⟨w.heap.size + 1, 2, none⟩ (.int .i64 y.tc)).setCell ⟨w.heap.size + 1, 3, none⟩ (.int .i64 y.tv)).setCell ⟨w.heap.size + 1, 4, none⟩ (.int .i64 y.bc)).setCell ⟨w.heap.size + 1, 5, none⟩ (.int .i64 y.bv)).heap[j]? = w1.heap[j]? := fun j hj => pz6_other hj
  have l := pz6_below (k := w.heap.size + 1) (b0 := .bool y.m) (b1 := .int .i64 y.s) (b2 := .int .i64 y.tc) (b3 := .int .i64 y.tv) (b4 := .int .i64 y.bc) (b5 := .int .i64 y.bv) hL (by omega)
  have oa := (o w.heap.size (by omega)).trans hA
  have oi := (o (w.heap.size + 2) (by omega)).trans hI
  generalize ((((((w1.setCell ⟨w.heap.size + 1, 0, none⟩ (.bool y.m)).setCell ⟨w.heap.size + 1, 1, none⟩ (.int .i64 y.s)).setCell ⟨w.heap.size + 1, 2, none⟩ (.int .i64 y.tc)).setCell ⟨w.heap.size + 1, 3, none⟩ (.int .i64 y.tv)).setCell ⟨w.heap.size + 1, 4, none⟩ (.int .i64 y.bc)).setCell ⟨w.heap.size + 1, 5, none⟩ (.int .i64 y.bv)) = V at *
  refine ⟨(Below.heap_alloc _ _ _ (pzLt oa)).trans oa, ?_, (Below.heap_alloc _ _ _ (pzLt oi)).trans oi, fun j hj => ?_, l.alloc l.size _⟩
  · rw [hy]; exact (Below.heap_alloc _ _ _ (pzLt g)).trans g
  · rcases (by omega : j < k ∨ j = k) with h | h
    · exact hF j h
    · subst h; exact hf
end Go.Proofs.Ytcojhkpdlmldcaa
