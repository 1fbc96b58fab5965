/- Proved here: what it is that a slice holds a list of boxes, and small rules on it. No condition on the program but one on its table of types. -/
import Derived.Test.YtafghanpfnhkpaaDoorShMath2
import Derived.Test.YtafghanpfnhkpaaDoorIntsBase
namespace Go.Proofs.YtafghanpfnhkpaaDoor
open Go.RowKit
set_option linter.unusedVariables false

theorem info_box : (Tryd.prog.info? 40).map (fun i => (i.zero, i.size, i.bytes)) = some (some (.agg #[.int .i64 0, .int .i64 0, .int .i64 0, .int .i64 0]), 4, 32) := by kernel_rfl

/-- The box at a place of a list. -/
def bat (s : List Bx) (j : Nat) : Bx := s.getD j ⟨0, 0, 0, 0⟩
theorem bat_get {s : List Bx} {j : Nat} (h : j < s.length) : bat s j = s[j] := by simp [bat, h]
theorem drop_bat {s : List Bx} {k : Nat} (h : k < s.length) : s.drop k = bat s k :: s.drop (k + 1) := by
  rw [bat_get h]; exact List.drop_eq_getElem_cons h
theorem take_bat {s : List Bx} {k : Nat} (h : k < s.length) : s.take (k + 1) = s.take k ++ [bat s k] := by
  rw [bat_get h]; exact (List.take_append_getElem h).symm

/-- A box at cell o of block g. -/
structure BAt (w : World) (g o : Nat) (b : Bx) : Prop where
  x0 : w.cell? ⟨g, o, none⟩ = some (.int .i64 b.x0)
  y0 : w.cell? ⟨g, o + 1, none⟩ = some (.int .i64 b.y0)
  x1 : w.cell? ⟨g, o + 2, none⟩ = some (.int .i64 b.x1)
  y1 : w.cell? ⟨g, o + 3, none⟩ = some (.int .i64 b.y1)

/-- A slice that can be read as a list of boxes. -/
def RB (w : World) (v : Value) (s : List Bx) : Prop :=
  ∃ a c, v = .slice a s.length c ∧ (s ≠ [] → ∃ g o, a = some ⟨g, o, none⟩ ∧ g < w.heap.size ∧ ∀ j, j < s.length → BAt w g (o + j * 4) (bat s j))

theorem BAt.below {w w' : World} {g o : Nat} {b : Bx} (h : BAt w g o b) (hg : g < w.heap.size) (hb : Below w.heap.size w w') : BAt w' g o b :=
  ⟨(hb.cell (p := ⟨g, o, none⟩) hg).trans h.x0, (hb.cell (p := ⟨g, o + 1, none⟩) hg).trans h.y0, (hb.cell (p := ⟨g, o + 2, none⟩) hg).trans h.x1, (hb.cell (p := ⟨g, o + 3, none⟩) hg).trans h.y1⟩
theorem RB.below {w w' : World} {v : Value} {s : List Bx} (h : RB w v s) (hb : Below w.heap.size w w') : RB w' v s := by
  obtain ⟨a, c, rfl, h⟩ := h
  refine ⟨a, c, rfl, fun hn => ?_⟩
  obtain ⟨g, o, rfl, hg, hj⟩ := h hn
  exact ⟨g, o, rfl, Nat.lt_of_lt_of_le hg hb.size, fun j hl => (hj j hl).below hg hb⟩
theorem RB.pos {w : World} {v : Value} {s : List Bx} (h : RB w v s) (hn : 0 < s.length) : ∃ g o c, v = .slice (some ⟨g, o, none⟩) s.length c ∧ g < w.heap.size ∧ ∀ j, j < s.length → BAt w g (o + j * 4) (bat s j) := by
  obtain ⟨a, c, rfl, h⟩ := h
  obtain ⟨g, o, rfl, hg, hj⟩ := h (by intro e; rw [e] at hn; exact absurd hn (by simp))
  exact ⟨g, o, c, rfl, hg, hj⟩
theorem RB.form {w : World} {v : Value} {s : List Bx} (h : RB w v s) : ∃ a c, v = .slice a s.length c := by
  obtain ⟨a, c, rfl, _⟩ := h; exact ⟨a, c, rfl⟩

/-- A box's four cells. -/
def bcells (b : Bx) : List Value := [.int .i64 b.x0, .int .i64 b.y0, .int .i64 b.x1, .int .i64 b.y1]
def bflat (s : List Bx) : List Value := s.flatMap bcells
theorem bflat_length (s : List Bx) : (bflat s).length = s.length * 4 := by
  induction s with
  | nil => rfl
  | cons b t ih => simp [bflat, bcells] at ih ⊢; omega
theorem bflat_append (s t : List Bx) : bflat (s ++ t) = bflat s ++ bflat t := by simp [bflat]
theorem bflat_get (s : List Bx) (j i : Nat) (hj : j < s.length) (hi : i < 4) : (bflat s)[j * 4 + i]? = (bcells (bat s j))[i]? := by
  induction s generalizing j with
  | nil => simp at hj
  | cons b t ih =>
    cases j with
    | zero =>
      have : (bflat (b :: t)) = bcells b ++ bflat t := rfl
      rw [this, List.getElem?_append_left (by simp [bcells]; omega)]
      simp [bat]
    | succ j =>
      have : (bflat (b :: t)) = bcells b ++ bflat t := rfl
      rw [this, List.getElem?_append_right (by simp [bcells]; omega)]
      have e : (j + 1) * 4 + i - (bcells b).length = j * 4 + i := by simp [bcells]; omega
      rw [e, ih j (by simpa using hj)]
      simp [bat]
theorem bflat_set (s : List Bx) (j i : Nat) (hj : j < s.length) (hi : i < 4) (b : Bx) (v : Value) (hb : (bcells (bat s j)).set i v = bcells b) : (bflat s).set (j * 4 + i) v = bflat (s.set j b) := by
  induction s generalizing j with
  | nil => simp at hj
  | cons c t ih =>
    have hf : (bflat (c :: t)) = bcells c ++ bflat t := rfl
    cases j with
    | zero =>
      rw [hf]
      rw [List.set_append_left _ _ (by simp [bcells]; omega)]
      simp only [bat, List.getD_cons_zero] at hb
      simp only [Nat.zero_mul, Nat.zero_add, hb, List.set_cons_zero]
      rfl
    | succ j =>
      rw [hf]
      rw [List.set_append_right _ _ (by simp [bcells]; omega)]
      have e : (j + 1) * 4 + i - (bcells c).length = j * 4 + i := by simp [bcells]; omega
      rw [e, ih j (by simpa using hj) (by simpa [bat] using hb)]
      rfl

/-- A list of boxes that a slice of the call's own holds. -/
def BS (w : World) (B : Nat) (v : Value) (s : List Bx) : Prop := w.ownsRow B 40 4 v s.length (bflat s)

theorem BS.form {w : World} {B : Nat} {v : Value} {s : List Bx} (h : BS w B v s) : ∃ a c, v = .slice a s.length c := by
  rcases h.2 with ⟨rfl, h0⟩ | ⟨g, cap, cur, rfl, _⟩
  · exact ⟨none, 0, by rw [h0]⟩
  · exact ⟨_, _, rfl⟩
theorem BS.pos {w : World} {B : Nat} {v : Value} {s : List Bx} (h : BS w B v s) (hp : 0 < s.length) :
    ∃ g cap, v = .slice (some ⟨g, 0, none⟩) s.length cap ∧ B ≤ g ∧ g < w.heap.size ∧ ∀ j, j < s.length → BAt w g (0 + j * 4) (bat s j) := by
  rcases h.2 with ⟨_, h0⟩ | ⟨g, cap, cur, rfl, hB, hg, hn, hm, hs, ht⟩
  · omega
  · have key : ∀ j i, j < s.length → i < 4 → w.cell? ⟨g, 0 + j * 4 + i, none⟩ = (bcells (bat s j))[i]? := by
      intro j i hj hi
      have := World.ownsRow.cellAt (w := w) (g := g) (cap := cap) h (j * 4 + i) (by omega)
      rw [Nat.zero_add, this, bflat_get s j i hj hi]
    refine ⟨g, cap, rfl, hB, ?_, fun j hj => ⟨key j 0 hj (by omega), key j 1 hj (by omega), key j 2 hj (by omega), key j 3 hj (by omega)⟩⟩
    rcases Nat.lt_or_ge g w.heap.size with h' | h'
    · exact h'
    · rw [Array.getElem?_eq_none h'] at hg; cases hg
theorem BS.rb {w : World} {B : Nat} {v : Value} {s : List Bx} (h : BS w B v s) : RB w v s := by
  obtain ⟨a, c, rfl⟩ := h.form
  refine ⟨a, c, rfl, fun hn => ?_⟩
  obtain ⟨g, cap, e, _, hg, hj⟩ := h.pos (List.length_pos_iff.2 hn)
  injection e with e1 _ _
  exact ⟨g, 0, e1, hg, hj⟩
theorem BS.kept {w w' : World} {B : Nat} {v : Value} {s : List Bx} (h : BS w B v s) (hb : ∀ g, v.ownBlock = some g → w'.heap[g]? = w.heap[g]?) : BS w' B v s := by
  refine ⟨h.1, ?_⟩
  rcases h.2 with h' | ⟨g, cap, cur, rfl, hB, hg, hr⟩
  · exact Or.inl h'
  · exact Or.inr ⟨g, cap, cur, rfl, hB, by rw [hb g rfl]; exact hg, hr⟩
theorem BS.below {w w' : World} {B : Nat} {v : Value} {s : List Bx} (h : BS w B v s) (hb : Below w.heap.size w w') : BS w' B v s :=
  h.kept fun g hg => hb.block g (World.ownsRow.lt h g hg).2
theorem BS.low {w : World} {A B : Nat} {v : Value} {s : List Bx} (h : BS w B v s) (hab : A ≤ B) : BS w A v s := by
  refine ⟨h.1, ?_⟩
  rcases h.2 with h' | ⟨g, cap, cur, rfl, hB, hr⟩
  · exact Or.inl h'
  · exact Or.inr ⟨g, cap, cur, rfl, Nat.le_trans hab hB, hr⟩
theorem BS.nil (w : World) (B : Nat) : BS w B (.slice none 0 0) [] := World.ownsRow_nil _ _ _ _
theorem BS.lit0 (w : World) (B : Nat) (hB : B ≤ w.heap.size) : BS (w.alloc (.cells #[] 40)) B (.slice (some ⟨w.heap.size, 0, none⟩) 0 0) [] :=
  World.ownsRow_lit w #[] 0 hB (by decide) (by simp)
theorem IS.low {w : World} {A B : Nat} {v : Value} {s : List Int} (h : IS w B v s) (hab : A ≤ B) : IS w A v s := by
  refine ⟨h.1, ?_⟩
  rcases h.2 with h' | ⟨g, cap, cur, rfl, hB, hr⟩
  · exact Or.inl h'
  · exact Or.inr ⟨g, cap, cur, rfl, Nat.le_trans hab hB, hr⟩
theorem IS.below' {w w' : World} {B : Nat} {v : Value} {xs : List Int} (h : IS w B v xs) (hb : Below w.heap.size w w') : IS w' B v xs :=
  h.kept fun g hg => hb.block g (World.ownsRow.lt h g hg).2
theorem IS.lit0 (w : World) (B : Nat) (hB : B ≤ w.heap.size) : IS (w.alloc (.cells #[] 2)) B (.slice (some ⟨w.heap.size, 0, none⟩) 0 0) [] :=
  World.ownsRow_lit w #[] 0 hB (by decide) (by simp)

theorem bcell {W w1 : World} (hb : Below W.heap.size W w1) : (∀ b o, b < W.heap.size → w1.cell? ⟨b, o, none⟩ = W.cell? ⟨b, o, none⟩) ∧ (∀ b o, b < W.heap.size → w1.frozen? ⟨b, o, none⟩ = W.frozen? ⟨b, o, none⟩) :=
  ⟨fun b o h => hb.cell (p := ⟨b, o, none⟩) h, fun b o h => hb.frozen (p := ⟨b, o, none⟩) h⟩

end Go.Proofs.YtafghanpfnhkpaaDoor
