/- Proved here: what it is that a slice holds a list of edges, and small rules on it (as BoxBase). -/
import Derived.Test.YtmdijanohjkeeaaBxL
import Derived.Test.YtmdijanohjkeeaaSwMath2
namespace Go.Proofs.Ytmdijanohjkeeaa
open Go.RowKit
set_option linter.unusedVariables false

theorem info_edge : (Try.prog.info? 96).map (fun i => (i.zero, i.size, i.bytes)) = some (some (.agg #[.int .i64 0, .int .i64 0, .int .i64 0, .int .i64 0, .int .i64 0]), 5, 40) := by kernel_rfl

/-- The edge at a place of a list. -/
def eat (s : List Ed) (j : Nat) : Ed := s.getD j ⟨0, 0, 0, 0, 0⟩
theorem eat_get {s : List Ed} {j : Nat} (h : j < s.length) : eat s j = s[j] := by simp [eat, h]
theorem drop_eat {s : List Ed} {k : Nat} (h : k < s.length) : s.drop k = eat s k :: s.drop (k + 1) := by
  rw [eat_get h]; exact List.drop_eq_getElem_cons h
theorem take_eat {s : List Ed} {k : Nat} (h : k < s.length) : s.take (k + 1) = s.take k ++ [eat s k] := by
  rw [eat_get h]; exact (List.take_append_getElem h).symm

/-- An edge at cell o of block g. -/
structure EAt (w : World) (g o : Nat) (b : Ed) : Prop where
  x : w.cell? ⟨g, o, none⟩ = some (.int .i64 b.x)
  y0 : w.cell? ⟨g, o + 1, none⟩ = some (.int .i64 b.y0)
  y1 : w.cell? ⟨g, o + 2, none⟩ = some (.int .i64 b.y1)
  f : w.cell? ⟨g, o + 3, none⟩ = some (.int .i64 b.f)
  s : w.cell? ⟨g, o + 4, none⟩ = some (.int .i64 b.s)

/-- A slice that can be read as a list of edges. -/
def RE (w : World) (v : Value) (s : List Ed) : Prop :=
  ∃ a c, v = .slice a s.length c ∧ (s ≠ [] → ∃ g o, a = some ⟨g, o, none⟩ ∧ g < w.heap.size ∧ ∀ j, j < s.length → EAt w g (o + j * 5) (eat s j))

theorem EAt.below {w w' : World} {g o : Nat} {b : Ed} (h : EAt w g o b) (hg : g < w.heap.size) (hb : Below w.heap.size w w') : EAt w' g o b :=
  ⟨(hb.cell (p := ⟨g, o, none⟩) hg).trans h.x, (hb.cell (p := ⟨g, o + 1, none⟩) hg).trans h.y0, (hb.cell (p := ⟨g, o + 2, none⟩) hg).trans h.y1, (hb.cell (p := ⟨g, o + 3, none⟩) hg).trans h.f, (hb.cell (p := ⟨g, o + 4, none⟩) hg).trans h.s⟩
theorem RE.below {w w' : World} {v : Value} {s : List Ed} (h : RE w v s) (hb : Below w.heap.size w w') : RE w' v s := by
  obtain ⟨a, c, rfl, h⟩ := h
  refine ⟨a, c, rfl, fun hn => ?_⟩
  obtain ⟨g, o, rfl, hg, hj⟩ := h hn
  exact ⟨g, o, rfl, Nat.lt_of_lt_of_le hg hb.size, fun j hl => (hj j hl).below hg hb⟩
theorem RE.pos {w : World} {v : Value} {s : List Ed} (h : RE w v s) (hn : 0 < s.length) : ∃ g o c, v = .slice (some ⟨g, o, none⟩) s.length c ∧ g < w.heap.size ∧ ∀ j, j < s.length → EAt w g (o + j * 5) (eat s j) := by
  obtain ⟨a, c, rfl, h⟩ := h
  obtain ⟨g, o, rfl, hg, hj⟩ := h (by intro e; rw [e] at hn; exact absurd hn (by simp))
  exact ⟨g, o, c, rfl, hg, hj⟩
theorem RE.form {w : World} {v : Value} {s : List Ed} (h : RE w v s) : ∃ a c, v = .slice a s.length c := by
  obtain ⟨a, c, rfl, _⟩ := h; exact ⟨a, c, rfl⟩

/-- An edge's five cells. -/
def ecells (b : Ed) : List Value := [.int .i64 b.x, .int .i64 b.y0, .int .i64 b.y1, .int .i64 b.f, .int .i64 b.s]
def eflat (s : List Ed) : List Value := s.flatMap ecells
theorem eflat_length (s : List Ed) : (eflat s).length = s.length * 5 := by
  induction s with
  | nil => rfl
  | cons b t ih => simp [eflat, ecells] at ih ⊢; omega
theorem eflat_append (s t : List Ed) : eflat (s ++ t) = eflat s ++ eflat t := by simp [eflat]
theorem eflat_get (s : List Ed) (j i : Nat) (hj : j < s.length) (hi : i < 5) : (eflat s)[j * 5 + i]? = (ecells (eat s j))[i]? := by
  induction s generalizing j with
  | nil => simp at hj
  | cons b t ih =>
    cases j with
    | zero =>
      have : (eflat (b :: t)) = ecells b ++ eflat t := rfl
      rw [this, List.getElem?_append_left (by simp [ecells]; omega)]
      simp [eat]
    | succ j =>
      have : (eflat (b :: t)) = ecells b ++ eflat t := rfl
      rw [this, List.getElem?_append_right (by simp [ecells]; omega)]
      have e : (j + 1) * 5 + i - (ecells b).length = j * 5 + i := by simp [ecells]; omega
      rw [e, ih j (by simpa using hj)]
      simp [eat]
theorem eflat_set (s : List Ed) (j i : Nat) (hj : j < s.length) (hi : i < 5) (b : Ed) (v : Value) (hb : (ecells (eat s j)).set i v = ecells b) : (eflat s).set (j * 5 + i) v = eflat (s.set j b) := by
  induction s generalizing j with
  | nil => simp at hj
  | cons c t ih =>
    have hf : (eflat (c :: t)) = ecells c ++ eflat t := rfl
    cases j with
    | zero =>
      rw [hf]
      rw [List.set_append_left _ _ (by simp [ecells]; omega)]
      simp only [eat, List.getD_cons_zero] at hb
      simp only [Nat.zero_mul, Nat.zero_add, hb, List.set_cons_zero]
      rfl
    | succ j =>
      rw [hf]
      rw [List.set_append_right _ _ (by simp [ecells]; omega)]
      have e : (j + 1) * 5 + i - (ecells c).length = j * 5 + i := by simp [ecells]; omega
      rw [e, ih j (by simpa using hj) (by simpa [eat] using hb)]
      rfl

/-- A list of edges that a slice of the call's own holds. -/
def ES (w : World) (B : Nat) (v : Value) (s : List Ed) : Prop := w.ownsRow B 96 5 v s.length (eflat s)

theorem ES.form {w : World} {B : Nat} {v : Value} {s : List Ed} (h : ES w B v s) : ∃ a c, v = .slice a s.length c := by
  rcases h.2 with ⟨rfl, h0⟩ | ⟨g, cap, cur, rfl, _⟩
  · exact ⟨none, 0, by rw [h0]⟩
  · exact ⟨_, _, rfl⟩
theorem ES.pos {w : World} {B : Nat} {v : Value} {s : List Ed} (h : ES w B v s) (hp : 0 < s.length) :
    ∃ g cap, v = .slice (some ⟨g, 0, none⟩) s.length cap ∧ B ≤ g ∧ g < w.heap.size ∧ ∀ j, j < s.length → EAt w g (0 + j * 5) (eat s j) := by
  rcases h.2 with ⟨_, h0⟩ | ⟨g, cap, cur, rfl, hB, hg, hn, hm, hs, ht⟩
  · omega
  · have key : ∀ j i, j < s.length → i < 5 → w.cell? ⟨g, 0 + j * 5 + i, none⟩ = (ecells (eat s j))[i]? := by
      intro j i hj hi
      have := World.ownsRow.cellAt (w := w) (g := g) (cap := cap) h (j * 5 + i) (by omega)
      rw [Nat.zero_add, this, eflat_get s j i hj hi]
    refine ⟨g, cap, rfl, hB, ?_, fun j hj => ⟨key j 0 hj (by omega), key j 1 hj (by omega), key j 2 hj (by omega), key j 3 hj (by omega), key j 4 hj (by omega)⟩⟩
    rcases Nat.lt_or_ge g w.heap.size with h' | h'
    · exact h'
    · rw [Array.getElem?_eq_none h'] at hg; cases hg
theorem ES.re {w : World} {B : Nat} {v : Value} {s : List Ed} (h : ES w B v s) : RE w v s := by
  obtain ⟨a, c, rfl⟩ := h.form
  refine ⟨a, c, rfl, fun hn => ?_⟩
  obtain ⟨g, cap, e, _, hg, hj⟩ := h.pos (List.length_pos_iff.2 hn)
  injection e with e1 _ _
  exact ⟨g, 0, e1, hg, hj⟩
theorem ES.kept {w w' : World} {B : Nat} {v : Value} {s : List Ed} (h : ES w B v s) (hb : ∀ g, v.ownBlock = some g → w'.heap[g]? = w.heap[g]?) : ES w' B v s := by
  refine ⟨h.1, ?_⟩
  rcases h.2 with h' | ⟨g, cap, cur, rfl, hB, hg, hr⟩
  · exact Or.inl h'
  · exact Or.inr ⟨g, cap, cur, rfl, hB, by rw [hb g rfl]; exact hg, hr⟩
theorem ES.below {w w' : World} {B : Nat} {v : Value} {s : List Ed} (h : ES w B v s) (hb : Below w.heap.size w w') : ES w' B v s :=
  h.kept fun g hg => hb.block g (World.ownsRow.lt h g hg).2
theorem ES.low {w : World} {A B : Nat} {v : Value} {s : List Ed} (h : ES w B v s) (hab : A ≤ B) : ES w A v s := by
  refine ⟨h.1, ?_⟩
  rcases h.2 with h' | ⟨g, cap, cur, rfl, hB, hr⟩
  · exact Or.inl h'
  · exact Or.inr ⟨g, cap, cur, rfl, Nat.le_trans hab hB, hr⟩
theorem ES.nil (w : World) (B : Nat) : ES w B (.slice none 0 0) [] := World.ownsRow_nil _ _ _ _
theorem ES.lit0 (w : World) (B : Nat) (hB : B ≤ w.heap.size) : ES (w.alloc (.cells #[] 96)) B (.slice (some ⟨w.heap.size, 0, none⟩) 0 0) [] :=
  World.ownsRow_lit w #[] 0 hB (by decide) (by simp)
/-- Behind the append of one edge. -/
theorem pushE {w wr w1 : World} {A B : Nat} {v v' : Value} {s : List Ed} {b : Ed} {ob : Obj} (hbs : ES wr A v s) (hab : B ≤ A) (hbl : Below B w wr) (hs : B ≤ wr.heap.size)
    (h : w1.ownsRow A 96 5 v' (s.length + 1) (eflat s ++ ecells b)) (hg : (wr.alloc ob).grownBy w1 v.ownBlock) : ES w1 A v' (s ++ [b]) ∧ Below B w w1 := by
  refine ⟨?_, (hbl.alloc hs ob).grown hg (by simp; omega) (fun k hk => Nat.le_trans hab (World.ownsRow.lt hbs k hk).1)⟩
  unfold ES
  rw [eflat_append, List.length_append]
  exact h

end Go.Proofs.Ytmdijanohjkeeaa
