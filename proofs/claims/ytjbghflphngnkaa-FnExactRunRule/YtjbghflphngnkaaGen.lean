/- Proved here: small general rules on lists whose elements are so many cells each: read anywhere (RG), or in a row of the call's own (OG); stores of one element. No condition on the program. -/
import Derived.Test.YtjbghflphngnkaaUnd
import Derived.Test.YtjbghflphngnkaaProg
import Derived.LoopTactic
namespace Go.Proofs.Ytjbghflphngnkaa
open Go.RowKit
set_option linter.unusedVariables false
set_option linter.unusedSimpArgs false

section
variable {α : Type}

/-- A slice that can be read as a list of elements of k cells each. -/
def RG (k : Nat) (enc : α → List Value) (w : World) (v : Value) (s : List α) : Prop :=
  ∃ a c, v = .slice a s.length c ∧ (s ≠ [] → ∃ g o, a = some ⟨g, o, none⟩ ∧ g < w.heap.size ∧ ∀ j (hj : j < s.length) i, i < k → w.cell? ⟨g, o + j * k + i, none⟩ = (enc s[j])[i]?)
/-- .. of the call's own. -/
def OG (T k : Nat) (enc : α → List Value) (w : World) (B : Nat) (v : Value) (s : List α) : Prop := w.ownsRow B T k v s.length (s.flatMap enc)

theorem RG.form {k : Nat} {enc : α → List Value} {w : World} {v : Value} {s : List α} (h : RG k enc w v s) : ∃ a c, v = .slice a s.length c := by
  obtain ⟨a, c, rfl, _⟩ := h; exact ⟨a, c, rfl⟩
theorem RG.below {k : Nat} {enc : α → List Value} {w w' : World} {v : Value} {s : List α} (h : RG k enc w v s) (hb : Below w.heap.size w w') : RG k enc w' v s := by
  obtain ⟨a, c, rfl, h⟩ := h
  refine ⟨a, c, rfl, fun hn => ?_⟩
  obtain ⟨g, o, rfl, hg, hj⟩ := h hn
  exact ⟨g, o, rfl, Nat.lt_of_lt_of_le hg hb.size, fun j hl i hi => (hb.cell (p := ⟨g, o + j * k + i, none⟩) hg).trans (hj j hl i hi)⟩
theorem RG.pos {k : Nat} {enc : α → List Value} {w : World} {v : Value} {s : List α} (h : RG k enc w v s) (hn : 0 < s.length) :
    ∃ g o c, v = .slice (some ⟨g, o, none⟩) s.length c ∧ g < w.heap.size ∧ ∀ j (hj : j < s.length) i, i < k → w.cell? ⟨g, o + j * k + i, none⟩ = (enc s[j])[i]? := by
  obtain ⟨a, c, rfl, h⟩ := h
  obtain ⟨g, o, rfl, hg, hj⟩ := h (by intro e; rw [e] at hn; exact absurd hn (by simp))
  exact ⟨g, o, c, rfl, hg, hj⟩
theorem RG.cap {k : Nat} {enc : α → List Value} {w : World} {a : Option Addr} {n c : Nat} {s : List α} (h : RG k enc w (.slice a n c) s) (c' : Nat) : RG k enc w (.slice a n c') s := by
  obtain ⟨a', c2, e, h⟩ := h
  simp only [Value.slice.injEq] at e
  obtain ⟨rfl, rfl, rfl⟩ := e
  exact ⟨a, c', rfl, h⟩
theorem RG.len {k : Nat} {enc : α → List Value} {w : World} {a : Option Addr} {n c : Nat} {s : List α} (h : RG k enc w (.slice a n c) s) : n = s.length := by
  obtain ⟨a', c2, e, h⟩ := h
  simp only [Value.slice.injEq] at e
  exact e.2.1
theorem RG.nil (k : Nat) (enc : α → List Value) (w : World) (a : Option Addr) (c : Nat) : RG k enc w (.slice a 0 c) [] := ⟨a, c, rfl, fun h => absurd rfl h⟩

theorem fm_length {k : Nat} {enc : α → List Value} (hk : ∀ x, (enc x).length = k) (s : List α) : (s.flatMap enc).length = s.length * k := by
  induction s with
  | nil => simp
  | cons b t ih => rw [List.flatMap_cons, List.length_append, hk, ih, List.length_cons, Nat.add_mul]; omega
theorem fm_get {k : Nat} {enc : α → List Value} (hk : ∀ x, (enc x).length = k) : ∀ (s : List α) (j i : Nat) (hj : j < s.length), i < k → (s.flatMap enc)[j * k + i]? = (enc s[j])[i]? := by
  intro s
  induction s with
  | nil => intro j i hj; simp at hj
  | cons b t ih =>
    intro j i hj hi
    rw [List.flatMap_cons]
    cases j with
    | zero => rw [List.getElem?_append_left (by rw [hk]; omega)]; simp
    | succ j =>
      rw [List.getElem?_append_right (by rw [hk, Nat.add_mul]; omega)]
      have e : (j + 1) * k + i - (enc b).length = j * k + i := by rw [hk, Nat.add_mul]; omega
      rw [e, ih j i (by simpa using hj) hi]
      simp
theorem OG.lt {T k : Nat} {enc : α → List Value} {w : World} {B : Nat} {v : Value} {s : List α} (h : OG T k enc w B v s) : ∀ g, v.ownBlock = some g → B ≤ g ∧ g < w.heap.size := World.ownsRow.lt h
theorem OG.rg {T k : Nat} {enc : α → List Value} (hk : ∀ x, (enc x).length = k) {w : World} {B : Nat} {v : Value} {s : List α} (h : OG T k enc w B v s) : RG k enc w v s := by
  rcases h.2 with ⟨rfl, h0⟩ | ⟨g, cap, cur, rfl, hB, hg, hn, hm, hs, ht⟩
  · obtain rfl : s = [] := List.length_eq_zero_iff.1 h0
    exact RG.nil _ _ _ _ _
  · refine ⟨_, cap, rfl, fun _ => ⟨g, 0, rfl, (World.ownsRow.lt h g rfl).2, fun j hj i hi => ?_⟩⟩
    have hlt : j * k + i < s.length * k := by
      have := Nat.mul_le_mul_right k (show j + 1 ≤ s.length from hj)
      rw [Nat.add_mul] at this
      omega
    have := World.ownsRow.cellAt (w := w) (g := g) (cap := cap) h (j * k + i) hlt
    rw [Nat.zero_add, this, fm_get hk s j i hj hi]
theorem OG.below {T k : Nat} {enc : α → List Value} {w w' : World} {B : Nat} {v : Value} {s : List α} (h : OG T k enc w B v s) (hb : Below w.heap.size w w') : OG T k enc w' B v s :=
  World.ownsRow.kept (row := none) h ⟨hb.os, hb.tape, hb.output, hb.size, fun k hk _ => hb.block k hk⟩ (by cases v.ownBlock <;> simp)
theorem OG.low {T k : Nat} {enc : α → List Value} {w : World} {A B : Nat} {v : Value} {s : List α} (h : OG T k enc w B v s) (hab : A ≤ B) : OG T k enc w A v s := by
  refine ⟨h.1, ?_⟩
  rcases h.2 with h' | ⟨g, cap, cur, rfl, hB, hr⟩
  · exact Or.inl h'
  · exact Or.inr ⟨g, cap, cur, rfl, Nat.le_trans hab hB, hr⟩

/-- Cells written one behind the other. -/
def putsAt (w : World) (g o : Nat) : Nat → List Value → World
  | _, [] => w
  | i, v :: vs => putsAt (w.setCell ⟨g, o + i, none⟩ v) g o (i + 1) vs
def setsL (ys : List Value) (o : Nat) : Nat → List Value → List Value
  | _, [] => ys
  | i, v :: vs => setsL (ys.set (o + i) v) o (i + 1) vs
theorem setsL_length (o : Nat) : ∀ (vs : List Value) (ys : List Value) (i : Nat), (setsL ys o i vs).length = ys.length := by
  intro vs
  induction vs with
  | nil => intro ys i; rfl
  | cons v vs ih => intro ys i; rw [setsL, ih]; simp
theorem setsL_old (o : Nat) : ∀ (vs : List Value) (ys : List Value) (i t : Nat), t < o + i → (setsL ys o i vs)[t]? = ys[t]? := by
  intro vs
  induction vs with
  | nil => intro ys i t _; rfl
  | cons v vs ih => intro ys i t ht; rw [setsL, ih _ _ _ (by omega), List.getElem?_set_ne (by omega)]
theorem setsL_new (o : Nat) : ∀ (vs : List Value) (ys : List Value) (i t : Nat), t < vs.length → o + i + t < ys.length → (setsL ys o i vs)[o + i + t]? = vs[t]? := by
  intro vs
  induction vs with
  | nil => intro ys i t h; simp at h
  | cons v vs ih =>
    intro ys i t h hl
    rw [setsL]
    cases t with
    | zero => rw [setsL_old _ _ _ _ _ (by omega), Nat.add_zero, List.getElem?_set_self (by omega)]; rfl
    | succ t =>
      have e : o + i + (t + 1) = o + (i + 1) + t := by omega
      rw [e, ih _ _ _ (by simpa using h) (by simp; omega)]
      simp
theorem owns_puts {w : World} {B T k g n c : Nat} {ys : List Value} (h : w.ownsRow B T k (.slice (some ⟨g, 0, none⟩) n c) n ys) (o : Nat) : ∀ (vs : List Value) (i : Nat), (putsAt w g o i vs).ownsRow B T k (.slice (some ⟨g, 0, none⟩) n c) n (setsL ys o i vs) := by
  intro vs
  induction vs generalizing w ys with
  | nil => intro i; exact h
  | cons v vs ih => intro i; exact ih (World.ownsRow.stored h (o + i) v).1 (i + 1)
theorem puts_below {w w' : World} {B g o : Nat} (hb : Below B w w') (hg : B ≤ g) : ∀ (vs : List Value) (i : Nat), Below B w (putsAt w' g o i vs) := by
  intro vs
  induction vs generalizing w' with
  | nil => intro i; exact hb
  | cons v vs ih => intro i; exact ih (hb.setCell hg v) (i + 1)
theorem puts_size {g o : Nat} : ∀ (vs : List Value) (w : World) (i : Nat), (putsAt w g o i vs).heap.size = w.heap.size := by
  intro vs
  induction vs with
  | nil => intro w i; rfl
  | cons v vs ih => intro w i; rw [putsAt, ih]; simp
theorem puts_other {g o q : Nat} (hq : q ≠ g) : ∀ (vs : List Value) (w : World) (i : Nat), (putsAt w g o i vs).heap[q]? = w.heap[q]? := by
  intro vs
  induction vs with
  | nil => intro w i; rfl
  | cons v vs ih => intro w i; rw [putsAt, ih, heap_setCell_other _ _ _ _ (by simpa using hq)]

/-- A row that is being filled: its first j elements are there. -/
structure Fill (T k : Nat) (enc : α → List Value) (w : World) (B g n : Nat) (s : List α) (j : Nat) : Prop where
  own : ∃ ys : List Value, w.ownsRow B T k (.slice (some ⟨g, 0, none⟩) n n) n ys ∧ ∀ t, t < j * k → ys[t]? = (s.flatMap enc)[t]?
theorem Fill.put {T k : Nat} {enc : α → List Value} (hk : ∀ x, (enc x).length = k) {w : World} {B g n : Nat} {s : List α} {j : Nat} (h : Fill T k enc w B g n s j) (hn : n = s.length) (hj : j < s.length) : Fill T k enc (putsAt w g (j * k) 0 (enc s[j])) B g n s (j + 1) := by
  obtain ⟨ys, ho, hy⟩ := h.own
  refine ⟨_, owns_puts ho (j * k) (enc s[j]) 0, fun t ht => ?_⟩
  have hl := ho.1
  have h1 : (j + 1) * k ≤ n * k := Nat.mul_le_mul_right _ (by omega)
  rcases Nat.lt_or_ge t (j * k) with h2 | h2
  · rw [setsL_old _ _ _ _ _ (by omega), hy t h2]
  · obtain ⟨i, rfl⟩ : ∃ i, t = j * k + i := ⟨t - j * k, by omega⟩
    have hi : i < k := by rw [Nat.add_mul] at ht; omega
    have := setsL_new (j * k) (enc s[j]) ys 0 i (by rw [hk]; exact hi) (by omega)
    rw [Nat.add_zero] at this
    rw [this, fm_get hk s j i hj hi]
theorem Fill.below {T k : Nat} {enc : α → List Value} {w w' : World} {B g n : Nat} {s : List α} {j : Nat} (h : Fill T k enc w B g n s j) (hb : Below w.heap.size w w') : Fill T k enc w' B g n s j := by
  obtain ⟨ys, ho, hy⟩ := h.own
  exact ⟨ys, World.ownsRow.kept (row := none) ho ⟨hb.os, hb.tape, hb.output, hb.size, fun k hk _ => hb.block k hk⟩ (Classical.em _), hy⟩
theorem Fill.done {T k : Nat} {enc : α → List Value} (hk : ∀ x, (enc x).length = k) {w : World} {B g n : Nat} {s : List α} {j : Nat} (h : Fill T k enc w B g n s j) (hn : n = s.length) (hj : s.length ≤ j) : OG T k enc w B (.slice (some ⟨g, 0, none⟩) n n) s := by
  obtain ⟨ys, ho, hy⟩ := h.own
  subst hn
  have e : ys = s.flatMap enc := by
    apply List.ext_getElem?
    intro t
    rcases Nat.lt_or_ge t (s.length * k) with ht | ht
    · exact hy t (Nat.lt_of_lt_of_le ht (Nat.mul_le_mul_right _ hj))
    · rw [List.getElem?_eq_none (by rw [ho.1]; exact ht), List.getElem?_eq_none (by rw [fm_length hk]; exact ht)]
  unfold OG
  rw [← e]; exact ho
theorem Fill.there {T k : Nat} {enc : α → List Value} {w : World} {B g n : Nat} {s : List α} {j : Nat} (h : Fill T k enc w B g n s j) (t : Nat) (ht : t < n * k) : (∃ u, w.cell? ⟨g, t, none⟩ = some u) ∧ w.frozen? ⟨g, t, none⟩ = false := by
  obtain ⟨ys, ho, _⟩ := h.own
  refine ⟨?_, World.ownsRow.frozenAt ho t⟩
  rw [World.ownsRow.cellAt ho t ht]
  exact ⟨_, List.getElem?_eq_getElem (by rw [ho.1]; exact ht)⟩
theorem Fill.lt {T k : Nat} {enc : α → List Value} {w : World} {B g n : Nat} {s : List α} {j : Nat} (h : Fill T k enc w B g n s j) : B ≤ g ∧ g < w.heap.size := by
  obtain ⟨ys, ho, _⟩ := h.own
  exact World.ownsRow.lt ho g rfl

theorem RG.kept {k : Nat} {enc : α → List Value} {w w' : World} {v : Value} {s : List α} (h : RG k enc w v s) (hb : ∀ q, v.ownBlock = some q → w'.heap[q]? = w.heap[q]?) (hs : w.heap.size ≤ w'.heap.size) : RG k enc w' v s := by
  obtain ⟨a, c, rfl, h⟩ := h
  refine ⟨a, c, rfl, fun hn => ?_⟩
  obtain ⟨g, o, rfl, hg, hj⟩ := h hn
  have hq := hb g rfl
  exact ⟨g, o, rfl, Nat.lt_of_lt_of_le hg hs, fun j hl i hi => by rw [← hj j hl i hi]; simp [World.cell?, hq]⟩
theorem Fill.push {T k : Nat} {enc : α → List Value} (hk : ∀ x, (enc x).length = k) {w : World} {B g n : Nat} {s : List α} {j : Nat} (h : Fill T k enc w B g n s j) (hl : s.length = j) (hj : j < n) (x : α) : Fill T k enc (putsAt w g (j * k) 0 (enc x)) B g n (s ++ [x]) (j + 1) := by
  obtain ⟨ys, ho, hy⟩ := h.own
  refine ⟨_, owns_puts ho (j * k) (enc x) 0, fun t ht => ?_⟩
  have hl2 := ho.1
  have h1 : (j + 1) * k ≤ n * k := Nat.mul_le_mul_right _ (by omega)
  have hf : (s.flatMap enc).length = j * k := by rw [fm_length hk, hl]
  rw [List.flatMap_append]
  rcases Nat.lt_or_ge t (j * k) with h2 | h2
  · rw [setsL_old _ _ _ _ _ (by omega), hy t h2, List.getElem?_append_left (by omega)]
  · obtain ⟨i, rfl⟩ : ∃ i, t = j * k + i := ⟨t - j * k, by omega⟩
    have hi : i < k := by rw [Nat.add_mul] at ht; omega
    have := setsL_new (j * k) (enc x) ys 0 i (by rw [hk]; exact hi) (by omega)
    rw [Nat.add_zero] at this
    rw [this, List.getElem?_append_right (by omega), hf]
    simp

end
end Go.Proofs.Ytjbghflphngnkaa
