/- Proved here: joined by steps: what is joined when one more pair is, and labels that tell it: a label is the least number of its part. No condition on the program. -/
import Derived.Test.YtngpjglcjbdblaaVdM
namespace Go.Proofs.Ytngpjglcjbdblaa
set_option linter.unusedVariables false
set_option linter.unusedSimpArgs false

/-- Joined step by step. -/
def Conn (E : Nat → Nat → Prop) (a b : Nat) : Prop := ∀ P : Nat → Prop, P a → (∀ x y, P x → E x y → P y) → P b
theorem Conn.refl (E : Nat → Nat → Prop) (a : Nat) : Conn E a a := fun P h _ => h
theorem Conn.trans {E : Nat → Nat → Prop} {a b c : Nat} (h : Conn E a b) (k : Conn E b c) : Conn E a c := fun P h1 h2 => k P (h P h1 h2) h2
theorem Conn.one {E : Nat → Nat → Prop} {a b : Nat} (h : E a b) : Conn E a b := fun P h1 h2 => h2 a b h1 h
theorem Conn.symm {E : Nat → Nat → Prop} (hE : ∀ x y, E x y → E y x) {a b : Nat} (h : Conn E a b) : Conn E b a :=
  h (fun x => Conn E x a) (Conn.refl E a) fun x y hx hxy => (Conn.one (hE x y hxy)).trans hx
theorem Conn.mono {E F : Nat → Nat → Prop} (h : ∀ x y, E x y → F x y) {a b : Nat} (k : Conn E a b) : Conn F a b := fun P h1 h2 => k P h1 fun x y hx hxy => h2 x y hx (h x y hxy)
theorem Conn.congr {E F : Nat → Nat → Prop} (h : ∀ x y, E x y ↔ F x y) (a b : Nat) : Conn E a b ↔ Conn F a b :=
  ⟨Conn.mono fun x y => (h x y).1, Conn.mono fun x y => (h x y).2⟩
/-- A number that no pair has is joined with itself alone. -/
theorem Conn.alone {E : Nat → Nat → Prop} (hE : ∀ x y, E x y → E y x) {m : Nat} (hm : ∀ x, ¬ E x m) {a : Nat} : Conn E a m ↔ a = m := by
  constructor
  · intro h
    have := (h.symm hE) (fun x => x = m) rfl fun x y hx hxy => by subst hx; exact absurd (hE _ _ hxy) (hm y)
    exact this
  · rintro rfl; exact Conn.refl E _
/-- One more pair. -/
def more (E : Nat → Nat → Prop) (u v : Nat) : Nat → Nat → Prop := fun x y => E x y ∨ (x = u ∧ y = v) ∨ (x = v ∧ y = u)
theorem more_symm {E : Nat → Nat → Prop} (hE : ∀ x y, E x y → E y x) (u v : Nat) : ∀ x y, more E u v x y → more E u v y x := by
  intro x y h
  rcases h with h | h | h
  · exact Or.inl (hE x y h)
  · exact Or.inr (Or.inr ⟨h.2, h.1⟩)
  · exact Or.inr (Or.inl ⟨h.2, h.1⟩)
theorem conn_more {E : Nat → Nat → Prop} (hE : ∀ x y, E x y → E y x) (u v a b : Nat) : Conn (more E u v) a b ↔ Conn E a b ∨ (Conn E a u ∧ Conn E v b) ∨ (Conn E a v ∧ Conn E u b) := by
  constructor
  · intro h
    refine h (fun x => Conn E a x ∨ (Conn E a u ∧ Conn E v x) ∨ (Conn E a v ∧ Conn E u x)) (Or.inl (Conn.refl E a)) ?_
    intro x y hx hxy
    rcases hxy with hxy | ⟨rfl, rfl⟩ | ⟨rfl, rfl⟩
    · rcases hx with hx | hx | hx
      · exact Or.inl (hx.trans (Conn.one hxy))
      · exact Or.inr (Or.inl ⟨hx.1, hx.2.trans (Conn.one hxy)⟩)
      · exact Or.inr (Or.inr ⟨hx.1, hx.2.trans (Conn.one hxy)⟩)
    · rcases hx with hx | hx | hx
      · exact Or.inr (Or.inl ⟨hx, Conn.refl E _⟩)
      · exact Or.inr (Or.inl ⟨hx.1, Conn.refl E _⟩)
      · exact Or.inl hx.1
    · rcases hx with hx | hx | hx
      · exact Or.inr (Or.inr ⟨hx, Conn.refl E _⟩)
      · exact Or.inl hx.1
      · exact Or.inr (Or.inr ⟨hx.1, Conn.refl E _⟩)
  · have up : ∀ {x y}, Conn E x y → Conn (more E u v) x y := fun h => h.mono fun _ _ => Or.inl
    rintro (h | ⟨h1, h2⟩ | ⟨h1, h2⟩)
    · exact up h
    · exact ((up h1).trans (Conn.one (Or.inr (Or.inl ⟨rfl, rfl⟩)))).trans (up h2)
    · exact ((up h1).trans (Conn.one (Or.inr (Or.inr ⟨rfl, rfl⟩)))).trans (up h2)

/-- Labels of the numbers below m: the least number of each one's part. -/
structure Lab (E : Nat → Nat → Prop) (m : Nat) (F : Nat → Nat) : Prop where
  same : ∀ a b, a < m → b < m → (F a = F b ↔ Conn E a b)
  le : ∀ a, a < m → F a ≤ a
  own : ∀ a, a < m → F (F a) = F a
theorem Lab.empty (E : Nat → Nat → Prop) (F : Nat → Nat) : Lab E 0 F := ⟨fun a b h => by omega, fun a h => by omega, fun a h => by omega⟩
theorem Lab.conn {E : Nat → Nat → Prop} {m : Nat} {F : Nat → Nat} (h : Lab E m F) {a : Nat} (ha : a < m) : Conn E (F a) a := (h.same (F a) a (by have := h.le a ha; omega) ha).1 (h.own a ha)
theorem Lab.least {E : Nat → Nat → Prop} {m : Nat} {F : Nat → Nat} (h : Lab E m F) {a b : Nat} (ha : a < m) (hb : b < m) (hab : Conn E a b) : F a ≤ b := by
  rw [(h.same a b ha hb).2 hab]; exact h.le b hb
theorem Lab.uniq {E : Nat → Nat → Prop} {m : Nat} {F G : Nat → Nat} (hE : ∀ x y, E x y → E y x) (h : Lab E m F) (k : Lab E m G) : ∀ a, a < m → F a = G a := by
  intro a ha
  have h1 := h.le a ha
  have k1 := k.le a ha
  have h2 := h.least ha (by omega : G a < m) ((k.conn ha).symm hE)
  have k2 := k.least ha (by omega : F a < m) ((h.conn ha).symm hE)
  omega
theorem Lab.congr {E D : Nat → Nat → Prop} {m : Nat} {F G : Nat → Nat} (h : Lab E m F) (hE : ∀ x y, E x y ↔ D x y) (hF : ∀ a, a < m → F a = G a) : Lab D m G := by
  refine ⟨fun a b ha hb => ?_, fun a ha => by rw [← hF a ha]; exact h.le a ha, fun a ha => ?_⟩
  · rw [← hF a ha, ← hF b hb, h.same a b ha hb]; exact Conn.congr hE a b
  · have h1 := h.le a ha
    rw [← hF a ha, ← hF (F a) (by omega)]; exact h.own a ha
/-- One more number, joined with none. -/
theorem Lab.put {E : Nat → Nat → Prop} {m : Nat} {F : Nat → Nat} (hE : ∀ x y, E x y → E y x) (hm : ∀ x, ¬ E x m) (h : Lab E m F) : Lab E (m + 1) (fun a => if a = m then m else F a) := by
  have low : ∀ a, a < m → F a < m := fun a ha => by have := h.le a ha; omega
  refine ⟨fun a b ha hb => ?_, fun a ha => ?_, fun a ha => ?_⟩
  · by_cases h1 : a = m
    · by_cases h2 : b = m
      · subst h1 h2; simp; exact Conn.refl E _
      · rw [if_pos h1, if_neg h2, h1]
        constructor
        · intro e; have := low b (by omega); omega
        · intro e; exact absurd ((Conn.alone hE hm).1 (e.symm hE)) h2
    · by_cases h2 : b = m
      · rw [if_neg h1, if_pos h2, h2]
        constructor
        · intro e; have := low a (by omega); omega
        · intro e; exact absurd ((Conn.alone hE hm).1 e) h1
      · rw [if_neg h1, if_neg h2]; exact h.same a b (by omega) (by omega)
  · by_cases h1 : a = m
    · rw [if_pos h1]; omega
    · rw [if_neg h1]; exact h.le a (by omega)
  · by_cases h1 : a = m
    · simp [h1]
    · simp only [if_neg h1]
      have := low a (by omega)
      rw [if_neg (by omega)]
      exact h.own a (by omega)
/-- The label of a part that is joined with another. -/
def joinF (p q : Nat) (F : Nat → Nat) (a : Nat) : Nat := if F a = p ∨ F a = q then (if p ≤ q then p else q) else F a
theorem Lab.join {E : Nat → Nat → Prop} {m : Nat} {F : Nat → Nat} (hE : ∀ x y, E x y → E y x) {u v : Nat} (hu : u < m) (hv : v < m) (h : Lab E m F) : Lab (more E u v) m (joinF (F u) (F v) F) := by
  have hlu := h.le u hu
  have hlv := h.le v hv
  have cu : ∀ a, a < m → (F a = F u ↔ Conn E a u) := fun a ha => h.same a u ha hu
  have cv : ∀ a, a < m → (F a = F v ↔ Conn E a v) := fun a ha => h.same a v ha hv
  have inJ : ∀ a, a < m → (F a = F u ∨ F a = F v) → joinF (F u) (F v) F a = if F u ≤ F v then F u else F v := fun a ha k => by unfold joinF; rw [if_pos k]
  have outJ : ∀ a, a < m → ¬ (F a = F u ∨ F a = F v) → joinF (F u) (F v) F a = F a := fun a ha k => by unfold joinF; rw [if_neg k]
  have hmin : (if F u ≤ F v then F u else F v) = F u ∨ (if F u ≤ F v then F u else F v) = F v := by split <;> simp
  refine ⟨fun a b ha hb => ?_, fun a ha => ?_, fun a ha => ?_⟩
  · rw [conn_more hE]
    by_cases ka : F a = F u ∨ F a = F v
    · by_cases kb : F b = F u ∨ F b = F v
      · rw [inJ a ha ka, inJ b hb kb]
        refine ⟨fun _ => ?_, fun _ => rfl⟩
        rcases ka with ka | ka
        · rcases kb with kb | kb
          · exact Or.inl (((cu a ha).1 ka).trans (((cu b hb).1 kb).symm hE))
          · exact Or.inr (Or.inl ⟨(cu a ha).1 ka, ((cv b hb).1 kb).symm hE⟩)
        · rcases kb with kb | kb
          · exact Or.inr (Or.inr ⟨(cv a ha).1 ka, ((cu b hb).1 kb).symm hE⟩)
          · exact Or.inl (((cv a ha).1 ka).trans (((cv b hb).1 kb).symm hE))
      · rw [inJ a ha ka, outJ b hb kb]
        constructor
        · intro e
          exfalso
          rcases hmin with k | k
          · exact kb (Or.inl (by rw [← e, k]))
          · exact kb (Or.inr (by rw [← e, k]))
        · intro e
          exfalso
          rcases e with e | e | e
          · rcases ka with ka | ka
            · exact kb (Or.inl ((cu b hb).2 ((e.symm hE).trans ((cu a ha).1 ka))))
            · exact kb (Or.inr ((cv b hb).2 ((e.symm hE).trans ((cv a ha).1 ka))))
          · exact kb (Or.inr ((cv b hb).2 (e.2.symm hE)))
          · exact kb (Or.inl ((cu b hb).2 (e.2.symm hE)))
    · by_cases kb : F b = F u ∨ F b = F v
      · rw [outJ a ha ka, inJ b hb kb]
        constructor
        · intro e
          exfalso
          rcases hmin with k | k
          · exact ka (Or.inl (by rw [e, k]))
          · exact ka (Or.inr (by rw [e, k]))
        · intro e
          exfalso
          rcases e with e | e | e
          · rcases kb with kb | kb
            · exact ka (Or.inl ((cu a ha).2 (e.trans ((cu b hb).1 kb))))
            · exact ka (Or.inr ((cv a ha).2 (e.trans ((cv b hb).1 kb))))
          · exact ka (Or.inl ((cu a ha).2 e.1))
          · exact ka (Or.inr ((cv a ha).2 e.1))
      · rw [outJ a ha ka, outJ b hb kb, h.same a b ha hb]
        constructor
        · exact Or.inl
        · rintro (e | e | e)
          · exact e
          · exact absurd (Or.inl ((cu a ha).2 e.1)) ka
          · exact absurd (Or.inr ((cv a ha).2 e.1)) ka
  · have := h.le a ha
    by_cases ka : F a = F u ∨ F a = F v
    · rw [inJ a ha ka]
      split
      · rename_i hle; rcases ka with ka | ka <;> omega
      · rename_i hle; rcases ka with ka | ka <;> omega
    · rw [outJ a ha ka]; exact this
  · have := h.le a ha
    by_cases ka : F a = F u ∨ F a = F v
    · rw [inJ a ha ka]
      rcases hmin with k | k
      · rw [k, inJ (F u) (by omega) (Or.inl (h.own u hu)), k]
      · rw [k, inJ (F v) (by omega) (Or.inr (h.own v hv)), k]
    · rw [outJ a ha ka, outJ (F a) (by omega) (by rw [h.own a ha]; exact ka)]
      exact h.own a ha

end Go.Proofs.Ytngpjglcjbdblaa
