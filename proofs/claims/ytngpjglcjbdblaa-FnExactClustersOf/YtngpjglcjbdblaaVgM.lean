/- Proved here: clusters: whoever is near to another is in its cluster; the label of a cluster is its first. -/
import Derived.Test.YtngpjglcjbdblaaVgB
namespace Go.Proofs.Ytngpjglcjbdblaa
open Go.RowKit
set_option linter.unusedVariables false
set_option linter.unusedSimpArgs false

def nbD (near : Int) (a b : Dft) : Bool := decide (((a.x - b.x).natAbs : Int) ≤ near) && decide (((a.y - b.y).natAbs : Int) ≤ near)
theorem nbD_sym (near : Int) (a b : Dft) : nbD near a b = nbD near b a := by
  unfold nbD
  rw [show (a.x - b.x).natAbs = (b.x - a.x).natAbs by omega, show (a.y - b.y).natAbs = (b.y - a.y).natAbs by omega]
def nbS (s : List Dft) (near : Int) (a b : Nat) : Bool := match s[a]?, s[b]? with
  | some x, some y => nbD near x y
  | _, _ => false
theorem nbS_sym (s : List Dft) (near : Int) (a b : Nat) : nbS s near a b = nbS s near b a := by
  unfold nbS
  cases s[a]? <;> cases s[b]? <;> simp [nbD_sym near]
theorem nbS_at {s : List Dft} {near : Int} {a b : Nat} (ha : a < s.length) (hb : b < s.length) : nbS s near a b = nbD near s[a] s[b] := by
  unfold nbS; simp [ha, hb]
/-- The least number below k of a kind; k, if there is none. -/
def lst (p : Nat → Bool) : Nat → Nat
  | 0 => 0
  | k + 1 => if lst p k < k then lst p k else if p k then k else k + 1
theorem lst_le (p : Nat → Bool) (k : Nat) : lst p k ≤ k := by
  induction k with
  | zero => exact Nat.le_refl _
  | succ k ih => simp only [lst]; split <;> (try split) <;> omega
theorem lst_yes {p : Nat → Bool} {k : Nat} (h : lst p k < k) : p (lst p k) = true := by
  induction k with
  | zero => omega
  | succ k ih =>
    simp only [lst] at h ⊢
    by_cases h1 : lst p k < k
    · rw [if_pos h1]; exact ih h1
    · rw [if_neg h1] at h ⊢
      by_cases h2 : p k = true
      · rw [if_pos h2]; exact h2
      · rw [if_neg h2] at h; omega
theorem lst_min {p : Nat → Bool} {k c : Nat} (hc : c < k) (hp : p c = true) : lst p k ≤ c := by
  induction k with
  | zero => omega
  | succ k ih =>
    simp only [lst]
    by_cases h1 : lst p k < k
    · rw [if_pos h1]
      by_cases e : c < k
      · exact ih e
      · omega
    · rw [if_neg h1]
      by_cases e : c < k
      · have := ih e; omega
      · have : c = k := by omega
        subst this
        rw [if_pos hp]; exact Nat.le_refl _
/-- A cluster of the first k with one that is near to the next. -/
def tch (nb : Nat → Nat → Bool) (k : Nat) (F : Nat → Nat) (c : Nat) : Bool := (List.range k).any (fun j => decide (F j = c) && nb k j)
theorem tch_iff {nb : Nat → Nat → Bool} {k : Nat} {F : Nat → Nat} {c : Nat} : tch nb k F c = true ↔ ∃ j, j < k ∧ F j = c ∧ nb k j = true := by
  unfold tch
  rw [List.any_eq_true]
  constructor
  · rintro ⟨j, h1, h2⟩
    simp only [Bool.and_eq_true, decide_eq_true_eq] at h2
    exact ⟨j, List.mem_range.1 h1, h2.1, h2.2⟩
  · rintro ⟨j, h1, h2, h3⟩
    exact ⟨j, List.mem_range.2 h1, by simp [h2, h3]⟩
def mnF (nb : Nat → Nat → Bool) (k : Nat) (F : Nat → Nat) : Nat := lst (tch nb k F) k
/-- The first of each one's cluster, among the first k. -/
def fr (nb : Nat → Nat → Bool) : Nat → Nat → Nat
  | 0 => fun i => i
  | k + 1 => fun i => if i = k ∨ tch nb k (fr nb k) (fr nb k i) = true then mnF nb k (fr nb k) else fr nb k i
def En (nb : Nat → Nat → Bool) (k : Nat) (x y : Nat) : Prop := x < k ∧ y < k ∧ nb x y = true
theorem En_sym {nb : Nat → Nat → Bool} (h : ∀ x y, nb x y = nb y x) (k : Nat) : ∀ x y, En nb k x y → En nb k y x := fun x y e => ⟨e.2.1, e.1, by rw [h]; exact e.2.2⟩
theorem fr_lab {nb : Nat → Nat → Bool} (hs : ∀ x y, nb x y = nb y x) : ∀ k, Lab (En nb k) k (fr nb k) := by
  intro k
  induction k with
  | zero => exact Lab.empty _ _
  | succ k ih =>
    have hyes : ∀ i, (i = k ∨ tch nb k (fr nb k) (fr nb k i) = true) → fr nb (k + 1) i = mnF nb k (fr nb k) := fun i h => by simp only [fr]; rw [if_pos h]
    have hno : ∀ i, ¬ (i = k ∨ tch nb k (fr nb k) (fr nb k i) = true) → fr nb (k + 1) i = fr nb k i := fun i h => by simp only [fr]; rw [if_neg h]
    have hup : ∀ {x y}, Conn (En nb k) x y → Conn (En nb (k + 1)) x y := fun h => h.mono (fun x y e => ⟨by have := e.1; omega, by have := e.2.1; omega, e.2.2⟩)
    have hm1 := lst_le (tch nb k (fr nb k)) k
    have hToK : ∀ i, i < k + 1 → (i = k ∨ tch nb k (fr nb k) (fr nb k i) = true) → Conn (En nb (k + 1)) i k := by
      intro i hi h
      by_cases e : i = k
      · rw [e]; exact Conn.refl _ _
      · rcases h with h | h
        · exact absurd h e
        · obtain ⟨j, hj, hF, hn⟩ := tch_iff.1 h
          have h1 := hup ((ih.same i j (by omega) hj).1 hF.symm)
          exact h1.trans (Conn.one ⟨by omega, by omega, by rw [hs]; exact hn⟩)
    have hmT : ∀ c, c < k → fr nb k c = c → mnF nb k (fr nb k) = c → tch nb k (fr nb k) c = true := fun c hc hcc h => by
      have h1 : lst (tch nb k (fr nb k)) k < k := by unfold mnF at h; omega
      have h2 := lst_yes h1
      unfold mnF at h
      rw [h] at h2; exact h2
    have hlow : ∀ a, a < k → fr nb k a < k := fun a ha => by have := ih.le a ha; omega
    refine ⟨fun a b ha hb => ⟨fun e => ?_, fun e => ?_⟩, fun a ha => ?_, fun a ha => ?_⟩
    · by_cases ta : a = k ∨ tch nb k (fr nb k) (fr nb k a) = true
      · by_cases tb : b = k ∨ tch nb k (fr nb k) (fr nb k b) = true
        · exact (hToK a ha ta).trans ((hToK b hb tb).symm (En_sym hs _))
        · exfalso
          have hbk : b < k := by have : b ≠ k := fun e => tb (Or.inl e); omega
          rw [hyes a ta, hno b tb] at e
          exact tb (Or.inr (hmT (fr nb k b) (hlow b hbk) (ih.own b hbk) e))
      · have hak : a < k := by have : a ≠ k := fun e => ta (Or.inl e); omega
        by_cases tb : b = k ∨ tch nb k (fr nb k) (fr nb k b) = true
        · exfalso
          rw [hno a ta, hyes b tb] at e
          exact ta (Or.inr (hmT (fr nb k a) (hlow a hak) (ih.own a hak) e.symm))
        · have hbk : b < k := by have : b ≠ k := fun e => tb (Or.inl e); omega
          rw [hno a ta, hno b tb] at e
          exact hup ((ih.same a b hak hbk).1 e)
    · have := e (fun x => fr nb (k + 1) a = fr nb (k + 1) x) rfl (by
        intro x y hx hxy
        rw [hx]
        obtain ⟨h1, h2, h3⟩ := hxy
        by_cases ex : x = k
        · subst ex
          rw [hyes x (Or.inl rfl)]
          by_cases ey : y = x
          · rw [ey, hyes x (Or.inl rfl)]
          · rw [hyes y (Or.inr (tch_iff.2 ⟨y, by omega, rfl, h3⟩))]
        · by_cases ey : y = k
          · subst ey
            rw [hyes y (Or.inl rfl), hyes x (Or.inr (tch_iff.2 ⟨x, by omega, rfl, by rw [hs]; exact h3⟩))]
          · have hF : fr nb k x = fr nb k y := (ih.same x y (by omega) (by omega)).2 (Conn.one ⟨by omega, by omega, h3⟩)
            by_cases tx : x = k ∨ tch nb k (fr nb k) (fr nb k x) = true
            · have ty : y = k ∨ tch nb k (fr nb k) (fr nb k y) = true := by
                rcases tx with tx | tx
                · exact absurd tx ex
                · exact Or.inr (by rw [← hF]; exact tx)
              rw [hyes x tx, hyes y ty]
            · have ty : ¬ (y = k ∨ tch nb k (fr nb k) (fr nb k y) = true) := by
                rintro (h | h)
                · exact ey h
                · exact tx (Or.inr (by rw [hF]; exact h))
              rw [hno x tx, hno y ty, hF])
      exact this
    · by_cases ta : a = k ∨ tch nb k (fr nb k) (fr nb k a) = true
      · rw [hyes a ta]
        by_cases e : a = k
        · rw [e]; exact hm1
        · rcases ta with ta | ta
          · exact absurd ta e
          · have h1 : lst (tch nb k (fr nb k)) k ≤ fr nb k a := lst_min (hlow a (by omega)) ta
            have h2 := ih.le a (by omega)
            unfold mnF; omega
      · rw [hno a ta]
        have : a ≠ k := fun e => ta (Or.inl e)
        exact ih.le a (by omega)
    · by_cases ta : a = k ∨ tch nb k (fr nb k) (fr nb k a) = true
      · rw [hyes a ta]
        by_cases e : lst (tch nb k (fr nb k)) k < k
        · have h1 := lst_yes e
          obtain ⟨j, hj, hF, hn⟩ := tch_iff.1 h1
          have h2 : fr nb k (mnF nb k (fr nb k)) = mnF nb k (fr nb k) := by unfold mnF; rw [← hF]; exact ih.own j hj
          exact hyes _ (Or.inr (by rw [h2]; exact h1))
        · exact hyes _ (Or.inl (by unfold mnF; omega))
      · have hak : a < k := by have : a ≠ k := fun e => ta (Or.inl e); omega
        rw [hno a ta]
        have h1 := hlow a hak
        have h2 := ih.own a hak
        rw [hno (fr nb k a) (by
          rintro (h | h)
          · omega
          · exact ta (Or.inr (by rw [h2] at h; exact h))), h2]

end Go.Proofs.Ytngpjglcjbdblaa
