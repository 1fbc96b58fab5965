/- A layout without a fault; what is reckoned cell by cell, by name. Arithmetic alone. -/
import Derived.Test.YtfnfedpgemnneaaLibM
namespace Go.Proofs.Ytfnfedpgemnneaa
open Go.RowKit
set_option linter.unusedVariables false

theorem firstOf_all {α : Type} {f : α → Int} : ∀ {s : List α}, firstOf f s = 0 → ∀ i (h : i < s.length), f s[i] = 0 := by
  intro s
  induction s with
  | nil => intro _ i h; simp at h
  | cons x t ih =>
    intro h0 i h
    unfold firstOf at h0
    by_cases e : f x = 0
    · rw [if_pos e] at h0
      cases i with
      | zero => exact e
      | succ i => exact ih h0 i (by simpa using h)
    · rw [if_neg e] at h0; exact absurd h0 e
theorem libR_zero (s : List Cl) : ∀ n i, n = s.length - i → libR s i n = 0 → ∀ j (h : j < s.length), i ≤ j → clK (ahB s j) s[j] = 0 := by
  intro n
  induction n with
  | zero => intro i hn _ j h hij; omega
  | succ n ih =>
    intro i hn h0 j h hij
    have hi : i < s.length := by omega
    by_cases e : clK (ahB s i) s[i] = 0
    · rcases (by omega : i = j ∨ i + 1 ≤ j) with rfl | h1
      · exact e
      · rw [libR_miss hi hn e] at h0
        have : s.length - (i + 1) = n := by omega
        rw [this] at h0
        exact ih (i + 1) (by omega) h0 j h h1
    · rw [libR_hit hi hn e] at h0; exact absurd h0 e

/-- What a layout without a fault is. -/
structure OkL (s : List Cl) : Prop where
  len : s.length ≤ 20
  nm : ∀ j (h : j < s.length), ahB s j s[j].nm = false
  bs : ∀ j (h : j < s.length), s[j].bs.length ≤ 60
  ps : ∀ j (h : j < s.length), s[j].ps.length ≤ 20
  pl : ∀ j (h : j < s.length) i (hi : i < s[j].ps.length), ahB s j (s[j].ps[i]).c = true ∧ 1 ≤ (s[j].ps[i]).nx ∧ (s[j].ps[i]).nx ≤ 20 ∧ 1 ≤ (s[j].ps[i]).ny ∧ (s[j].ps[i]).ny ≤ 20
theorem plK_zero {ah : Bool} {p : Pl} (h : plK ah p = 0) : ah = true ∧ 1 ≤ p.nx ∧ p.nx ≤ 20 ∧ 1 ≤ p.ny ∧ p.ny ≤ 20 := by
  unfold plK at h
  split at h
  · cases h
  · rename_i h1
    split at h
    · rename_i h2
      simp only [inN, Bool.and_eq_true, decide_eq_true_eq] at h2
      refine ⟨by cases ah <;> simp_all, by omega, by omega, by omega, by omega⟩
    · cases h
theorem libK_zero {s : List Cl} (h : libK s = 0) : OkL s := by
  unfold libK at h
  split at h
  · cases h
  · rename_i h20
    have hc := libR_zero s s.length 0 (by omega) h
    have key : ∀ j (h : j < s.length), ahB s j s[j].nm = false ∧ s[j].bs.length ≤ 60 ∧ s[j].ps.length ≤ 20 ∧ firstOf (fun p => plK (ahB s j p.c) p) s[j].ps = 0 := by
      intro j hj
      have h1 := hc j hj (Nat.zero_le _)
      unfold clK at h1
      split at h1
      · split at h1
        · cases h1
        · rename_i h2
          split at h1
          · cases h1
          · rename_i h3
            split at h1
            · exact ⟨by simpa using h2, by omega, by omega, h1⟩
            · rename_i h4; exact absurd h1 h4
      · rename_i h2; exact absurd h1 h2
    refine ⟨by omega, fun j hj => (key j hj).1, fun j hj => (key j hj).2.1, fun j hj => (key j hj).2.2.1, fun j hj i hi => ?_⟩
    exact plK_zero (firstOf_all (key j hj).2.2.2 i hi)
theorem OkL.ne {s : List Cl} (h : OkL s) {i j : Nat} (hi : i < s.length) (hj : j < s.length) (hij : i < j) : s[i].nm ≠ s[j].nm := by
  intro e
  have := h.nm j hj
  unfold ahB at this
  rw [decide_eq_false_iff_not, aheadN_pos] at this
  exact this ⟨i, hi, hij, e⟩

/-- By name, the first k cells reckoned. -/
def vmap (G : (ByteArray → Int) → Cl → Int) (s : List Cl) : Nat → ByteArray → Int
  | 0, _ => 0
  | k + 1, q => if h : k < s.length then (if s[k].nm = q then G (vmap G s k) s[k] else vmap G s k q) else vmap G s k q
theorem vmap_succ {G : (ByteArray → Int) → Cl → Int} {s : List Cl} {k : Nat} (h : k < s.length) : vmap G s (k + 1) = fun q => if s[k].nm = q then G (vmap G s k) s[k] else vmap G s k q := by
  funext q
  rw [vmap, dif_pos h]
theorem vmap_find {G : (ByteArray → Int) → Cl → Int} {s : List Cl} (ho : OkL s) {i : Nat} (hi : i < s.length) : ∀ k, i < k → k ≤ s.length → vmap G s k s[i].nm = G (vmap G s i) s[i] := by
  intro k
  induction k with
  | zero => intro h; omega
  | succ k ih =>
    intro hik hk
    rw [vmap_succ (by omega)]
    rcases (by omega : i = k ∨ i < k) with rfl | h1
    · simp
    · simp only [if_neg (Ne.symm (ho.ne hi (by omega : k < s.length) h1))]
      exact ih h1 (by omega)
theorem vmap_none {G : (ByteArray → Int) → Cl → Int} {s : List Cl} {q : ByteArray} : ∀ k, k ≤ s.length → ahB s k q = false → vmap G s k q = 0 := by
  intro k
  induction k with
  | zero => intro _ _; rfl
  | succ k ih =>
    intro hk h
    unfold ahB at h ih
    rw [aheadN_succ (by omega)] at h
    rw [vmap_succ (by omega)]
    have hne : ¬ s[k].nm = q := by
      intro e
      rw [if_pos e] at h
      simp at h
    simp only [if_neg hne]
    rw [if_neg hne] at h
    exact ih (by omega) (by simpa using h)
/-- The list of what is reckoned. -/
def vlist (G : (ByteArray → Int) → Cl → Int) (s : List Cl) : Nat → List Int
  | 0 => []
  | k + 1 => vlist G s k ++ [if h : k < s.length then G (vmap G s k) s[k] else 0]
theorem vlist_length (G : (ByteArray → Int) → Cl → Int) (s : List Cl) (k : Nat) : (vlist G s k).length = k := by
  induction k with
  | zero => rfl
  | succ k ih => simp [vlist, ih]
theorem vlist_get {G : (ByteArray → Int) → Cl → Int} {s : List Cl} {i : Nat} (hi : i < s.length) : ∀ k, i < k → (vlist G s k).getD i 0 = G (vmap G s i) s[i] := by
  intro k
  induction k with
  | zero => intro h; omega
  | succ k ih =>
    intro hik
    rw [vlist, List.getD_eq_getElem?_getD]
    rcases (by omega : i = k ∨ i < k) with rfl | h1
    · rw [List.getElem?_append_right (by rw [vlist_length]; exact Nat.le_refl _), vlist_length]
      simp [hi]
    · rw [List.getElem?_append_left (by rw [vlist_length]; exact h1), ← List.getD_eq_getElem?_getD]
      exact ih h1

/-- How deep a cell is, by those that it places. -/
def dpF (v : ByteArray → Int) (ps : List Pl) : Int := ps.foldl (fun m p => if m < v p.c then v p.c else m) 0
def dpG (v : ByteArray → Int) (c : Cl) : Int := 1 + dpF v c.ps
theorem dpF_step {v : ByteArray → Int} {ps : List Pl} {k : Nat} (h : k < ps.length) : dpF v (ps.take (k + 1)) = if dpF v (ps.take k) < v (ps[k]).c then v (ps[k]).c else dpF v (ps.take k) := by
  unfold dpF
  rw [← List.take_append_getElem h, List.foldl_append]
  rfl
theorem dpF_bound {v : ByteArray → Int} {m : Int} (hm : 0 ≤ m) (hv : ∀ q, 0 ≤ v q ∧ v q ≤ m) (ps : List Pl) : 0 ≤ dpF v ps ∧ dpF v ps ≤ m := by
  unfold dpF
  have : ∀ (ps : List Pl) (a : Int), 0 ≤ a → a ≤ m → 0 ≤ ps.foldl (fun m p => if m < v p.c then v p.c else m) a ∧ ps.foldl (fun m p => if m < v p.c then v p.c else m) a ≤ m := by
    intro ps
    induction ps with
    | nil => intro a h1 h2; exact ⟨h1, h2⟩
    | cons p t ih =>
      intro a h1 h2
      rw [List.foldl_cons]
      refine ih _ ?_ ?_ <;> split <;> first | omega | exact (hv _).1 | exact (hv _).2
  exact this ps 0 (by omega) hm
theorem dp_bound (s : List Cl) : ∀ k q, 0 ≤ vmap dpG s k q ∧ vmap dpG s k q ≤ k := by
  intro k
  induction k with
  | zero => intro q; exact ⟨by simp [vmap], by simp [vmap]⟩
  | succ k ih =>
    intro q
    rw [vmap]
    have h1 := ih q
    split
    · split
      · have := dpF_bound (m := (k : Int)) (by omega) ih s[k].ps
        have e : dpG (vmap dpG s k) s[k] = 1 + dpF (vmap dpG s k) s[k].ps := rfl
        rw [e]
        omega
      · omega
    · omega

end Go.Proofs.Ytfnfedpgemnneaa
