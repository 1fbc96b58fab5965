/- What the library's stable sort of jobs answers is sorted, and made of the same jobs. Arithmetic alone. -/
import Derived.Test.YtjbghflphngnkaaJoB
namespace Go.Proofs.Ytjbghflphngnkaa
open Go.RowKit
set_option linter.unusedVariables false
set_option linter.unusedSimpArgs false

/-- A comparison that is an order on what V holds of. -/
structure COrd (c : Jb → Jb → Int) (V : Jb → Prop) : Prop where
  tr : ∀ x y z, V x → V y → V z → ¬ c y x < 0 → ¬ c z y < 0 → ¬ c z x < 0
  ss : ∀ x y, V x → V y → c x y < 0 → ¬ c y x < 0
/-- From a on, below b, it rises. -/
def srt (c : Jb → Jb → Int) (l : List Jb) (a b : Nat) : Prop := ∀ p q, a ≤ p → p < q → q < b → ¬ c (jA l q) (jA l p) < 0
theorem sw_at {l : List Jb} {i j : Nat} (hi : i < l.length) (hj : j < l.length) (p : Nat) : jA (sw l i j) p = if p = j then jA l i else if p = i then jA l j else jA l p := by
  unfold sw
  unfold jA
  simp only [List.getD_eq_getElem?_getD, List.getElem?_set, List.length_set]
  by_cases h1 : p = j
  · subst h1; simp [hj]
  · rw [if_neg (fun e => h1 e.symm), if_neg h1]
    by_cases h2 : p = i
    · subst h2; simp [hi]
    · rw [if_neg (fun e => h2 e.symm), if_neg h2]
theorem sw_perm {l : List Jb} {i j : Nat} (hi : i < l.length) (hj : j < l.length) : (sw l i j).Perm l := by
  unfold sw
  rw [jA_at hi, jA_at hj]
  exact List.set_set_perm hi hj
theorem jA_mem {l : List Jb} {p : Nat} (h : p < l.length) : jA l p ∈ l := by rw [jA_at h]; exact List.getElem_mem h
/-- The same jobs, turned from a on, below b, alone. -/
structure Mov (l R : List Jb) (a b : Nat) : Prop where
  perm : R.Perm l
  out : ∀ p, (p < a ∨ b ≤ p) → jA R p = jA l p
  inn : ∀ p, a ≤ p → p < b → ∃ p', a ≤ p' ∧ p' < b ∧ jA R p = jA l p'
theorem Mov.refl (l : List Jb) (a b : Nat) : Mov l l a b := ⟨List.Perm.refl _, fun _ _ => rfl, fun p h1 h2 => ⟨p, h1, h2, rfl⟩⟩
theorem Mov.trans {l k R : List Jb} {a b : Nat} (h : Mov l k a b) (h' : Mov k R a b) : Mov l R a b :=
  ⟨h'.perm.trans h.perm, fun p hp => (h'.out p hp).trans (h.out p hp), fun p h1 h2 => by
    obtain ⟨p', h3, h4, h5⟩ := h'.inn p h1 h2
    obtain ⟨p2, h6, h7, h8⟩ := h.inn p' h3 h4
    exact ⟨p2, h6, h7, h5.trans h8⟩⟩
theorem Mov.wide {l R : List Jb} {a b a' b' : Nat} (h : Mov l R a b) (ha : a' ≤ a) (hb : b ≤ b') : Mov l R a' b' :=
  ⟨h.perm, fun p hp => h.out p (by omega), fun p h1 h2 => by
    by_cases h3 : a ≤ p ∧ p < b
    · obtain ⟨p', h4, h5, h6⟩ := h.inn p h3.1 h3.2
      exact ⟨p', by omega, by omega, h6⟩
    · exact ⟨p, h1, h2, h.out p (by omega)⟩⟩
theorem Mov.len {l R : List Jb} {a b : Nat} (h : Mov l R a b) : R.length = l.length := h.perm.length_eq
theorem Mov.all {l R : List Jb} {a b : Nat} {V : Jb → Prop} (h : Mov l R a b) (hV : ∀ x ∈ l, V x) : ∀ x ∈ R, V x := fun x hx => hV x (h.perm.mem_iff.1 hx)
theorem Mov.sw {l : List Jb} {i j a b : Nat} (hi : a ≤ i ∧ i < b) (hj : a ≤ j ∧ j < b) (hb : b ≤ l.length) : Mov l (sw l i j) a b := by
  refine ⟨sw_perm (by omega) (by omega), fun p hp => ?_, fun p h1 h2 => ?_⟩
  · rw [sw_at (by omega) (by omega), if_neg (by omega), if_neg (by omega)]
  · rw [sw_at (by omega) (by omega)]
    split
    · exact ⟨i, hi.1, hi.2, rfl⟩
    · split
      · exact ⟨j, hj.1, hj.2, rfl⟩
      · exact ⟨p, h1, h2, rfl⟩
variable {c : Jb → Jb → Int} {V : Jb → Prop}
theorem insJ_ok (hc : COrd c V) {a b : Nat} : ∀ (j : Nat) (l : List Jb), a ≤ j → j < b → b ≤ l.length → (∀ x ∈ l, V x) →
    (∀ p q, a ≤ p → p < q → q < b → p ≠ j → q ≠ j → ¬ c (jA l q) (jA l p) < 0) → (∀ q, j < q → q < b → ¬ c (jA l q) (jA l j) < 0) → srt c (insJ c a j l) a b ∧ Mov l (insJ c a j l) a b := by
  intro j
  induction j with
  | zero =>
    intro l h1 h2 h3 hV H1 H2
    refine ⟨fun p q h4 h5 h6 => ?_, Mov.refl _ _ _⟩
    show ¬ c (jA l q) (jA l p) < 0
    by_cases e : p = 0
    · subst e; exact H2 q h5 h6
    · exact H1 p q h4 h5 h6 e (by omega)
  | succ j ih =>
    intro l h1 h2 h3 hV H1 H2
    unfold insJ
    by_cases hc1 : a < j + 1 ∧ c (jA l (j + 1)) (jA l j) < 0
    · rw [if_pos hc1]
      have hj : j < l.length := by omega
      have hj1 : j + 1 < l.length := by omega
      have hat := fun p => sw_at hj1 hj p
      have hm : Mov l (sw l (j + 1) j) a b := Mov.sw ⟨by omega, by omega⟩ ⟨by omega, by omega⟩ h3
      have h5 := ih (sw l (j + 1) j) (by omega) (by omega) (by rw [sw_len]; exact h3) (hm.all hV) (fun p q h4 h5 h6 h7 h8 => by
        rw [hat q, hat p, if_neg h8, if_neg h7]
        by_cases e : p = j + 1
        · subst e
          rw [if_pos rfl, if_neg (by omega)]
          exact H1 j q (by omega) (by omega) h6 (by omega) (by omega)
        · rw [if_neg e]
          by_cases e2 : q = j + 1
          · subst e2
            rw [if_pos rfl]
            exact H1 p j h4 (by omega) (by omega) e (by omega)
          · rw [if_neg e2]
            exact H1 p q h4 h5 h6 e e2) (fun q h4 h5 => by
        rw [hat q, hat j, if_neg (by omega), if_pos rfl]
        by_cases e2 : q = j + 1
        · subst e2
          rw [if_pos rfl]
          exact hc.ss _ _ (hV _ (jA_mem hj1)) (hV _ (jA_mem hj)) hc1.2
        · rw [if_neg e2]
          exact H2 q (by omega) h5)
      exact ⟨h5.1, hm.trans h5.2⟩
    · rw [if_neg hc1]
      refine ⟨fun p q h4 h5 h6 => ?_, Mov.refl _ _ _⟩
      by_cases e : p = j + 1
      · subst e; exact H2 q h5 h6
      · by_cases e2 : q = j + 1
        · subst e2
          have hh : ¬ c (jA l (j + 1)) (jA l j) < 0 := fun e3 => hc1 ⟨by omega, e3⟩
          by_cases e4 : p = j
          · subst e4; exact hh
          · exact hc.tr _ _ _ (hV _ (jA_mem (by omega))) (hV _ (jA_mem (by omega))) (hV _ (jA_mem (by omega))) (H1 p j h4 (by omega) (by omega) e (by omega)) hh
        · exact H1 p q h4 h5 h6 e e2
theorem insO_ok (hc : COrd c V) {a b : Nat} : ∀ (n i : Nat) (l : List Jb), i + n = b → a ≤ i → b ≤ l.length → (∀ x ∈ l, V x) → srt c l a i → srt c (insO c a n i l) a b ∧ Mov l (insO c a n i l) a b := by
  intro n
  induction n with
  | zero => intro i l h1 h2 h3 hV hs; obtain rfl : i = b := by omega
            exact ⟨hs, Mov.refl _ _ _⟩
  | succ n ih =>
    intro i l h1 h2 h3 hV hs
    unfold insO
    obtain ⟨k1, k2⟩ := insJ_ok hc (a := a) (b := i + 1) i l h2 (by omega) (by omega) hV (fun p q h4 h5 h6 h7 h8 => hs p q h4 h5 (by omega)) (fun q h4 h5 => by omega)
    obtain ⟨k3, k4⟩ := ih (i + 1) (insJ c a i l) (by omega) (by omega) (by rw [insJ_len]; exact h3) (k2.all hV) k1
    exact ⟨k3, (k2.wide (Nat.le_refl _) (by omega)).trans k4⟩
theorem insS_ok (hc : COrd c V) {a b : Nat} {l : List Jb} (hab : a ≤ b) (hb : b ≤ l.length) (hV : ∀ x ∈ l, V x) : srt c (insS c a b l) a b ∧ Mov l (insS c a b l) a b := by
  unfold insS
  by_cases h : a + 1 ≤ b
  · exact insO_ok hc (b - (a + 1)) (a + 1) l (by omega) (by omega) hb hV (fun p q h1 h2 h3 => by omega)
  · rw [show b - (a + 1) = 0 by omega]
    exact ⟨fun p q h1 h2 h3 => by omega, Mov.refl _ _ _⟩
/-! exchanges of ranges, rotations, shifts: place by place -/
theorem swR_at {x y : Nat} : ∀ (n i : Nat) (l : List Jb), x + i + n ≤ y + i → y + i + n ≤ l.length → ∀ p, jA (swR x y n i l) p = if x + i ≤ p ∧ p < x + i + n then jA l (p + (y - x)) else if y + i ≤ p ∧ p < y + i + n then jA l (p - (y - x)) else jA l p := by
  intro n
  induction n with
  | zero => intro i l h1 h2 p; unfold swR; rw [if_neg (by omega), if_neg (by omega)]
  | succ n ih =>
    intro i l h1 h2 p
    unfold swR
    have hx : x + i < l.length := by omega
    have hy : y + i < l.length := by omega
    rw [ih (i + 1) (sw l (x + i) (y + i)) (by omega) (by rw [sw_len]; omega) p, sw_at hx hy, sw_at hx hy, sw_at hx hy]
    repeat' split
    all_goals first | (exfalso; omega) | rfl | (congr 1; omega)
theorem swR_perm {x y : Nat} : ∀ (n i : Nat) (l : List Jb), x + i + n ≤ y + i → y + i + n ≤ l.length → (swR x y n i l).Perm l := by
  intro n
  induction n with
  | zero => intro i l h1 h2; exact List.Perm.refl _
  | succ n ih =>
    intro i l h1 h2
    unfold swR
    exact (ih (i + 1) _ (by omega) (by rw [sw_len]; omega)).trans (sw_perm (by omega) (by omega))
theorem rotF_at {m : Nat} : ∀ (f i j : Nat) (l : List Jb), i + j ≤ f → 1 ≤ i → 1 ≤ j → i ≤ m → m + j ≤ l.length → ∀ p, jA (rotF m f i j l) p = if m - i ≤ p ∧ p < m - i + j then jA l (p + i) else if m - i + j ≤ p ∧ p < m + j then jA l (p - j) else jA l p := by
  intro f
  induction f with
  | zero => intro i j l h1 h2; omega
  | succ f ih =>
    intro i j l h1 h2 h3 h4 h5 p
    unfold rotF
    split
    · rename_i e
      subst e
      rw [swR_at i 0 l (by omega) (by omega) p]
      repeat' split
      all_goals first | (exfalso; omega) | rfl | (congr 1; omega)
    · split
      · rename_i e1 e2
        have hs := swR_at (x := m - i) (y := m) j 0 l (by omega) (by omega)
        rw [ih (i - j) j (swR (m - i) m j 0 l) (by omega) (by omega) h3 (by omega) (by rw [swR_len]; exact h5) p, hs, hs, hs]
        repeat' split
        all_goals first | (exfalso; omega) | rfl | (congr 1; omega)
      · rename_i e1 e2
        have hs := swR_at (x := m - i) (y := m + j - i) i 0 l (by omega) (by omega)
        rw [ih i (j - i) (swR (m - i) (m + j - i) i 0 l) (by omega) h2 (by omega) h4 (by rw [swR_len]; omega) p, hs, hs, hs]
        repeat' split
        all_goals first | (exfalso; omega) | rfl | (congr 1; omega)
theorem rotF_perm {m : Nat} : ∀ (f i j : Nat) (l : List Jb), i + j ≤ f → 1 ≤ i → 1 ≤ j → i ≤ m → m + j ≤ l.length → (rotF m f i j l).Perm l := by
  intro f
  induction f with
  | zero => intro i j l h1 h2; omega
  | succ f ih =>
    intro i j l h1 h2 h3 h4 h5
    unfold rotF
    split
    · exact swR_perm _ _ _ (by omega) (by omega)
    · split
      · exact (ih (i - j) j _ (by omega) (by omega) h3 (by omega) (by rw [swR_len]; exact h5)).trans (swR_perm _ _ _ (by omega) (by omega))
      · exact (ih i (j - i) _ (by omega) h2 (by omega) h4 (by rw [swR_len]; omega)).trans (swR_perm _ _ _ (by omega) (by omega))
theorem shU_at : ∀ (n k : Nat) (l : List Jb), k + n < l.length → ∀ p, jA (shU n k l) p = if k ≤ p ∧ p < k + n then jA l (p + 1) else if p = k + n then jA l k else jA l p := by
  intro n
  induction n with
  | zero =>
    intro k l h p
    unfold shU
    rw [if_neg (by omega)]
    split
    · rename_i e; rw [e, Nat.add_zero]
    · rfl
  | succ n ih =>
    intro k l h p
    unfold shU
    have h1 : k < l.length := by omega
    have h2 : k + 1 < l.length := by omega
    rw [ih (k + 1) _ (by rw [sw_len]; omega) p, sw_at h1 h2, sw_at h1 h2, sw_at h1 h2]
    repeat' split
    all_goals first | (exfalso; omega) | rfl | (congr 1; omega)
theorem shU_perm : ∀ (n k : Nat) (l : List Jb), k + n < l.length → (shU n k l).Perm l := by
  intro n
  induction n with
  | zero => intro k l h; exact List.Perm.refl _
  | succ n ih =>
    intro k l h
    unfold shU
    exact (ih (k + 1) _ (by rw [sw_len]; omega)).trans (sw_perm (by omega) (by omega))
theorem shD_at {i : Nat} : ∀ (k : Nat) (l : List Jb), i ≤ k → k < l.length → ∀ p, jA (shD i k l) p = if p = i then jA l k else if i < p ∧ p ≤ k then jA l (p - 1) else jA l p := by
  intro k
  induction k with
  | zero =>
    intro l h h2 p
    unfold shD
    split
    · rename_i e; rw [show p = 0 by omega]
    · rw [if_neg (by omega)]
  | succ k ih =>
    intro l h h2 p
    unfold shD
    split
    · have h3 : k < l.length := by omega
      rw [ih _ (by omega) (by rw [sw_len]; omega) p, sw_at h2 h3, sw_at h2 h3, sw_at h2 h3]
      repeat' split
      all_goals first | (exfalso; omega) | rfl | (congr 1; omega)
    · split
      · rename_i e; rw [show p = k + 1 by omega]
      · rw [if_neg (by omega)]
theorem shD_perm {i : Nat} : ∀ (k : Nat) (l : List Jb), k < l.length → (shD i k l).Perm l := by
  intro k
  induction k with
  | zero => intro l h; exact List.Perm.refl _
  | succ k ih =>
    intro l h
    unfold shD
    split
    · exact (ih _ (by rw [sw_len]; omega)).trans (sw_perm (by omega) (by omega))
    · exact List.Perm.refl _
/-- Where a search by halves ends. -/
theorem bsF_ok (P : Nat → Bool) {i0 j0 : Nat} : ∀ (f i j : Nat), i ≤ j → j - i ≤ f → (i = i0 ∨ P (i - 1) = true) → (j = j0 ∨ P j = false) → (bsF P f i j = i0 ∨ P (bsF P f i j - 1) = true) ∧ (bsF P f i j = j0 ∨ P (bsF P f i j) = false) := by
  intro f
  induction f with
  | zero => intro i j h1 h2 h3 h4; obtain rfl : i = j := by omega
            exact ⟨h3, h4⟩
  | succ f ih =>
    intro i j h1 h2 h3 h4
    unfold bsF
    split
    · split
      · rename_i e1 e2
        exact ih _ _ (by omega) (by omega) (Or.inr (by rw [Nat.add_sub_cancel]; exact e2)) h4
      · rename_i e1 e2
        exact ih _ _ (by omega) (by omega) h3 (Or.inr (by simpa using e2))
    · obtain rfl : i = j := by omega
      exact ⟨h3, h4⟩
theorem le_of {l : List Jb} {a b p q : Nat} (hc : COrd c V) (hV : ∀ x ∈ l, V x) (hb : b ≤ l.length) (h : srt c l a b) (h1 : a ≤ p) (h2 : p ≤ q) (h3 : q < b) : ¬ c (jA l q) (jA l p) < 0 := by
  by_cases e : p = q
  · subst e
    intro h4
    exact hc.ss _ _ (hV _ (jA_mem (by omega))) (hV _ (jA_mem (by omega))) h4 h4
  · exact h p q h1 (by omega) h3
set_option maxHeartbeats 3200000 in
theorem sym_ok (hc : COrd c V) : ∀ (f a m b : Nat) (l : List Jb), a < m → m < b → b ≤ l.length → b - a ≤ f → (∀ x ∈ l, V x) → srt c l a m → srt c l m b → srt c (symF c f a m b l) a b ∧ Mov l (symF c f a m b l) a b := by
  intro f
  induction f with
  | zero => intro a m b l h1 h2 h3 h4; omega
  | succ f ih =>
    intro a m b l h1 h2 h3 h4 hV hs1 hs2
    have V9 : ∀ p, p < l.length → V (jA l p) := fun p hp => hV _ (jA_mem hp)
    by_cases k1 : m - a = 1
    · rw [symF, if_pos k1]
      obtain rfl : m = a + 1 := by omega
      obtain ⟨K, hK⟩ : ∃ K, K = bsF (fun h => decide (c (jA l h) (jA l a) < 0)) b (a + 1) b := ⟨_, rfl⟩
      obtain ⟨b1, b2⟩ := bsF_bnd (fun h => decide (c (jA l h) (jA l a) < 0)) b (a + 1) b (by omega)
      obtain ⟨o1, o2⟩ := bsF_ok (fun h => decide (c (jA l h) (jA l a) < 0)) b (a + 1) b (i0 := a + 1) (j0 := b) (by omega) (by omega) (Or.inl rfl) (Or.inl rfl)
      rw [← hK] at b1 b2 o1 o2 ⊢
      have hat := shU_at (K - 1 - a) a l (by omega)
      refine ⟨fun p q h5 h6 h7 => ?_, shU_perm _ _ _ (by omega), fun p hp => ?_, fun p h5 h6 => ?_⟩
      · -- what is ahead of K is below l[a], what is from K on is not
        have lo1 : ∀ x, a + 1 ≤ x → x < K → ¬ c (jA l a) (jA l x) < 0 := fun x h8 h9 => by
          rcases o1 with e | e
          · omega
          · have e2 := of_decide_eq_true e
            have e3 := hc.ss _ _ (V9 _ (by omega)) (V9 _ (by omega)) e2
            exact hc.tr _ _ _ (V9 _ (by omega)) (V9 _ (by omega)) (V9 _ (by omega)) (le_of hc hV h3 hs2 h8 (by omega) (by omega)) e3
        have hi1 : ∀ x, K ≤ x → x < b → ¬ c (jA l x) (jA l a) < 0 := fun x h8 h9 => by
          rcases o2 with e | e
          · omega
          · have e2 := of_decide_eq_false e
            exact hc.tr _ _ _ (V9 _ (by omega)) (V9 _ (by omega)) (V9 _ (by omega)) e2 (le_of hc hV h3 hs2 (by omega) h8 h9)
        rw [hat q, hat p]
        rcases (by omega : q < K - 1 ∨ q = K - 1 ∨ K ≤ q) with e | e | e
        · rw [if_pos (by omega), if_pos (by omega)]
          exact le_of hc hV h3 hs2 (by omega) (by omega) (by omega)
        · rw [if_neg (by omega), if_pos (by omega), if_pos (by omega)]
          exact lo1 _ (by omega) (by omega)
        · rw [if_neg (by omega), if_neg (by omega)]
          rcases (by omega : p < K - 1 ∨ p = K - 1 ∨ K ≤ p) with e4 | e4 | e4
          · rw [if_pos (by omega)]
            exact le_of hc hV h3 hs2 (by omega) (by omega) (by omega)
          · rw [if_neg (by omega), if_pos (by omega)]
            exact hi1 _ e h7
          · rw [if_neg (by omega), if_neg (by omega)]
            exact le_of hc hV h3 hs2 (by omega) (by omega) (by omega)
      · rw [hat p, if_neg (by omega), if_neg (by omega)]
      · rw [hat p]
        split
        · exact ⟨p + 1, by omega, by omega, rfl⟩
        · split
          · exact ⟨a, by omega, by omega, rfl⟩
          · exact ⟨p, h5, h6, rfl⟩
    by_cases k2 : b - m = 1
    · rw [symF, if_neg k1, if_pos k2]
      obtain rfl : b = m + 1 := by omega
      obtain ⟨K, hK⟩ : ∃ K, K = bsF (psB c l m) (m + 1) a m := ⟨_, rfl⟩
      obtain ⟨b1, b2⟩ := bsF_bnd (psB c l m) (m + 1) a m (by omega)
      obtain ⟨o1, o2⟩ := bsF_ok (psB c l m) (m + 1) a m (i0 := a) (j0 := m) (by omega) (by omega) (Or.inl rfl) (Or.inl rfl)
      rw [← hK] at b1 b2 o1 o2 ⊢
      have hat := shD_at (i := K) m l (by omega) (by omega)
      refine ⟨fun p q h5 h6 h7 => ?_, shD_perm _ _ (by omega), fun p hp => ?_, fun p h5 h6 => ?_⟩
      · have lo1 : ∀ x, a ≤ x → x < K → ¬ c (jA l m) (jA l x) < 0 := fun x h8 h9 => by
          rcases o1 with e | e
          · omega
          · have e2 := of_decide_eq_true e
            exact hc.tr _ _ _ (V9 _ (by omega)) (V9 _ (by omega)) (V9 _ (by omega)) (le_of hc hV (by omega) hs1 h8 (by omega) (by omega)) e2
        have hi1 : ∀ x, K ≤ x → x < m → ¬ c (jA l x) (jA l m) < 0 := fun x h8 h9 => by
          rcases o2 with e | e
          · omega
          · have e2 : c (jA l m) (jA l K) < 0 := Decidable.byContradiction fun e3 => (of_decide_eq_false e) e3
            have e3 := hc.ss _ _ (V9 _ (by omega)) (V9 _ (by omega)) e2
            exact hc.tr _ _ _ (V9 _ (by omega)) (V9 _ (by omega)) (V9 _ (by omega)) e3 (le_of hc hV (by omega) hs1 (by omega) h8 h9)
        rw [hat q, hat p]
        rcases (by omega : q < K ∨ q = K ∨ K < q) with e | e | e
        · rw [if_neg (by omega), if_neg (by omega), if_neg (by omega), if_neg (by omega)]
          exact le_of hc hV (by omega) hs1 (by omega) (by omega) (by omega)
        · rw [if_pos e, if_neg (by omega), if_neg (by omega)]
          exact lo1 _ (by omega) (by omega)
        · rw [if_neg (by omega), if_pos (by omega)]
          rcases (by omega : p < K ∨ p = K ∨ K < p) with e4 | e4 | e4
          · rw [if_neg (by omega), if_neg (by omega)]
            exact le_of hc hV (by omega) hs1 (by omega) (by omega) (by omega)
          · rw [if_pos e4]
            exact hi1 _ (by omega) (by omega)
          · rw [if_neg (by omega), if_pos (by omega)]
            exact le_of hc hV (by omega) hs1 (by omega) (by omega) (by omega)
      · rw [hat p, if_neg (by omega), if_neg (by omega)]
      · rw [hat p]
        split
        · exact ⟨m, by omega, by omega, rfl⟩
        · split
          · exact ⟨p - 1, by omega, by omega, rfl⟩
          · exact ⟨p, h5, h6, rfl⟩
    rw [symF, if_neg k1, if_neg k2]
    obtain ⟨M, hM⟩ : ∃ x, x = midF a b := ⟨_, rfl⟩
    have hMv : M = (a + b) / 2 := hM
    obtain ⟨st, hst⟩ : ∃ x, x = stF c a m b l := ⟨_, rfl⟩
    obtain ⟨en, hen⟩ : ∃ x, x = M + m - st := ⟨_, rfl⟩
    obtain ⟨l1, hl1⟩ : ∃ x, x = roF c a m b l := ⟨_, rfl⟩
    show srt c (if midF a b < midF a b + m - stF c a m b l ∧ midF a b + m - stF c a m b l < b then symF c f (midF a b) (midF a b + m - stF c a m b l) b (if a < stF c a m b l ∧ stF c a m b l < midF a b then symF c f a (stF c a m b l) (midF a b) (roF c a m b l) else roF c a m b l) else (if a < stF c a m b l ∧ stF c a m b l < midF a b then symF c f a (stF c a m b l) (midF a b) (roF c a m b l) else roF c a m b l)) a b ∧ Mov l (if midF a b < midF a b + m - stF c a m b l ∧ midF a b + m - stF c a m b l < b then symF c f (midF a b) (midF a b + m - stF c a m b l) b (if a < stF c a m b l ∧ stF c a m b l < midF a b then symF c f a (stF c a m b l) (midF a b) (roF c a m b l) else roF c a m b l) else (if a < stF c a m b l ∧ stF c a m b l < midF a b then symF c f a (stF c a m b l) (midF a b) (roF c a m b l) else roF c a m b l)) a b
    rw [← hM, ← hst, ← hen, ← hl1]
    have hse := stF_eq c a m b l
    rw [← hM, ← hst] at hse
    -- where the search ended
    have hb0 : (if M < m then M + m - b else a) ≤ (if M < m then M else m) := by split <;> omega
    have hbd := bsF_bnd (psC c l (M + m - 1)) b _ _ hb0
    have hok := bsF_ok (psC c l (M + m - 1)) b (if M < m then M + m - b else a) (if M < m then M else m) hb0 (by split <;> omega) (Or.inl rfl) (Or.inl rfl)
    rw [← hse] at hbd hok
    have hbn : en ≤ b ∧ st ≤ M + m ∧ a ≤ st ∧ st ≤ m ∧ m ≤ en ∧ st ≤ M ∧ M ≤ en := by
      split at hbd
      · omega
      · omega
    -- l[st - 1] is not above l[en]; l[en - 1] is below l[st]
    have c1 : a < st → en < b → ¬ c (jA l en) (jA l (st - 1)) < 0 := fun g1 g2 => by
      rcases hok.1 with e | e
      · split at e <;> omega
      · have e2 := of_decide_eq_true e
        rw [show M + m - 1 - (st - 1) = en by omega] at e2
        exact e2
    have c2 : st < m → m < en → ¬ c (jA l st) (jA l (en - 1)) < 0 := fun g1 g2 => by
      rcases hok.2 with e | e
      · split at e <;> omega
      · have e2 : c (jA l (M + m - 1 - st)) (jA l st) < 0 := Decidable.byContradiction fun e3 => (of_decide_eq_false e) e3
        rw [show M + m - 1 - st = en - 1 by omega] at e2
        exact hc.ss _ _ (V9 _ (by omega)) (V9 _ (by omega)) e2
    -- the rotation, place by place
    have hat : ∀ p, jA l1 p = if st ≤ p ∧ p < M then jA l (p + (m - st)) else if M ≤ p ∧ p < en then jA l (p - (en - m)) else jA l p := fun p => by
      rw [hl1, roF, ← hM, ← hst, ← hen]
      by_cases g : st < m ∧ m < en
      · rw [if_pos g, rotF_at b (m - st) (en - m) l (by omega) (by omega) (by omega) (by omega) (by omega) p]
        repeat' split
        all_goals first | (exfalso; omega) | rfl | (congr 1; omega)
      · rw [if_neg g]
        repeat' split
        all_goals first | (exfalso; omega) | rfl | (congr 1; omega)
    have hmv : Mov l l1 a b := by
      refine ⟨?_, fun p hp => ?_, fun p h5 h6 => ?_⟩
      · rw [hl1, roF, ← hM, ← hst, ← hen]
        split
        · exact rotF_perm b (m - st) (en - m) l (by omega) (by omega) (by omega) (by omega) (by omega)
        · exact List.Perm.refl _
      · rw [hat p, if_neg (by omega), if_neg (by omega)]
      · rw [hat p]
        split
        · exact ⟨p + (m - st), by omega, by omega, rfl⟩
        · split
          · exact ⟨p - (en - m), by omega, by omega, rfl⟩
          · exact ⟨p, h5, h6, rfl⟩
    have hl1n : l1.length = l.length := hmv.len
    -- its four parts
    have s1 : srt c l1 a st := fun p q g1 g2 g3 => by
      rw [hat q, hat p, if_neg (by omega), if_neg (by omega), if_neg (by omega), if_neg (by omega)]
      exact hs1 p q g1 g2 (by omega)
    have s2 : srt c l1 st M := fun p q g1 g2 g3 => by
      rw [hat q, hat p, if_pos (by omega), if_pos (by omega)]
      exact hs2 _ _ (by omega) (by omega) (by omega)
    have s3 : srt c l1 M en := fun p q g1 g2 g3 => by
      rw [hat q, hat p, if_neg (by omega), if_pos (by omega), if_neg (by omega), if_pos (by omega)]
      exact hs1 _ _ (by omega) (by omega) (by omega)
    have s4 : srt c l1 en b := fun p q g1 g2 g3 => by
      rw [hat q, hat p, if_neg (by omega), if_neg (by omega), if_neg (by omega), if_neg (by omega)]
      exact hs2 p q (by omega) g2 g3
    -- the first half is not above the second
    have cr : ∀ p q, a ≤ p → p < M → M ≤ q → q < b → ¬ c (jA l1 q) (jA l1 p) < 0 := fun p q g1 g2 g3 g4 => by
      have hq : jA l1 q = if q < en then jA l (q - (en - m)) else jA l q := by
        rw [hat q, if_neg (by omega)]
        by_cases e2 : q < en
        · rw [if_pos ⟨g3, e2⟩, if_pos e2]
        · rw [if_neg (by omega), if_neg e2]
      have hp : jA l1 p = if st ≤ p then jA l (p + (m - st)) else jA l p := by
        rw [hat p]
        by_cases e1 : st ≤ p
        · rw [if_pos ⟨e1, g2⟩, if_pos e1]
        · rw [if_neg (by omega), if_neg (by omega), if_neg e1]
      rw [hq, hp]
      by_cases e1 : st ≤ p
      · rw [if_pos e1]
        by_cases e2 : q < en
        · rw [if_pos e2]
          have g9 : st < m ∧ m < en := by omega
          exact hc.tr _ _ _ (V9 _ (by omega)) (V9 _ (by omega)) (V9 _ (by omega)) (hc.tr _ _ _ (V9 _ (by omega)) (V9 _ (by omega)) (V9 _ (by omega)) (le_of hc hV h3 hs2 (by omega) (by omega) (by omega)) (c2 g9.1 g9.2)) (le_of hc hV (by omega) hs1 (by omega) (by omega) (by omega))
        · rw [if_neg e2]
          exact le_of hc hV h3 hs2 (by omega) (by omega) g4
      · rw [if_neg e1]
        by_cases e2 : q < en
        · rw [if_pos e2]
          exact le_of hc hV (by omega) hs1 g1 (by omega) (by omega)
        · rw [if_neg e2]
          exact hc.tr _ _ _ (V9 _ (by omega)) (V9 _ (by omega)) (V9 _ (by omega)) (hc.tr _ _ _ (V9 _ (by omega)) (V9 _ (by omega)) (V9 _ (by omega)) (le_of hc hV (by omega) hs1 g1 (by omega : p ≤ st - 1) (by omega)) (c1 (by omega) (by omega))) (le_of hc hV h3 hs2 (by omega) (by omega) g4)
    -- the two halves, by themselves
    obtain ⟨l2, hl2⟩ : ∃ x, x = (if a < st ∧ st < M then symF c f a st M l1 else l1) := ⟨_, rfl⟩
    rw [← hl2]
    have r1 : srt c l2 a M ∧ Mov l1 l2 a M := by
      rw [hl2]
      by_cases g : a < st ∧ st < M
      · rw [if_pos g]
        exact ih a st M l1 g.1 g.2 (by omega) (by omega) (hmv.all hV) s1 s2
      · rw [if_neg g]
        refine ⟨?_, Mov.refl _ _ _⟩
        rcases (by omega : st = a ∨ st = M) with e | e
        · rw [← e]; exact s2
        · rw [← e]; exact s1
    have hV2 : ∀ x ∈ l2, V x := r1.2.all (hmv.all hV)
    have hl2n : l2.length = l.length := r1.2.len.trans hl1n
    have o2 : ∀ p, M ≤ p → jA l2 p = jA l1 p := fun p hp => r1.2.out p (Or.inr hp)
    obtain ⟨R, hR⟩ : ∃ x, x = (if M < en ∧ en < b then symF c f M en b l2 else l2) := ⟨_, rfl⟩
    rw [← hR]
    have r2 : srt c R M b ∧ Mov l2 R M b := by
      rw [hR]
      have t1 : srt c l2 M en := fun p q g1 g2 g3 => by rw [o2 q (by omega), o2 p g1]; exact s3 p q g1 g2 g3
      have t2 : srt c l2 en b := fun p q g1 g2 g3 => by rw [o2 q (by omega), o2 p (by omega)]; exact s4 p q g1 g2 g3
      by_cases g : M < en ∧ en < b
      · rw [if_pos g]
        exact ih M en b l2 g.1 g.2 (by omega) (by omega) hV2 t1 t2
      · rw [if_neg g]
        refine ⟨?_, Mov.refl _ _ _⟩
        rcases (by omega : en = M ∨ en = b) with e | e
        · rw [← e]; exact t2
        · rw [← e]; exact t1
    refine ⟨fun p q g1 g2 g3 => ?_, hmv.trans ((r1.2.wide (Nat.le_refl _) (by omega)).trans (r2.2.wide (by omega) (Nat.le_refl _)))⟩
    rcases (by omega : q < M ∨ M ≤ p ∨ (p < M ∧ M ≤ q)) with e | e | e
    · rw [r2.2.out q (Or.inl e), r2.2.out p (Or.inl (by omega))]
      exact r1.1 p q g1 g2 e
    · exact r2.1 p q e g2 g3
    · rw [r2.2.out p (Or.inl e.1)]
      obtain ⟨q', j1, j2, j3⟩ := r2.2.inn q e.2 g3
      obtain ⟨p', j4, j5, j6⟩ := r1.2.inn p g1 e.1
      rw [j3, j6, o2 q' j1]
      exact cr p' q' j4 j5 j1 j2
/-- What stableCmpFunc answers at up to 39 jobs: the same jobs, rising. -/
theorem stbF_ok (hc : COrd c V) {l : List Jb} (hV : ∀ x ∈ l, V x) : srt c (stbF c l.length l) 0 l.length ∧ (stbF c l.length l).Perm l := by
  obtain ⟨n, hn⟩ : ∃ n, n = l.length := ⟨_, rfl⟩
  rw [← hn]
  unfold stbF
  by_cases h : n < 20
  · rw [if_pos h]
    obtain ⟨h1, h2⟩ := insS_ok hc (a := 0) (b := n) (l := l) (by omega) (by omega) hV
    exact ⟨h1, h2.perm⟩
  · rw [if_neg h]
    obtain ⟨h1, h2⟩ := insS_ok hc (a := 0) (b := 20) (l := l) (by omega) (by omega) hV
    obtain ⟨h3, h4⟩ := insS_ok hc (a := 20) (b := n) (l := insS c 0 20 l) (by omega) (by rw [insS_len]; omega) (h2.all hV)
    by_cases h5 : n = 20
    · rw [if_pos h5]
      subst h5
      refine ⟨fun p q g1 g2 g3 => ?_, h4.perm.trans h2.perm⟩
      rw [h4.out q (Or.inl g3), h4.out p (Or.inl (by omega))]
      exact h1 p q g1 g2 g3
    · rw [if_neg h5]
      obtain ⟨h6, h7⟩ := sym_ok hc n 0 20 n (insS c 20 n (insS c 0 20 l)) (by omega) (by omega) (by rw [insS_len, insS_len]; omega) (by omega) (h4.all (h2.all hV)) (fun p q g1 g2 g3 => by
        rw [h4.out q (Or.inl g3), h4.out p (Or.inl (by omega))]
        exact h1 p q g1 g2 g3) h3
      exact ⟨h6, h7.perm.trans (h4.perm.trans h2.perm)⟩

end Go.Proofs.Ytjbghflphngnkaa
