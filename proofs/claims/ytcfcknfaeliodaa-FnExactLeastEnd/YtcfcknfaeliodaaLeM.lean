/- Proved here: the least end of a schedule as a number: of the program (by chambers) and of the model (by places of the route) it is the same. -/
import Derived.Test.YtcfcknfaeliodaaCzM
namespace Go.Proofs.Ytcfcknfaeliodaa
set_option linter.unusedVariables false
set_option linter.unusedSimpArgs false

theorem mul_bd20 {a b A B : Int} (h1 : 0 ≤ a) (h2 : a ≤ A) (h3 : 0 ≤ b) (h4 : b ≤ B) : 0 ≤ a * b ∧ a * b ≤ A * B :=
  ⟨Int.mul_nonneg h1 h3, Int.mul_le_mul h2 h4 h3 (by omega)⟩
/-- How often a chamber stands among the first k places; how long it is busy by then. -/
def ofK (r : List Int) (v : Int) : Nat → Int
  | 0 => 0
  | k + 1 => ofK r v k + (if r.getD k 0 = v then 1 else 0)
def bsK (s r : List Int) (i : Nat) : Nat → Int
  | 0 => 0
  | k + 1 => bsK s r i k + (if r.getD k 0 = (i : Int) + 1 then s.getD i 0 else 0)
def tmK (s r : List Int) (k : Nat) : Int := s.getD (r.getD k 0 - 1).toNat 0
def alK (s r : List Int) (M : Int) : Nat → Int
  | 0 => ((r.length : Int) + 1) * M
  | k + 1 => alK s r M k + tmK s r k
def moK (s r : List Int) (M W : Int) : Nat → Int
  | 0 => W * ((r.length : Int) + 1) * M
  | k + 1 => max (moK s r M W k) (W * ofK r (r.getD k 0) r.length * tmK s r k + 2 * M)
def gt2 (s : List Int) : Nat → Int
  | 0 => s.getD 0 0
  | k + 1 => if gt2 s k < s.getD (k + 1) 0 then s.getD (k + 1) 0 else gt2 s k
theorem ofK_bd (r : List Int) (v : Int) : ∀ k, 0 ≤ ofK r v k ∧ ofK r v k ≤ (k : Int)
  | 0 => by simp [ofK]
  | k + 1 => by have := ofK_bd r v k; rw [ofK]; split <;> omega
theorem bs_of (s r : List Int) (i : Nat) : ∀ k, bsK s r i k = ofK r ((i : Int) + 1) k * s.getD i 0
  | 0 => by simp [bsK, ofK]
  | k + 1 => by
    rw [bsK, ofK, bs_of s r i k, Int.add_mul]
    split
    · rw [Int.one_mul]
    · rw [Int.zero_mul]
theorem of_pos {r : List Int} {v : Int} : ∀ {k j : Nat}, j < k → r.getD j 0 = v → 1 ≤ ofK r v k
  | 0, j, h, _ => by omega
  | k + 1, j, h, e => by
    rw [ofK]
    rcases (by omega : j < k ∨ j = k) with h1 | rfl
    · have := of_pos h1 e; split <;> omega
    · rw [if_pos e]; have := ofK_bd r v j; omega
theorem of_none {r : List Int} {v : Int} : ∀ {k : Nat}, (∀ j, j < k → r.getD j 0 ≠ v) → ofK r v k = 0
  | 0, _ => rfl
  | k + 1, h => by rw [ofK, of_none fun j hj => h j (by omega), if_neg (h k (by omega))]; rfl
theorem gt2_ge (s : List Int) : ∀ k i, i ≤ k → s.getD i 0 ≤ gt2 s k
  | 0, i, h => by obtain rfl : i = 0 := by omega
                  exact Int.le_refl _
  | k + 1, i, h => by
    rw [gt2]
    rcases (by omega : i ≤ k ∨ i = k + 1) with h1 | rfl
    · have := gt2_ge s k i h1; split <;> omega
    · split <;> omega
theorem gt2_at (s : List Int) : ∀ k, ∃ i, i ≤ k ∧ gt2 s k = s.getD i 0
  | 0 => ⟨0, Nat.le_refl _, rfl⟩
  | k + 1 => by
    rw [gt2]
    split
    · exact ⟨k + 1, Nat.le_refl _, rfl⟩
    · obtain ⟨i, h1, h2⟩ := gt2_at s k
      exact ⟨i, by omega, h2⟩
/-- The busy times of all chambers behind k places. -/
def bsL (s r : List Int) (k : Nat) : List Int := rgL (fun i => bsK s r i k) s.length
theorem bsL_len (s r : List Int) (k : Nat) : (bsL s r k).length = s.length := rgL_len _ _
theorem bsL_at {s r : List Int} {k i : Nat} (h : i < s.length) : (bsL s r k).getD i 0 = bsK s r i k := rgL_at _ h
theorem rt_nat {n : Int} {r : List Int} {k : Nat} (h : rtK n r k) : ∃ p : Nat, r.getD k 0 = (p : Int) + 1 ∧ (p : Int) < n := ⟨(r.getD k 0 - 1).toNat, by have := h.1; omega, by have := h.1; omega⟩
theorem tm_at {s r : List Int} {k p : Nat} (h : r.getD k 0 = (p : Int) + 1) : tmK s r k = s.getD p 0 := by
  unfold tmK; rw [h]; congr 1; omega
theorem bsL_step {s r : List Int} {k p : Nat} (hp : p < s.length) (h : r.getD k 0 = (p : Int) + 1) : bsL s r (k + 1) = (bsL s r k).set p (bsK s r p k + s.getD p 0) := by
  apply List.ext_getElem (by rw [List.length_set, bsL_len, bsL_len])
  intro i h1 h2
  rw [bsL_len] at h1
  rw [← gdI (by rw [bsL_len]; exact h1), ← gdI (by rw [List.length_set, bsL_len]; exact h1), bsL_at h1, bsK]
  by_cases e : i = p
  · subst e
    rw [if_pos h]
    simp [List.getD_eq_getElem?_getD, List.getElem?_set, bsL_len, h1]
  · rw [if_neg (by rw [h]; omega), Int.add_zero]
    have : ((bsL s r k).set p (bsK s r p k + s.getD p 0)).getD i 0 = (bsL s r k).getD i 0 := by
      simp [List.getD_eq_getElem?_getD, List.getElem?_set, show p ≠ i by omega]
    rw [this, bsL_at h1]
theorem bsL_zero (s r : List Int) : bsL s r 0 = List.replicate s.length 0 := by
  apply List.ext_getElem (by rw [bsL_len, List.length_replicate])
  intro i h1 h2
  rw [← gdI h1, bsL_at (by rw [bsL_len] at h1; exact h1), List.getElem_replicate]
  rfl
theorem tm_bd20 {M : Int} {s r : List Int} (h : ClOk M s r) {k : Nat} (hk : k < r.length) : 1 ≤ tmK s r k ∧ tmK s r k ≤ 1000 := by
  obtain ⟨p, h1, h2⟩ := rt_nat (h.rs k hk)
  rw [tm_at h1]
  exact h.ts p (by omega)
theorem bs_bd {M : Int} {s r : List Int} (h : ClOk M s r) {i k : Nat} (hi : i < s.length) (hk : k ≤ r.length) : 0 ≤ bsK s r i k ∧ bsK s r i k ≤ 8000 := by
  rw [bs_of]
  have h1 := ofK_bd r ((i : Int) + 1) k
  have h2 := h.ts i hi
  have h3 := h.lr
  have := mul_bd20 h1.1 (show ofK r ((i : Int) + 1) k ≤ 8 by omega) (show 0 ≤ s.getD i 0 by omega) h2.2
  omega
theorem al_bd {M : Int} {s r : List Int} (h : ClOk M s r) : ∀ k, k ≤ r.length → 0 ≤ alK s r M k ∧ alK s r M k ≤ 900 + 1000 * (k : Int)
  | 0, _ => by
    rw [alK]
    have h1 := h.lr; have h2 := h.mv
    have := mul_bd20 (show (0 : Int) ≤ (r.length : Int) + 1 by omega) (show (r.length : Int) + 1 ≤ 9 by omega) (show 0 ≤ M by omega) h2.2
    omega
  | k + 1, hk => by
    rw [alK]
    have h1 := al_bd h k (by omega)
    have h2 := tm_bd20 h (show k < r.length by omega)
    omega
theorem gt_bd {M : Int} {s r : List Int} (h : ClOk M s r) : 0 ≤ gt2 (bsL s r r.length) (s.length - 1) ∧ gt2 (bsL s r r.length) (s.length - 1) ≤ 8000 := by
  obtain ⟨i, h1, h2⟩ := gt2_at (bsL s r r.length) (s.length - 1)
  have h3 := h.ls
  rw [h2, bsL_at (by omega)]
  exact bs_bd h (by omega) (Nat.le_refl _)
theorem mo_all {M W : Int} {s r : List Int} (h : ClOk M s r) (hW : 1 ≤ W) : moK s r M W r.length = max (W * ((r.length : Int) + 1) * M) (W * gt2 (bsL s r r.length) (s.length - 1) + 2 * M) := by
  have hls := h.ls
  have hterm : ∀ k p : Nat, k < r.length → r.getD k 0 = (p : Int) + 1 → W * ofK r (r.getD k 0) r.length * tmK s r k + 2 * M = W * bsK s r p r.length + 2 * M := by
    intro k p hk hp
    rw [tm_at hp, hp, bs_of, Int.mul_assoc]
  have hup : ∀ k, k ≤ r.length → W * ((r.length : Int) + 1) * M ≤ moK s r M W k ∧ moK s r M W k ≤ max (W * ((r.length : Int) + 1) * M) (W * gt2 (bsL s r r.length) (s.length - 1) + 2 * M) := by
    intro k
    induction k with
    | zero => intro _; rw [moK]; omega
    | succ k ih =>
      intro hk
      have h1 := ih (by omega)
      obtain ⟨p, hp1, hp2⟩ := rt_nat (h.rs k (by omega))
      have h2 := gt2_ge (bsL s r r.length) (s.length - 1) p (by omega)
      rw [bsL_at (by omega)] at h2
      have h3 := Int.mul_le_mul_of_nonneg_left h2 (show 0 ≤ W by omega)
      rw [moK, hterm k p (by omega) hp1]
      omega
  have hlow : ∀ k j, j < k → k ≤ r.length → W * ofK r (r.getD j 0) r.length * tmK s r j + 2 * M ≤ moK s r M W k := by
    intro k
    induction k with
    | zero => intro j hj; omega
    | succ k ih =>
      intro j hj hk
      rw [moK]
      rcases (by omega : j < k ∨ j = k) with h1 | rfl
      · have := ih j h1 (by omega); omega
      · omega
  have hr := h.lr
  -- the greatest is that of a chamber of the route
  obtain ⟨i, hi1, hi2⟩ := gt2_at (bsL s r r.length) (s.length - 1)
  have hil : i < s.length := by omega
  rw [bsL_at hil] at hi2
  obtain ⟨p, hp1, hp2⟩ := rt_nat (h.rs 0 (by omega))
  have hg1 : 1 ≤ gt2 (bsL s r r.length) (s.length - 1) := by
    have h2 := gt2_ge (bsL s r r.length) (s.length - 1) p (by omega)
    rw [bsL_at (by omega), bs_of] at h2
    have h3 := of_pos (k := r.length) (show 0 < r.length by omega) hp1
    have h4 := h.ts p (by omega)
    have h5 := Int.mul_le_mul h3 h4.1 (by omega) (by omega)
    omega
  have hex : ∃ j, j < r.length ∧ r.getD j 0 = (i : Int) + 1 := by
    apply Classical.byContradiction
    intro hn
    have : ofK r ((i : Int) + 1) r.length = 0 := of_none fun j hj e => hn ⟨j, hj, e⟩
    rw [hi2, bs_of, this, Int.zero_mul] at hg1
    omega
  obtain ⟨j, hj1, hj2⟩ := hex
  have h6 := hlow r.length j hj1 (Nat.le_refl _)
  rw [hterm j i hj1 hj2, ← hi2] at h6
  have h7 := hup r.length (Nat.le_refl _)
  omega
theorem mo_bd {M W : Int} {s r : List Int} (h : ClOk M s r) (hW : 0 ≤ W ∧ W ≤ 12) : ∀ k, k ≤ r.length → 0 ≤ moK s r M W k ∧ moK s r M W k ≤ 1000000
  | 0, _ => by
    rw [moK]
    have h1 := h.lr; have h2 := h.mv
    have h3 := mul_bd20 hW.1 hW.2 (show (0 : Int) ≤ (r.length : Int) + 1 by omega) (show (r.length : Int) + 1 ≤ 9 by omega)
    have := mul_bd20 h3.1 h3.2 (show 0 ≤ M by omega) h2.2
    omega
  | k + 1, hk => by
    have h1 := mo_bd h hW k (by omega)
    have h2 := tm_bd20 h (show k < r.length by omega)
    have h3 := ofK_bd r (r.getD k 0) r.length
    have h4 := h.lr; have h5 := h.mv
    have h6 := mul_bd20 hW.1 hW.2 h3.1 (show ofK r (r.getD k 0) r.length ≤ 8 by omega)
    have h7 := mul_bd20 h6.1 h6.2 (show 0 ≤ tmK s r k by omega) h2.2
    rw [moK]
    omega
/-- The code and the least end. -/
def leC (M : Int) (s r : List Int) (W : Int) : Int := if clF M s r ≠ 0 then clF M s r else if 0 ≤ W ∧ W ≤ 12 then 0 else 3
def leV (M : Int) (s r : List Int) (W : Int) : Int := if leC M s r W = 0 ∧ W ≠ 0 then max (moK s r M W r.length) (alK s r M r.length) else 0

end Go.Proofs.Ytcfcknfaeliodaa
