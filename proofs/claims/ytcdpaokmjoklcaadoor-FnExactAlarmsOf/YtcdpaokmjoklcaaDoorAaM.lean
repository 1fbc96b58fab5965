/- Proved here: the arithmetic of run rules: how the program's one rule with borders and the model's six rules tell the same. No condition on the program. -/
import Derived.Test.YtcdpaokmjoklcaaDoorChM
namespace Go.Proofs.YtcdpaokmjoklcaaDoor
set_option linter.unusedVariables false
set_option linter.unusedSimpArgs false

/-- How many of t numbers, from the place lo on, lie above a border. -/
def cu (f : Nat → Int) (b : Int) (lo : Nat) : Nat → Nat
  | 0 => 0
  | t + 1 => cu f b lo t + (if b < f (lo + t) then 1 else 0)
/-- The same, from the place i down. -/
def cd (f : Nat → Int) (b : Int) (i : Nat) : Nat → Nat
  | 0 => 0
  | t + 1 => cd f b i t + (if b < f (i - t) then 1 else 0)
theorem cu_le (f : Nat → Int) (b : Int) (lo t : Nat) : cu f b lo t ≤ t := by
  induction t with
  | zero => exact Nat.le_refl _
  | succ t ih => rw [cu]; split <;> omega
theorem cd_le (f : Nat → Int) (b : Int) (i t : Nat) : cd f b i t ≤ t := by
  induction t with
  | zero => exact Nat.le_refl _
  | succ t ih => rw [cd]; split <;> omega
theorem cu_all {f : Nat → Int} {b : Int} {lo t : Nat} : cu f b lo t = t ↔ ∀ u, u < t → b < f (lo + u) := by
  induction t with
  | zero => exact ⟨fun _ u hu => absurd hu (Nat.not_lt_zero _), fun _ => rfl⟩
  | succ t ih =>
    have h1 := cu_le f b lo t
    rw [cu]
    constructor
    · intro h u hu
      by_cases hb : b < f (lo + t)
      · rw [if_pos hb] at h
        rcases (by omega : u < t ∨ u = t) with h2 | h2
        · exact ih.1 (by omega) u h2
        · rw [h2]; exact hb
      · rw [if_neg hb] at h; omega
    · intro h
      rw [if_pos (h t (by omega)), ih.2 (fun u hu => h u (by omega))]
theorem cu_cons (f : Nat → Int) (b : Int) (lo t : Nat) : cu f b lo (t + 1) = (if b < f lo then 1 else 0) + cu f b (lo + 1) t := by
  induction t with
  | zero => simp [cu]
  | succ t ih =>
    rw [cu, ih, cu]
    rw [show lo + 1 + t = lo + (t + 1) by omega]
    omega
theorem cd_cu (f : Nat → Int) (b : Int) (i : Nat) : ∀ t, t ≤ i + 1 → cd f b i t = cu f b (i + 1 - t) t := by
  intro t
  induction t with
  | zero => intro _; rfl
  | succ t ih =>
    intro ht
    rw [cd, ih (by omega), cu_cons, show i + 1 - (t + 1) = i - t by omega, show i - t + 1 = i + 1 - t by omega]
    omega

/-- A rule: so many of the last places lie beyond a border, on the side on which the last one does. -/
def hoB (f : Nat → Int) (b : Int) (P m i : Nat) : Bool :=
  (decide (b < f i) && decide (m ≤ cu f b (i + 1 - min P (i + 1)) (min P (i + 1)))) || (decide (b < -f i) && decide (m ≤ cu (fun j => -f j) b (i + 1 - min P (i + 1)) (min P (i + 1))))
theorem all_cu {f : Nat → Int} {b : Int} {P i : Nat} : P ≤ cu f b (i + 1 - min P (i + 1)) (min P (i + 1)) ↔ P ≤ i + 1 ∧ ∀ u, u < P → b < f (i + 1 - P + u) := by
  have h1 := cu_le f b (i + 1 - min P (i + 1)) (min P (i + 1))
  constructor
  · intro h
    have hP : P ≤ i + 1 := by omega
    rw [Nat.min_eq_left hP] at h h1
    exact ⟨hP, cu_all.1 (by omega)⟩
  · rintro ⟨hP, h⟩
    rw [Nat.min_eq_left hP]
    exact Nat.le_of_eq (cu_all.2 h).symm
theorem ho_all {f : Nat → Int} {b : Int} {P i : Nat} (hP : 1 ≤ P) : hoB f b P P i = (decide (P ≤ i + 1 ∧ ∀ u, u < P → b < f (i + 1 - P + u)) || decide (P ≤ i + 1 ∧ ∀ u, u < P → b < -f (i + 1 - P + u))) := by
  have key : ∀ g : Nat → Int, (decide (b < g i) && decide (P ≤ cu g b (i + 1 - min P (i + 1)) (min P (i + 1)))) = decide (P ≤ i + 1 ∧ ∀ u, u < P → b < g (i + 1 - P + u)) := by
    intro g
    by_cases h : P ≤ i + 1 ∧ ∀ u, u < P → b < g (i + 1 - P + u)
    · have h2 := h.2 (P - 1) (by omega)
      rw [show i + 1 - P + (P - 1) = i by omega] at h2
      rw [decide_eq_true h, decide_eq_true h2, decide_eq_true (all_cu.2 h)]; rfl
    · rw [decide_eq_false h, decide_eq_false (fun h3 => h (all_cu.1 h3)), Bool.and_false]
  unfold hoB
  rw [key f, key (fun j => -f j)]

/-- The rules: their series, borders, places, and how many at least. -/
def rS : Nat → Nat
  | 4 => 1
  | 5 => 2
  | _ => 0
def rK : Nat → Nat
  | 0 => 3
  | 1 => 2
  | 2 => 1
  | _ => 0
def rP : Nat → Nat
  | 0 => 1
  | 1 => 3
  | 2 => 5
  | 3 => 8
  | 4 => 5
  | _ => 13
def rM : Nat → Nat
  | 0 => 1
  | 1 => 2
  | 2 => 4
  | 3 => 8
  | 4 => 5
  | _ => 13
def se0 (c : Int) (s : List Int) (j : Nat) : Int := s.getD j 0 - c
def se1 (s : List Int) (j : Nat) : Int := s.getD j 0 - s.getD (j - 1) 0
def se2 (s : List Int) (j : Nat) : Int := if j % 2 = 1 then -(se1 s j) else se1 s j
def seF (c : Int) (s : List Int) : Nat → Nat → Int
  | 0 => se0 c s
  | 1 => se1 s
  | _ => se2 s
def alH (c sg : Int) (s : List Int) (i j : Nat) : Bool := hoB (seF c s (rS j)) ((rK j : Int) * sg) (rP j) (rM j) i

/-- The last P steps rise; they go up and down. -/
def RisP (f : Nat → Int) (P i : Nat) : Prop := P ≤ i ∧ ∀ u, u < P → f (i + 1 - P + u - 1) < f (i + 1 - P + u)
def ZigP (f : Nat → Int) (P i : Nat) : Prop := P ≤ i ∧ ∀ u, u < P → ((u % 2 = 0 → f (i + 1 - P + u - 1) < f (i + 1 - P + u)) ∧ (u % 2 ≠ 0 → f (i + 1 - P + u) < f (i + 1 - P + u - 1)))
def ris (f : Nat → Int) (P i : Nat) : Bool := decide (P ≤ i) && cu (fun p => f p - f (p - 1)) 0 (i + 1 - P) P == P
def zig (f : Nat → Int) (P i : Nat) : Bool := decide (P ≤ i) && cu (fun p => if (p + P + i + 1) % 2 = 0 then f p - f (p - 1) else f (p - 1) - f p) 0 (i + 1 - P) P == P
theorem ris_iff {f : Nat → Int} {P i : Nat} : ris f P i = true ↔ RisP f P i := by
  unfold ris RisP
  rw [Bool.and_eq_true, decide_eq_true_eq, beq_iff_eq, cu_all]
  refine and_congr Iff.rfl ⟨fun h u hu => ?_, fun h u hu => ?_⟩
  · have := h u hu; omega
  · have := h u hu; omega
theorem zig_iff {f : Nat → Int} {P i : Nat} : zig f P i = true ↔ ZigP f P i := by
  unfold zig ZigP
  rw [Bool.and_eq_true, decide_eq_true_eq, beq_iff_eq, cu_all]
  refine and_congr_right fun hP => ⟨fun h u hu => ?_, fun h u hu => ?_⟩
  · have h1 := h u hu
    by_cases hu2 : u % 2 = 0
    · rw [if_pos (by omega)] at h1; exact ⟨fun _ => by omega, fun h9 => absurd hu2 h9⟩
    · rw [if_neg (by omega)] at h1; exact ⟨fun h9 => absurd h9 hu2, fun _ => by omega⟩
  · have h1 := h u hu
    by_cases hu2 : u % 2 = 0
    · rw [if_pos (by omega)]; have := h1.1 hu2; omega
    · rw [if_neg (by omega)]; have := h1.2 hu2; omega
/-- The model's rules, upward. -/
def upB (f : Nat → Int) (sg : Int) (i : Nat) : Nat → Bool
  | 0 => decide (3 * sg < f i)
  | 1 => decide (2 * sg < f i) && decide (2 ≤ cd f (2 * sg) i (min 3 (i + 1)))
  | 2 => decide (sg < f i) && decide (4 ≤ cd f sg i (min 5 (i + 1)))
  | 3 => decide (cd f 0 i (min 8 (i + 1)) = 8)
  | 4 => ris f 5 i
  | _ => zig f 13 i

theorem dec_or {p q p' q' : Prop} [Decidable p] [Decidable q] [Decidable p'] [Decidable q'] (h : p ∨ q ↔ p' ∨ q') : (decide p || decide q) = (decide p' || decide q') := by
  by_cases h1 : p ∨ q
  · have h2 := h.1 h1
    have e1 : (decide p || decide q) = true := by simpa using h1
    have e2 : (decide p' || decide q') = true := by simpa using h2
    rw [e1, e2]
  · have h2 : ¬ (p' ∨ q') := fun h3 => h1 (h.2 h3)
    have e1 : (decide p || decide q) = false := by simpa using h1
    have e2 : (decide p' || decide q') = false := by simpa using h2
    rw [e1, e2]
theorem bool_or {a b : Bool} {p q : Prop} [Decidable p] [Decidable q] (h : a = true ∨ b = true ↔ p ∨ q) : (a || b) = (decide p || decide q) := by
  by_cases h1 : p ∨ q
  · have e1 : (a || b) = true := by simpa using h.2 h1
    have e2 : (decide p || decide q) = true := by simpa using h1
    rw [e1, e2]
  · have e1 : (a || b) = false := by
      cases a <;> cases b <;> first | rfl | (exfalso; exact h1 (h.1 (by simp)))
    have e2 : (decide p || decide q) = false := by simpa using h1
    rw [e1, e2]
theorem up_ho (c sg : Int) (s : List Int) (i j : Nat) (hj : j < 6) : (upB (se0 c s) sg i j || upB (fun k => -se0 c s k) sg i j) = alH c sg s i j := by
  unfold alH
  rcases (by omega : j = 0 ∨ j = 1 ∨ j = 2 ∨ j = 3 ∨ j = 4 ∨ j = 5) with rfl | rfl | rfl | rfl | rfl | rfl
  · show (decide (3 * sg < se0 c s i) || decide (3 * sg < -se0 c s i)) = hoB (se0 c s) (((3 : Nat) : Int) * sg) 1 1 i
    rw [ho_all (by omega), show i + 1 - 1 = i by omega]
    refine dec_or ?_
    constructor
    · rintro (h | h)
      · exact Or.inl ⟨by omega, fun u hu => by rw [show i + u = i by omega]; omega⟩
      · exact Or.inr ⟨by omega, fun u hu => by rw [show i + u = i by omega]; omega⟩
    · rintro (⟨_, h⟩ | ⟨_, h⟩)
      · have := h 0 (by omega); rw [Nat.add_zero] at this; exact Or.inl (by omega)
      · have := h 0 (by omega); rw [Nat.add_zero] at this; exact Or.inr (by omega)
  · show ((decide (2 * sg < se0 c s i) && decide (2 ≤ cd (se0 c s) (2 * sg) i (min 3 (i + 1)))) || (decide (2 * sg < -se0 c s i) && decide (2 ≤ cd (fun k => -se0 c s k) (2 * sg) i (min 3 (i + 1))))) = hoB (se0 c s) (((2 : Nat) : Int) * sg) 3 2 i
    rw [cd_cu (se0 c s) _ _ _ (by omega), cd_cu (fun k => -se0 c s k) _ _ _ (by omega)]
    rfl
  · show ((decide (sg < se0 c s i) && decide (4 ≤ cd (se0 c s) sg i (min 5 (i + 1)))) || (decide (sg < -se0 c s i) && decide (4 ≤ cd (fun k => -se0 c s k) sg i (min 5 (i + 1))))) = hoB (se0 c s) (((1 : Nat) : Int) * sg) 5 4 i
    rw [show (((1 : Nat) : Int) * sg) = sg by omega, cd_cu (se0 c s) _ _ _ (by omega), cd_cu (fun k => -se0 c s k) _ _ _ (by omega)]
    rfl
  · show (decide (cd (se0 c s) 0 i (min 8 (i + 1)) = 8) || decide (cd (fun k => -se0 c s k) 0 i (min 8 (i + 1)) = 8)) = hoB (se0 c s) (((0 : Nat) : Int) * sg) 8 8 i
    rw [ho_all (by omega), cd_cu _ _ _ _ (by omega), cd_cu _ _ _ _ (by omega), show (((0 : Nat) : Int) * sg) = 0 by omega]
    have h1 := cu_le (se0 c s) 0 (i + 1 - min 8 (i + 1)) (min 8 (i + 1))
    have h2 := cu_le (fun k => -se0 c s k) 0 (i + 1 - min 8 (i + 1)) (min 8 (i + 1))
    have h3 := all_cu (f := se0 c s) (b := 0) (P := 8) (i := i)
    have h4 := all_cu (f := fun k => -se0 c s k) (b := 0) (P := 8) (i := i)
    refine dec_or ?_
    rw [← h3, ← h4]
    omega
  · show (ris (se0 c s) 5 i || ris (fun k => -se0 c s k) 5 i) = hoB (se1 s) (((0 : Nat) : Int) * sg) 5 5 i
    rw [ho_all (by omega), show (((0 : Nat) : Int) * sg) = 0 by omega]
    refine bool_or ?_
    rw [ris_iff, ris_iff]
    refine or_congr ?_ ?_
    · constructor
      · rintro ⟨h5, h⟩
        refine ⟨by omega, fun u hu => ?_⟩
        have := h u hu
        simp only [se0] at this
        simp only [se1]
        omega
      · rintro ⟨h5, h⟩
        have h6 : 5 ≤ i := by
          rcases (by omega : 5 ≤ i ∨ i = 4) with h7 | h7
          · exact h7
          · have := h 0 (by omega); subst h7; simp [se1] at this
        refine ⟨h6, fun u hu => ?_⟩
        have := h u hu
        simp only [se1] at this
        simp only [se0]
        omega
    · constructor
      · rintro ⟨h5, h⟩
        refine ⟨by omega, fun u hu => ?_⟩
        have := h u hu
        simp only [se0] at this
        simp only [se1]
        omega
      · rintro ⟨h5, h⟩
        have h6 : 5 ≤ i := by
          rcases (by omega : 5 ≤ i ∨ i = 4) with h7 | h7
          · exact h7
          · have := h 0 (by omega); subst h7; simp [se1] at this
        refine ⟨h6, fun u hu => ?_⟩
        have := h u hu
        simp only [se1] at this
        simp only [se0]
        omega
  · show (zig (se0 c s) 13 i || zig (fun k => -se0 c s k) 13 i) = hoB (se2 s) (((0 : Nat) : Int) * sg) 13 13 i
    rw [ho_all (by omega), show (((0 : Nat) : Int) * sg) = 0 by omega]
    have e : ∀ p : Nat, se0 c s p - se0 c s (p - 1) = se1 s p := by
      intro p
      simp only [se0, se1]
      omega
    have h13 : ∀ g : Nat → Int, (g 0 = 0) → (13 ≤ i + 1 ∧ ∀ u, u < 13 → 0 < g (i + 1 - 13 + u)) → 13 ≤ i := by
      rintro g g0 ⟨h5, h⟩
      rcases (by omega : 13 ≤ i ∨ i = 12) with h7 | h7
      · exact h7
      · have := h 0 (by omega); subst h7; simp [g0] at this
    have z1 : se2 s 0 = 0 := by unfold se2 se1; simp
    have z2 : (fun j => -se2 s j) 0 = 0 := by simp [z1]
    have pe : ∀ p : Nat, p % 2 = 0 → se2 s p = se1 s p := fun p hp => by unfold se2; rw [if_neg (by omega)]
    have po : ∀ p : Nat, ¬ p % 2 = 0 → se2 s p = -se1 s p := fun p hp => by unfold se2; rw [if_pos (by omega)]
    refine bool_or ?_
    rw [zig_iff, zig_iff]
    have go : ∀ (g : Nat → Int) (h5 : 13 ≤ i) (sgn : Int) (hs : sgn = 1 ∨ sgn = -1) (hg : ∀ p, g p - g (p - 1) = sgn * se1 s p),
        (∀ u, u < 13 → ((u % 2 = 0 → g (i + 1 - 13 + u - 1) < g (i + 1 - 13 + u)) ∧ (u % 2 ≠ 0 → g (i + 1 - 13 + u) < g (i + 1 - 13 + u - 1)))) ↔ (∀ u, u < 13 → 0 < (if i % 2 = 0 then sgn else -sgn) * se2 s (i + 1 - 13 + u)) := by
      intro g h5 sgn hs hg
      have one : ∀ u, u < 13 → (((u % 2 = 0 → g (i + 1 - 13 + u - 1) < g (i + 1 - 13 + u)) ∧ (u % 2 ≠ 0 → g (i + 1 - 13 + u) < g (i + 1 - 13 + u - 1))) ↔ 0 < (if i % 2 = 0 then sgn else -sgn) * se2 s (i + 1 - 13 + u)) := by
        intro u hu
        obtain ⟨p, hp⟩ : ∃ p, p = i + 1 - 13 + u := ⟨_, rfl⟩
        rw [← hp]
        have h1 := hg p
        by_cases hi : i % 2 = 0 <;> by_cases hu2 : u % 2 = 0
        · rw [if_pos hi, pe p (by omega)]
          rcases hs with rfl | rfl
          · exact ⟨fun h => by have := h.1 hu2; omega, fun h => ⟨fun _ => by omega, fun h9 => absurd hu2 h9⟩⟩
          · exact ⟨fun h => by have := h.1 hu2; omega, fun h => ⟨fun _ => by omega, fun h9 => absurd hu2 h9⟩⟩
        · rw [if_pos hi, po p (by omega)]
          rcases hs with rfl | rfl
          · exact ⟨fun h => by have := h.2 hu2; omega, fun h => ⟨fun h9 => absurd h9 hu2, fun _ => by omega⟩⟩
          · exact ⟨fun h => by have := h.2 hu2; omega, fun h => ⟨fun h9 => absurd h9 hu2, fun _ => by omega⟩⟩
        · rw [if_neg hi, po p (by omega)]
          rcases hs with rfl | rfl
          · exact ⟨fun h => by have := h.1 hu2; omega, fun h => ⟨fun _ => by omega, fun h9 => absurd hu2 h9⟩⟩
          · exact ⟨fun h => by have := h.1 hu2; omega, fun h => ⟨fun _ => by omega, fun h9 => absurd hu2 h9⟩⟩
        · rw [if_neg hi, pe p (by omega)]
          rcases hs with rfl | rfl
          · exact ⟨fun h => by have := h.2 hu2; omega, fun h => ⟨fun h9 => absurd h9 hu2, fun _ => by omega⟩⟩
          · exact ⟨fun h => by have := h.2 hu2; omega, fun h => ⟨fun h9 => absurd h9 hu2, fun _ => by omega⟩⟩
      exact ⟨fun h u hu => (one u hu).1 (h u hu), fun h u hu => (one u hu).2 (h u hu)⟩
    have A1 := fun h5 => go (se0 c s) h5 1 (Or.inl rfl) (fun p => by rw [e]; omega)
    have A2 := fun h5 => go (fun k => -se0 c s k) h5 (-1) (Or.inr rfl) (fun p => by have := e p; show -se0 c s p - -se0 c s (p - 1) = -1 * se1 s p; omega)
    constructor
    · rintro (⟨h5, h⟩ | ⟨h5, h⟩)
      · have h6 := (A1 h5).1 h
        by_cases hi : i % 2 = 0
        · exact Or.inl ⟨by omega, fun u hu => by have := h6 u hu; rw [if_pos hi] at this; omega⟩
        · exact Or.inr ⟨by omega, fun u hu => by have := h6 u hu; rw [if_neg hi] at this; omega⟩
      · have h6 := (A2 h5).1 h
        by_cases hi : i % 2 = 0
        · exact Or.inr ⟨by omega, fun u hu => by have := h6 u hu; rw [if_pos hi] at this; omega⟩
        · exact Or.inl ⟨by omega, fun u hu => by have := h6 u hu; rw [if_neg hi] at this; omega⟩
    · rintro (hh | hh)
      · have h5 := h13 _ z1 hh
        by_cases hi : i % 2 = 0
        · exact Or.inl ⟨h5, (A1 h5).2 fun u hu => by have := hh.2 u hu; rw [if_pos hi]; omega⟩
        · exact Or.inr ⟨h5, (A2 h5).2 fun u hu => by have := hh.2 u hu; rw [if_neg hi]; omega⟩
      · have h5 := h13 (fun j => -se2 s j) z2 hh
        by_cases hi : i % 2 = 0
        · exact Or.inr ⟨h5, (A2 h5).2 fun u hu => by have := hh.2 u hu; rw [if_pos hi]; omega⟩
        · exact Or.inl ⟨h5, (A1 h5).2 fun u hu => by have := hh.2 u hu; rw [if_neg hi]; omega⟩

theorem cu_congr {f g : Nat → Int} {b : Int} {lo t : Nat} (h : ∀ u, u < t → f (lo + u) = g (lo + u)) : cu f b lo t = cu g b lo t := by
  induction t with
  | zero => rfl
  | succ t ih => rw [cu, cu, ih (fun u hu => h u (by omega)), h t (by omega)]
theorem cd_congr {f g : Nat → Int} {b : Int} {i t : Nat} (h : ∀ u, u < t → f (i - u) = g (i - u)) : cd f b i t = cd g b i t := by
  induction t with
  | zero => rfl
  | succ t ih => rw [cd, cd, ih (fun u hu => h u (by omega)), h t (by omega)]
theorem upB_congr {f g : Nat → Int} (sg : Int) {i j : Nat} (hj : j < 6) (h : ∀ p, p ≤ i → f p = g p) : upB f sg i j = upB g sg i j := by
  have hc : ∀ b t, cd f b i t = cd g b i t := fun b t => cd_congr fun u hu => h _ (by omega)
  rcases (by omega : j = 0 ∨ j = 1 ∨ j = 2 ∨ j = 3 ∨ j = 4 ∨ j = 5) with rfl | rfl | rfl | rfl | rfl | rfl
  · rw [upB, upB, h i (Nat.le_refl _)]
  · rw [upB, upB, h i (Nat.le_refl _), hc]
  · rw [upB, upB, h i (Nat.le_refl _), hc]
  · rw [upB, upB, hc]
  · show ris f 5 i = ris g 5 i
    unfold ris
    by_cases h5 : 5 ≤ i
    · rw [cu_congr (g := fun p => g p - g (p - 1)) fun u hu => by have h1 := h (i + 1 - 5 + u) (by omega); have h2 := h (i + 1 - 5 + u - 1) (by omega); simp only [h1, h2]]
    · rw [decide_eq_false h5, Bool.false_and, Bool.false_and]
  · show zig f 13 i = zig g 13 i
    unfold zig
    by_cases h5 : 13 ≤ i
    · rw [cu_congr (g := fun p => if (p + 13 + i + 1) % 2 = 0 then g p - g (p - 1) else g (p - 1) - g p) fun u hu => by have h1 := h (i + 1 - 13 + u) (by omega); have h2 := h (i + 1 - 13 + u - 1) (by omega); simp only [h1, h2]]
    · rw [decide_eq_false h5, Bool.false_and, Bool.false_and]
theorem rgL_get (f : Nat → Int) {n k : Nat} (h : k < n) : (rgL f n).getD k 0 = f k := by simp [rgL, h]
/-- The alarms at a place, of the first rules; and those of the first places. -/
def alP (H : Nat → Nat → Bool) (k : Nat) : Nat → List Alm
  | 0 => []
  | j + 1 => alP H k j ++ (if H k j then [⟨(k : Int), (j : Int) + 1⟩] else [])
def alA (H : Nat → Nat → Bool) : Nat → List Alm
  | 0 => []
  | k + 1 => alA H k ++ alP H k 6
theorem alP_len (H : Nat → Nat → Bool) (k j : Nat) : (alP H k j).length ≤ j := by
  induction j with
  | zero => simp [alP]
  | succ j ih => rw [alP, List.length_append]; split <;> simp <;> omega
theorem alA_len (H : Nat → Nat → Bool) (k : Nat) : (alA H k).length ≤ 6 * k := by
  induction k with
  | zero => simp [alA]
  | succ k ih => rw [alA, List.length_append]; have := alP_len H k 6; omega
def aaC (c sg : Int) (s : List Int) : Int := if chF s = 0 then (if (-1000000 ≤ c ∧ c ≤ 1000000) ∧ (1 ≤ sg ∧ sg ≤ 100000) then 0 else 3) else chF s
def aaL (c sg : Int) (s : List Int) : List Alm := if aaC c sg s = 0 then alA (alH c sg s) s.length else []
theorem aaC_zero {c sg : Int} {s : List Int} (h : aaC c sg s = 0) : chF s = 0 := by
  unfold aaC at h
  split at h
  · assumption
  · assumption
theorem aaL_len (c sg : Int) (s : List Int) : (aaL c sg s).length ≤ 1200 := by
  unfold aaL
  split
  · rename_i h; have := alA_len (alH c sg s) s.length; have := (chL_good (aaC_zero h)).1; omega
  · simp

end Go.Proofs.YtcdpaokmjoklcaaDoor
