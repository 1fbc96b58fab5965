/- Proved here: clusters numbered by their first defects: what a search from each first one finds. -/
import Derived.Test.YtngpjglcjbdblaaVgM
namespace Go.Proofs.Ytngpjglcjbdblaa
open Go.RowKit
set_option linter.unusedVariables false
set_option linter.unusedSimpArgs false

/-- How many first defects stand ahead of k. -/
def cnt (F : Nat → Nat) : Nat → Nat
  | 0 => 0
  | k + 1 => if F k = k then cnt F k + 1 else cnt F k
theorem cnt_le (F : Nat → Nat) (k : Nat) : cnt F k ≤ k := by
  induction k with
  | zero => exact Nat.le_refl _
  | succ k ih => simp only [cnt]; split <;> omega
/-- The numbers, once all defects ahead of i have been tried. -/
def outA (F : Nat → Nat) (i a : Nat) : Int := if F a < i then (cnt F (F a) : Nat) else -1
theorem outA_neg (F : Nat → Nat) (i a : Nat) : outA F i a < 0 ↔ ¬ F a < i := by unfold outA; split <;> omega
theorem outA_skip {E : Nat → Nat → Prop} {n : Nat} {F : Nat → Nat} (h : Lab E n F) {i : Nat} (hi : F i ≠ i) {a : Nat} (ha : a < n) : outA F (i + 1) a = outA F i a := by
  have : F a ≠ i := fun e => hi (by rw [← e]; exact h.own a ha)
  unfold outA
  by_cases k : F a < i
  · rw [if_pos k, if_pos (by omega)]
  · rw [if_neg k, if_neg (by omega)]

/-- The search from defect i: what has been numbered, and what is still to be looked at. -/
structure DF (nb : Nat → Nat → Bool) (n : Nat) (F : Nat → Nat) (i : Nat) (xs : List Int) (td : List Nat) (k j : Nat) : Prop where
  ln : xs.length = n
  old : ∀ a, a < n → F a < i → xs.getD a 0 = (cnt F (F a) : Nat)
  new : ∀ a, a < n → ¬ F a < i → xs.getD a 0 = -1 ∨ (xs.getD a 0 = (cnt F i : Nat) ∧ F a = i)
  tdk : ∀ a, a ∈ td → a < n ∧ F a = i ∧ 0 ≤ xs.getD a 0
  cl : ∀ a, a < n → F a = i → 0 ≤ xs.getD a 0 → a ∈ td ∨ ∀ b, b < n → (a = k → b < j) → nb a b = true → 0 ≤ xs.getD b 0
  st : 0 ≤ xs.getD i 0
theorem DF.same {nb : Nat → Nat → Bool} {n : Nat} {F : Nat → Nat} {i k j : Nat} {xs : List Int} {td : List Nat} (h : DF nb n F i xs td k j) (hx : ¬ (xs.getD j 0 < 0 ∧ nb k j = true)) : DF nb n F i xs td k (j + 1) := by
  refine ⟨h.ln, h.old, h.new, h.tdk, fun a ha hF h0 => ?_, h.st⟩
  rcases h.cl a ha hF h0 with h1 | h1
  · exact Or.inl h1
  · refine Or.inr fun b hb hk hB => ?_
    by_cases e : a = k ∧ b = j
    · obtain ⟨rfl, rfl⟩ := e
      by_cases hz : xs.getD b 0 < 0
      · exact absurd ⟨hz, hB⟩ hx
      · omega
    · exact h1 b hb (fun e' => by have := hk e'; omega) hB
theorem getD_set (xs : List Int) (j a : Nat) (z : Int) (hj : j < xs.length) : (xs.set j z).getD a 0 = if a = j then z else xs.getD a 0 := by
  rw [List.getD_eq_getElem?_getD, List.getElem?_set]
  by_cases e : j = a
  · subst e; simp [hj]
  · rw [if_neg e, if_neg (fun e' => e e'.symm), List.getD_eq_getElem?_getD]
theorem DF.mark {nb : Nat → Nat → Bool} {n : Nat} {F : Nat → Nat} {i k j : Nat} {xs : List Int} {td : List Nat} (h : DF nb n F i xs td k j) (hj : j < n) (hF : F j = i) (hx : xs.getD j 0 < 0) : DF nb n F i (xs.set j (cnt F i : Nat)) (td ++ [j]) k (j + 1) := by
  have g := fun a => getD_set xs j a (cnt F i : Nat) (by rw [h.ln]; exact hj)
  have up : ∀ a, 0 ≤ xs.getD a 0 → 0 ≤ (xs.set j (cnt F i : Nat)).getD a 0 := fun a ha => by rw [g]; split <;> omega
  refine ⟨by rw [List.length_set]; exact h.ln, fun a ha hl => ?_, fun a ha hl => ?_, fun a ha => ?_, fun a ha hFa h0 => ?_, up i h.st⟩
  · rw [g, if_neg (by intro e; subst e; omega)]; exact h.old a ha hl
  · rw [g]
    by_cases e : a = j
    · subst e; rw [if_pos rfl]; exact Or.inr ⟨rfl, hF⟩
    · rw [if_neg e]; exact h.new a ha hl
  · rcases List.mem_append.1 ha with ha | ha
    · obtain ⟨h1, h2, h3⟩ := h.tdk a ha; exact ⟨h1, h2, up a h3⟩
    · have : a = j := by simpa using ha
      subst this
      exact ⟨hj, hF, by rw [g, if_pos rfl]; omega⟩
  · by_cases e : a = j
    · subst e; exact Or.inl (List.mem_append.2 (Or.inr (by simp)))
    · rw [g, if_neg e] at h0
      rcases h.cl a ha hFa h0 with h1 | h1
      · exact Or.inl (List.mem_append.2 (Or.inl h1))
      · refine Or.inr fun b hb hk hB => ?_
        by_cases e2 : b = j
        · subst e2; rw [g, if_pos rfl]; omega
        · exact up b (h1 b hb (fun e' => by have := hk e'; omega) hB)
theorem DF.pop {nb : Nat → Nat → Bool} {n : Nat} {F : Nat → Nat} {i k q : Nat} {xs : List Int} {td : List Nat} (h : DF nb n F i xs (td ++ [q]) k n) : DF nb n F i xs td q 0 ∧ q < n ∧ F q = i := by
  have hq := h.tdk q (by simp)
  refine ⟨⟨h.ln, h.old, h.new, fun a ha => h.tdk a (by simp [ha]), fun a ha hF h0 => ?_, h.st⟩, hq.1, hq.2.1⟩
  by_cases e : a = q
  · exact Or.inr fun b hb hk hB => by have := hk e; omega
  · rcases h.cl a ha hF h0 with h1 | h1
    · rcases List.mem_append.1 h1 with h1 | h1
      · exact Or.inl h1
      · exact absurd (by simpa using h1) e
    · exact Or.inr fun b hb hk hB => h1 b hb (fun _ => hb) hB
theorem DF.start {nb : Nat → Nat → Bool} {n : Nat} {F : Nat → Nat} {i : Nat} {xs : List Int} (hl : xs.length = n) (hi : i < n) (hF : F i = i) (h : ∀ a, a < n → xs.getD a 0 = outA F i a) : DF nb n F i (xs.set i (cnt F i : Nat)) [i] n n := by
  have g := fun a => getD_set xs i a (cnt F i : Nat) (by rw [hl]; exact hi)
  refine ⟨by rw [List.length_set]; exact hl, fun a ha hla => ?_, fun a ha hla => ?_, fun a ha => ?_, fun a ha hFa h0 => ?_, by rw [g, if_pos rfl]; omega⟩
  · rw [g, if_neg (by intro e; subst e; omega), h a ha]; unfold outA; rw [if_pos hla]
  · rw [g]
    by_cases e : a = i
    · subst e; rw [if_pos rfl]; exact Or.inr ⟨rfl, hF⟩
    · rw [if_neg e, h a ha]; unfold outA; rw [if_neg hla]; exact Or.inl rfl
  · have : a = i := by simpa using ha
    subst this
    exact ⟨hi, hF, by rw [g, if_pos rfl]; omega⟩
  · by_cases e : a = i
    · subst e; exact Or.inl (by simp)
    · rw [g, if_neg e, h a ha] at h0
      have := (outA_neg F i a).2 (by omega)
      omega
theorem DF.done {nb : Nat → Nat → Bool} {n : Nat} {F : Nat → Nat} {i k : Nat} {xs : List Int} (hL : Lab (En nb n) n F) (hi : i < n) (hF : F i = i) (h : DF nb n F i xs [] k n) : ∀ a, a < n → xs.getD a 0 = outA F (i + 1) a := by
  intro a ha
  unfold outA
  by_cases h1 : F a < i
  · rw [if_pos (by omega)]; exact h.old a ha h1
  · by_cases h2 : F a = i
    · rw [if_pos (by omega), h2]
      have hc : Conn (En nb n) i a := (hL.same i a hi ha).1 (by rw [hF, h2])
      have hP := hc (fun b => b < n ∧ F b = i ∧ 0 ≤ xs.getD b 0) ⟨hi, hF, h.st⟩ (by
        rintro x y ⟨hx1, hx2, hx3⟩ hxy
        have hy := hxy.2.1
        refine ⟨hy, ?_, ?_⟩
        · rw [← hx2]; exact ((hL.same x y hx1 hy).2 (Conn.one hxy)).symm
        · rcases h.cl x hx1 hx2 hx3 with h' | h'
          · cases h'
          · exact h' y hy (fun _ => hy) hxy.2.2)
      rcases h.new a ha h1 with h3 | h3
      · omega
      · exact h3.1
    · rw [if_neg (by omega)]
      rcases h.new a ha h1 with h3 | h3
      · exact h3
      · exact absurd h3.2 h2
theorem DF.join {nb : Nat → Nat → Bool} {n : Nat} {F : Nat → Nat} (hL : Lab (En nb n) n F) {k j : Nat} (hk : k < n) (hj : j < n) (h : nb k j = true) : F j = F k := by
  exact ((hL.same k j hk hj).2 (Conn.one ⟨hk, hj, h⟩)).symm
/-- How many have no number. -/
def negs (f : Nat → Int) : Nat → Nat
  | 0 => 0
  | k + 1 => if f k < 0 then negs f k + 1 else negs f k
theorem negs_congr {f g : Nat → Int} {n : Nat} (h : ∀ a, a < n → f a = g a) : negs f n = negs g n := by
  induction n with
  | zero => rfl
  | succ k ih => simp only [negs]; rw [ih fun a ha => h a (by omega), h k (by omega)]
theorem negs_mark {xs : List Int} {j : Nat} {z : Int} (hj : j < xs.length) (h : xs.getD j 0 < 0) (hz : 0 ≤ z) : ∀ n, negs (fun a => (xs.set j z).getD a 0) n + (if j < n then 1 else 0) = negs (fun a => xs.getD a 0) n := by
  intro n
  induction n with
  | zero => simp [negs]
  | succ n ih =>
    have hg := getD_set xs j n z hj
    have e1 : negs (fun a => (xs.set j z).getD a 0) (n + 1) = if (xs.set j z).getD n 0 < 0 then negs (fun a => (xs.set j z).getD a 0) n + 1 else negs (fun a => (xs.set j z).getD a 0) n := rfl
    have e2 : negs (fun a => xs.getD a 0) (n + 1) = if xs.getD n 0 < 0 then negs (fun a => xs.getD a 0) n + 1 else negs (fun a => xs.getD a 0) n := rfl
    rw [e1, e2]
    by_cases e : n = j
    · subst e
      rw [if_pos rfl] at hg
      rw [if_neg (by omega : ¬ (xs.set n z).getD n 0 < 0), if_pos h, if_pos (by omega)]
      rw [if_neg (by omega)] at ih
      omega
    · rw [if_neg e] at hg
      rw [hg]
      by_cases e2 : j < n
      · rw [if_pos (by omega : j < n + 1)]; rw [if_pos e2] at ih
        split <;> omega
      · rw [if_neg (by omega : ¬ j < n + 1)]; rw [if_neg e2] at ih
        split <;> omega


def vgC (s : List Dft) (near : Int) : Int := if vdF s = 0 then (if 0 ≤ near ∧ near ≤ 1000 then 0 else 3) else vdF s
def vgF (s : List Dft) (near : Int) : Nat → Nat := fr (nbS s near) s.length
def vgN (s : List Dft) (near : Int) : List Int := (List.range s.length).map (fun a => ((cnt (vgF s near) (vgF s near a) : Nat) : Int))
def vgL (s : List Dft) (near : Int) : List Int := if vgC s near = 0 then vgN s near else []
theorem vgL_ok {s : List Dft} {near : Int} (h : vgC s near = 0) : vgL s near = vgN s near := by unfold vgL; rw [if_pos h]
theorem vgL_bad {s : List Dft} {near : Int} (h : ¬ vgC s near = 0) : vgL s near = [] := by unfold vgL; rw [if_neg h]
theorem vgC_ok {s : List Dft} {near : Int} (h : vgC s near = 0) : vdF s = 0 ∧ 0 ≤ near ∧ near ≤ 1000 := by
  unfold vgC at h
  by_cases h1 : vdF s = 0
  · rw [if_pos h1] at h
    by_cases h2 : 0 ≤ near ∧ near ≤ 1000
    · exact ⟨h1, h2.1, h2.2⟩
    · rw [if_neg h2] at h; omega
  · rw [if_neg h1] at h; exact absurd h h1
theorem vgL_len (s : List Dft) (near : Int) : (vgL s near).length ≤ 60 := by
  by_cases h : vgC s near = 0
  · rw [vgL_ok h]
    unfold vgN
    rw [List.length_map, List.length_range]
    exact (vdF_ok (vgC_ok h).1).1
  · rw [vgL_bad h]; exact Nat.zero_le _
theorem vg_lab (s : List Dft) (near : Int) : Lab (En (nbS s near) s.length) s.length (vgF s near) := fr_lab (nbS_sym s near) _
/-- What has been found is what is answered. -/
theorem vgN_of {s : List Dft} {near : Int} {xs : List Int} (hl : xs.length = s.length) (h : ∀ a, a < s.length → xs.getD a 0 = outA (vgF s near) s.length a) : xs = vgN s near := by
  apply List.ext_getElem
  · unfold vgN; simp [hl]
  · intro a h1 h2
    have ha : a < s.length := by omega
    have h3 := h a ha
    rw [List.getD_eq_getElem?_getD, List.getElem?_eq_getElem h1] at h3
    unfold outA at h3
    rw [if_pos (by have := (vg_lab s near).le a ha; omega)] at h3
    have e9 : (vgN s near)[a] = ((cnt (vgF s near) (vgF s near a) : Nat) : Int) := by simp [vgN]
    rw [e9]
    simpa using h3

end Go.Proofs.Ytngpjglcjbdblaa
