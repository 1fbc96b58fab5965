/- Proved here: the arithmetic of sections: faults, tops, what lies at a height. No condition on the program. -/
import Derived.Test.YtceljakmjddgbabFiR
namespace Go.Proofs.Ytceljakmjddgbab
open Go.RowKit
set_option linter.unusedVariables false
set_option linter.unusedSimpArgs false

/-- The first of the first n numbers that is not 0. -/
def fstA (f : Nat → Int) : Nat → Int
  | 0 => 0
  | n + 1 => if fstA f n = 0 then f n else fstA f n
theorem fstA_hit {f : Nat → Int} {j n : Nat} (h0 : fstA f j = 0) (hj : f j ≠ 0) (hn : j < n) : fstA f n = f j := by
  induction n with
  | zero => omega
  | succ n ih =>
    rw [fstA]
    rcases Nat.lt_or_ge j n with h | h
    · rw [ih h, if_neg hj]
    · obtain rfl : j = n := by omega
      rw [if_pos h0]
theorem fstA_next {f : Nat → Int} {j : Nat} (h0 : fstA f j = 0) (hj : f j = 0) : fstA f (j + 1) = 0 := by rw [fstA, if_pos h0, hj]
theorem fstA_zero {f : Nat → Int} {n : Nat} (h : fstA f n = 0) : ∀ j, j < n → f j = 0 := by
  induction n with
  | zero => intro j hj; omega
  | succ n ih =>
    rw [fstA] at h
    by_cases h1 : fstA f n = 0
    · rw [if_pos h1] at h
      intro j hj
      rcases Nat.lt_or_ge j n with h2 | h2
      · exact ih h1 j h2
      · rw [show j = n by omega]; exact h
    · rw [if_neg h1] at h; exact absurd h h1

/-- A film of a column. -/
def fat (c : List Flm) (k : Nat) : Flm := c.getD k ⟨0, 0⟩
theorem fat_get {c : List Flm} {k : Nat} (h : k < c.length) : fat c k = c[k] := by simp [fat, h]
/-- The material below. -/
def blw (c : List Flm) : Nat → Int
  | 0 => 0
  | k + 1 => (fat c k).m
def flB (c : List Flm) (k : Nat) : Int :=
  if (fat c k).m < 1 ∨ 12 < (fat c k).m ∨ (fat c k).m = blw c k then 1 else if (fat c k).t < 1 ∨ 100000 < (fat c k).t then 3 else 0
/-- How high the first k films are. -/
def topA (c : List Flm) : Nat → Int
  | 0 => 0
  | k + 1 => topA c k + (fat c k).t
def topC (c : List Flm) : Int := topA c c.length
/-- The fault of a column. -/
def colF (c : List Flm) : Int :=
  if 24 < c.length then 2 else if fstA (flB c) c.length = 0 then (if 100000 < topC c then 3 else 0) else fstA (flB c) c.length
/-- The fault of a section. -/
def secF (s : List (List Flm)) : Int :=
  if s.length = 0 then 1 else if 16 < s.length then 2 else fstA (fun i => colF (s.getD i [])) s.length

/-- A film without a fault. -/
def okF (c : List Flm) (k : Nat) : Prop := 1 ≤ (fat c k).m ∧ (fat c k).m ≤ 12 ∧ (fat c k).m ≠ blw c k ∧ 1 ≤ (fat c k).t ∧ (fat c k).t ≤ 100000
theorem flB_zero {c : List Flm} {k : Nat} : flB c k = 0 ↔ okF c k := by
  unfold flB okF
  constructor
  · intro h
    split at h
    · cases h
    · split at h
      · cases h
      · omega
  · rintro ⟨h1, h2, h3, h4, h5⟩
    rw [if_neg (by omega), if_neg (by omega)]
theorem flB_mat {c : List Flm} {k : Nat} (h : ¬ (1 ≤ (fat c k).m ∧ (fat c k).m ≤ 12)) : flB c k = 1 := by
  unfold flB; rw [if_pos (by omega)]
theorem flB_same {c : List Flm} {k : Nat} (h : (fat c k).m = blw c k) : flB c k = 1 := by
  unfold flB; rw [if_pos (Or.inr (Or.inr h))]
theorem flB_thick {c : List Flm} {k : Nat} (h0 : 1 ≤ (fat c k).m ∧ (fat c k).m ≤ 12) (h1 : ¬ (fat c k).m = blw c k) (h : ¬ (1 ≤ (fat c k).t ∧ (fat c k).t ≤ 100000)) : flB c k = 3 := by
  unfold flB; rw [if_neg (by omega), if_pos (by omega)]
theorem flB_ok {c : List Flm} {k : Nat} (h0 : 1 ≤ (fat c k).m ∧ (fat c k).m ≤ 12) (h1 : ¬ (fat c k).m = blw c k) (h : 1 ≤ (fat c k).t ∧ (fat c k).t ≤ 100000) : flB c k = 0 := by
  unfold flB; rw [if_neg (by omega), if_neg (by omega)]

/-- A column without a fault. -/
structure GC (c : List Flm) : Prop where
  len : c.length ≤ 24
  ok : ∀ k, k < c.length → okF c k
  top : topC c ≤ 100000
theorem colF_zero {c : List Flm} : colF c = 0 ↔ GC c := by
  unfold colF
  constructor
  · intro h
    split at h
    · cases h
    · split at h
      · rename_i h1 h2
        split at h
        · cases h
        · exact ⟨by omega, fun k hk => flB_zero.1 (fstA_zero h2 k hk), by omega⟩
      · rename_i h2; exact absurd h h2
  · intro h
    have h0 : fstA (flB c) c.length = 0 := by
      have : ∀ n, n ≤ c.length → fstA (flB c) n = 0 := by
        intro n
        induction n with
        | zero => intro _; rfl
        | succ n ih => intro hn; exact fstA_next (ih (by omega)) (flB_zero.2 (h.ok n (by omega)))
      exact this _ (Nat.le_refl _)
    rw [if_neg (by have := h.len; omega), if_pos h0, if_neg (by have := h.top; omega)]
/-- A section without a fault. -/
structure GS (s : List (List Flm)) : Prop where
  pos : 0 < s.length
  len : s.length ≤ 16
  col : ∀ i, i < s.length → GC (s.getD i [])
theorem secF_zero {s : List (List Flm)} : secF s = 0 ↔ GS s := by
  unfold secF
  constructor
  · intro h
    split at h
    · cases h
    · split at h
      · cases h
      · exact ⟨by omega, by omega, fun i hi => colF_zero.1 (fstA_zero h i hi)⟩
  · intro h
    rw [if_neg (by have := h.pos; omega), if_neg (by have := h.len; omega)]
    have : ∀ n, n ≤ s.length → fstA (fun i => colF (s.getD i [])) n = 0 := by
      intro n
      induction n with
      | zero => intro _; rfl
      | succ n ih => intro hn; exact fstA_next (ih (by omega)) (colF_zero.2 (h.col n (by omega)))
    exact this _ (Nat.le_refl _)
theorem colF_range (c : List Flm) : colF c = 0 ∨ colF c = 1 ∨ colF c = 2 ∨ colF c = 3 := by
  have h : ∀ n, fstA (flB c) n = 0 ∨ fstA (flB c) n = 1 ∨ fstA (flB c) n = 3 := by
    intro n
    induction n with
    | zero => exact Or.inl rfl
    | succ n ih =>
      rw [fstA]
      split
      · unfold flB
        split
        · exact Or.inr (Or.inl rfl)
        · split
          · exact Or.inr (Or.inr rfl)
          · exact Or.inl rfl
      · exact ih
  unfold colF
  split
  · exact Or.inr (Or.inr (Or.inl rfl))
  · split
    · split
      · exact Or.inr (Or.inr (Or.inr rfl))
      · exact Or.inl rfl
    · rcases h c.length with h | h | h
      · exact Or.inl h
      · exact Or.inr (Or.inl h)
      · exact Or.inr (Or.inr (Or.inr h))

/-- Sums of good films. -/
theorem topA_bound {c : List Flm} {n : Nat} (h : ∀ k, k < n → 0 ≤ (fat c k).t ∧ (fat c k).t ≤ 100000) : 0 ≤ topA c n ∧ topA c n ≤ 100000 * (n : Int) := by
  induction n with
  | zero => simp [topA]
  | succ n ih =>
    have h1 := ih fun k hk => h k (by omega)
    have h2 := h n (by omega)
    rw [topA]; omega
theorem topA_mono {c : List Flm} {n m : Nat} (hc : ∀ k, k < m → 0 ≤ (fat c k).t) (h : n ≤ m) : topA c n ≤ topA c m := by
  induction m with
  | zero => rw [show n = 0 by omega]; omega
  | succ m ih =>
    rcases Nat.lt_or_ge n (m + 1) with h1 | h1
    · have := ih (fun k hk => hc k (by omega)) (by omega)
      have := hc m (by omega)
      rw [topA]; omega
    · rw [show n = m + 1 by omega]; omega
theorem GC.t {c : List Flm} (h : GC c) {k : Nat} (hk : k < c.length) : 1 ≤ (fat c k).t ∧ (fat c k).t ≤ 100000 := by have := h.ok k hk; unfold okF at this; omega
theorem GC.m {c : List Flm} (h : GC c) {k : Nat} (hk : k < c.length) : 1 ≤ (fat c k).m ∧ (fat c k).m ≤ 12 := by have := h.ok k hk; unfold okF at this; omega
theorem GC.upto {c : List Flm} (h : GC c) {k : Nat} (hk : k ≤ c.length) : 0 ≤ topA c k ∧ topA c k ≤ 100000 := by
  refine ⟨(topA_bound fun j hj => by have := h.t (show j < c.length by omega); omega).1, Int.le_trans (topA_mono (fun j hj => by have := h.t hj; omega) hk) h.top⟩

/-- What TopOf answers. -/
def toC (s : List (List Flm)) (i : Int) : Int := if secF s = 0 then (if 0 ≤ i ∧ i < (s.length : Int) then 0 else 4) else secF s
def toV (s : List (List Flm)) (i : Int) : Int := if toC s i = 0 then topC (s.getD i.toNat []) else 0
theorem toC_ok {s : List (List Flm)} {i : Int} (h : toC s i = 0) : GS s ∧ 0 ≤ i ∧ i < (s.length : Int) := by
  unfold toC at h
  split at h
  · rename_i h1
    split at h
    · rename_i h2; exact ⟨secF_zero.1 h1, h2⟩
    · cases h
  · rename_i h1; exact absurd h h1

/-- What lies at a height, of the first n films. -/
def lkA (c : List Flm) (h : Int) : Nat → Int
  | 0 => 0
  | n + 1 => if topA c n > h then lkA c h n else if topA c (n + 1) > h then (fat c n).m else 0
def lkC (c : List Flm) (h : Int) : Int := if h < 0 then 0 else lkA c h c.length
theorem lkA_hit {c : List Flm} {h : Int} {j n : Nat} (hc : ∀ k, k < n → 0 ≤ (fat c k).t) (h0 : topA c j ≤ h) (h1 : topA c (j + 1) > h) (hn : j < n) : lkA c h n = (fat c j).m := by
  induction n with
  | zero => omega
  | succ n ih =>
    rw [lkA]
    rcases Nat.lt_or_ge j n with h2 | h2
    · have := topA_mono (n := j + 1) (m := n) (fun k hk => hc k (by omega)) h2
      rw [if_pos (by omega), ih (fun k hk => hc k (by omega)) h2]
    · obtain rfl : j = n := by omega
      rw [if_neg (by omega), if_pos h1]
theorem lkA_none {c : List Flm} {h : Int} {n : Nat} (hc : ∀ k, k < n → 0 ≤ (fat c k).t) (h0 : topA c n ≤ h) : lkA c h n = 0 := by
  cases n with
  | zero => rfl
  | succ n =>
    have := topA_mono (n := n) (m := n + 1) hc (by omega)
    rw [lkA, if_neg (by omega), if_neg (by omega)]
/-- What LookAt answers. -/
def loV (s : List (List Flm)) (i h : Int) : Int := if toC s i = 0 then lkC (s.getD i.toNat []) h else 0

/-- How a film of a column that is read lies. -/
theorem fl_at {w : World} {a : Option Addr} {n c : Nat} {l : List Flm} (h : RG 2 flC w (.slice a n c) l) {j : Nat} (hj : j < n) :
    ∃ g o, a = some ⟨g, o, none⟩ ∧ g < w.heap.size ∧ w.cell? ⟨g, o + j * 2, none⟩ = some (.int .i64 (fat l j).m) ∧ w.cell? ⟨g, o + j * 2 + 1, none⟩ = some (.int .i64 (fat l j).t) := by
  have hn := h.len
  obtain ⟨g, o, c', he, hg, hx⟩ := h.pos (by omega)
  injection he with h1 h2 h3
  subst h1
  have hjl : j < l.length := by omega
  obtain ⟨c0, c1⟩ := flC_at (hx j hjl)
  rw [fat_get hjl]
  exact ⟨g, o, rfl, hg, c0, c1⟩

end Go.Proofs.Ytceljakmjddgbab
