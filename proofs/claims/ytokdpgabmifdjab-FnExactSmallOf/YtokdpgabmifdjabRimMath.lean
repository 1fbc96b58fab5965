/- Proved here: the rim of boxes in the one form, counted from below and from above. No condition on the program. -/
import Derived.Test.YtokdpgabmifdjabShMath2
namespace Go.Proofs.Ytokdpgabmifdjab
set_option linter.unusedVariables false
set_option linter.unusedSimpArgs false

def sumB (g : Bx → Int) : List Bx → Int
  | [] => 0
  | b :: t => g b + sumB g t
theorem sumB_append (g : Bx → Int) (s t : List Bx) : sumB g (s ++ t) = sumB g s + sumB g t := by
  induction s with
  | nil => simp [sumB]
  | cons b u ih => simp only [List.cons_append, sumB, ih]; omega
theorem sumB_zero {g : Bx → Int} {s : List Bx} (h : ∀ b ∈ s, g b = 0) : sumB g s = 0 := by
  induction s with
  | nil => rfl
  | cons b u ih => simp only [sumB]; rw [h b (by simp), ih (fun q hq => h q (by simp [hq]))]; rfl
theorem sumB_congr {g f : Bx → Int} {s : List Bx} (h : ∀ b ∈ s, g b = f b) : sumB g s = sumB f s := by
  induction s with
  | nil => rfl
  | cons b u ih => simp only [sumB]; rw [h b (by simp), ih (fun q hq => h q (by simp [hq]))]
theorem sumB_bd {g : Bx → Int} {m : Int} {s : List Bx} (h : ∀ b ∈ s, 0 ≤ g b ∧ g b ≤ m) : 0 ≤ sumB g s ∧ sumB g s ≤ m * (s.length : Int) := by
  induction s with
  | nil => simp [sumB]
  | cons b u ih =>
    have h1 := h b (by simp)
    have h2 := ih (fun q hq => h q (by simp [hq]))
    simp only [sumB, List.length_cons]
    rw [show m * ((u.length + 1 : Nat) : Int) = m * (u.length : Int) + m by rw [Int.natCast_add, Int.mul_add]; simp]
    omega

def minI (a b : Int) : Int := if a < b then a else b
def maxI (a b : Int) : Int := if b < a then a else b
theorem minI_comm (a b : Int) : minI a b = minI b a := by unfold minI; split <;> split <;> omega
theorem maxI_comm (a b : Int) : maxI a b = maxI b a := by unfold maxI; split <;> split <;> omega

/-- How far two boxes overlap across. -/
def ovB (a b : Bx) : Int := maxI 0 (minI a.x1 b.x1 - maxI a.x0 b.x0)
theorem ovB_comm (a b : Bx) : ovB a b = ovB b a := by unfold ovB; rw [minI_comm, maxI_comm a.x0]
/-- The side that the second box, which stands on the first, has in common with it. -/
def fB (a b : Bx) : Int := if a.y1 = b.y0 then ovB a b else 0
def perB (b : Bx) : Int := 2 * (b.x1 - b.x0) + 2 * (b.y1 - b.y0)

/-- All pairs, the lower one first. -/
def pairs : List Bx → Int
  | [] => 0
  | b :: t => sumB (fB b) t + pairs t
theorem pairs_snoc (l : List Bx) (b : Bx) : pairs (l ++ [b]) = pairs l + sumB (fun a => fB a b) l := by
  induction l with
  | nil => simp [pairs, sumB]
  | cons a t ih =>
    simp only [List.cons_append, pairs, sumB, ih, sumB_append]
    omega

theorem rim_exchange : ∀ (suf pre : List Bx), (∀ b ∈ suf, b.y0 < b.y1) → (pre ++ suf).Pairwise (fun a b => a.y0 ≤ b.y0) → sumB (fun b => sumB (fB b) (pre ++ suf)) suf = pairs suf := by
  intro suf
  induction suf with
  | nil => intro pre _ _; rfl
  | cons b t ih =>
    intro pre hv hp
    have h1 := ih (pre ++ [b]) (fun q hq => hv q (by simp [hq])) (by simpa using hp)
    simp only [List.append_assoc, List.singleton_append] at h1
    have hpp := List.pairwise_append.1 hp
    have hb : b.y0 < b.y1 := hv b (by simp)
    have hz : sumB (fB b) pre = 0 := sumB_zero fun c hc => by
      have h2 := hpp.2.2 c hc b (by simp)
      unfold fB; rw [if_neg (by omega)]
    have hs : fB b b = 0 := by unfold fB; rw [if_neg (by omega)]
    simp only [sumB, pairs]
    rw [h1, sumB_append, hz]
    simp only [sumB]
    rw [hs]
    omega

/-- In the one form the heights rise. -/
theorem FormB.rise : ∀ (rows : List (List Bx)) (below : List Bx), FormB below rows → rows.flatten.Pairwise (fun a b => a.y0 ≤ b.y0) ∧ ∀ b ∈ rows.flatten, below = [] ∨ hy1 below ≤ b.y0 := by
  intro rows
  induction rows with
  | nil => intro below _; simp
  | cons r rest ih =>
    intro below h
    obtain ⟨i1, i2⟩ := ih r h.2.2.2.2.2
    have hr : ∀ b ∈ r, b.y0 = hy0 r := fun b hb => (h.2.2.1.y b hb).1
    refine ⟨?_, fun b hb => ?_⟩
    · rw [List.flatten_cons, List.pairwise_append]
      refine ⟨?_, i1, fun a ha b hb => ?_⟩
      · rw [List.pairwise_iff_forall_sublist]
        intro a b hs
        have ha := hs.subset (show a ∈ [a, b] by simp)
        have hb := hs.subset (show b ∈ [a, b] by simp)
        rw [hr a ha, hr b hb]; exact Int.le_refl _
      · rcases i2 b hb with e | e
        · exact absurd e h.1
        · have := hr a ha; have := h.2.1; omega
    · rw [List.flatten_cons, List.mem_append] at hb
      rcases h.2.2.2.1 with e | e
      · exact Or.inl e
      · refine Or.inr ?_
        rcases hb with hb | hb
        · have := hr b hb; omega
        · rcases i2 b hb with e2 | e2
          · exact absurd e2 h.1
          · have := h.2.1; omega

/-- The rim of boxes. -/
def rimS (s : List Bx) : Int := sumB perB s - 2 * pairs s
def rimT (s : List Bx) (l : List Bx) : Int := sumB (fun b => perB b - 2 * sumB (fB b) s) l
theorem sumB_lin (g f : Bx → Int) (l : List Bx) : sumB (fun b => g b - 2 * f b) l = sumB g l - 2 * sumB f l := by
  induction l with
  | nil => rfl
  | cons b t ih => simp only [sumB, ih]; omega
theorem rim_same {s : List Bx} (hv : ∀ b ∈ s, b.x0 < b.x1 ∧ b.y0 < b.y1) (h : inForm s.length [] s = true) : rimT s s = rimS s := by
  obtain ⟨rows, hr, hF⟩ := inForm_rows _ [] s (Nat.le_refl _) hv ⟨0, 0, Canon.nil _ _⟩ h
  have hp := (FormB.rise rows [] hF).1
  rw [← hr] at hp
  have := rim_exchange s [] (fun b hb => (hv b hb).2) (by simpa using hp)
  unfold rimT rimS
  rw [sumB_lin]
  simp only [List.nil_append] at this
  rw [this]

end Go.Proofs.Ytokdpgabmifdjab
