/- Proved here: what rims and parts rest on: boxes within their bounds, two boxes' common side, sidesUnder of the program. (And ahead of it: Proved here: the rim of boxes in the one form, counted from below and from above. No condition on the program.) -/
import Derived.Test.YtlnhfgacgbdjaaaShMath2
import Derived.Test.YtlnhfgacgbdjaaaIForm
namespace Go.Proofs.Ytlnhfgacgbdjaaa
set_option linter.unusedVariables false
set_option linter.unusedSimpArgs false

def sumB (g : Bx → Int) : List Bx → Int
  | [] => 0
  | b :: t => g b + sumB g t
theorem sumB_append (g : Bx → Int) (s t : List Bx) : sumB g (s ++ t) = sumB g s + sumB g t := by
  induction s with
  | nil => simp [sumB]
  | cons b u ih => simp only [List.cons_append, sumB, ih]; omega
theorem sumB_zero {g : Bx → Int} {s : List Bx} (h : ∀ b ∈ s, g b = 0) : sumB g s = 0 := by
  induction s with
  | nil => rfl
  | cons b u ih => simp only [sumB]; rw [h b (by simp), ih (fun q hq => h q (by simp [hq]))]; rfl
theorem sumB_congr {g f : Bx → Int} {s : List Bx} (h : ∀ b ∈ s, g b = f b) : sumB g s = sumB f s := by
  induction s with
  | nil => rfl
  | cons b u ih => simp only [sumB]; rw [h b (by simp), ih (fun q hq => h q (by simp [hq]))]
theorem sumB_bd {g : Bx → Int} {m : Int} {s : List Bx} (h : ∀ b ∈ s, 0 ≤ g b ∧ g b ≤ m) : 0 ≤ sumB g s ∧ sumB g s ≤ m * (s.length : Int) := by
  induction s with
  | nil => simp [sumB]
  | cons b u ih =>
    have h1 := h b (by simp)
    have h2 := ih (fun q hq => h q (by simp [hq]))
    simp only [sumB, List.length_cons]
    rw [show m * ((u.length + 1 : Nat) : Int) = m * (u.length : Int) + m by rw [Int.natCast_add, Int.mul_add]; simp]
    omega

def minI (a b : Int) : Int := if a < b then a else b
def maxI (a b : Int) : Int := if b < a then a else b
theorem minI_comm (a b : Int) : minI a b = minI b a := by unfold minI; split <;> split <;> omega
theorem maxI_comm (a b : Int) : maxI a b = maxI b a := by unfold maxI; split <;> split <;> omega

/-- How far two boxes overlap across. -/
def ovB (a b : Bx) : Int := maxI 0 (minI a.x1 b.x1 - maxI a.x0 b.x0)
theorem ovB_comm (a b : Bx) : ovB a b = ovB b a := by unfold ovB; rw [minI_comm, maxI_comm a.x0]
/-- The side that the second box, which stands on the first, has in common with it. -/
def fB (a b : Bx) : Int := if a.y1 = b.y0 then ovB a b else 0
def perB (b : Bx) : Int := 2 * (b.x1 - b.x0) + 2 * (b.y1 - b.y0)

/-- All pairs, the lower one first. -/
def pairs : List Bx → Int
  | [] => 0
  | b :: t => sumB (fB b) t + pairs t
theorem pairs_snoc (l : List Bx) (b : Bx) : pairs (l ++ [b]) = pairs l + sumB (fun a => fB a b) l := by
  induction l with
  | nil => simp [pairs, sumB]
  | cons a t ih =>
    simp only [List.cons_append, pairs, sumB, ih, sumB_append]
    omega

theorem rim_exchange : ∀ (suf pre : List Bx), (∀ b ∈ suf, b.y0 < b.y1) → (pre ++ suf).Pairwise (fun a b => a.y0 ≤ b.y0) → sumB (fun b => sumB (fB b) (pre ++ suf)) suf = pairs suf := by
  intro suf
  induction suf with
  | nil => intro pre _ _; rfl
  | cons b t ih =>
    intro pre hv hp
    have h1 := ih (pre ++ [b]) (fun q hq => hv q (by simp [hq])) (by simpa using hp)
    simp only [List.append_assoc, List.singleton_append] at h1
    have hpp := List.pairwise_append.1 hp
    have hb : b.y0 < b.y1 := hv b (by simp)
    have hz : sumB (fB b) pre = 0 := sumB_zero fun c hc => by
      have h2 := hpp.2.2 c hc b (by simp)
      unfold fB; rw [if_neg (by omega)]
    have hs : fB b b = 0 := by unfold fB; rw [if_neg (by omega)]
    simp only [sumB, pairs]
    rw [h1, sumB_append, hz]
    simp only [sumB]
    rw [hs]
    omega

/-- In the one form the heights rise. -/
theorem FormB.rise : ∀ (rows : List (List Bx)) (below : List Bx), FormB below rows → rows.flatten.Pairwise (fun a b => a.y0 ≤ b.y0) ∧ ∀ b ∈ rows.flatten, below = [] ∨ hy1 below ≤ b.y0 := by
  intro rows
  induction rows with
  | nil => intro below _; simp
  | cons r rest ih =>
    intro below h
    obtain ⟨i1, i2⟩ := ih r h.2.2.2.2.2
    have hr : ∀ b ∈ r, b.y0 = hy0 r := fun b hb => (h.2.2.1.y b hb).1
    refine ⟨?_, fun b hb => ?_⟩
    · rw [List.flatten_cons, List.pairwise_append]
      refine ⟨?_, i1, fun a ha b hb => ?_⟩
      · rw [List.pairwise_iff_forall_sublist]
        intro a b hs
        have ha := hs.subset (show a ∈ [a, b] by simp)
        have hb := hs.subset (show b ∈ [a, b] by simp)
        rw [hr a ha, hr b hb]; exact Int.le_refl _
      · rcases i2 b hb with e | e
        · exact absurd e h.1
        · have := hr a ha; have := h.2.1; omega
    · rw [List.flatten_cons, List.mem_append] at hb
      rcases h.2.2.2.1 with e | e
      · exact Or.inl e
      · refine Or.inr ?_
        rcases hb with hb | hb
        · have := hr b hb; omega
        · rcases i2 b hb with e2 | e2
          · exact absurd e2 h.1
          · have := h.2.1; omega

/-- The rim of boxes. -/
def rimS (s : List Bx) : Int := sumB perB s - 2 * pairs s
def rimT (s : List Bx) (l : List Bx) : Int := sumB (fun b => perB b - 2 * sumB (fB b) s) l
theorem sumB_lin (g f : Bx → Int) (l : List Bx) : sumB (fun b => g b - 2 * f b) l = sumB g l - 2 * sumB f l := by
  induction l with
  | nil => rfl
  | cons b t ih => simp only [sumB, ih]; omega
theorem rim_same {s : List Bx} (hv : ∀ b ∈ s, b.x0 < b.x1 ∧ b.y0 < b.y1) (h : inForm s.length [] s = true) : rimT s s = rimS s := by
  obtain ⟨rows, hr, hF⟩ := inForm_rows _ [] s (Nat.le_refl _) hv ⟨0, 0, Canon.nil _ _⟩ h
  have hp := (FormB.rise rows [] hF).1
  rw [← hr] at hp
  have := rim_exchange s [] (fun b hb => (hv b hb).2) (by simpa using hp)
  unfold rimT rimS
  rw [sumB_lin]
  simp only [List.nil_append] at this
  rw [this]

end Go.Proofs.Ytlnhfgacgbdjaaa

namespace Go.Proofs.Ytlnhfgacgbdjaaa
open Go.RowKit
set_option linter.unusedVariables false
set_option linter.unusedSimpArgs false

theorem shapeK_zero {s : List Bx} (h : shapeK s = 0) : boxesK s = 0 ∧ inForm s.length [] s = true := by
  unfold shapeK at h
  split at h
  · rename_i h0
    split at h
    · rename_i h1; exact ⟨h0, h1⟩
    · cases h
  · rename_i h0; exact absurd h h0

def Good (s : List Bx) : Prop := ∀ b ∈ s, b.x0 < b.x1 ∧ b.y0 < b.y1 ∧ -10000 ≤ b.x0 ∧ -10000 ≤ b.y0 ∧ b.x1 ≤ 10000 ∧ b.y1 ≤ 10000
theorem Good.at {s : List Bx} (h : Good s) {k : Nat} (hk : k < s.length) {b : Bx} (hb : b = bat s k) : b.x0 < b.x1 ∧ b.y0 < b.y1 ∧ -10000 ≤ b.x0 ∧ -10000 ≤ b.y0 ∧ b.x1 ≤ 10000 ∧ b.y1 ≤ 10000 := by
  rw [hb, bat_get hk]; exact h _ (List.getElem_mem _)
theorem ovB_bd {a b : Bx} (ha : -10000 ≤ a.x0 ∧ a.x1 ≤ 10000) : 0 ≤ ovB a b ∧ ovB a b ≤ 20000 := by
  unfold ovB maxI minI
  repeat' split
  all_goals omega
theorem fB_bd {s : List Bx} (h : Good s) {a b : Bx} (ha : a ∈ s) : 0 ≤ fB a b ∧ fB a b ≤ 20000 := by
  unfold fB
  split
  · have := h a ha; exact ovB_bd ⟨this.2.2.1, this.2.2.2.2.1⟩
  · omega
theorem perB_bd {s : List Bx} (h : Good s) {a : Bx} (ha : a ∈ s) : 0 ≤ perB a ∧ perB a ≤ 80000 := by
  have := h a ha
  unfold perB
  omega
theorem sub_bd {l s : List Bx} (h : Good s) (hs : ∀ b ∈ l, b ∈ s) (hl : l.length ≤ 150) : 0 ≤ sumB perB l ∧ sumB perB l ≤ 12000000 := by
  have := sumB_bd (m := 80000) (g := perB) (s := l) fun b hb => perB_bd h (hs b hb)
  omega
theorem subF_bd {l s : List Bx} (h : Good s) (hs : ∀ b ∈ l, b ∈ s) (hl : l.length ≤ 150) (b : Bx) : 0 ≤ sumB (fun a => fB a b) l ∧ sumB (fun a => fB a b) l ≤ 3000000 := by
  have := sumB_bd (m := 20000) (g := fun a => fB a b) (s := l) fun a ha => fB_bd h (hs a ha)
  omega
theorem subG_bd {l s : List Bx} (h : Good s) {b : Bx} (hb : b ∈ s) (hl : l.length ≤ 150) : 0 ≤ sumB (fB b) l ∧ sumB (fB b) l ≤ 3000000 := by
  have := sumB_bd (m := 20000) (g := fB b) (s := l) fun a ha => fB_bd h hb
  omega
theorem pairs_bd {s : List Bx} (h : Good s) : ∀ (l : List Bx), (∀ b ∈ l, b ∈ s) → l.length ≤ 150 → 0 ≤ pairs l ∧ pairs l ≤ 3000000 * (l.length : Int) := by
  intro l
  induction l with
  | nil => intro _ _; simp [pairs]
  | cons b t ih =>
    intro hs hl
    simp only [List.length_cons] at hl
    have h1 := ih (fun q hq => hs q (by simp [hq])) (by omega)
    have h2 := subG_bd (l := t) h (hs b (by simp)) (by omega)
    simp only [pairs, List.length_cons]
    omega


/-- The result's block, behind a call. -/
theorem res_kept {w w1 : World} {o : Obj} (hb : Below (w.alloc o).heap.size (w.alloc o) w1) : w1.heap[w.heap.size]? = some o ∧ w.heap.size < w1.heap.size ∧ Below w.heap.size w w1 := by
  have h1 := hb.size
  simp at h1
  refine ⟨(hb.block _ (by simp)).trans (heap_alloc_new w o), by omega, ?_⟩
  exact ((Below.refl _ _).alloc (Nat.le_refl _) _).trans (hb.mono (by simp))
theorem res_next {w1 w2 : World} {k : Nat} {o : Obj} (h : w1.heap[k]? = some o) (hb : Below w1.heap.size w1 w2) : w2.heap[k]? = some o := by
  have hk : k < w1.heap.size := by
    rcases Nat.lt_or_ge k w1.heap.size with h' | h'
    · exact h'
    · rw [Array.getElem?_eq_none h'] at h; cases h
  exact (hb.block k hk).trans h
theorem two_cells {w : World} {k : Nat} {a b : Value} {t : TypeId} (h : w.heap[k]? = some (.cells #[a, b] t)) : w.cell? ⟨k, 0, none⟩ = some a ∧ w.cell? ⟨k, 1, none⟩ = some b ∧ w.frozen? ⟨k, 0, none⟩ = false ∧ w.frozen? ⟨k, 1, none⟩ = false ∧ k < w.heap.size := by
  refine ⟨by simp [World.cell?, h], by simp [World.cell?, h], by simp [World.frozen?, h], by simp [World.frozen?, h], ?_⟩
  rcases Nat.lt_or_ge k w.heap.size with h' | h'
  · exact h'
  · rw [Array.getElem?_eq_none h'] at h; cases h


theorem fB_if {b t : Bx} (hq : t.y0 = b.y1) : fB b t = if (if b.x0 < t.x0 then t.x0 else b.x0) < (if t.x1 < b.x1 then t.x1 else b.x1) then (if t.x1 < b.x1 then t.x1 else b.x1) - (if b.x0 < t.x0 then t.x0 else b.x0) else 0 := by
  unfold fB ovB maxI minI
  rw [if_pos hq.symm]
  repeat' split
  all_goals omega

set_option maxHeartbeats 1600000 in
theorem impl_sides (b t : Bx) (w : World) (hb : -10000 ≤ b.x0 ∧ b.x0 ≤ 10000 ∧ -10000 ≤ b.x1 ∧ b.x1 ≤ 10000) (ht : -10000 ≤ t.x0 ∧ t.x0 ≤ 10000 ∧ -10000 ≤ t.x1 ∧ t.x1 ≤ 10000) :
    Calls Try.prog 54 #[.agg #[.int .i64 b.x0, .int .i64 b.y0, .int .i64 b.x1, .int .i64 b.y1], .agg #[.int .i64 t.x0, .int .i64 t.y0, .int .i64 t.x1, .int .i64 t.y1]] w fun e w' => e = .returned (.int .i64 (fB b t)) ∧ Below w.heap.size w w' := by
  by_cases hq : t.y0 = b.y1
  · have HF : Hid (fB b t = if (if b.x0 < t.x0 then t.x0 else b.x0) < (if t.x1 < b.x1 then t.x1 else b.x1) then (if t.x1 < b.x1 then t.x1 else b.x1) - (if b.x0 < t.x0 then t.x0 else b.x0) else 0) := fB_if hq
    go_enter Try.func54, Try.ntmps54
    go_wp2
    all_goals
      go_returns
      refine ⟨congrArg (fun z => Ending.returned (Value.int IntKind.i64 z)) ?_, by (repeat' (first | (with_reducible exact Below.refl _ _) | (with_reducible assumption) | (with_reducible refine Below.setCell ?_ ?_ _) | (with_reducible refine Below.alloc ?_ ?_ _) | (with_reducible refine below_drewN ?_ _) | (with_reducible refine Below.drew ?_) | (with_reducible exact Nat.le_refl _) | omega | (simp; done) | (simp; omega)))⟩
      rw [HF.out]
      (repeat' split) <;> omega
  · have HF : Hid (fB b t = 0) := by unfold Hid fB; rw [if_neg (fun e => hq e.symm)]
    go_enter Try.func54, Try.ntmps54
    go_wp2
    go_returns
    exact ⟨by rw [HF.out]; rfl, by (repeat' (first | (with_reducible exact Below.refl _ _) | (with_reducible assumption) | (with_reducible refine Below.setCell ?_ ?_ _) | (with_reducible refine Below.alloc ?_ ?_ _) | (with_reducible refine below_drewN ?_ _) | (with_reducible refine Below.drew ?_) | (with_reducible exact Nat.le_refl _) | omega | (simp; done) | (simp; omega)))⟩

end Go.Proofs.Ytlnhfgacgbdjaaa
