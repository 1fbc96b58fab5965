/- Proved here: two lists of boxes in the one form that have the same cells are the same list; and which cells the sweep over the heights leaves. No condition on the program. -/
import Derived.Test.YtmdijanohjkeeaaShMath2
namespace Go.Proofs.Ytmdijanohjkeeaa
set_option linter.unusedVariables false
set_option linter.unusedSimpArgs false

/-- A row's runs at another height. -/
def lay (a b : Int) (l : List Bx) : List Bx := l.map fun r => ⟨r.x0, a, r.x1, b⟩
theorem lay_canon {a b c d : Int} {l : List Bx} (h : Canon c d l) : Canon a b (lay a b l) := by
  refine ⟨fun r hr => ?_, ?_⟩
  · obtain ⟨q, hq, rfl⟩ := List.mem_map.1 hr
    exact ⟨rfl, rfl, (h.y q hq).2.2⟩
  · unfold lay; rw [List.pairwise_map]; exact h.gap
theorem lay_cov {a b : Int} (l : List Bx) (x : Int) : Cov (lay a b l) x ↔ Cov l x := by
  constructor
  · rintro ⟨r, hr, h⟩
    obtain ⟨q, hq, rfl⟩ := List.mem_map.1 hr
    exact ⟨q, hq, h⟩
  · rintro ⟨q, hq, h⟩
    exact ⟨_, List.mem_map.2 ⟨q, hq, rfl⟩, h⟩
theorem sameRuns_lay (a b : Int) : ∀ l : List Bx, sameRuns l (lay a b l) = true := by
  intro l
  induction l with
  | nil => rfl
  | cons x t ih =>
    have : lay a b (x :: t) = ⟨x.x0, a, x.x1, b⟩ :: lay a b t := rfl
    rw [this, sameRuns, ih]
    simp
theorem cov_same {a b c d : Int} {r q : List Bx} (hr : Canon a b r) (hq : Canon c d q) (h : ∀ x, Cov r x ↔ Cov q x) : q = lay c d r :=
  canon_uniq hq (lay_canon hr) fun x => by rw [lay_cov]; exact (h x).symm
theorem cov_ne {a b : Int} {r : List Bx} (h : Canon a b r) (hn : r ≠ []) : ∃ x, Cov r x := by
  cases r with
  | nil => exact absurd rfl hn
  | cons p t => exact ⟨p.x0, p, by simp, by omega, (h.y p (by simp)).2.2⟩
theorem cov_nil (x : Int) : ¬ Cov [] x := by rintro ⟨r, hr, _⟩; cases hr
theorem rowK_append (s t : List Bx) (y : Int) : rowK (s ++ t) y = rowK s y ++ rowK t y := by unfold rowK; rw [List.filter_append]
theorem cov_append (s t : List Bx) (x : Int) : Cov (s ++ t) x ↔ Cov s x ∨ Cov t x := by
  constructor
  · rintro ⟨r, hr, h⟩
    rcases List.mem_append.1 hr with hr | hr
    · exact Or.inl ⟨r, hr, h⟩
    · exact Or.inr ⟨r, hr, h⟩
  · rintro (⟨r, hr, h⟩ | ⟨r, hr, h⟩)
    · exact ⟨r, List.mem_append.2 (Or.inl hr), h⟩
    · exact ⟨r, List.mem_append.2 (Or.inr hr), h⟩
theorem rowK_at {r : List Bx} {a b y : Int} (h : Canon a b r) : rowK r y = if a ≤ y ∧ y < b then r else [] := by
  unfold rowK
  split
  · rw [List.filter_eq_self]
    intro q hq
    have := h.y q hq
    simp; omega
  · rw [List.filter_eq_nil_iff]
    intro q hq
    have := h.y q hq
    simp; omega
/-- The cells of a list. -/
def Cell (s : List Bx) (x y : Int) : Prop := Cov (rowK s y) x
/-- Bands from the first on: the row at a height. -/
theorem form_head {r : List Bx} {rest : List (List Bx)} {below : List Bx} (h : FormB below (r :: rest)) (y : Int) : rowK (r :: rest).flatten y = if hy0 r ≤ y ∧ y < hy1 r then r else if y < hy0 r then [] else rowK rest.flatten y := by
  rw [List.flatten_cons, rowK_append, rowK_at h.2.2.1]
  have ho := FormB.over h.1 h.2.2.2.2.2
  have hlt := h.2.1
  have hnil : y < hy1 r → rowK rest.flatten y = [] := fun hy => rowK_over h.2.2.2.2.2 (by
    cases rest with
    | nil => trivial
    | cons q u => have h3 : hy1 r ≤ hy0 q := ho; show y + 1 ≤ hy0 q; omega)
  by_cases h1 : hy0 r ≤ y ∧ y < hy1 r
  · rw [if_pos h1, if_pos h1, hnil h1.2, List.append_nil]
  · rw [if_neg h1, if_neg h1, List.nil_append]
    by_cases h2 : y < hy0 r
    · rw [if_pos h2, hnil (by omega)]
    · rw [if_neg h2]
/-- One band cannot end while the other goes on. -/
theorem form_ends {r q : List Bx} {below : List Bx} {rest : List (List Bx)} {u : List Bx} (h : FormB below (r :: rest)) (hq : Canon (hy0 q) (hy1 q) q) (hqn : q ≠ []) (h0 : hy0 r = hy0 q) (hlt : hy1 r < hy1 q) (hs : ∀ x, Cov r x ↔ Cov q x) (hc : ∀ x, Cov (rowK rest.flatten (hy1 r)) x ↔ Cov q x) : False := by
  obtain ⟨x0, hx0⟩ := cov_ne hq hqn
  cases rest with
  | nil => exact cov_nil x0 (by simpa [rowK] using (hc x0).2 hx0)
  | cons p rest =>
    have hF := h.2.2.2.2.2
    have ho : hy1 r ≤ hy0 p := FormB.over h.1 hF
    rw [form_head hF] at hc
    by_cases e : hy0 p ≤ hy1 r ∧ hy1 r < hy1 p
    · rw [if_pos e] at hc
      have hp : p = lay (hy0 p) (hy1 p) r := cov_same h.2.2.1 hF.2.2.1 fun x => (hs x).trans (hc x).symm
      have hg := hF.2.2.2.2.1
      have : goesK p r (hy0 p) = true := by
        unfold goesK
        have e1 : p.isEmpty = false := by simpa using hF.1
        have e2 : r.isEmpty = false := by simpa using h.1
        have e3 : (hy1 r == hy0 p) = true := by simp; omega
        have e4 : sameRuns r p = true := by rw [hp]; exact sameRuns_lay _ _ _
        simp [e1, e2, e3, e4]
      rw [this] at hg
      cases hg
    · have hlt2 := hF.2.1
      rw [if_neg e, if_pos (by omega)] at hc
      exact cov_nil x0 ((hc x0).2 hx0)
/-- The one form is one. -/
theorem form_uniq : ∀ (rows qows : List (List Bx)) (below : List Bx), FormB below rows → FormB below qows → (∀ x y, Cell rows.flatten x y ↔ Cell qows.flatten x y) → rows = qows := by
  intro rows
  induction rows with
  | nil =>
    intro qows below _ hq hc
    cases qows with
    | nil => rfl
    | cons q rest =>
      exfalso
      obtain ⟨x, hx⟩ := cov_ne hq.2.2.1 hq.1
      have hlt := hq.2.1
      have := (hc x (hy0 q)).2 (by unfold Cell; rw [form_head hq, if_pos ⟨Int.le_refl _, hlt⟩]; exact hx)
      exact cov_nil x (by simpa [Cell, rowK] using this)
  | cons r rest ih =>
    intro qows below hr hq hc
    obtain ⟨x0, hx0⟩ := cov_ne hr.2.2.1 hr.1
    have hrl := hr.2.1
    have at0 : Cell (r :: rest).flatten x0 (hy0 r) := by unfold Cell; rw [form_head hr, if_pos ⟨Int.le_refl _, hrl⟩]; exact hx0
    cases qows with
    | nil => exact absurd (by simpa [Cell, rowK] using (hc x0 (hy0 r)).1 at0) (cov_nil x0)
    | cons q qest =>
      obtain ⟨x1, hx1⟩ := cov_ne hq.2.2.1 hq.1
      have hql := hq.2.1
      have at1 : Cell (q :: qest).flatten x1 (hy0 q) := by unfold Cell; rw [form_head hq, if_pos ⟨Int.le_refl _, hql⟩]; exact hx1
      have h01 : hy0 q ≤ hy0 r := by
        apply Int.not_lt.1
        intro hlt
        have := (hc x0 (hy0 r)).1 at0
        unfold Cell at this
        rw [form_head hq, if_neg (by omega), if_pos hlt] at this
        exact cov_nil _ this
      have h10 : hy0 r ≤ hy0 q := by
        apply Int.not_lt.1
        intro hlt
        have := (hc x1 (hy0 q)).2 at1
        unfold Cell at this
        rw [form_head hr, if_neg (by omega), if_pos hlt] at this
        exact cov_nil _ this
      have h0 : hy0 r = hy0 q := by omega
      have hs : ∀ x, Cov r x ↔ Cov q x := by
        intro x
        have := hc x (hy0 r)
        unfold Cell at this
        rw [form_head hr, form_head hq, if_pos ⟨Int.le_refl _, hrl⟩, if_pos (by omega)] at this
        exact this
      have h1 : hy1 r = hy1 q := by
        rcases Int.lt_trichotomy (hy1 r) (hy1 q) with hlt | he | hlt
        · exfalso
          refine form_ends (u := r) hr hq.2.2.1 hq.1 h0 hlt hs fun x => ?_
          have := hc x (hy1 r)
          unfold Cell at this
          rw [form_head hr, form_head hq, if_neg (by omega), if_neg (by omega), if_pos (by omega)] at this
          exact this
        · exact he
        · exfalso
          refine form_ends (u := r) hq hr.2.2.1 hr.1 h0.symm hlt (fun x => (hs x).symm) fun x => ?_
          have := hc x (hy1 q)
          unfold Cell at this
          rw [form_head hr, form_head hq, if_pos (by omega), if_neg (by omega), if_neg (by omega)] at this
          exact this.symm
      have hrq : r = q := canon_uniq hr.2.2.1 (by rw [h0, h1]; exact hq.2.2.1) hs
      subst hrq
      rw [ih qest r hr.2.2.2.2.2 hq.2.2.2.2.2 fun x y => ?_]
      have hro := FormB.over hr.1 hr.2.2.2.2.2
      have hqo := FormB.over hq.1 hq.2.2.2.2.2
      by_cases hy : y < hy1 r
      · have e1 : rowK rest.flatten y = [] := rowK_over hr.2.2.2.2.2 (by
          cases rest with
          | nil => trivial
          | cons p u => have h3 : hy1 r ≤ hy0 p := hro; show y + 1 ≤ hy0 p; omega)
        have e2 : rowK qest.flatten y = [] := rowK_over hq.2.2.2.2.2 (by
          cases qest with
          | nil => trivial
          | cons p u => have h3 : hy1 r ≤ hy0 p := hqo; show y + 1 ≤ hy0 p; omega)
        unfold Cell
        rw [e1, e2]
      · have := hc x y
        unfold Cell at this ⊢
        rw [form_head hr, form_head hq, if_neg (by omega), if_neg (by omega), if_neg (by omega), if_neg (by omega)] at this
        exact this

end Go.Proofs.Ytmdijanohjkeeaa
