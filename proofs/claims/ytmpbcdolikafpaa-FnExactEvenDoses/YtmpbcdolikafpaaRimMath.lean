/- Proved here: the rim of boxes in the one form, counted from below and from above. No condition on the program. (And ahead of it: Proved here: which cells the sweep over the heights leaves: at each place, as the word K says of the two lists there. No condition on the program.) (And ahead of it: Proved here: two lists of boxes in the one form that have the same cells are the same list; and which cells the sweep over the heights leaves. No condition on the program.) -/
import Derived.Test.YtmpbcdolikafpaaShMath2
namespace Go.Proofs.Ytmpbcdolikafpaa
set_option linter.unusedVariables false
set_option linter.unusedSimpArgs false

/-- A row's runs at another height. -/
def lay (a b : Int) (l : List Bx) : List Bx := l.map fun r => ⟨r.x0, a, r.x1, b⟩
theorem lay_canon {a b c d : Int} {l : List Bx} (h : Canon c d l) : Canon a b (lay a b l) := by
  refine ⟨fun r hr => ?_, ?_⟩
  · obtain ⟨q, hq, rfl⟩ := List.mem_map.1 hr
    exact ⟨rfl, rfl, (h.y q hq).2.2⟩
  · unfold lay; rw [List.pairwise_map]; exact h.gap
theorem lay_cov {a b : Int} (l : List Bx) (x : Int) : Cov (lay a b l) x ↔ Cov l x := by
  constructor
  · rintro ⟨r, hr, h⟩
    obtain ⟨q, hq, rfl⟩ := List.mem_map.1 hr
    exact ⟨q, hq, h⟩
  · rintro ⟨q, hq, h⟩
    exact ⟨_, List.mem_map.2 ⟨q, hq, rfl⟩, h⟩
theorem sameRuns_lay (a b : Int) : ∀ l : List Bx, sameRuns l (lay a b l) = true := by
  intro l
  induction l with
  | nil => rfl
  | cons x t ih =>
    have : lay a b (x :: t) = ⟨x.x0, a, x.x1, b⟩ :: lay a b t := rfl
    rw [this, sameRuns, ih]
    simp
theorem cov_same {a b c d : Int} {r q : List Bx} (hr : Canon a b r) (hq : Canon c d q) (h : ∀ x, Cov r x ↔ Cov q x) : q = lay c d r :=
  canon_uniq hq (lay_canon hr) fun x => by rw [lay_cov]; exact (h x).symm
theorem cov_ne {a b : Int} {r : List Bx} (h : Canon a b r) (hn : r ≠ []) : ∃ x, Cov r x := by
  cases r with
  | nil => exact absurd rfl hn
  | cons p t => exact ⟨p.x0, p, by simp, by omega, (h.y p (by simp)).2.2⟩
theorem cov_nil (x : Int) : ¬ Cov [] x := by rintro ⟨r, hr, _⟩; cases hr
theorem rowK_append (s t : List Bx) (y : Int) : rowK (s ++ t) y = rowK s y ++ rowK t y := by unfold rowK; rw [List.filter_append]
theorem cov_append (s t : List Bx) (x : Int) : Cov (s ++ t) x ↔ Cov s x ∨ Cov t x := by
  constructor
  · rintro ⟨r, hr, h⟩
    rcases List.mem_append.1 hr with hr | hr
    · exact Or.inl ⟨r, hr, h⟩
    · exact Or.inr ⟨r, hr, h⟩
  · rintro (⟨r, hr, h⟩ | ⟨r, hr, h⟩)
    · exact ⟨r, List.mem_append.2 (Or.inl hr), h⟩
    · exact ⟨r, List.mem_append.2 (Or.inr hr), h⟩
theorem rowK_at {r : List Bx} {a b y : Int} (h : Canon a b r) : rowK r y = if a ≤ y ∧ y < b then r else [] := by
  unfold rowK
  split
  · rw [List.filter_eq_self]
    intro q hq
    have := h.y q hq
    simp; omega
  · rw [List.filter_eq_nil_iff]
    intro q hq
    have := h.y q hq
    simp; omega
/-- The cells of a list. -/
def Cell (s : List Bx) (x y : Int) : Prop := Cov (rowK s y) x
/-- Bands from the first on: the row at a height. -/
theorem form_head {r : List Bx} {rest : List (List Bx)} {below : List Bx} (h : FormB below (r :: rest)) (y : Int) : rowK (r :: rest).flatten y = if hy0 r ≤ y ∧ y < hy1 r then r else if y < hy0 r then [] else rowK rest.flatten y := by
  rw [List.flatten_cons, rowK_append, rowK_at h.2.2.1]
  have ho := FormB.over h.1 h.2.2.2.2.2
  have hlt := h.2.1
  have hnil : y < hy1 r → rowK rest.flatten y = [] := fun hy => rowK_over h.2.2.2.2.2 (by
    cases rest with
    | nil => trivial
    | cons q u => have h3 : hy1 r ≤ hy0 q := ho; show y + 1 ≤ hy0 q; omega)
  by_cases h1 : hy0 r ≤ y ∧ y < hy1 r
  · rw [if_pos h1, if_pos h1, hnil h1.2, List.append_nil]
  · rw [if_neg h1, if_neg h1, List.nil_append]
    by_cases h2 : y < hy0 r
    · rw [if_pos h2, hnil (by omega)]
    · rw [if_neg h2]
/-- One band cannot end while the other goes on. -/
theorem form_ends {r q : List Bx} {below : List Bx} {rest : List (List Bx)} {u : List Bx} (h : FormB below (r :: rest)) (hq : Canon (hy0 q) (hy1 q) q) (hqn : q ≠ []) (h0 : hy0 r = hy0 q) (hlt : hy1 r < hy1 q) (hs : ∀ x, Cov r x ↔ Cov q x) (hc : ∀ x, Cov (rowK rest.flatten (hy1 r)) x ↔ Cov q x) : False := by
  obtain ⟨x0, hx0⟩ := cov_ne hq hqn
  cases rest with
  | nil => exact cov_nil x0 (by simpa [rowK] using (hc x0).2 hx0)
  | cons p rest =>
    have hF := h.2.2.2.2.2
    have ho : hy1 r ≤ hy0 p := FormB.over h.1 hF
    rw [form_head hF] at hc
    by_cases e : hy0 p ≤ hy1 r ∧ hy1 r < hy1 p
    · rw [if_pos e] at hc
      have hp : p = lay (hy0 p) (hy1 p) r := cov_same h.2.2.1 hF.2.2.1 fun x => (hs x).trans (hc x).symm
      have hg := hF.2.2.2.2.1
      have : goesK p r (hy0 p) = true := by
        unfold goesK
        have e1 : p.isEmpty = false := by simpa using hF.1
        have e2 : r.isEmpty = false := by simpa using h.1
        have e3 : (hy1 r == hy0 p) = true := by simp; omega
        have e4 : sameRuns r p = true := by rw [hp]; exact sameRuns_lay _ _ _
        simp [e1, e2, e3, e4]
      rw [this] at hg
      cases hg
    · have hlt2 := hF.2.1
      rw [if_neg e, if_pos (by omega)] at hc
      exact cov_nil x0 ((hc x0).2 hx0)
/-- The one form is one. -/
theorem form_uniq : ∀ (rows qows : List (List Bx)) (below : List Bx), FormB below rows → FormB below qows → (∀ x y, Cell rows.flatten x y ↔ Cell qows.flatten x y) → rows = qows := by
  intro rows
  induction rows with
  | nil =>
    intro qows below _ hq hc
    cases qows with
    | nil => rfl
    | cons q rest =>
      exfalso
      obtain ⟨x, hx⟩ := cov_ne hq.2.2.1 hq.1
      have hlt := hq.2.1
      have := (hc x (hy0 q)).2 (by unfold Cell; rw [form_head hq, if_pos ⟨Int.le_refl _, hlt⟩]; exact hx)
      exact cov_nil x (by simpa [Cell, rowK] using this)
  | cons r rest ih =>
    intro qows below hr hq hc
    obtain ⟨x0, hx0⟩ := cov_ne hr.2.2.1 hr.1
    have hrl := hr.2.1
    have at0 : Cell (r :: rest).flatten x0 (hy0 r) := by unfold Cell; rw [form_head hr, if_pos ⟨Int.le_refl _, hrl⟩]; exact hx0
    cases qows with
    | nil => exact absurd (by simpa [Cell, rowK] using (hc x0 (hy0 r)).1 at0) (cov_nil x0)
    | cons q qest =>
      obtain ⟨x1, hx1⟩ := cov_ne hq.2.2.1 hq.1
      have hql := hq.2.1
      have at1 : Cell (q :: qest).flatten x1 (hy0 q) := by unfold Cell; rw [form_head hq, if_pos ⟨Int.le_refl _, hql⟩]; exact hx1
      have h01 : hy0 q ≤ hy0 r := by
        apply Int.not_lt.1
        intro hlt
        have := (hc x0 (hy0 r)).1 at0
        unfold Cell at this
        rw [form_head hq, if_neg (by omega), if_pos hlt] at this
        exact cov_nil _ this
      have h10 : hy0 r ≤ hy0 q := by
        apply Int.not_lt.1
        intro hlt
        have := (hc x1 (hy0 q)).2 at1
        unfold Cell at this
        rw [form_head hr, if_neg (by omega), if_pos hlt] at this
        exact cov_nil _ this
      have h0 : hy0 r = hy0 q := by omega
      have hs : ∀ x, Cov r x ↔ Cov q x := by
        intro x
        have := hc x (hy0 r)
        unfold Cell at this
        rw [form_head hr, form_head hq, if_pos ⟨Int.le_refl _, hrl⟩, if_pos (by omega)] at this
        exact this
      have h1 : hy1 r = hy1 q := by
        rcases Int.lt_trichotomy (hy1 r) (hy1 q) with hlt | he | hlt
        · exfalso
          refine form_ends (u := r) hr hq.2.2.1 hq.1 h0 hlt hs fun x => ?_
          have := hc x (hy1 r)
          unfold Cell at this
          rw [form_head hr, form_head hq, if_neg (by omega), if_neg (by omega), if_pos (by omega)] at this
          exact this
        · exact he
        · exfalso
          refine form_ends (u := r) hq hr.2.2.1 hr.1 h0.symm hlt (fun x => (hs x).symm) fun x => ?_
          have := hc x (hy1 q)
          unfold Cell at this
          rw [form_head hr, form_head hq, if_pos (by omega), if_neg (by omega), if_neg (by omega)] at this
          exact this.symm
      have hrq : r = q := canon_uniq hr.2.2.1 (by rw [h0, h1]; exact hq.2.2.1) hs
      subst hrq
      rw [ih qest r hr.2.2.2.2.2 hq.2.2.2.2.2 fun x y => ?_]
      have hro := FormB.over hr.1 hr.2.2.2.2.2
      have hqo := FormB.over hq.1 hq.2.2.2.2.2
      by_cases hy : y < hy1 r
      · have e1 : rowK rest.flatten y = [] := rowK_over hr.2.2.2.2.2 (by
          cases rest with
          | nil => trivial
          | cons p u => have h3 : hy1 r ≤ hy0 p := hro; show y + 1 ≤ hy0 p; omega)
        have e2 : rowK qest.flatten y = [] := rowK_over hq.2.2.2.2.2 (by
          cases qest with
          | nil => trivial
          | cons p u => have h3 : hy1 r ≤ hy0 p := hqo; show y + 1 ≤ hy0 p; omega)
        unfold Cell
        rw [e1, e2]
      · have := hc x y
        unfold Cell at this ⊢
        rw [form_head hr, form_head hq, if_neg (by omega), if_neg (by omega), if_neg (by omega), if_neg (by omega)] at this
        exact this

end Go.Proofs.Ytmpbcdolikafpaa

namespace Go.Proofs.Ytmpbcdolikafpaa
set_option linter.unusedVariables false
set_option linter.unusedSimpArgs false

theorem sameRuns_cov (x : Int) : ∀ l m : List Bx, sameRuns l m = true → (Cov l x ↔ Cov m x) := by
  intro l
  induction l with
  | nil =>
    intro m h
    cases m with
    | nil => exact Iff.rfl
    | cons b t => cases h
  | cons a t ih =>
    intro m h
    cases m with
    | nil => cases h
    | cons b u =>
      simp only [sameRuns, Bool.and_eq_true, beq_iff_eq] at h
      have e1 : Cov (a :: t) x ↔ (a.x0 ≤ x ∧ x < a.x1) ∨ Cov t x := by simp [Cov]
      have e2 : Cov (b :: u) x ↔ (b.x0 ≤ x ∧ x < b.x1) ∨ Cov u x := by simp [Cov]
      rw [e1, e2, ih u h.2, h.1.1, h.1.2]
theorem raise_cov (l : List Bx) (d x : Int) : Cov (raise l d) x ↔ Cov l x := by
  constructor
  · rintro ⟨r, hr, h⟩
    obtain ⟨q, hq, rfl⟩ := List.mem_map.1 hr
    exact ⟨q, hq, h⟩
  · rintro ⟨q, hq, h⟩
    exact ⟨_, List.mem_map.2 ⟨q, hq, rfl⟩, h⟩
theorem cell_append (s t : List Bx) (x y : Int) : Cell (s ++ t) x y ↔ Cell s x y ∨ Cell t x y := by
  unfold Cell; rw [rowK_append, cov_append]
theorem cell_canon {r : List Bx} {a b x y : Int} (h : Canon a b r) : Cell r x y ↔ a ≤ y ∧ y < b ∧ Cov r x := by
  unfold Cell
  rw [rowK_at h]
  split
  · rename_i h1; exact ⟨fun h2 => ⟨h1.1, h1.2, h2⟩, fun h2 => h2.2.2⟩
  · rename_i h1; exact ⟨fun h2 => absurd h2 (cov_nil x), fun h2 => absurd ⟨h2.1, h2.2.1⟩ h1⟩
/-- The rows from one height to the next. -/
def Pieces (R : Int → Int → List Bx) (x y : Int) : List Int → Prop
  | a :: b :: rest => (a ≤ y ∧ y < b ∧ Cov (R a b) x) ∨ Pieces R x y (b :: rest)
  | _ => False
theorem stepO_cell {R : Int → Int → List Bx} {c d x y : Int} {st : List Bx × List Bx} (hcd : c < d) (hR : Canon c d (R c d)) (h : Held c st) : Cell ((stepO R st c d).1 ++ (stepO R st c d).2) x y ↔ Cell (st.1 ++ st.2) x y ∨ (c ≤ y ∧ y < d ∧ Cov (R c d) x) := by
  obtain ⟨rest, h1, hF, h2⟩ := h
  unfold stepO
  cases hg : goesK (R c d) st.2 c with
  | true =>
    rw [if_pos rfl]
    rcases h2 with ⟨h2, _⟩ | ⟨hne, a, hac, hca, hlo, hgo⟩
    · rw [h2, goesK_nil] at hg; cases hg
    · simp only [goesK, Bool.and_eq_true] at hg
      have hs := sameRuns_cov x _ _ hg.2.2.2
      simp only
      rw [cell_append, cell_append, cell_canon hca, cell_canon (raise_canon (d := d) hca), raise_cov, ← hs]
      constructor
      · rintro (h | ⟨h3, h4, h5⟩)
        · exact Or.inl (Or.inl h)
        · by_cases hy : y < c
          · exact Or.inl (Or.inr ⟨h3, hy, h5⟩)
          · exact Or.inr ⟨by omega, h4, h5⟩
      · rintro ((h | ⟨h3, h4, h5⟩) | ⟨h3, h4, h5⟩)
        · exact Or.inl h
        · exact Or.inr ⟨h3, by omega, h5⟩
        · exact Or.inr ⟨by omega, h4, h5⟩
  | false =>
    rw [if_neg (by simp)]
    simp only
    rw [cell_append, cell_canon hR]
theorem opK_cell {R : Int → Int → List Bx} (hR : ∀ c d, Canon c d (R c d)) (x y : Int) : ∀ (ys : List Int) (c : Int) (st : List Bx × List Bx), Up (c :: ys) → Held c st → (Cell (opK R (c :: ys) st) x y ↔ Cell (st.1 ++ st.2) x y ∨ Pieces R x y (c :: ys)) := by
  intro ys
  induction ys with
  | nil => intro c st _ _; simp [opK, Pieces]
  | cons d t ih =>
    intro c st hu h
    have hu' := List.pairwise_cons.1 hu
    have hcd := hu'.1 d (by simp)
    rw [opK, ih d _ hu'.2 (held_step hcd (hR c d) h), stepO_cell hcd (hR c d) h, Pieces, or_assoc]
theorem pieces_iff {R : Int → Int → List Bx} {x y : Int} {T : Prop} : ∀ (ys : List Int) (c : Int), Up (c :: ys) → (∀ a b, a ∈ c :: ys → b ∈ c :: ys → a ≤ y → y < b → (∀ z ∈ c :: ys, z ≤ a ∨ b ≤ z) → (Cov (R a b) x ↔ T)) →
    (Pieces R x y (c :: ys) ↔ (c ≤ y ∧ (∃ z ∈ c :: ys, y < z) ∧ T)) := by
  intro ys
  induction ys with
  | nil =>
    intro c _ _
    constructor
    · intro h; cases h
    · rintro ⟨h1, ⟨z, hz, h2⟩, _⟩
      simp at hz
      omega
  | cons d t ih =>
    intro c hu hT
    have hu' := List.pairwise_cons.1 hu
    have hcd := hu'.1 d (by simp)
    have hu2 := List.pairwise_cons.1 hu'.2
    rw [Pieces, ih d hu'.2 (fun a b ha hb h1 h2 hz => hT a b (by simp at ha ⊢; exact Or.inr ha) (by simp at hb ⊢; exact Or.inr hb) h1 h2 (fun z hz' => by
      rcases List.mem_cons.1 hz' with rfl | h
      · left
        have := hu'.1 a ha
        omega
      · exact hz z h))]
    by_cases hyd : y < d
    · constructor
      · rintro (⟨h1, h2, h3⟩ | ⟨h1, _⟩)
        · refine ⟨h1, ⟨d, by simp, hyd⟩, (hT c d (by simp) (by simp) h1 h2 (fun z hz => ?_)).1 h3⟩
          rcases List.mem_cons.1 hz with rfl | h
          · left; omega
          · rcases List.mem_cons.1 h with rfl | h
            · right; omega
            · right; have := hu2.1 z h; omega
        · omega
      · rintro ⟨h1, _, h3⟩
        refine Or.inl ⟨h1, hyd, (hT c d (by simp) (by simp) h1 hyd (fun z hz => ?_)).2 h3⟩
        rcases List.mem_cons.1 hz with rfl | h
        · left; omega
        · rcases List.mem_cons.1 h with rfl | h
          · right; omega
          · right; have := hu2.1 z h; omega
    · constructor
      · rintro (⟨h1, h2, h3⟩ | ⟨h1, ⟨z, hz, h2⟩, h3⟩)
        · omega
        · exact ⟨by omega, ⟨z, List.mem_cons.2 (Or.inr hz), h2⟩, h3⟩
      · rintro ⟨h1, ⟨z, hz, h2⟩, h3⟩
        refine Or.inr ⟨by omega, ⟨z, ?_, h2⟩, h3⟩
        rcases List.mem_cons.1 hz with rfl | h
        · omega
        · exact h
theorem rowK_even {s : List Bx} {ys : List Int} (h0 : ∀ b ∈ s, b.y0 ∈ ys ∧ b.y1 ∈ ys) {a b y : Int} (h1 : a ≤ y) (h2 : y < b) (hz : ∀ z ∈ ys, z ≤ a ∨ b ≤ z) : rowK s a = rowK s y := by
  unfold rowK
  apply List.filter_congr
  intro q hq
  obtain ⟨h3, h4⟩ := h0 q hq
  have e3 := hz _ h3
  have e4 := hz _ h4
  rw [Bool.eq_iff_iff]
  simp
  omega
theorem inK_row {s : List Bx} {x y : Int} (h : inK (rowK s y) x = true) : ∃ b ∈ s, b.y0 ≤ y ∧ y < b.y1 := by
  rw [inK_cov] at h
  obtain ⟨r, hr, _⟩ := h
  unfold rowK at hr
  rw [List.mem_filter] at hr
  refine ⟨r, hr.1, ?_⟩
  have := hr.2
  simp at this
  exact this
/-- The cells of what two lists make. -/
theorem opOf_cell (K : Bool → Bool → Bool) (hK : K false false = false) (s q : List Bx) (x y : Int) : Cell (opOf K s q) x y ↔ K (inK (rowK s y) x) (inK (rowK q y) x) = true := by
  unfold opOf
  have hu : Up (endsF Bx.y0 Bx.y1 (endsF Bx.y0 Bx.y1 [] s) q) := endsF_up _ _ _ (endsF_up _ _ _ List.Pairwise.nil)
  have hm : ∀ z, z ∈ endsF Bx.y0 Bx.y1 (endsF Bx.y0 Bx.y1 [] s) q ↔ (∃ b ∈ s, z = b.y0 ∨ z = b.y1) ∨ ∃ b ∈ q, z = b.y0 ∨ z = b.y1 := by
    intro z; rw [endsF_mem, endsF_mem]; simp
  generalize endsF Bx.y0 Bx.y1 (endsF Bx.y0 Bx.y1 [] s) q = ys at hu hm
  have hs : ∀ b ∈ s, b.y0 ∈ ys ∧ b.y1 ∈ ys := fun b hb => ⟨(hm _).2 (Or.inl ⟨b, hb, Or.inl rfl⟩), (hm _).2 (Or.inl ⟨b, hb, Or.inr rfl⟩)⟩
  have hq : ∀ b ∈ q, b.y0 ∈ ys ∧ b.y1 ∈ ys := fun b hb => ⟨(hm _).2 (Or.inr ⟨b, hb, Or.inl rfl⟩), (hm _).2 (Or.inr ⟨b, hb, Or.inr rfl⟩)⟩
  have hin : K (inK (rowK s y) x) (inK (rowK q y) x) = true → ∃ u ∈ ys, ∃ z ∈ ys, u ≤ y ∧ y < z := by
    intro h
    have : inK (rowK s y) x = true ∨ inK (rowK q y) x = true := by
      cases e1 : inK (rowK s y) x
      · cases e2 : inK (rowK q y) x
        · rw [e1, e2, hK] at h; cases h
        · exact Or.inr rfl
      · exact Or.inl rfl
    rcases this with h | h
    · obtain ⟨b, hb, h1, h2⟩ := inK_row h
      exact ⟨_, (hs b hb).1, _, (hs b hb).2, h1, h2⟩
    · obtain ⟨b, hb, h1, h2⟩ := inK_row h
      exact ⟨_, (hq b hb).1, _, (hq b hb).2, h1, h2⟩
  cases ys with
  | nil =>
    constructor
    · intro h; exact absurd (by simpa [opK, Cell, rowK] using h) (cov_nil x)
    · intro h; obtain ⟨u, hu, _⟩ := hin h; cases hu
  | cons c ys =>
    rw [opK_cell (fun c d => (runsOf_ok K hK _ _ c d).1) x y ys c _ hu ⟨[], rfl, trivial, Or.inl ⟨rfl, Or.inl rfl⟩⟩,
      pieces_iff (T := K (inK (rowK s y) x) (inK (rowK q y) x) = true) ys c hu (fun a b ha hb h1 h2 hz => by
        rw [(runsOf_ok K hK _ _ a b).2, rowK_even hs h1 h2 hz, rowK_even hq h1 h2 hz])]
    constructor
    · rintro (h | h)
      · exact absurd (by simpa [Cell, rowK] using h) (cov_nil x)
      · exact h.2.2
    · intro h
      obtain ⟨u, hu1, z, hz, h1, h2⟩ := hin h
      refine Or.inr ⟨?_, ⟨z, hz, h2⟩, h⟩
      rcases List.mem_cons.1 hu1 with rfl | h3
      · exact h1
      · have := (List.pairwise_cons.1 hu).1 u h3; omega
/-- Two lists of the same cells serve alike. -/
theorem opOf_congr (K : Bool → Bool → Bool) (hK : K false false = false) {s s' q q' : List Bx} (h1 : ∀ x y, Cell s x y ↔ Cell s' x y) (h2 : ∀ x y, Cell q x y ↔ Cell q' x y) : opOf K s q = opOf K s' q' := by
  obtain ⟨r1, e1, f1⟩ := opOf_form K hK s q
  obtain ⟨r2, e2, f2⟩ := opOf_form K hK s' q'
  have : r1 = r2 := form_uniq r1 r2 [] f1 f2 fun x y => by
    rw [← e1, ← e2, opOf_cell K hK, opOf_cell K hK]
    have a1 : inK (rowK s y) x = inK (rowK s' y) x := by rw [Bool.eq_iff_iff, inK_cov, inK_cov]; exact h1 x y
    have a2 : inK (rowK q y) x = inK (rowK q' y) x := by rw [Bool.eq_iff_iff, inK_cov, inK_cov]; exact h2 x y
    rw [a1, a2]
  rw [e1, e2, this]
theorem opOf_or_cell (s : List Bx) (x y : Int) : Cell (opOf or s []) x y ↔ Cell s x y := by
  rw [opOf_cell or rfl]
  unfold Cell
  rw [← inK_cov]
  simp [rowK, inK]

end Go.Proofs.Ytmpbcdolikafpaa

namespace Go.Proofs.Ytmpbcdolikafpaa
set_option linter.unusedVariables false
set_option linter.unusedSimpArgs false

def sumB (g : Bx → Int) : List Bx → Int
  | [] => 0
  | b :: t => g b + sumB g t
theorem sumB_append (g : Bx → Int) (s t : List Bx) : sumB g (s ++ t) = sumB g s + sumB g t := by
  induction s with
  | nil => simp [sumB]
  | cons b u ih => simp only [List.cons_append, sumB, ih]; omega
theorem sumB_zero {g : Bx → Int} {s : List Bx} (h : ∀ b ∈ s, g b = 0) : sumB g s = 0 := by
  induction s with
  | nil => rfl
  | cons b u ih => simp only [sumB]; rw [h b (by simp), ih (fun q hq => h q (by simp [hq]))]; rfl
theorem sumB_congr {g f : Bx → Int} {s : List Bx} (h : ∀ b ∈ s, g b = f b) : sumB g s = sumB f s := by
  induction s with
  | nil => rfl
  | cons b u ih => simp only [sumB]; rw [h b (by simp), ih (fun q hq => h q (by simp [hq]))]
theorem sumB_bd {g : Bx → Int} {m : Int} {s : List Bx} (h : ∀ b ∈ s, 0 ≤ g b ∧ g b ≤ m) : 0 ≤ sumB g s ∧ sumB g s ≤ m * (s.length : Int) := by
  induction s with
  | nil => simp [sumB]
  | cons b u ih =>
    have h1 := h b (by simp)
    have h2 := ih (fun q hq => h q (by simp [hq]))
    simp only [sumB, List.length_cons]
    rw [show m * ((u.length + 1 : Nat) : Int) = m * (u.length : Int) + m by rw [Int.natCast_add, Int.mul_add]; simp]
    omega

def minI (a b : Int) : Int := if a < b then a else b
def maxI (a b : Int) : Int := if b < a then a else b
theorem minI_comm (a b : Int) : minI a b = minI b a := by unfold minI; split <;> split <;> omega
theorem maxI_comm (a b : Int) : maxI a b = maxI b a := by unfold maxI; split <;> split <;> omega

/-- How far two boxes overlap across. -/
def ovB (a b : Bx) : Int := maxI 0 (minI a.x1 b.x1 - maxI a.x0 b.x0)
theorem ovB_comm (a b : Bx) : ovB a b = ovB b a := by unfold ovB; rw [minI_comm, maxI_comm a.x0]
/-- The side that the second box, which stands on the first, has in common with it. -/
def fB (a b : Bx) : Int := if a.y1 = b.y0 then ovB a b else 0
def perB (b : Bx) : Int := 2 * (b.x1 - b.x0) + 2 * (b.y1 - b.y0)

/-- All pairs, the lower one first. -/
def pairs : List Bx → Int
  | [] => 0
  | b :: t => sumB (fB b) t + pairs t
theorem pairs_snoc (l : List Bx) (b : Bx) : pairs (l ++ [b]) = pairs l + sumB (fun a => fB a b) l := by
  induction l with
  | nil => simp [pairs, sumB]
  | cons a t ih =>
    simp only [List.cons_append, pairs, sumB, ih, sumB_append]
    omega

theorem rim_exchange : ∀ (suf pre : List Bx), (∀ b ∈ suf, b.y0 < b.y1) → (pre ++ suf).Pairwise (fun a b => a.y0 ≤ b.y0) → sumB (fun b => sumB (fB b) (pre ++ suf)) suf = pairs suf := by
  intro suf
  induction suf with
  | nil => intro pre _ _; rfl
  | cons b t ih =>
    intro pre hv hp
    have h1 := ih (pre ++ [b]) (fun q hq => hv q (by simp [hq])) (by simpa using hp)
    simp only [List.append_assoc, List.singleton_append] at h1
    have hpp := List.pairwise_append.1 hp
    have hb : b.y0 < b.y1 := hv b (by simp)
    have hz : sumB (fB b) pre = 0 := sumB_zero fun c hc => by
      have h2 := hpp.2.2 c hc b (by simp)
      unfold fB; rw [if_neg (by omega)]
    have hs : fB b b = 0 := by unfold fB; rw [if_neg (by omega)]
    simp only [sumB, pairs]
    rw [h1, sumB_append, hz]
    simp only [sumB]
    rw [hs]
    omega

/-- In the one form the heights rise. -/
theorem FormB.rise : ∀ (rows : List (List Bx)) (below : List Bx), FormB below rows → rows.flatten.Pairwise (fun a b => a.y0 ≤ b.y0) ∧ ∀ b ∈ rows.flatten, below = [] ∨ hy1 below ≤ b.y0 := by
  intro rows
  induction rows with
  | nil => intro below _; simp
  | cons r rest ih =>
    intro below h
    obtain ⟨i1, i2⟩ := ih r h.2.2.2.2.2
    have hr : ∀ b ∈ r, b.y0 = hy0 r := fun b hb => (h.2.2.1.y b hb).1
    refine ⟨?_, fun b hb => ?_⟩
    · rw [List.flatten_cons, List.pairwise_append]
      refine ⟨?_, i1, fun a ha b hb => ?_⟩
      · rw [List.pairwise_iff_forall_sublist]
        intro a b hs
        have ha := hs.subset (show a ∈ [a, b] by simp)
        have hb := hs.subset (show b ∈ [a, b] by simp)
        rw [hr a ha, hr b hb]; exact Int.le_refl _
      · rcases i2 b hb with e | e
        · exact absurd e h.1
        · have := hr a ha; have := h.2.1; omega
    · rw [List.flatten_cons, List.mem_append] at hb
      rcases h.2.2.2.1 with e | e
      · exact Or.inl e
      · refine Or.inr ?_
        rcases hb with hb | hb
        · have := hr b hb; omega
        · rcases i2 b hb with e2 | e2
          · exact absurd e2 h.1
          · have := h.2.1; omega

/-- The rim of boxes. -/
def rimS (s : List Bx) : Int := sumB perB s - 2 * pairs s
def rimT (s : List Bx) (l : List Bx) : Int := sumB (fun b => perB b - 2 * sumB (fB b) s) l
theorem sumB_lin (g f : Bx → Int) (l : List Bx) : sumB (fun b => g b - 2 * f b) l = sumB g l - 2 * sumB f l := by
  induction l with
  | nil => rfl
  | cons b t ih => simp only [sumB, ih]; omega
theorem rim_same {s : List Bx} (hv : ∀ b ∈ s, b.x0 < b.x1 ∧ b.y0 < b.y1) (h : inForm s.length [] s = true) : rimT s s = rimS s := by
  obtain ⟨rows, hr, hF⟩ := inForm_rows _ [] s (Nat.le_refl _) hv ⟨0, 0, Canon.nil _ _⟩ h
  have hp := (FormB.rise rows [] hF).1
  rw [← hr] at hp
  have := rim_exchange s [] (fun b hb => (hv b hb).2) (by simpa using hp)
  unfold rimT rimS
  rw [sumB_lin]
  simp only [List.nil_append] at this
  rw [this]

end Go.Proofs.Ytmpbcdolikafpaa
