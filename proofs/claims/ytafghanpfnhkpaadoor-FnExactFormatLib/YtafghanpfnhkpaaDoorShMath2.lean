/- Proved here: the sweep over the heights hands a list of boxes back unchanged just where the boxes are in the one form (bands of runs, rising, no two that touch alike). No condition on the program. -/
import Derived.Test.YtafghanpfnhkpaaDoorShMath
namespace Go.Proofs.YtafghanpfnhkpaaDoor
set_option linter.unusedVariables false
set_option linter.unusedSimpArgs false

/-- The boxes that have a row. -/
def rowK (s : List Bx) (y : Int) : List Bx := s.filter fun b => decide (b.y0 ≤ y) && decide (y < b.y1)
def sameRuns : List Bx → List Bx → Bool
  | [], [] => true
  | a :: t, b :: u => (a.x0 == b.x0 && a.x1 == b.x1) && sameRuns t u
  | _, _ => false
def hy0 : List Bx → Int
  | [] => 0
  | b :: _ => b.y0
def hy1 : List Bx → Int
  | [] => 0
  | b :: _ => b.y1
/-- A band goes on the one below it. -/
def goesK (band last : List Bx) (a : Int) : Bool := !band.isEmpty && (!last.isEmpty && (hy1 last == a && sameRuns last band))
def raise (l : List Bx) (b : Int) : List Bx := l.map fun r => ⟨r.x0, r.y0, r.x1, b⟩
def stepO (R : Int → Int → List Bx) (st : List Bx × List Bx) (a b : Int) : List Bx × List Bx :=
  if goesK (R a b) st.2 a then (st.1, raise st.2 b) else (st.1 ++ st.2, R a b)
def opK (R : Int → Int → List Bx) : List Int → List Bx × List Bx → List Bx
  | a :: b :: rest, st => opK R (b :: rest) (stepO R st a b)
  | _, st => st.1 ++ st.2
/-- What two lists of boxes make. -/
def opOf (K : Bool → Bool → Bool) (s q : List Bx) : List Bx :=
  opK (fun a b => runsOf K (rowK s a) (rowK q a) a b) (endsF Bx.y0 Bx.y1 (endsF Bx.y0 Bx.y1 [] s) q) ([], [])

/-- Bands, one above the other, beginning above the band below. -/
def FormB (below : List Bx) : List (List Bx) → Prop
  | [] => True
  | r :: rest => r ≠ [] ∧ hy0 r < hy1 r ∧ Canon (hy0 r) (hy1 r) r ∧ (below = [] ∨ hy1 below ≤ hy0 r) ∧ goesK r below (hy0 r) = false ∧ FormB r rest
def lastOr (below : List Bx) (rows : List (List Bx)) : List Bx := rows.getLast?.getD below

theorem Canon.hy {a b : Int} {r : List Bx} (h : Canon a b r) (hn : r ≠ []) : hy0 r = a ∧ hy1 r = b := by
  cases r with
  | nil => exact absurd rfl hn
  | cons x t => exact ⟨(h.y x (by simp)).1, (h.y x (by simp)).2.1⟩

theorem formB_snoc : ∀ {rows : List (List Bx)} {below r : List Bx}, FormB below rows → r ≠ [] → hy0 r < hy1 r → Canon (hy0 r) (hy1 r) r → (lastOr below rows = [] ∨ hy1 (lastOr below rows) ≤ hy0 r) → goesK r (lastOr below rows) (hy0 r) = false → FormB below (rows ++ [r]) := by
  intro rows
  induction rows with
  | nil => intro below r _ h1 h2 h3 h4 h5; exact ⟨h1, h2, h3, h4, h5, trivial⟩
  | cons q rest ih =>
    intro below r h h1 h2 h3 h4 h5
    have e : lastOr below (q :: rest) = lastOr q rest := by
      unfold lastOr
      cases rest with
      | nil => rfl
      | cons x t => simp [List.getLast?_cons_cons, List.getLast?_cons]
    rw [e] at h4 h5
    exact ⟨h.1, h.2.1, h.2.2.1, h.2.2.2.1, h.2.2.2.2.1, ih h.2.2.2.2.2 h1 h2 h3 h4 h5⟩

theorem goesK_nil (r : List Bx) (a : Int) : goesK r [] a = false := by simp [goesK]
theorem sameRuns_raise (l : List Bx) (b : Int) (m : List Bx) : sameRuns m (raise l b) = sameRuns m l := by
  induction l generalizing m with
  | nil => rfl
  | cons x t ih =>
    cases m with
    | nil => rfl
    | cons y u =>
      have := ih u
      simp only [raise, List.map_cons, sameRuns] at this ⊢
      rw [this]
theorem goesK_raise (l : List Bx) (b : Int) (m : List Bx) (a : Int) : goesK (raise l b) m a = goesK l m a := by
  unfold goesK; rw [sameRuns_raise]; simp [raise]
theorem raise_canon {a c d : Int} {l : List Bx} (h : Canon a c l) : Canon a d (raise l d) := by
  refine ⟨fun r hr => ?_, ?_⟩
  · obtain ⟨q, hq, rfl⟩ := List.mem_map.1 hr
    exact ⟨(h.y q hq).1, rfl, (h.y q hq).2.2⟩
  · unfold raise; rw [List.pairwise_map]; exact h.gap

/-- What stands while the heights are gone through. -/
def Held (c : Int) (st : List Bx × List Bx) : Prop :=
  ∃ rest : List (List Bx), st.1 = rest.flatten ∧ FormB [] rest ∧ ((st.2 = [] ∧ (lastOr [] rest = [] ∨ hy1 (lastOr [] rest) < c)) ∨
    (st.2 ≠ [] ∧ ∃ a, a < c ∧ Canon a c st.2 ∧ (lastOr [] rest = [] ∨ hy1 (lastOr [] rest) ≤ a) ∧ goesK st.2 (lastOr [] rest) a = false))

theorem held_step {R : Int → Int → List Bx} {c d : Int} {st : List Bx × List Bx} (hcd : c < d) (hR : Canon c d (R c d)) (h : Held c st) : Held d (stepO R st c d) := by
  obtain ⟨rest, h1, hF, h2⟩ := h
  unfold stepO
  cases hg : goesK (R c d) st.2 c with
  | true =>
    rw [if_pos rfl]
    rcases h2 with ⟨h2, _⟩ | ⟨hne, a, hac, hca, hlo, hgo⟩
    · rw [h2, goesK_nil] at hg; cases hg
    · refine ⟨rest, h1, hF, Or.inr ⟨by simpa [raise] using hne, a, by omega, raise_canon hca, hlo, ?_⟩⟩
      rw [goesK_raise]; exact hgo
  | false =>
    rw [if_neg (by simp)]
    rcases h2 with ⟨h2, hlt⟩ | ⟨hne, a, hac, hca, hlo, hgo⟩
    · refine ⟨rest, by simp [h1, h2], hF, ?_⟩
      by_cases hb : R c d = []
      · refine Or.inl ⟨hb, ?_⟩
        rcases hlt with h | h
        · exact Or.inl h
        · exact Or.inr (by omega)
      · refine Or.inr ⟨hb, c, hcd, hR, ?_, ?_⟩
        · rcases hlt with h | h
          · exact Or.inl h
          · exact Or.inr (by omega)
        · rcases hlt with h | h
          · rw [h, goesK_nil]
          · unfold goesK
            have : (hy1 (lastOr [] rest) == c) = false := by simp; omega
            simp [this]
    · have hh := hca.hy hne
      have hl : lastOr [] (rest ++ [st.2]) = st.2 := by simp [lastOr]
      have hF' : FormB [] (rest ++ [st.2]) := by
        refine formB_snoc hF hne (by omega) (by rw [hh.1, hh.2]; exact hca) ?_ ?_
        · rw [hh.1]; exact hlo
        · rw [hh.1]; exact hgo
      refine ⟨rest ++ [st.2], by simp [h1], hF', ?_⟩
      rw [hl, hh.2]
      by_cases hb : R c d = []
      · exact Or.inl ⟨hb, Or.inr hcd⟩
      · exact Or.inr ⟨hb, c, hcd, hR, Or.inr (by omega), hg⟩

theorem held_all {R : Int → Int → List Bx} (hR : ∀ c d, Canon c d (R c d)) : ∀ (ys : List Int) (c : Int) (st : List Bx × List Bx), Up (c :: ys) → Held c st → ∃ rows, opK R (c :: ys) st = rows.flatten ∧ FormB [] rows := by
  intro ys
  induction ys with
  | nil =>
    intro c st _ h
    obtain ⟨rest, h1, hF, h2⟩ := h
    rcases h2 with ⟨h2, _⟩ | ⟨hne, a, hac, hca, hlo, hgo⟩
    · exact ⟨rest, by simp [opK, h1, h2], hF⟩
    · have hh := hca.hy hne
      refine ⟨rest ++ [st.2], by simp [opK, h1], formB_snoc hF hne (by omega) (by rw [hh.1, hh.2]; exact hca) ?_ ?_⟩
      · rw [hh.1]; exact hlo
      · rw [hh.1]; exact hgo
  | cons d t ih =>
    intro c st hu h
    have hu' := List.pairwise_cons.1 hu
    exact ih d _ hu'.2 (held_step (hu'.1 d (by simp)) (hR c d) h)

/-- What comes out is in the one form. -/
theorem opOf_form (K : Bool → Bool → Bool) (hK : K false false = false) (s q : List Bx) : ∃ rows, opOf K s q = rows.flatten ∧ FormB [] rows := by
  unfold opOf
  have hu : Up (endsF Bx.y0 Bx.y1 (endsF Bx.y0 Bx.y1 [] s) q) := endsF_up _ _ _ (endsF_up _ _ _ List.Pairwise.nil)
  revert hu
  cases endsF Bx.y0 Bx.y1 (endsF Bx.y0 Bx.y1 [] s) q with
  | nil => intro _; exact ⟨[], rfl, trivial⟩
  | cons c ys => intro hu; exact held_all (fun c d => (runsOf_ok K hK _ _ c d).1) ys c _ hu ⟨[], rfl, trivial, Or.inl ⟨rfl, Or.inl rfl⟩⟩

/-- The heights of bands, from c on. -/
def hgt (c : Int) : List (List Bx) → List Int
  | [] => [c]
  | r :: rest => if hy0 r = c then c :: hgt (hy1 r) rest else c :: hy0 r :: hgt (hy1 r) rest
theorem hgt_head (c : Int) (rows : List (List Bx)) : ∃ t, hgt c rows = c :: t := by
  cases rows with
  | nil => exact ⟨[], rfl⟩
  | cons r rest =>
    unfold hgt
    split
    · exact ⟨_, rfl⟩
    · exact ⟨_, rfl⟩
/-- The first band begins at c or above. -/
def Over (c : Int) : List (List Bx) → Prop
  | [] => True
  | r :: _ => c ≤ hy0 r
theorem FormB.over {r : List Bx} {rest : List (List Bx)} (hn : r ≠ []) (h : FormB r rest) : Over (hy1 r) rest := by
  cases rest with
  | nil => trivial
  | cons q u =>
    rcases h.2.2.2.1 with e | e
    · exact absurd e hn
    · exact e
theorem hgt_mem (z : Int) : ∀ (rows : List (List Bx)) (below : List Bx) (c : Int), FormB below rows → (z ∈ hgt c rows ↔ z = c ∨ ∃ b ∈ rows.flatten, z = b.y0 ∨ z = b.y1) := by
  intro rows
  induction rows with
  | nil => intro below c _; simp [hgt]
  | cons r rest ih =>
    intro below c h
    have hi := ih r (hy1 r) h.2.2.2.2.2
    have hr : (∃ b ∈ r, z = b.y0 ∨ z = b.y1) ↔ (z = hy0 r ∨ z = hy1 r) := by
      constructor
      · rintro ⟨b, hb, e⟩
        have := h.2.2.1.y b hb
        rcases e with e | e
        · exact Or.inl (by omega)
        · exact Or.inr (by omega)
      · intro e
        cases hrr : r with
        | nil => exact absurd hrr h.1
        | cons b t => rw [hrr] at e; exact ⟨b, by simp, e⟩
    have hf : (∃ b ∈ (r :: rest).flatten, z = b.y0 ∨ z = b.y1) ↔ (z = hy0 r ∨ z = hy1 r) ∨ ∃ b ∈ rest.flatten, z = b.y0 ∨ z = b.y1 := by
      rw [← hr]
      simp only [List.flatten_cons, List.mem_append]
      constructor
      · rintro ⟨b, hb | hb, e⟩
        · exact Or.inl ⟨b, hb, e⟩
        · exact Or.inr ⟨b, hb, e⟩
      · rintro (⟨b, hb, e⟩ | ⟨b, hb, e⟩)
        · exact ⟨b, Or.inl hb, e⟩
        · exact ⟨b, Or.inr hb, e⟩
    rw [hf]
    unfold hgt
    split
    · rename_i hc
      simp only [List.mem_cons, hi, hc]
      constructor
      · rintro (h | h | h)
        · exact Or.inl h
        · exact Or.inr (Or.inl (Or.inr h))
        · exact Or.inr (Or.inr h)
      · rintro (h | (h | h) | h)
        · exact Or.inl h
        · exact Or.inl h
        · exact Or.inr (Or.inl h)
        · exact Or.inr (Or.inr h)
    · simp only [List.mem_cons, hi]
      constructor
      · rintro (h | h | h | h)
        · exact Or.inl h
        · exact Or.inr (Or.inl (Or.inl h))
        · exact Or.inr (Or.inl (Or.inr h))
        · exact Or.inr (Or.inr h)
      · rintro (h | (h | h) | h)
        · exact Or.inl h
        · exact Or.inr (Or.inl h)
        · exact Or.inr (Or.inr (Or.inl h))
        · exact Or.inr (Or.inr (Or.inr h))
theorem hgt_up : ∀ (rows : List (List Bx)) (below : List Bx) (c : Int), FormB below rows → Over c rows → Up (hgt c rows) ∧ ∀ z ∈ hgt c rows, c ≤ z := by
  intro rows
  induction rows with
  | nil => intro below c _ _; simp [hgt, Up]
  | cons r rest ih =>
    intro below c h ho
    obtain ⟨i1, i2⟩ := ih r (hy1 r) h.2.2.2.2.2 (FormB.over h.1 h.2.2.2.2.2)
    have hlt := h.2.1
    have ho' : c ≤ hy0 r := ho
    unfold hgt
    split
    · rename_i hc
      refine ⟨List.pairwise_cons.2 ⟨fun z hz => by have := i2 z hz; omega, i1⟩, fun z hz => ?_⟩
      rcases List.mem_cons.1 hz with e | e
      · omega
      · have := i2 z e; omega
    · rename_i hc
      refine ⟨List.pairwise_cons.2 ⟨fun z hz => ?_, List.pairwise_cons.2 ⟨fun z hz => by have := i2 z hz; omega, i1⟩⟩, fun z hz => ?_⟩
      · rcases List.mem_cons.1 hz with e | e
        · omega
        · have := i2 z e; omega
      · rcases List.mem_cons.1 hz with e | e
        · omega
        · rcases List.mem_cons.1 e with e | e
          · omega
          · have := i2 z e; omega

theorem rowK_under {s : List Bx} {c y : Int} (h : ∀ b ∈ s, b.y1 ≤ c) (hy : c ≤ y) : rowK s y = [] := by
  unfold rowK
  rw [List.filter_eq_nil_iff]
  intro b hb
  have := h b hb
  simp; omega
theorem rowK_over {rows : List (List Bx)} {below : List Bx} {y : Int} (h : FormB below rows) (ho : Over (y + 1) rows) : rowK rows.flatten y = [] := by
  unfold rowK
  rw [List.filter_eq_nil_iff]
  induction rows generalizing below with
  | nil => intro b hb; simp at hb
  | cons r rest ih =>
    intro b hb
    simp only [List.flatten_cons, List.mem_append] at hb
    have ho' : y + 1 ≤ hy0 r := ho
    rcases hb with hb | hb
    · have := h.2.2.1.y b hb; simp; omega
    · refine ih h.2.2.2.2.2 ?_ b hb
      have ho2 := FormB.over h.1 h.2.2.2.2.2
      have := h.2.1
      cases rest with
      | nil => trivial
      | cons q u => have h3 : hy1 r ≤ hy0 q := ho2; show y + 1 ≤ hy0 q; omega
theorem rowK_self {r : List Bx} {a b : Int} (h : Canon a b r) (hab : a < b) : rowK r a = r := by
  unfold rowK
  rw [List.filter_eq_self]
  intro q hq
  have := h.y q hq
  simp; omega
theorem runs_self {r : List Bx} {a b : Int} (h : Canon a b r) : runsOf or r [] a b = r := by
  obtain ⟨h1, h2⟩ := runsOf_ok or rfl r [] a b
  refine canon_uniq h1 h fun x => ?_
  rw [h2, ← inK_cov]; simp [inK]

theorem opK_self (s : List Bx) : ∀ (rows : List (List Bx)) (below : List Bx) (c : Int) (pre done : List Bx), FormB below rows → Over c rows → s = pre ++ rows.flatten → (∀ b ∈ pre, b.y1 ≤ c) →
    opK (fun a b => runsOf or (rowK s a) (rowK [] a) a b) (hgt c rows) (done, below) = done ++ below ++ rows.flatten := by
  intro rows
  induction rows with
  | nil => intro below c pre done _ _ _ _; simp [hgt, opK]
  | cons r rest ih =>
    intro below c pre done h ho hs hpre
    have ho' : c ≤ hy0 r := ho
    have hlt := h.2.1
    have hov := FormB.over h.1 h.2.2.2.2.2
    have hrow : rowK s (hy0 r) = r := by
      have h1 : rowK s (hy0 r) = rowK pre (hy0 r) ++ (rowK r (hy0 r) ++ rowK rest.flatten (hy0 r)) := by
        rw [hs]; simp [rowK, List.filter_append]
      rw [h1, rowK_under hpre ho', rowK_self h.2.2.1 hlt, rowK_over h.2.2.2.2.2 ?_]
      · simp
      · cases rest with
        | nil => trivial
        | cons q u => have h3 : hy1 r ≤ hy0 q := hov; show hy0 r + 1 ≤ hy0 q; omega
    have hR : runsOf or (rowK s (hy0 r)) (rowK [] (hy0 r)) (hy0 r) (hy1 r) = r := by
      rw [hrow]; exact runs_self h.2.2.1
    have hpre' : ∀ b ∈ pre ++ r, b.y1 ≤ hy1 r := by
      intro b hb
      rcases List.mem_append.1 hb with hb | hb
      · have := hpre b hb; omega
      · have := h.2.2.1.y b hb; omega
    obtain ⟨t, ht⟩ := hgt_head (hy1 r) rest
    unfold hgt
    split
    · rename_i hc
      have hi := ih r (hy1 r) (pre ++ r) (done ++ below) h.2.2.2.2.2 hov (by rw [hs]; simp) hpre'
      rw [ht] at hi ⊢
      rw [opK]
      have hst : stepO (fun a b => runsOf or (rowK s a) (rowK [] a) a b) (done, below) c (hy1 r) = (done ++ below, r) := by
        unfold stepO
        rw [← hc]
        simp only [hR, h.2.2.2.2.1]
        simp
      rw [hst, hi]
      simp
    · rename_i hc
      have hi := ih r (hy1 r) (pre ++ r) (done ++ below ++ []) h.2.2.2.2.2 hov (by rw [hs]; simp) hpre'
      rw [ht] at hi ⊢
      rw [opK, opK]
      have hgap : rowK s c = [] := by
        have h1 : rowK s c = rowK pre c ++ rowK (r :: rest).flatten c := by
          rw [hs]; simp [rowK, List.filter_append]
        rw [h1, rowK_under hpre (Int.le_refl _), rowK_over h ?_]
        · rfl
        · show c + 1 ≤ hy0 r; omega
      have hst1 : stepO (fun a b => runsOf or (rowK s a) (rowK [] a) a b) (done, below) c (hy0 r) = (done ++ below, []) := by
        unfold stepO
        simp only [hgap]
        rfl
      have hst2 : stepO (fun a b => runsOf or (rowK s a) (rowK [] a) a b) (done ++ below, []) (hy0 r) (hy1 r) = (done ++ below ++ [], r) := by
        unfold stepO
        simp only [hR, goesK_nil]
        simp
      rw [hst1, hst2, hi]
      simp

/-- A list in the one form is handed back. -/
theorem opOf_self {rows : List (List Bx)} (h : FormB [] rows) : opOf or rows.flatten [] = rows.flatten := by
  unfold opOf
  cases rows with
  | nil => rfl
  | cons r rest =>
    have ho : Over (hy0 r) (r :: rest) := Int.le_refl _
    have e : endsF Bx.y0 Bx.y1 (endsF Bx.y0 Bx.y1 [] (r :: rest).flatten) [] = hgt (hy0 r) (r :: rest) := by
      refine up_uniq (endsF_up _ _ _ (endsF_up _ _ _ List.Pairwise.nil)) (hgt_up _ [] _ h ho).1 fun z => ?_
      rw [hgt_mem z _ [] _ h, endsF_mem, endsF_mem]
      simp only [List.not_mem_nil, false_or, false_and, exists_false, or_false]
      constructor
      · exact Or.inr
      · rintro (e | e)
        · cases hr : r with
          | nil => exact absurd hr h.1
          | cons b t => rw [hr] at e; exact ⟨b, by simp, Or.inl e⟩
        · exact e
    rw [e]
    exact opK_self _ (r :: rest) [] (hy0 r) [] [] h ho rfl (fun b hb => by cases hb)

/-- The rows' own test. -/
def isRowK (y : Int) : Bx → List Bx → Bool
  | _, [] => true
  | p, q :: t => (q.y1 == y) && (decide (p.x1 < q.x0) && isRowK y q t)
def liesOverK (row below : List Bx) : Bool := below.isEmpty || decide (hy1 below ≤ hy0 row)
def goesOnK : List Bx → List Bx → Bool
  | [], [] => true
  | b :: t, u :: l => b.same ⟨u.x0, u.y1, u.x1, b.y1⟩ && goesOnK t l
  | _, _ => false
def rowHead (b : Bx) (t : List Bx) : List Bx := b :: t.takeWhile fun q => q.y0 == b.y0
def inForm : Nat → List Bx → List Bx → Bool
  | 0, _, _ => true
  | _ + 1, _, [] => true
  | n + 1, below, b :: t => if isRowK b.y1 b (t.takeWhile fun q => q.y0 == b.y0) && (liesOverK (rowHead b t) below && !goesOnK (rowHead b t) below) then inForm n (rowHead b t) (t.dropWhile fun q => q.y0 == b.y0) else false

theorem isRowK_canon {a y : Int} : ∀ (t : List Bx) (p : Bx), (∀ q ∈ p :: t, q.x0 < q.x1 ∧ q.y0 = a) → p.y1 = y → (isRowK y p t = true ↔ Canon a y (p :: t)) := by
  intro t
  induction t with
  | nil =>
    intro p hv hp
    refine ⟨fun _ => ⟨fun r hr => ?_, by simp⟩, fun _ => rfl⟩
    simp at hr; subst hr
    exact ⟨(hv r (by simp)).2, hp, (hv r (by simp)).1⟩
  | cons q t ih =>
    intro p hv hp
    have vp := hv p (by simp)
    have vq := hv q (by simp)
    unfold isRowK
    constructor
    · intro h
      simp only [Bool.and_eq_true, beq_iff_eq, decide_eq_true_eq] at h
      have hc := (ih q (fun r hr => hv r (List.mem_cons_of_mem _ hr)) h.1).1 h.2.2
      refine ⟨fun r hr => ?_, List.pairwise_cons.2 ⟨fun r hr => ?_, hc.gap⟩⟩
      · rcases List.mem_cons.1 hr with e | e
        · subst e; exact ⟨vp.2, hp, vp.1⟩
        · exact hc.y r e
      · rcases List.mem_cons.1 hr with e | e
        · subst e; exact h.2.1
        · have := (List.pairwise_cons.1 hc.gap).1 r e; omega
    · intro h
      have hq := h.y q (by simp)
      have hg := (List.pairwise_cons.1 h.gap).1 q (by simp)
      simp only [Bool.and_eq_true, beq_iff_eq, decide_eq_true_eq]
      exact ⟨hq.2.1, hg, (ih q (fun r hr => hv r (List.mem_cons_of_mem _ hr)) hq.2.1).2 h.tail⟩

theorem goesOnK_eq {a c d e : Int} : ∀ (row below : List Bx), Canon a c row → Canon d e below → row ≠ [] → goesOnK row below = goesK row below a := by
  have key : ∀ (row below : List Bx), (∀ b ∈ row, b.y0 = a) → (∀ u ∈ below, u.y1 = a) → goesOnK row below = sameRuns below row := by
    intro row
    induction row with
    | nil => intro below _ _; cases below <;> rfl
    | cons b t ih =>
      intro below h1 h2
      cases below with
      | nil => rfl
      | cons u l =>
        have i := ih l (fun q hq => h1 q (List.mem_cons_of_mem _ hq)) (fun q hq => h2 q (List.mem_cons_of_mem _ hq))
        have e1 := h1 b (by simp)
        have e2 := h2 u (by simp)
        unfold goesOnK sameRuns
        rw [i, Bool.eq_iff_iff]
        simp [Bx.same, e1, e2]
        intro _
        constructor
        · rintro ⟨h1, h2⟩; exact ⟨h1.symm, h2.symm⟩
        · rintro ⟨h1, h2⟩; exact ⟨h1.symm, h2.symm⟩
  intro row below h1 h2 hn
  cases below with
  | nil =>
    cases row with
    | nil => exact absurd rfl hn
    | cons b t => rfl
  | cons u l =>
    have yu := h2.y u (by simp)
    cases row with
    | nil => exact absurd rfl hn
    | cons b t =>
      have yb := h1.y b (by simp)
      by_cases he : e = a
      · rw [key _ _ (fun q hq => (h1.y q hq).1) (fun q hq => by have := h2.y q hq; omega)]
        unfold goesK hy1
        have : (u.y1 == a) = true := by simp; omega
        simp [this]
      · unfold goesK hy1
        have h3 : (u.y1 == a) = false := by simp; omega
        have h4 : (b.y0 == u.y1) = false := by simp; omega
        simp [h3, goesOnK, Bx.same, h4]

theorem inForm_rows : ∀ (n : Nat) (below s : List Bx), s.length ≤ n → (∀ b ∈ s, b.x0 < b.x1 ∧ b.y0 < b.y1) → (∃ d e, Canon d e below) → inForm n below s = true → ∃ rows, s = rows.flatten ∧ FormB below rows := by
  intro n
  induction n with
  | zero =>
    intro below s hl _ _ _
    obtain rfl : s = [] := List.length_eq_zero_iff.1 (by omega)
    exact ⟨[], rfl, trivial⟩
  | succ n ih =>
    intro below s hl hv hb h
    cases s with
    | nil => exact ⟨[], rfl, trivial⟩
    | cons b t =>
      obtain ⟨d, e, hb⟩ := hb
      unfold inForm at h
      split at h
      · rename_i hc
        simp only [Bool.and_eq_true, Bool.not_eq_true'] at hc
        obtain ⟨h1, h2, h3⟩ := hc
        have hsplit : t = (t.takeWhile fun q => q.y0 == b.y0) ++ (t.dropWhile fun q => q.y0 == b.y0) := List.takeWhile_append_dropWhile.symm
        have hvr : ∀ q ∈ rowHead b t, q.x0 < q.x1 ∧ q.y0 = b.y0 := by
          intro q hq
          unfold rowHead at hq
          rcases List.mem_cons.1 hq with e | e
          · subst e; exact ⟨(hv q (by simp)).1, rfl⟩
          · have hq2 : (fun q : Bx => q.y0 == b.y0) q = true := List.all_eq_true.1 List.all_takeWhile q e
            exact ⟨(hv q (List.mem_cons_of_mem _ (by rw [hsplit]; exact List.mem_append_left _ e))).1, by simpa using hq2⟩
        have hcan : Canon b.y0 b.y1 (rowHead b t) := (isRowK_canon _ b hvr rfl).1 h1
        have hvt : ∀ q ∈ t.dropWhile (fun q => q.y0 == b.y0), q.x0 < q.x1 ∧ q.y0 < q.y1 := fun q hq => hv q (List.mem_cons_of_mem _ (by rw [hsplit]; exact List.mem_append_right _ hq))
        have hlen : (t.dropWhile fun q => q.y0 == b.y0).length ≤ n := by
          have : (t.dropWhile fun q => q.y0 == b.y0).length ≤ t.length := (List.dropWhile_sublist _).length_le
          simp at hl; omega
        obtain ⟨rows, hr, hF⟩ := ih (rowHead b t) _ hlen hvt ⟨_, _, hcan⟩ h
        refine ⟨rowHead b t :: rows, ?_, by simp [rowHead], (hv b (by simp)).2, hcan, ?_, ?_, hF⟩
        · rw [List.flatten_cons, ← hr]
          show b :: t = b :: ((t.takeWhile fun q => q.y0 == b.y0) ++ (t.dropWhile fun q => q.y0 == b.y0))
          rw [← hsplit]
        · unfold liesOverK at h2
          simp at h2
          exact h2
        · show goesK (rowHead b t) below b.y0 = false
          rw [← goesOnK_eq _ _ hcan hb (by simp [rowHead])]; exact h3
      · cases h

theorem rows_inForm : ∀ (rows : List (List Bx)) (below : List Bx) (n : Nat), rows.flatten.length ≤ n → (∃ d e, Canon d e below) → FormB below rows → inForm n below rows.flatten = true := by
  intro rows
  induction rows with
  | nil => intro below n _ _ _; cases n <;> rfl
  | cons r rest ih =>
    intro below n hl hb h
    obtain ⟨d, e, hb⟩ := hb
    cases r with
    | nil => exact absurd rfl h.1
    | cons b t =>
      cases n with
      | zero => simp at hl
      | succ n =>
        have hc : Canon b.y0 b.y1 (b :: t) := h.2.2.1
        have hall : ∀ q ∈ t, (fun q : Bx => q.y0 == b.y0) q = true := fun q hq => by have := hc.y q (by simp [hq]); simp; omega
        have hov := FormB.over h.1 h.2.2.2.2.2
        have hlt : b.y0 < b.y1 := h.2.1
        have hrest : rest.flatten.takeWhile (fun q => q.y0 == b.y0) = [] ∧ rest.flatten.dropWhile (fun q => q.y0 == b.y0) = rest.flatten := by
          cases rest with
          | nil => exact ⟨rfl, rfl⟩
          | cons q u =>
            have hq := h.2.2.2.2.2
            cases q with
            | nil => exact absurd rfl hq.1
            | cons z v =>
              have h3 : b.y1 ≤ z.y0 := hov
              have h4 : (z.y0 == b.y0) = false := by simp; omega
              simp [List.takeWhile_cons, List.dropWhile_cons, h4]
        have ht1 : (t ++ rest.flatten).takeWhile (fun q => q.y0 == b.y0) = t := by
          rw [List.takeWhile_append_of_pos hall, hrest.1, List.append_nil]
        have ht2 : (t ++ rest.flatten).dropWhile (fun q => q.y0 == b.y0) = rest.flatten := by
          rw [List.dropWhile_append_of_pos hall, hrest.2]
        simp only [List.flatten_cons, List.cons_append]
        unfold inForm rowHead
        rw [ht1, ht2]
        have g1 : isRowK b.y1 b t = true := (isRowK_canon t b (fun q hq => ⟨(hc.y q hq).2.2, (hc.y q hq).1⟩) rfl).2 hc
        have g2 : liesOverK (b :: t) below = true := by
          unfold liesOverK
          rcases h.2.2.2.1 with e | e
          · simp [e]
          · simp [e]
        have g3 : goesOnK (b :: t) below = false := by rw [goesOnK_eq _ _ hc hb (by simp)]; exact h.2.2.2.2.1
        rw [g1, g2, g3]
        simp only [Bool.not_false, Bool.and_self, if_true]
        exact ih (b :: t) n (by simp at hl ⊢; omega) ⟨_, _, hc⟩ h.2.2.2.2.2

/-- The sweep hands a list of boxes back just where it is in the one form. -/
theorem form_iff (s : List Bx) (hv : ∀ b ∈ s, b.x0 < b.x1 ∧ b.y0 < b.y1) : opOf or s [] = s ↔ inForm s.length [] s = true := by
  constructor
  · intro h
    obtain ⟨rows, hr, hF⟩ := opOf_form or rfl s []
    rw [h] at hr
    rw [hr]
    exact rows_inForm rows [] _ (Nat.le_refl _) ⟨0, 0, Canon.nil _ _⟩ hF
  · intro h
    obtain ⟨rows, hr, hF⟩ := inForm_rows _ [] s (Nat.le_refl _) hv ⟨0, 0, Canon.nil _ _⟩ h
    rw [hr]; exact opOf_self hF

end Go.Proofs.YtafghanpfnhkpaaDoor
