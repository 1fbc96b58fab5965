/- Proved here: the arithmetic of sets of cells in rows: a rising list is known by its members, a list of runs with gaps by its cells; what the sweep over a row and over the heights makes. No condition on the program. -/
namespace Go.Proofs.YtafghanpfnhkpaaDoor
set_option linter.unusedVariables false
set_option linter.unusedSimpArgs false

/-- A box. -/
structure Bx where
  x0 : Int
  y0 : Int
  x1 : Int
  y1 : Int

theorem Bx.ext' {a b : Bx} (h0 : a.x0 = b.x0) (h1 : a.y0 = b.y0) (h2 : a.x1 = b.x1) (h3 : a.y1 = b.y1) : a = b := by
  cases a; cases b; simp_all

def Bx.same (a b : Bx) : Bool := a.x0 == b.x0 && (a.y0 == b.y0 && (a.x1 == b.x1 && a.y1 == b.y1))
theorem Bx.same_iff (a b : Bx) : a.same b = true ↔ a = b := by
  constructor
  · intro h; simp [Bx.same] at h; exact Bx.ext' h.1 h.2.1 h.2.2.1 h.2.2.2
  · rintro rfl; simp [Bx.same]

/-- Rising lists. -/
def Up (xs : List Int) : Prop := xs.Pairwise (· < ·)

theorem up_uniq : ∀ {xs ys : List Int}, Up xs → Up ys → (∀ v, v ∈ xs ↔ v ∈ ys) → xs = ys := by
  intro xs
  induction xs with
  | nil =>
    intro ys _ _ h
    cases ys with
    | nil => rfl
    | cons y u => exact absurd ((h y).2 (by simp)) (by simp)
  | cons x t ih =>
    intro ys hx hy h
    cases ys with
    | nil => exact absurd ((h x).1 (by simp)) (by simp)
    | cons y u =>
      have hx' := List.pairwise_cons.1 hx
      have hy' := List.pairwise_cons.1 hy
      have e : x = y := by
        have h1 := (h x).1 (by simp)
        have h2 := (h y).2 (by simp)
        rcases List.mem_cons.1 h1 with h1 | h1
        · exact h1
        · rcases List.mem_cons.1 h2 with h2 | h2
          · exact h2.symm
          · have := hx'.1 _ h2; have := hy'.1 _ h1; omega
      subst e
      refine congrArg _ (ih hx'.2 hy'.2 fun v => ?_)
      have hv := h v
      simp only [List.mem_cons] at hv
      constructor
      · intro hm
        rcases hv.1 (Or.inr hm) with e | e
        · have := hx'.1 _ hm; omega
        · exact e
      · intro hm
        rcases hv.2 (Or.inr hm) with e | e
        · have := hy'.1 _ hm; omega
        · exact e

/-- A number into a rising list. -/
def ins (v : Int) : List Int → List Int
  | [] => [v]
  | x :: t => if v < x then v :: x :: t else if v = x then x :: t else x :: ins v t

theorem mem_ins (v z : Int) (xs : List Int) : z ∈ ins v xs ↔ z = v ∨ z ∈ xs := by
  induction xs with
  | nil => simp [ins]
  | cons x t ih =>
    unfold ins
    split
    · simp
    · split
      · rename_i _ h; subst h; simp
      · simp only [List.mem_cons, ih]
        constructor
        · rintro (h | h | h)
          · exact Or.inr (Or.inl h)
          · exact Or.inl h
          · exact Or.inr (Or.inr h)
        · rintro (h | h | h)
          · exact Or.inr (Or.inl h)
          · exact Or.inl h
          · exact Or.inr (Or.inr h)

theorem ins_up (v : Int) {xs : List Int} (h : Up xs) : Up (ins v xs) := by
  induction xs with
  | nil => simp [ins, Up]
  | cons x t ih =>
    have h' := List.pairwise_cons.1 h
    unfold ins
    split
    · refine List.pairwise_cons.2 ⟨fun z hz => ?_, h⟩
      rcases List.mem_cons.1 hz with e | e
      · omega
      · have := h'.1 _ e; omega
    · split
      · exact h
      · refine List.pairwise_cons.2 ⟨fun z hz => ?_, ih h'.2⟩
        rcases (mem_ins v z t).1 hz with e | e
        · omega
        · exact h'.1 _ e

/-- Where all from a place on are greater, and the one ahead of it is not. -/
theorem ins_split (v : Int) {l r : List Int} (hu : Up (l ++ r)) (hr : ∀ z ∈ r, v < z) (hl : ∀ z ∈ l, z < v) : ins v (l ++ r) = l ++ v :: r := by
  induction l with
  | nil =>
    cases r with
    | nil => rfl
    | cons x t => simp [ins, hr x (by simp)]
  | cons x t ih =>
    have hx := hl x (by simp)
    simp only [List.cons_append, ins]
    rw [if_neg (by omega), if_neg (by omega), ih (List.pairwise_cons.1 hu).2 (fun z hz => hl z (by simp [hz]))]
theorem ins_there (v : Int) {xs : List Int} (hu : Up xs) (hv : v ∈ xs) : ins v xs = xs := by
  induction xs with
  | nil => cases hv
  | cons x t ih =>
    have h' := List.pairwise_cons.1 hu
    unfold ins
    rcases List.mem_cons.1 hv with e | e
    · subst e; simp
    · have := h'.1 _ e
      rw [if_neg (by omega), if_neg (by omega), ih h'.2 e]

/-- All the ends of a list of boxes, by f and g. -/
def endsF (f g : Bx → Int) (xs : List Int) (s : List Bx) : List Int := s.foldl (fun ys b => ins (g b) (ins (f b) ys)) xs
theorem endsF_up (f g : Bx → Int) (s : List Bx) : ∀ {xs : List Int}, Up xs → Up (endsF f g xs s) := by
  induction s with
  | nil => intro xs h; exact h
  | cons b t ih => intro xs h; exact ih (ins_up _ (ins_up _ h))
theorem endsF_mem (f g : Bx → Int) (s : List Bx) (z : Int) : ∀ (xs : List Int), z ∈ endsF f g xs s ↔ z ∈ xs ∨ ∃ b ∈ s, z = f b ∨ z = g b := by
  induction s with
  | nil => intro xs; simp [endsF]
  | cons b t ih =>
    intro xs
    have := ih (ins (g b) (ins (f b) xs))
    simp only [endsF, List.foldl_cons] at this ⊢
    rw [this, mem_ins, mem_ins]
    simp only [List.mem_cons, exists_eq_or_imp]
    constructor
    · rintro ((h | h | h) | h)
      · exact Or.inr (Or.inl (Or.inr h))
      · exact Or.inr (Or.inl (Or.inl h))
      · exact Or.inl h
      · exact Or.inr (Or.inr h)
    · rintro (h | (h | h) | h)
      · exact Or.inl (Or.inr (Or.inr h))
      · exact Or.inl (Or.inr (Or.inl h))
      · exact Or.inl (Or.inl h)
      · exact Or.inr h

/-- Runs with gaps between, of one height. -/
structure Canon (a b : Int) (rs : List Bx) : Prop where
  y : ∀ r ∈ rs, r.y0 = a ∧ r.y1 = b ∧ r.x0 < r.x1
  gap : rs.Pairwise (fun p q => p.x1 < q.x0)
def Cov (rs : List Bx) (x : Int) : Prop := ∃ r ∈ rs, r.x0 ≤ x ∧ x < r.x1

theorem Canon.nil (a b : Int) : Canon a b [] := ⟨fun _ h => (by cases h), List.Pairwise.nil⟩
theorem Canon.tail {a b : Int} {r : Bx} {t : List Bx} (h : Canon a b (r :: t)) : Canon a b t := ⟨fun q hq => h.y q (by simp [hq]), (List.pairwise_cons.1 h.gap).2⟩

theorem canon_uniq {a b : Int} : ∀ {rs qs : List Bx}, Canon a b rs → Canon a b qs → (∀ x, Cov rs x ↔ Cov qs x) → rs = qs := by
  intro rs
  induction rs with
  | nil =>
    intro qs _ hq h
    cases qs with
    | nil => rfl
    | cons q u =>
      have := (hq.y q (by simp)).2.2
      obtain ⟨r, hr, _⟩ := (h q.x0).2 ⟨q, by simp, by omega, by omega⟩
      cases hr
  | cons r t ih =>
    intro qs hr hq h
    cases qs with
    | nil =>
      have := (hr.y r (by simp)).2.2
      obtain ⟨q, hq', _⟩ := (h r.x0).1 ⟨r, by simp, by omega, by omega⟩
      cases hq'
    | cons q u =>
      have yr := hr.y r (by simp)
      have yq := hq.y q (by simp)
      have gr := (List.pairwise_cons.1 hr.gap).1
      have gq := (List.pairwise_cons.1 hq.gap).1
      have e0 : r.x0 = q.x0 := by
        obtain ⟨q', hq', h1, h2⟩ := (h r.x0).1 ⟨r, by simp, by omega, by omega⟩
        obtain ⟨r', hr', h3, h4⟩ := (h q.x0).2 ⟨q, by simp, by omega, by omega⟩
        rcases List.mem_cons.1 hq' with e | e
        · subst e
          rcases List.mem_cons.1 hr' with e | e
          · subst e; omega
          · have := gr _ e; omega
        · have := gq _ e
          rcases List.mem_cons.1 hr' with e' | e'
          · subst e'; omega
          · have := gr _ e'; omega
      have e1 : r.x1 = q.x1 := by
        rcases Int.lt_trichotomy r.x1 q.x1 with hlt | he | hgt
        · obtain ⟨r', hr', h3, h4⟩ := (h r.x1).2 ⟨q, by simp, by omega, by omega⟩
          rcases List.mem_cons.1 hr' with e | e
          · subst e; omega
          · have := gr _ e; omega
        · exact he
        · obtain ⟨q', hq', h3, h4⟩ := (h q.x1).1 ⟨r, by simp, by omega, by omega⟩
          rcases List.mem_cons.1 hq' with e | e
          · subst e; omega
          · have := gq _ e; omega
      have e : r = q := Bx.ext' e0 (by omega) e1 (by omega)
      subst e
      refine congrArg _ (ih hr.tail hq.tail fun x => ?_)
      constructor
      · rintro ⟨p, hp, h1, h2⟩
        have := gr _ hp
        obtain ⟨p', hp', h3, h4⟩ := (h x).1 ⟨p, by simp [hp], h1, h2⟩
        rcases List.mem_cons.1 hp' with e | e
        · subst e; omega
        · exact ⟨p', e, h3, h4⟩
      · rintro ⟨p, hp, h1, h2⟩
        have := gq _ hp
        obtain ⟨p', hp', h3, h4⟩ := (h x).2 ⟨p, by simp [hp], h1, h2⟩
        rcases List.mem_cons.1 hp' with e | e
        · subst e; omega
        · exact ⟨p', e, h3, h4⟩

/-- One step of the sweep over a row: the part from c to d is taken or not. -/
def stepR (T : Int → Bool) (a b : Int) (out : List Bx) (c d : Int) : List Bx :=
  if T c then (match out.getLast? with
    | some r => if r.x1 = c then out.dropLast ++ [⟨r.x0, r.y0, d, r.y1⟩] else out ++ [⟨c, a, d, b⟩]
    | none => out ++ [⟨c, a, d, b⟩]) else out
def runsK (T : Int → Bool) (a b : Int) : List Int → List Bx → List Bx
  | c :: d :: rest, out => runsK T a b (d :: rest) (stepR T a b out c d)
  | _, out => out

/-- T is the same from one of the numbers to the next. -/
def Even (T : Int → Bool) : List Int → Prop
  | c :: d :: rest => (∀ x, c ≤ x → x < d → T x = T c) ∧ Even T (d :: rest)
  | _ => True

theorem stepR_ok {T : Int → Bool} {a b c d : Int} {out : List Bx} (hcd : c < d) (hc : Canon a b out) (hle : ∀ r ∈ out, r.x1 ≤ c) (hT : ∀ x, c ≤ x → x < d → T x = T c) :
    Canon a b (stepR T a b out c d) ∧ (∀ r ∈ stepR T a b out c d, r.x1 ≤ d) ∧ ∀ x, Cov (stepR T a b out c d) x ↔ Cov out x ∨ (c ≤ x ∧ x < d ∧ T x = true) := by
  unfold stepR
  cases ht : T c with
  | false =>
    refine ⟨by simpa using hc, fun r hr => ?_, fun x => ?_⟩
    · have := hle r (by simpa using hr); omega
    · constructor
      · intro h; exact Or.inl (by simpa using h)
      · rintro (h | ⟨h1, h2, h3⟩)
        · simpa using h
        · rw [hT x h1 h2, ht] at h3; cases h3
  | true =>
    have push : (∀ r ∈ out, r.x1 < c) → Canon a b (out ++ [⟨c, a, d, b⟩]) ∧ (∀ r ∈ out ++ [⟨c, a, d, b⟩], r.x1 ≤ d) ∧ ∀ x, Cov (out ++ [⟨c, a, d, b⟩]) x ↔ Cov out x ∨ (c ≤ x ∧ x < d ∧ T x = true) := by
      intro hlt
      refine ⟨⟨fun r hr => ?_, ?_⟩, fun r hr => ?_, fun x => ?_⟩
      · rcases List.mem_append.1 hr with h | h
        · exact hc.y r h
        · simp at h; subst h; exact ⟨rfl, rfl, hcd⟩
      · rw [List.pairwise_append]
        exact ⟨hc.gap, by simp, fun r hr q hq => by simp at hq; subst hq; exact hlt r hr⟩
      · rcases List.mem_append.1 hr with h | h
        · have := hle r h; omega
        · simp at h; subst h; simp
      · constructor
        · rintro ⟨r, hr, h1, h2⟩
          rcases List.mem_append.1 hr with h | h
          · exact Or.inl ⟨r, h, h1, h2⟩
          · simp at h; subst h
            simp only at h1 h2
            exact Or.inr ⟨h1, h2, by rw [hT x h1 h2, ht]⟩
        · rintro (⟨r, hr, h1, h2⟩ | ⟨h1, h2, _⟩)
          · exact ⟨r, by simp [hr], h1, h2⟩
          · exact ⟨⟨c, a, d, b⟩, by simp, h1, h2⟩
    rw [if_pos rfl]
    rcases List.eq_nil_or_concat out with rfl | ⟨l, r, rfl⟩
    · simp only [List.getLast?_nil]
      exact push (fun r hr => by cases hr)
    · simp only [List.concat_eq_append] at hc hle push ⊢
      simp only [List.getLast?_append, List.getLast?_singleton, Option.some_or, List.dropLast_concat]
      have hg := List.pairwise_append.1 hc.gap
      have yr := hc.y r (by simp)
      split
      · rename_i he
        refine ⟨⟨fun q hq => ?_, ?_⟩, fun q hq => ?_, fun x => ?_⟩
        · rcases List.mem_append.1 hq with h | h
          · exact hc.y q (by simp [h])
          · simp at h; subst h; exact ⟨yr.1, yr.2.1, by simp only; omega⟩
        · rw [List.pairwise_append]
          exact ⟨hg.1, by simp, fun p hp q hq => by simp at hq; subst hq; exact hg.2.2 p hp r (by simp)⟩
        · rcases List.mem_append.1 hq with h | h
          · have := hle q (by simp [h]); omega
          · simp at h; subst h; simp
        · constructor
          · rintro ⟨q, hq, h1, h2⟩
            rcases List.mem_append.1 hq with h | h
            · exact Or.inl ⟨q, by simp [h], h1, h2⟩
            · simp at h; subst h
              simp only at h1 h2
              by_cases hx : x < c
              · exact Or.inl ⟨r, by simp, h1, by omega⟩
              · exact Or.inr ⟨by omega, h2, by rw [hT x (by omega) h2, ht]⟩
          · rintro (⟨q, hq, h1, h2⟩ | ⟨h1, h2, _⟩)
            · rcases List.mem_append.1 hq with h | h
              · exact ⟨q, by simp [h], h1, h2⟩
              · simp at h; subst h
                exact ⟨⟨q.x0, q.y0, d, q.y1⟩, by simp, h1, by simp only; omega⟩
            · exact ⟨⟨r.x0, r.y0, d, r.y1⟩, by simp, by simp only; omega, by simp only; omega⟩
      · rename_i he
        refine push fun q hq => ?_
        rcases List.mem_append.1 hq with h | h
        · have := hg.2.2 q h r (by simp); have := hle r (by simp); omega
        · simp at h; subst h; have := hle q (by simp); omega

theorem runsK_ok {T : Int → Bool} {a b : Int} : ∀ (xs : List Int) (c : Int) (out : List Bx), Up (c :: xs) → Even T (c :: xs) → Canon a b out → (∀ r ∈ out, r.x1 ≤ c) →
    Canon a b (runsK T a b (c :: xs) out) ∧ ∀ x, Cov (runsK T a b (c :: xs) out) x ↔ Cov out x ∨ (c ≤ x ∧ (∃ z ∈ c :: xs, x < z) ∧ T x = true) := by
  intro xs
  induction xs with
  | nil =>
    intro c out hu he hc hle
    refine ⟨hc, fun x => ⟨Or.inl, ?_⟩⟩
    rintro (h | ⟨h1, ⟨z, hz, h2⟩, _⟩)
    · exact h
    · simp at hz; omega
  | cons d t ih =>
    intro c out hu he hc hle
    have hu' := List.pairwise_cons.1 hu
    have hcd := hu'.1 d (by simp)
    obtain ⟨s1, s2, s3⟩ := stepR_ok hcd hc hle he.1
    obtain ⟨r1, r2⟩ := ih d _ hu'.2 he.2 s1 s2
    refine ⟨r1, fun x => ?_⟩
    show Cov (runsK T a b (d :: t) (stepR T a b out c d)) x ↔ _
    rw [r2, s3]
    constructor
    · rintro ((h | ⟨h1, h2, h3⟩) | ⟨h1, ⟨z, hz, h2⟩, h3⟩)
      · exact Or.inl h
      · exact Or.inr ⟨h1, ⟨d, by simp, h2⟩, h3⟩
      · exact Or.inr ⟨by omega, ⟨z, List.mem_cons_of_mem _ hz, h2⟩, h3⟩
    · rintro (h | ⟨h1, ⟨z, hz, h2⟩, h3⟩)
      · exact Or.inl (Or.inl h)
      · by_cases hx : x < d
        · exact Or.inl (Or.inr ⟨h1, hx, h3⟩)
        · refine Or.inr ⟨by omega, ⟨z, ?_, h2⟩, h3⟩
          rcases List.mem_cons.1 hz with e | e
          · omega
          · exact e

/-- A place is in one of the boxes of a row. -/
def inK (p : List Bx) (x : Int) : Bool := p.any fun b => decide (b.x0 ≤ x) && decide (x < b.x1)
theorem inK_cov (p : List Bx) (x : Int) : inK p x = true ↔ Cov p x := by
  simp [inK, Cov]

theorem even_of {T : Int → Bool} : ∀ (xs : List Int), Up xs → (∀ c d x, c ∈ xs → d ∈ xs → c ≤ x → x < d → (∀ z ∈ xs, z ≤ c ∨ d ≤ z) → T x = T c) → Even T xs := by
  intro xs
  induction xs with
  | nil => intro _ _; trivial
  | cons c t ih =>
    intro hu h
    cases t with
    | nil => trivial
    | cons d t =>
      have hu' := List.pairwise_cons.1 hu
      have hd := (List.pairwise_cons.1 hu'.2).1
      refine ⟨fun x h1 h2 => h c d x (by simp) (by simp) h1 h2 fun z hz => ?_, ih hu'.2 fun c' d' x hc' hd' h1 h2 hz => h c' d' x (List.mem_cons_of_mem _ hc') (List.mem_cons_of_mem _ hd') h1 h2 fun z hz' => ?_⟩
      · rcases List.mem_cons.1 hz with e | e
        · omega
        · rcases List.mem_cons.1 e with e | e
          · omega
          · have := hd _ e; omega
      · rcases List.mem_cons.1 hz' with e | e
        · have := hu'.1 _ hc'; omega
        · exact hz z e

theorem inK_even {p : List Bx} {xs : List Int} (h0 : ∀ b ∈ p, b.x0 ∈ xs ∧ b.x1 ∈ xs) {c d x : Int} (h1 : c ≤ x) (h2 : x < d) (hz : ∀ z ∈ xs, z ≤ c ∨ d ≤ z) : inK p x = inK p c := by
  rw [Bool.eq_iff_iff, inK_cov, inK_cov]
  constructor
  · rintro ⟨r, hr, h3, h4⟩
    have e0 := hz _ (h0 r hr).1
    have e1 := hz _ (h0 r hr).2
    exact ⟨r, hr, by omega, by omega⟩
  · rintro ⟨r, hr, h3, h4⟩
    have e0 := hz _ (h0 r hr).1
    have e1 := hz _ (h0 r hr).2
    exact ⟨r, hr, by omega, by omega⟩

/-- The runs of a row of two lists: as the word K says of each place. -/
def runsOf (K : Bool → Bool → Bool) (p q : List Bx) (a b : Int) : List Bx :=
  runsK (fun x => K (inK p x) (inK q x)) a b (endsF Bx.x0 Bx.x1 (endsF Bx.x0 Bx.x1 [] p) q) []

theorem runsOf_ok (K : Bool → Bool → Bool) (hK : K false false = false) (p q : List Bx) (a b : Int) :
    Canon a b (runsOf K p q a b) ∧ ∀ x, Cov (runsOf K p q a b) x ↔ K (inK p x) (inK q x) = true := by
  unfold runsOf
  have hu : Up (endsF Bx.x0 Bx.x1 (endsF Bx.x0 Bx.x1 [] p) q) := endsF_up _ _ _ (endsF_up _ _ _ List.Pairwise.nil)
  have hm : ∀ z, z ∈ endsF Bx.x0 Bx.x1 (endsF Bx.x0 Bx.x1 [] p) q ↔ (∃ b ∈ p, z = b.x0 ∨ z = b.x1) ∨ ∃ b ∈ q, z = b.x0 ∨ z = b.x1 := by
    intro z; rw [endsF_mem, endsF_mem]; simp
  generalize endsF Bx.x0 Bx.x1 (endsF Bx.x0 Bx.x1 [] p) q = xs at hu hm
  have hp : ∀ b ∈ p, b.x0 ∈ xs ∧ b.x1 ∈ xs := fun b hb => ⟨(hm _).2 (Or.inl ⟨b, hb, Or.inl rfl⟩), (hm _).2 (Or.inl ⟨b, hb, Or.inr rfl⟩)⟩
  have hq : ∀ b ∈ q, b.x0 ∈ xs ∧ b.x1 ∈ xs := fun b hb => ⟨(hm _).2 (Or.inr ⟨b, hb, Or.inl rfl⟩), (hm _).2 (Or.inr ⟨b, hb, Or.inr rfl⟩)⟩
  have he : Even (fun x => K (inK p x) (inK q x)) xs := even_of xs hu fun c d x _ _ h1 h2 hz => by
    simp only [inK_even hp h1 h2 hz, inK_even hq h1 h2 hz]
  have hin : ∀ x, K (inK p x) (inK q x) = true → ∃ u ∈ xs, ∃ z ∈ xs, u ≤ x ∧ x < z := by
    intro x hx
    have : inK p x = true ∨ inK q x = true := by
      cases h1 : inK p x with
      | true => exact Or.inl rfl
      | false =>
        cases h2 : inK q x with
        | true => exact Or.inr rfl
        | false => rw [h1, h2, hK] at hx; cases hx
    rcases this with h | h
    · obtain ⟨r, hr, h1, h2⟩ := (inK_cov _ _).1 h
      exact ⟨_, (hp r hr).1, _, (hp r hr).2, h1, h2⟩
    · obtain ⟨r, hr, h1, h2⟩ := (inK_cov _ _).1 h
      exact ⟨_, (hq r hr).1, _, (hq r hr).2, h1, h2⟩
  cases xs with
  | nil =>
    refine ⟨Canon.nil a b, fun x => ?_⟩
    constructor
    · rintro ⟨r, hr, _⟩; cases hr
    · intro h; obtain ⟨u, hu, _⟩ := hin x h; cases hu
  | cons c t =>
    obtain ⟨r1, r2⟩ := runsK_ok t c [] hu he (Canon.nil a b) (fun r hr => by cases hr)
    refine ⟨r1, fun x => ?_⟩
    rw [r2]
    constructor
    · rintro (⟨r, hr, _⟩ | ⟨_, _, h⟩)
      · cases hr
      · exact h
    · intro h
      obtain ⟨u, hu', z, hz, h1, h2⟩ := hin x h
      refine Or.inr ⟨?_, ⟨z, hz, h2⟩, h⟩
      rcases List.mem_cons.1 hu' with e | e
      · omega
      · have := (List.pairwise_cons.1 hu).1 _ e; omega

end Go.Proofs.YtafghanpfnhkpaaDoor
