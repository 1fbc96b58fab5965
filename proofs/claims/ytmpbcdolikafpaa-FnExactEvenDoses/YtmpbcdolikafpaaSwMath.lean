/- Proved here: the sweep over the edges of a row, which counts how many boxes of each list there are, makes the same runs as the sweep over the row's ends. No condition on the program. -/
import Derived.Test.YtmpbcdolikafpaaShMath2
namespace Go.Proofs.Ytmpbcdolikafpaa
set_option linter.unusedVariables false
set_option linter.unusedSimpArgs false

/-- Where a box begins or ends. -/
structure Ed where
  x : Int
  y0 : Int
  y1 : Int
  f : Int
  s : Int

def sumE (g : Ed → Int) : List Ed → Int
  | [] => 0
  | e :: t => g e + sumE g t
theorem sumE_append (g : Ed → Int) (s t : List Ed) : sumE g (s ++ t) = sumE g s + sumE g t := by
  induction s with
  | nil => simp [sumE]
  | cons b u ih => simp only [List.cons_append, sumE, ih]; omega
theorem sumE_perm {g : Ed → Int} {s t : List Ed} (h : s.Perm t) : sumE g s = sumE g t := by
  induction h with
  | nil => rfl
  | cons a _ ih => simp only [sumE, ih]
  | swap a b l => simp only [sumE]; omega
  | trans _ _ h1 h2 => rw [h1, h2]
theorem sumE_congr {g f : Ed → Int} {s : List Ed} (h : ∀ e ∈ s, g e = f e) : sumE g s = sumE f s := by
  induction s with
  | nil => rfl
  | cons b u ih => simp only [sumE]; rw [h b (by simp), ih (fun q hq => h q (by simp [hq]))]
theorem sumE_zero {g : Ed → Int} {s : List Ed} (h : ∀ e ∈ s, g e = 0) : sumE g s = 0 := by
  induction s with
  | nil => rfl
  | cons b u ih => simp only [sumE]; rw [h b (by simp), ih (fun q hq => h q (by simp [hq]))]; rfl

/-- How many there are at a place: what the edges at or left of it add up to. -/
def atF (M : List Ed) (x : Int) : Int := sumE (fun e => if e.x ≤ x then e.f else 0) M
def atS (M : List Ed) (x : Int) : Int := sumE (fun e => if e.x ≤ x then e.s else 0) M

/-- The next edge stands at the same place. -/
def nextAt (x : Int) : List Ed → Bool
  | e2 :: _ => decide (e2.x = x)
  | [] => false
/-- The sweep over the edges. -/
def sweepE (K : Bool → Bool → Bool) (a b : Int) : List Ed → Int → Int → Bool → Int → List Bx → List Bx
  | [], _, _, _, _, out => out
  | e :: rest, f, s, op, x0, out =>
    if nextAt e.x rest then sweepE K a b rest (f + e.f) (s + e.s) op x0 out
    else
      let stay := K (decide (0 < f + e.f)) (decide (0 < s + e.s))
      let x1 := if stay && !op then e.x else x0
      sweepE K a b rest (f + e.f) (s + e.s) stay x1 (if op && !stay then out ++ [⟨x1, a, e.x, b⟩] else out)

def Rising (M : List Ed) : Prop := M.Pairwise (fun p q => p.x ≤ q.x)

theorem at_split {P R : List Ed} {x : Int} (h1 : ∀ e ∈ P, e.x ≤ x) (h2 : ∀ e ∈ R, x < e.x) : atF (P ++ R) x = sumE Ed.f P ∧ atS (P ++ R) x = sumE Ed.s P := by
  unfold atF atS
  rw [sumE_append, sumE_append]
  have z1 : sumE (fun e => if e.x ≤ x then e.f else 0) R = 0 := sumE_zero fun e he => by have := h2 e he; rw [if_neg (by omega)]
  have z2 : sumE (fun e => if e.x ≤ x then e.s else 0) R = 0 := sumE_zero fun e he => by have := h2 e he; rw [if_neg (by omega)]
  have c1 : sumE (fun e => if e.x ≤ x then e.f else 0) P = sumE Ed.f P := sumE_congr fun e he => by rw [if_pos (h1 e he)]
  have c2 : sumE (fun e => if e.x ≤ x then e.s else 0) P = sumE Ed.s P := sumE_congr fun e he => by rw [if_pos (h1 e he)]
  rw [z1, z2, c1, c2]
  simp

/-- What stands while the edges are gone through. -/
structure Swp (T : Int → Bool) (a b : Int) (R : List Ed) (op : Bool) (x0 : Int) (out : List Bx) : Prop where
  can : Canon a b out
  cov : ∀ x, (∀ e ∈ R, x < e.x) → (T x = true ↔ Cov out x ∨ (op = true ∧ x0 ≤ x))
  beh : ∀ r ∈ out, ∀ e ∈ R, r.x1 < e.x
  opn : op = true → (∀ r ∈ out, r.x1 < x0) ∧ ∀ e ∈ R, x0 < e.x

theorem sweepE_ok (K : Bool → Bool → Bool) (hK : K false false = false) (a b : Int) (M : List Ed) (hF : sumE Ed.f M = 0) (hS : sumE Ed.s M = 0) (hM : Rising M) :
    ∀ (R P : List Ed) (op : Bool) (x0 : Int) (out : List Bx), M = P ++ R → Swp (fun x => K (decide (0 < atF M x)) (decide (0 < atS M x))) a b R op x0 out →
      Canon a b (sweepE K a b R (sumE Ed.f P) (sumE Ed.s P) op x0 out) ∧ ∀ x, Cov (sweepE K a b R (sumE Ed.f P) (sumE Ed.s P) op x0 out) x ↔ K (decide (0 < atF M x)) (decide (0 < atS M x)) = true := by
  intro R
  induction R with
  | nil =>
    intro P op x0 out hPR h
    refine ⟨h.can, fun x => ?_⟩
    have hcl : op = false := by
      cases hop : op with
      | false => rfl
      | true =>
        exfalso
        have hP : P = M := by rw [hPR]; simp
        -- a place behind all edges, and behind x0
        have hex : ∃ y, x0 ≤ y ∧ ∀ e ∈ M, e.x ≤ y := by
          clear hPR hF hS hM h hP
          induction M with
          | nil => exact ⟨x0, Int.le_refl _, fun e he => by cases he⟩
          | cons e t ih =>
            obtain ⟨y, h1, h2⟩ := ih
            refine ⟨if e.x ≤ y then y else e.x, by split <;> omega, fun q hq => ?_⟩
            rcases List.mem_cons.1 hq with e1 | e1
            · subst e1; split <;> omega
            · have := h2 q e1; split <;> omega
        obtain ⟨y, hy1, hy2⟩ := hex
        have hc := (h.cov y (fun e he => by cases he)).2 (Or.inr ⟨hop, hy1⟩)
        have hs := at_split (P := M) (R := []) hy2 (fun e he => by cases he)
        simp only [List.append_nil] at hs
        rw [hs.1, hs.2, hF, hS] at hc
        simp [hK] at hc
    have := h.cov x (fun e he => by cases he)
    simp only [sweepE]
    rw [this, hcl]
    simp
  | cons e rest ih =>
    intro P op x0 out hPR h
    have hPR' : M = (P ++ [e]) ++ rest := by rw [hPR]; simp
    have hsf : sumE Ed.f (P ++ [e]) = sumE Ed.f P + e.f := by rw [sumE_append]; simp [sumE]
    have hss : sumE Ed.s (P ++ [e]) = sumE Ed.s P + e.s := by rw [sumE_append]; simp [sumE]
    have hM' : Rising (P ++ e :: rest) := by rw [← hPR]; exact hM
    have hpp := List.pairwise_append.1 hM'
    have her := List.pairwise_cons.1 hpp.2.1
    unfold sweepE
    by_cases hmid : nextAt e.x rest = true
    · rw [if_pos hmid, ← hsf, ← hss]
      refine ih (P ++ [e]) op x0 out hPR' ⟨h.can, fun x hx => h.cov x fun q hq => ?_, fun r hr q hq => h.beh r hr q (by simp [hq]), fun ho => ⟨(h.opn ho).1, fun q hq => (h.opn ho).2 q (by simp [hq])⟩⟩
      rcases List.mem_cons.1 hq with e1 | e1
      · subst e1
        cases rest with
        | nil => simp [nextAt] at hmid
        | cons e2 t =>
          simp only [nextAt, decide_eq_true_eq] at hmid
          have := hx e2 (by simp)
          omega
      · exact hx q e1
    · rw [if_neg hmid]
      have hgt : ∀ q ∈ rest, e.x < q.x := by
        intro q hq
        cases rest with
        | nil => cases hq
        | cons e2 t =>
          simp only [nextAt, decide_eq_true_eq] at hmid
          have h1 := her.1 e2 (by simp)
          have h2 := (List.pairwise_cons.1 her.2).1
          rcases List.mem_cons.1 hq with e1 | e1
          · subst e1; omega
          · have := h2 q e1; omega
      have hT : ∀ x, e.x ≤ x → (∀ q ∈ rest, x < q.x) → K (decide (0 < atF M x)) (decide (0 < atS M x)) = K (decide (0 < sumE Ed.f P + e.f)) (decide (0 < sumE Ed.s P + e.s)) := by
        intro x h1 h2
        have := at_split (P := P ++ [e]) (R := rest) (x := x) (fun q hq => by
          rcases List.mem_append.1 hq with e1 | e1
          · have := hpp.2.2 q e1 e (by simp); omega
          · simp at e1; subst e1; exact h1) h2
        rw [hPR', this.1, this.2, hsf, hss]
      have hbe : ∀ r ∈ out, r.x1 < e.x := fun r hr => h.beh r hr e (by simp)
      have hcov : ∀ x, x < e.x → (K (decide (0 < atF M x)) (decide (0 < atS M x)) = true ↔ Cov out x ∨ (op = true ∧ x0 ≤ x)) := fun x hx => h.cov x fun q hq => by
        rcases List.mem_cons.1 hq with e1 | e1
        · subst e1; exact hx
        · have := hgt q e1; omega
      have hno : ∀ x, e.x ≤ x → ¬ Cov out x := fun x hx ⟨r, hr, _, h2⟩ => by have := hbe r hr; omega
      simp only
      rw [← hsf, ← hss]
      rw [← hsf, ← hss] at hT
      refine ih (P ++ [e]) _ _ _ hPR' ?_
      cases hst : K (decide (0 < sumE Ed.f (P ++ [e]))) (decide (0 < sumE Ed.s (P ++ [e]))) with
      | true =>
        rw [hst] at hT
        cases hop : op with
        | true =>
          simp only [hop, Bool.and_false, Bool.not_true, Bool.not_false, Bool.and_true, Bool.false_eq_true, if_false, if_true, Bool.true_and]
          have ho := h.opn hop
          refine ⟨h.can, fun x hx => ?_, fun r hr q hq => h.beh r hr q (by simp [hq]), fun _ => ⟨ho.1, fun q hq => ho.2 q (by simp [hq])⟩⟩
          rcases (by omega : x < e.x ∨ e.x ≤ x) with hlt | hge
          · rw [hcov x hlt, hop]
          · rw [hT x hge hx]
            have := ho.2 e (by simp)
            exact ⟨fun _ => Or.inr ⟨rfl, by omega⟩, fun _ => rfl⟩
        | false =>
          simp only [hop, Bool.and_false, Bool.not_true, Bool.not_false, Bool.and_true, Bool.false_eq_true, if_false, if_true, Bool.true_and, Bool.false_and]
          refine ⟨h.can, fun x hx => ?_, fun r hr q hq => h.beh r hr q (by simp [hq]), fun _ => ⟨hbe, fun q hq => hgt q hq⟩⟩
          rcases (by omega : x < e.x ∨ e.x ≤ x) with hlt | hge
          · rw [hcov x hlt, hop]
            constructor
            · rintro (h1 | ⟨h1, _⟩)
              · exact Or.inl h1
              · cases h1
            · rintro (h1 | ⟨_, h1⟩)
              · exact Or.inl h1
              · omega
          · rw [hT x hge hx]
            exact ⟨fun _ => Or.inr ⟨rfl, hge⟩, fun _ => rfl⟩
      | false =>
        rw [hst] at hT
        cases hop : op with
        | true =>
          simp only [hop, Bool.and_false, Bool.not_true, Bool.not_false, Bool.and_true, Bool.false_eq_true, if_false, if_true, Bool.true_and, Bool.false_and]
          have ho := h.opn hop
          have hx0 := ho.2 e (by simp)
          refine ⟨⟨fun r hr => ?_, ?_⟩, fun x hx => ?_, fun r hr q hq => ?_, fun h1 => by cases h1⟩
          · rcases List.mem_append.1 hr with e1 | e1
            · exact h.can.y r e1
            · simp at e1; subst e1; exact ⟨rfl, rfl, hx0⟩
          · rw [List.pairwise_append]
            exact ⟨h.can.gap, by simp, fun r hr q hq => by simp at hq; subst hq; exact ho.1 r hr⟩
          · have happ : Cov (out ++ [⟨x0, a, e.x, b⟩]) x ↔ Cov out x ∨ (x0 ≤ x ∧ x < e.x) := by
              constructor
              · rintro ⟨r, hr, h1, h2⟩
                rcases List.mem_append.1 hr with e1 | e1
                · exact Or.inl ⟨r, e1, h1, h2⟩
                · simp at e1; subst e1; exact Or.inr ⟨h1, h2⟩
              · rintro (⟨r, hr, h1, h2⟩ | ⟨h1, h2⟩)
                · exact ⟨r, by simp [hr], h1, h2⟩
                · exact ⟨⟨x0, a, e.x, b⟩, by simp, h1, h2⟩
            rw [happ]
            rcases (by omega : x < e.x ∨ e.x ≤ x) with hlt | hge
            · rw [hcov x hlt, hop]
              constructor
              · rintro (h1 | ⟨_, h1⟩)
                · exact Or.inl (Or.inl h1)
                · exact Or.inl (Or.inr ⟨h1, hlt⟩)
              · rintro ((h1 | ⟨h1, _⟩) | ⟨h1, _⟩)
                · exact Or.inl h1
                · exact Or.inr ⟨rfl, h1⟩
                · cases h1
            · rw [hT x hge hx]
              constructor
              · intro h1; cases h1
              · rintro ((h1 | ⟨_, h1⟩) | ⟨h1, _⟩)
                · exact absurd h1 (hno x hge)
                · omega
                · cases h1
          · rcases List.mem_append.1 hr with e1 | e1
            · exact h.beh r e1 q (by simp [hq])
            · simp at e1; subst e1; exact hgt q hq
        | false =>
          simp only [hop, Bool.and_false, Bool.not_true, Bool.not_false, Bool.and_true, Bool.false_eq_true, if_false, if_true, Bool.true_and, Bool.false_and]
          refine ⟨h.can, fun x hx => ?_, fun r hr q hq => h.beh r hr q (by simp [hq]), fun h1 => by cases h1⟩
          rcases (by omega : x < e.x ∨ e.x ≤ x) with hlt | hge
          · rw [hcov x hlt, hop]
          · rw [hT x hge hx]
            constructor
            · intro h1; cases h1
            · rintro (h1 | ⟨h1, _⟩)
              · exact absurd h1 (hno x hge)
              · cases h1

end Go.Proofs.Ytmpbcdolikafpaa
