/- Proved here: what is made of lists has no sides but theirs; so it has no more boxes than there are pairs of sides. No condition on the program. -/
import Derived.Test.YtokdpgabmifdjabShCount
namespace Go.Proofs.Ytokdpgabmifdjab
set_option linter.unusedVariables false
set_option linter.unusedSimpArgs false

def EndsIn (X Y : List Int) (s : List Bx) : Prop := ∀ b ∈ s, b.x0 ∈ X ∧ b.x1 ∈ X ∧ b.y0 ∈ Y ∧ b.y1 ∈ Y
theorem up_len : ∀ (xs E : List Int), Up xs → (∀ x ∈ xs, x ∈ E) → xs.length ≤ E.length := by
  intro xs
  induction xs with
  | nil => intro E _ _; simp
  | cons x t ih =>
    intro E hu h
    have hu' := List.pairwise_cons.1 hu
    have hx := h x (by simp)
    have := ih (E.erase x) hu'.2 fun y hy => by
      have hne : y ≠ x := by have := hu'.1 y hy; omega
      exact (List.mem_erase_of_ne hne).2 (h y (by simp [hy]))
    rw [List.length_erase_of_mem hx] at this
    have hp : 0 < E.length := List.length_pos_of_mem hx
    simp only [List.length_cons]
    omega
theorem runsK_ends {T : Int → Bool} {a b : Int} {E : List Int} : ∀ (xs : List Int) (c : Int) (out : List Bx), (∀ v ∈ c :: xs, v ∈ E) → (∀ r ∈ out, r.x0 ∈ E ∧ r.x1 ∈ E) → ∀ r ∈ runsK T a b (c :: xs) out, r.x0 ∈ E ∧ r.x1 ∈ E := by
  intro xs
  induction xs with
  | nil => intro c out _ h r hr; simp only [runsK] at hr; exact h r hr
  | cons d t ih =>
    intro c out hE h r hr
    rw [runsK] at hr
    refine ih d _ (fun v hv => hE v (by simp at hv ⊢; exact Or.inr hv)) ?_ r hr
    intro q hq
    have hc := hE c (by simp)
    have hd := hE d (by simp)
    have hnew : ∀ q ∈ out ++ [(⟨c, a, d, b⟩ : Bx)], q.x0 ∈ E ∧ q.x1 ∈ E := by
      intro q hq
      rcases List.mem_append.1 hq with hq | hq
      · exact h q hq
      · simp at hq; subst hq; exact ⟨hc, hd⟩
    unfold stepR at hq
    split at hq
    · cases hl : out.getLast? with
      | none => rw [hl] at hq; exact hnew q hq
      | some r =>
        rw [hl] at hq
        simp only at hq
        split at hq
        · rcases List.mem_append.1 hq with hq | hq
          · exact h q (List.dropLast_subset _ hq)
          · simp at hq; subst hq; exact ⟨(h r (List.mem_of_getLast? hl)).1, hd⟩
        · exact hnew q hq
    · exact h q hq
theorem row_ends {X Y : List Int} {s : List Bx} (h : EndsIn X Y s) (y : Int) : EndsIn X Y (rowK s y) := fun b hb => h b (List.mem_filter.1 hb).1
theorem runs_ends {X : List Int} {Y : List Int} {K : Bool → Bool → Bool} {p q : List Bx} (hp : EndsIn X Y p) (hq : EndsIn X Y q) (a b : Int) : (∀ r ∈ runsOf K p q a b, r.x0 ∈ X ∧ r.x1 ∈ X) ∧ (runsOf K p q a b).length ≤ X.length := by
  unfold runsOf
  have hu : Up (endsF Bx.x0 Bx.x1 (endsF Bx.x0 Bx.x1 [] p) q) := endsF_up _ _ _ (endsF_up _ _ _ List.Pairwise.nil)
  have hm : ∀ v ∈ endsF Bx.x0 Bx.x1 (endsF Bx.x0 Bx.x1 [] p) q, v ∈ X := by
    intro v hv
    rw [endsF_mem, endsF_mem] at hv
    rcases hv with (hv | ⟨b, hb, hv⟩) | ⟨b, hb, hv⟩
    · cases hv
    · rcases hv with rfl | rfl
      · exact (hp b hb).1
      · exact (hp b hb).2.1
    · rcases hv with rfl | rfl
      · exact (hq b hb).1
      · exact (hq b hb).2.1
  generalize endsF Bx.x0 Bx.x1 (endsF Bx.x0 Bx.x1 [] p) q = xs at hu hm
  have hl := up_len xs X hu hm
  cases xs with
  | nil => exact ⟨fun r hr => by simp [runsK] at hr, by simp [runsK]⟩
  | cons c t =>
    refine ⟨runsK_ends t c [] hm (fun r hr => by cases hr), ?_⟩
    have := runsK_half (T := fun x => K (inK p x) (inK q x)) (a := a) (b := b) t c [] 0 hu (by intro r hr; cases hr) (by simp)
    simp only [List.length_cons] at hl
    omega
theorem opK_ends {R : Int → Int → List Bx} {X Y : List Int} (hR : ∀ a b, a ∈ Y → b ∈ Y → EndsIn X Y (R a b)) : ∀ (ys : List Int) (st : List Bx × List Bx), (∀ y ∈ ys, y ∈ Y) → EndsIn X Y (st.1 ++ st.2) → EndsIn X Y (opK R ys st) := by
  intro ys
  induction ys with
  | nil => intro st _ h; exact h
  | cons a t ih =>
    intro st hy h
    cases t with
    | nil => exact h
    | cons b t =>
      rw [opK]
      refine ih _ (fun y hy' => hy y (by simp at hy' ⊢; exact Or.inr hy')) ?_
      have ha := hy a (by simp)
      have hb := hy b (by simp)
      unfold stepO
      split
      · intro r hr
        rcases List.mem_append.1 hr with hr | hr
        · exact h r (List.mem_append.2 (Or.inl hr))
        · unfold raise at hr
          obtain ⟨q, hq, rfl⟩ := List.mem_map.1 hr
          have := h q (List.mem_append.2 (Or.inr hq))
          exact ⟨this.1, this.2.1, this.2.2.1, hb⟩
      · intro r hr
        rcases List.mem_append.1 hr with hr | hr
        · exact h r hr
        · exact hR a b ha hb r hr
theorem ys_in {X Y : List Int} {s q : List Bx} (hs : EndsIn X Y s) (hq : EndsIn X Y q) : ∀ v ∈ endsF Bx.y0 Bx.y1 (endsF Bx.y0 Bx.y1 [] s) q, v ∈ Y := by
  intro v hv
  rw [endsF_mem, endsF_mem] at hv
  rcases hv with (hv | ⟨b, hb, hv⟩) | ⟨b, hb, hv⟩
  · cases hv
  · rcases hv with rfl | rfl
    · exact (hs b hb).2.2.1
    · exact (hs b hb).2.2.2
  · rcases hv with rfl | rfl
    · exact (hq b hb).2.2.1
    · exact (hq b hb).2.2.2
/-- What two lists make has only their sides. -/
theorem opOf_ends {K : Bool → Bool → Bool} (hK : K false false = false) {X Y : List Int} {s q : List Bx} (hs : EndsIn X Y s) (hq : EndsIn X Y q) : EndsIn X Y (opOf K s q) := by
  unfold opOf
  refine opK_ends (fun a b ha hb r hr => ?_) _ _ (ys_in hs hq) (fun b hb => by simp at hb)
  have h1 := (runs_ends (K := K) (row_ends hs a) (row_ends hq a) a b).1 r hr
  have h2 := (runsOf_ok K hK (rowK s a) (rowK q a) a b).1.y r hr
  exact ⟨h1.1, h1.2, by rw [h2.1]; exact ha, by rw [h2.2.1]; exact hb⟩
/-- .. so it has few boxes. -/
theorem opOf_few {K : Bool → Bool → Bool} {X Y : List Int} {s q : List Bx} (hs : EndsIn X Y s) (hq : EndsIn X Y q) : (opOf K s q).length ≤ Y.length * X.length := by
  unfold opOf
  have h1 := opK_len (R := fun a b => runsOf K (rowK s a) (rowK q a) a b) (f := fun _ => X.length) (fun a b => (runs_ends (row_ends hs a) (row_ends hq a) a b).2) (endsF Bx.y0 Bx.y1 (endsF Bx.y0 Bx.y1 [] s) q) ([], [])
  have hu : Up (endsF Bx.y0 Bx.y1 (endsF Bx.y0 Bx.y1 [] s) q) := endsF_up _ _ _ (endsF_up _ _ _ List.Pairwise.nil)
  have h2 := up_len _ Y hu (ys_in hs hq)
  rw [sumR_const] at h1
  simp only [List.length_nil, Nat.zero_add] at h1
  exact Nat.le_trans h1 (Nat.mul_le_mul_right _ h2)

/-- A list with at most n sides each way. -/
def Sides (n : Nat) (s : List Bx) : Prop := ∃ X Y : List Int, X.length ≤ n ∧ Y.length ≤ n ∧ EndsIn X Y s
theorem sides_own (s : List Bx) : Sides (2 * s.length) s := by
  refine ⟨s.map Bx.x0 ++ s.map Bx.x1, s.map Bx.y0 ++ s.map Bx.y1, by simp; omega, by simp; omega, fun b hb => ?_⟩
  simp only [List.mem_append, List.mem_map]
  exact ⟨Or.inl ⟨b, hb, rfl⟩, Or.inr ⟨b, hb, rfl⟩, Or.inl ⟨b, hb, rfl⟩, Or.inr ⟨b, hb, rfl⟩⟩
theorem Sides.op {n : Nat} {s : List Bx} (h : Sides n s) : Sides n (opOf or s []) := by
  obtain ⟨X, Y, hX, hY, he⟩ := h
  exact ⟨X, Y, hX, hY, opOf_ends rfl he (fun b hb => by cases hb)⟩
theorem Sides.few {n : Nat} {s : List Bx} (h : Sides n s) : (opOf or s []).length ≤ n * n := by
  obtain ⟨X, Y, hX, hY, he⟩ := h
  exact Nat.le_trans (opOf_few he (fun b hb => by cases hb)) (Nat.mul_le_mul hY hX)

end Go.Proofs.Ytokdpgabmifdjab
