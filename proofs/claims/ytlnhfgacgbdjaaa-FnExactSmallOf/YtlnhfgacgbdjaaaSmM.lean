/- Proved here: how many boxes all parts have; what of them is small. No condition on the program. (And ahead of it: Proved here: boxes of a list in the one form, and the cells of a list. No condition on the program. (And ahead of it: Proved here: what is made of lists has no sides but theirs; so it has no more boxes than there are pairs of sides. No condition on the program.)) -/
import Derived.Test.YtlnhfgacgbdjaaaShCount
import Derived.Test.YtlnhfgacgbdjaaaIForm
import Derived.Test.YtlnhfgacgbdjaaaSmA
import Derived.Test.YtlnhfgacgbdjaaaPoI
import Derived.Test.YtlnhfgacgbdjaaaLawPS
namespace Go.Proofs.Ytlnhfgacgbdjaaa
set_option linter.unusedVariables false
set_option linter.unusedSimpArgs false

def EndsIn (X Y : List Int) (s : List Bx) : Prop := ∀ b ∈ s, b.x0 ∈ X ∧ b.x1 ∈ X ∧ b.y0 ∈ Y ∧ b.y1 ∈ Y
theorem up_len : ∀ (xs E : List Int), Up xs → (∀ x ∈ xs, x ∈ E) → xs.length ≤ E.length := by
  intro xs
  induction xs with
  | nil => intro E _ _; simp
  | cons x t ih =>
    intro E hu h
    have hu' := List.pairwise_cons.1 hu
    have hx := h x (by simp)
    have := ih (E.erase x) hu'.2 fun y hy => by
      have hne : y ≠ x := by have := hu'.1 y hy; omega
      exact (List.mem_erase_of_ne hne).2 (h y (by simp [hy]))
    rw [List.length_erase_of_mem hx] at this
    have hp : 0 < E.length := List.length_pos_of_mem hx
    simp only [List.length_cons]
    omega
theorem runsK_ends {T : Int → Bool} {a b : Int} {E : List Int} : ∀ (xs : List Int) (c : Int) (out : List Bx), (∀ v ∈ c :: xs, v ∈ E) → (∀ r ∈ out, r.x0 ∈ E ∧ r.x1 ∈ E) → ∀ r ∈ runsK T a b (c :: xs) out, r.x0 ∈ E ∧ r.x1 ∈ E := by
  intro xs
  induction xs with
  | nil => intro c out _ h r hr; simp only [runsK] at hr; exact h r hr
  | cons d t ih =>
    intro c out hE h r hr
    rw [runsK] at hr
    refine ih d _ (fun v hv => hE v (by simp at hv ⊢; exact Or.inr hv)) ?_ r hr
    intro q hq
    have hc := hE c (by simp)
    have hd := hE d (by simp)
    have hnew : ∀ q ∈ out ++ [(⟨c, a, d, b⟩ : Bx)], q.x0 ∈ E ∧ q.x1 ∈ E := by
      intro q hq
      rcases List.mem_append.1 hq with hq | hq
      · exact h q hq
      · simp at hq; subst hq; exact ⟨hc, hd⟩
    unfold stepR at hq
    split at hq
    · cases hl : out.getLast? with
      | none => rw [hl] at hq; exact hnew q hq
      | some r =>
        rw [hl] at hq
        simp only at hq
        split at hq
        · rcases List.mem_append.1 hq with hq | hq
          · exact h q (List.dropLast_subset _ hq)
          · simp at hq; subst hq; exact ⟨(h r (List.mem_of_getLast? hl)).1, hd⟩
        · exact hnew q hq
    · exact h q hq
theorem row_ends {X Y : List Int} {s : List Bx} (h : EndsIn X Y s) (y : Int) : EndsIn X Y (rowK s y) := fun b hb => h b (List.mem_filter.1 hb).1
theorem runs_ends {X : List Int} {Y : List Int} {K : Bool → Bool → Bool} {p q : List Bx} (hp : EndsIn X Y p) (hq : EndsIn X Y q) (a b : Int) : (∀ r ∈ runsOf K p q a b, r.x0 ∈ X ∧ r.x1 ∈ X) ∧ (runsOf K p q a b).length ≤ X.length := by
  unfold runsOf
  have hu : Up (endsF Bx.x0 Bx.x1 (endsF Bx.x0 Bx.x1 [] p) q) := endsF_up _ _ _ (endsF_up _ _ _ List.Pairwise.nil)
  have hm : ∀ v ∈ endsF Bx.x0 Bx.x1 (endsF Bx.x0 Bx.x1 [] p) q, v ∈ X := by
    intro v hv
    rw [endsF_mem, endsF_mem] at hv
    rcases hv with (hv | ⟨b, hb, hv⟩) | ⟨b, hb, hv⟩
    · cases hv
    · rcases hv with rfl | rfl
      · exact (hp b hb).1
      · exact (hp b hb).2.1
    · rcases hv with rfl | rfl
      · exact (hq b hb).1
      · exact (hq b hb).2.1
  generalize endsF Bx.x0 Bx.x1 (endsF Bx.x0 Bx.x1 [] p) q = xs at hu hm
  have hl := up_len xs X hu hm
  cases xs with
  | nil => exact ⟨fun r hr => by simp [runsK] at hr, by simp [runsK]⟩
  | cons c t =>
    refine ⟨runsK_ends t c [] hm (fun r hr => by cases hr), ?_⟩
    have := runsK_half (T := fun x => K (inK p x) (inK q x)) (a := a) (b := b) t c [] 0 hu (by intro r hr; cases hr) (by simp)
    simp only [List.length_cons] at hl
    omega
theorem opK_ends {R : Int → Int → List Bx} {X Y : List Int} (hR : ∀ a b, a ∈ Y → b ∈ Y → EndsIn X Y (R a b)) : ∀ (ys : List Int) (st : List Bx × List Bx), (∀ y ∈ ys, y ∈ Y) → EndsIn X Y (st.1 ++ st.2) → EndsIn X Y (opK R ys st) := by
  intro ys
  induction ys with
  | nil => intro st _ h; exact h
  | cons a t ih =>
    intro st hy h
    cases t with
    | nil => exact h
    | cons b t =>
      rw [opK]
      refine ih _ (fun y hy' => hy y (by simp at hy' ⊢; exact Or.inr hy')) ?_
      have ha := hy a (by simp)
      have hb := hy b (by simp)
      unfold stepO
      split
      · intro r hr
        rcases List.mem_append.1 hr with hr | hr
        · exact h r (List.mem_append.2 (Or.inl hr))
        · unfold raise at hr
          obtain ⟨q, hq, rfl⟩ := List.mem_map.1 hr
          have := h q (List.mem_append.2 (Or.inr hq))
          exact ⟨this.1, this.2.1, this.2.2.1, hb⟩
      · intro r hr
        rcases List.mem_append.1 hr with hr | hr
        · exact h r hr
        · exact hR a b ha hb r hr
theorem ys_in {X Y : List Int} {s q : List Bx} (hs : EndsIn X Y s) (hq : EndsIn X Y q) : ∀ v ∈ endsF Bx.y0 Bx.y1 (endsF Bx.y0 Bx.y1 [] s) q, v ∈ Y := by
  intro v hv
  rw [endsF_mem, endsF_mem] at hv
  rcases hv with (hv | ⟨b, hb, hv⟩) | ⟨b, hb, hv⟩
  · cases hv
  · rcases hv with rfl | rfl
    · exact (hs b hb).2.2.1
    · exact (hs b hb).2.2.2
  · rcases hv with rfl | rfl
    · exact (hq b hb).2.2.1
    · exact (hq b hb).2.2.2
/-- What two lists make has only their sides. -/
theorem opOf_ends {K : Bool → Bool → Bool} (hK : K false false = false) {X Y : List Int} {s q : List Bx} (hs : EndsIn X Y s) (hq : EndsIn X Y q) : EndsIn X Y (opOf K s q) := by
  unfold opOf
  refine opK_ends (fun a b ha hb r hr => ?_) _ _ (ys_in hs hq) (fun b hb => by simp at hb)
  have h1 := (runs_ends (K := K) (row_ends hs a) (row_ends hq a) a b).1 r hr
  have h2 := (runsOf_ok K hK (rowK s a) (rowK q a) a b).1.y r hr
  exact ⟨h1.1, h1.2, by rw [h2.1]; exact ha, by rw [h2.2.1]; exact hb⟩
/-- .. so it has few boxes. -/
theorem opOf_few {K : Bool → Bool → Bool} {X Y : List Int} {s q : List Bx} (hs : EndsIn X Y s) (hq : EndsIn X Y q) : (opOf K s q).length ≤ Y.length * X.length := by
  unfold opOf
  have h1 := opK_len (R := fun a b => runsOf K (rowK s a) (rowK q a) a b) (f := fun _ => X.length) (fun a b => (runs_ends (row_ends hs a) (row_ends hq a) a b).2) (endsF Bx.y0 Bx.y1 (endsF Bx.y0 Bx.y1 [] s) q) ([], [])
  have hu : Up (endsF Bx.y0 Bx.y1 (endsF Bx.y0 Bx.y1 [] s) q) := endsF_up _ _ _ (endsF_up _ _ _ List.Pairwise.nil)
  have h2 := up_len _ Y hu (ys_in hs hq)
  rw [sumR_const] at h1
  simp only [List.length_nil, Nat.zero_add] at h1
  exact Nat.le_trans h1 (Nat.mul_le_mul_right _ h2)

/-- A list with at most n sides each way. -/
def Sides (n : Nat) (s : List Bx) : Prop := ∃ X Y : List Int, X.length ≤ n ∧ Y.length ≤ n ∧ EndsIn X Y s
theorem sides_own (s : List Bx) : Sides (2 * s.length) s := by
  refine ⟨s.map Bx.x0 ++ s.map Bx.x1, s.map Bx.y0 ++ s.map Bx.y1, by simp; omega, by simp; omega, fun b hb => ?_⟩
  simp only [List.mem_append, List.mem_map]
  exact ⟨Or.inl ⟨b, hb, rfl⟩, Or.inr ⟨b, hb, rfl⟩, Or.inl ⟨b, hb, rfl⟩, Or.inr ⟨b, hb, rfl⟩⟩
theorem Sides.op {n : Nat} {s : List Bx} (h : Sides n s) : Sides n (opOf or s []) := by
  obtain ⟨X, Y, hX, hY, he⟩ := h
  exact ⟨X, Y, hX, hY, opOf_ends rfl he (fun b hb => by cases hb)⟩
theorem Sides.few {n : Nat} {s : List Bx} (h : Sides n s) : (opOf or s []).length ≤ n * n := by
  obtain ⟨X, Y, hX, hY, he⟩ := h
  exact Nat.le_trans (opOf_few he (fun b hb => by cases hb)) (Nat.mul_le_mul hY hX)

end Go.Proofs.Ytlnhfgacgbdjaaa

namespace Go.Proofs.Ytlnhfgacgbdjaaa
open Go.RowKit
set_option linter.unusedVariables false
set_option linter.unusedSimpArgs false

/-- A box of the one form has cells. -/
theorem form_in : ∀ {rows : List (List Bx)} {below : List Bx}, FormB below rows → ∀ b ∈ rows.flatten, b.x0 < b.x1 ∧ b.y0 < b.y1 := by
  intro rows
  induction rows with
  | nil => intro below _ b hb; simp at hb
  | cons r rest ih =>
    intro below h b hb
    simp only [List.flatten_cons, List.mem_append] at hb
    rcases hb with hb | hb
    · have h1 := h.2.2.1.y b hb
      have h2 := h.2.1
      omega
    · exact ih h.2.2.2.2.2 b hb
theorem cell_of {l : List Bx} {b : Bx} {x y : Int} (hb : b ∈ l) (h : b.x0 ≤ x ∧ x < b.x1 ∧ b.y0 ≤ y ∧ y < b.y1) : Cell l x y := by
  refine ⟨b, ?_, h.1, h.2.1⟩
  unfold rowK
  rw [List.mem_filter]
  refine ⟨hb, ?_⟩
  simp
  omega
theorem shape_rows {s : List Bx} (h : shapeK s = 0) : ∃ rows, s = rows.flatten ∧ FormB [] rows := by
  have hb : boxesK s = 0 := by
    unfold shapeK at h
    split at h
    · assumption
    · rename_i h0; exact absurd h h0
  have hz := (boxesK_zero hb).2
  have hf : inForm s.length [] s = true := by
    unfold shapeK at h
    rw [if_pos hb] at h
    split at h
    · assumption
    · cases h
  exact inForm_rows s.length [] s (Nat.le_refl _) (fun b hb => ⟨(hz b hb).1, (hz b hb).2.1⟩) ⟨0, 0, Canon.nil 0 0⟩ hf
theorem cell_iff (l : List Bx) (x y : Int) : Cell l x y ↔ ∃ b ∈ l, b.x0 ≤ x ∧ x < b.x1 ∧ b.y0 ≤ y ∧ y < b.y1 := by
  unfold Cell Cov rowK
  constructor
  · rintro ⟨b, hb, h1, h2⟩
    rw [List.mem_filter] at hb
    have h3 : b.y0 ≤ y ∧ y < b.y1 := by simpa using hb.2
    exact ⟨b, hb.1, h1, h2, h3.1, h3.2⟩
  · rintro ⟨b, hb, h1, h2, h3, h4⟩
    exact ⟨b, List.mem_filter.2 ⟨hb, by simp; omega⟩, h1, h2⟩
/-- A list in the one form has boxes with cells. -/
theorem opOf_tall (K : Bool → Bool → Bool) (hK : K false false = false) (s q : List Bx) : ∀ b ∈ opOf K s q, b.x0 < b.x1 ∧ b.y0 < b.y1 := by
  obtain ⟨rows, hr, hF⟩ := opOf_form K hK s q
  rw [hr]
  exact form_in hF

end Go.Proofs.Ytlnhfgacgbdjaaa

namespace Go.Proofs.Ytlnhfgacgbdjaaa
set_option linter.unusedVariables false
set_option linter.unusedSimpArgs false

theorem good_op {l : List Bx} (h : Good l) : Good (opOf (takesK 1) l []) := by
  obtain ⟨rows, hr, hF⟩ := opOf_form (takesK 1) rfl l []
  have hv : ∀ b ∈ opOf (takesK 1) l [], b.x0 < b.x1 ∧ b.y0 < b.y1 := fun b hb => form_in hF b (by rw [← hr]; exact hb)
  have he : EndsIn (l.map Bx.x0 ++ l.map Bx.x1) (l.map Bx.y0 ++ l.map Bx.y1) l := fun b hb => by
    simp only [List.mem_append, List.mem_map]
    exact ⟨Or.inl ⟨b, hb, rfl⟩, Or.inr ⟨b, hb, rfl⟩, Or.inl ⟨b, hb, rfl⟩, Or.inr ⟨b, hb, rfl⟩⟩
  have h1 := opOf_ends (K := takesK 1) rfl he (q := []) (fun b hb => by cases hb)
  have bx : ∀ v ∈ l.map Bx.x0 ++ l.map Bx.x1, -10000 ≤ v ∧ v ≤ 10000 := by
    intro v hv
    rcases List.mem_append.1 hv with hv | hv <;> obtain ⟨b, hb, rfl⟩ := List.mem_map.1 hv <;> have := h b hb <;> omega
  have by' : ∀ v ∈ l.map Bx.y0 ++ l.map Bx.y1, -10000 ≤ v ∧ v ≤ 10000 := by
    intro v hv
    rcases List.mem_append.1 hv with hv | hv <;> obtain ⟨b, hb, rfl⟩ := List.mem_map.1 hv <;> have := h b hb <;> omega
  intro b hb
  obtain ⟨e1, e2, e3, e4⟩ := h1 b hb
  have := hv b hb
  have a1 := bx _ e1
  have a2 := bx _ e2
  have a3 := by' _ e3
  have a4 := by' _ e4
  omega
theorem tot_snoc (ls : List (List Bx)) (l : List Bx) : ∀ j, tot (ls ++ [l]) j ≤ tot ls j + (if ls.length < j then l.length else 0) := by
  intro j
  induction j with
  | zero => simp [tot]
  | succ j ih =>
    simp only [tot]
    rcases Nat.lt_trichotomy j ls.length with e | e | e
    · rw [if_neg (by omega)] at ih ⊢
      rw [List.getD_eq_getElem?_getD, List.getD_eq_getElem?_getD, List.getElem?_append_left e]
      omega
    · rw [if_neg (by omega)] at ih
      rw [if_pos (by omega)]
      have e1 : (ls ++ [l]).getD j [] = l := by rw [List.getD_eq_getElem?_getD, List.getElem?_append_right (by omega)]; simp [e]
      rw [e1]; omega
    · rw [if_pos e] at ih
      rw [if_pos (by omega)]
      have e1 : (ls ++ [l]).getD j [] = [] := by rw [List.getD_eq_getElem?_getD, List.getElem?_eq_none (by simp; omega)]; rfl
      rw [e1]; simp; omega
/-- How many of the first j boxes are of parts whose first box stands ahead of k. -/
def sizes (s : List Bx) (F : Nat → Nat) (j : Nat) : Nat → Nat
  | 0 => 0
  | k + 1 => if F k = k then sizes s F j k + (selB s F k j).length else sizes s F j k
theorem sizes_step (s : List Bx) (F : Nat → Nat) (j : Nat) : ∀ k, sizes s F (j + 1) k ≤ sizes s F j k + (if F j < k then 1 else 0) := by
  intro k
  induction k with
  | zero => simp [sizes]
  | succ k ih =>
    have e : (selB s F k (j + 1)).length = (selB s F k j).length + (if F j = k then 1 else 0) := by
      simp only [selB]; split <;> simp
    simp only [sizes]
    by_cases h : F k = k
    · rw [if_pos h, if_pos h, e]
      by_cases h1 : F j = k
      · rw [if_pos h1, if_pos (by omega)]; rw [if_neg (by omega)] at ih; omega
      · rw [if_neg h1]
        by_cases h2 : F j < k
        · rw [if_pos (by omega)]; rw [if_pos h2] at ih; omega
        · rw [if_neg (by omega)]; rw [if_neg h2] at ih; omega
    · rw [if_neg h, if_neg h]
      by_cases h2 : F j < k
      · rw [if_pos (by omega)]; rw [if_pos h2] at ih; omega
      · rw [if_neg h2] at ih
        split <;> omega
theorem sizes_le (s : List Bx) (F : Nat → Nat) (k : Nat) : ∀ j, sizes s F j k ≤ j := by
  intro j
  induction j with
  | zero =>
    have : sizes s F 0 k = 0 := by
      induction k with
      | zero => rfl
      | succ k ih => simp only [sizes]; split <;> simp [ih, selB]
    omega
  | succ j ih =>
    have := sizes_step s F j k
    split at this <;> omega
theorem parts_tot (s : List Bx) (F : Nat → Nat) (n : Nat) : ∀ k j, tot (partsL s F n k) j ≤ 2 * sizes s F n k * sizes s F n k := by
  intro k
  induction k with
  | zero =>
    intro j
    have : tot [] j = 0 := by
      induction j with
      | zero => rfl
      | succ j ih => simp [tot, ih]
    simp [partsL, this]
  | succ k ih =>
    intro j
    simp only [partsL, sizes]
    by_cases h : F k = k
    · rw [if_pos h, if_pos h]
      have h1 := tot_snoc (partsL s F n k) (opOf (takesK 1) (selB s F k n) []) j
      have h2 := ih j
      have h3 := or_len (takesK 1) (selB s F k n)
      have h4 : tot (partsL s F n k ++ [opOf (takesK 1) (selB s F k n) []]) j ≤ 2 * sizes s F n k * sizes s F n k + 2 * (selB s F k n).length * (selB s F k n).length := by
        split at h1 <;> omega
      refine Nat.le_trans h4 ?_
      generalize sizes s F n k = a
      generalize (selB s F k n).length = b
      rw [Nat.mul_add (2 * (a + b)) a b]
      exact Nat.add_le_add (Nat.mul_le_mul_right _ (by omega)) (Nat.mul_le_mul_right _ (by omega))
    · rw [if_neg h, if_neg h]; exact ih j
theorem parts_all (s : List Bx) (i : Nat) : tot (partsV s) i ≤ 45000 := by
  unfold partsV
  split
  · rename_i h
    have hl : s.length ≤ 150 := (boxesK_zero (shapeK_zeroP h).1).1
    have h1 := parts_tot s (partF s) s.length s.length i
    have h2 := sizes_le s (partF s) s.length s.length
    have h3 : 2 * sizes s (partF s) s.length s.length * sizes s (partF s) s.length s.length ≤ 2 * 150 * 150 := Nat.mul_le_mul (Nat.mul_le_mul_left _ (by omega)) (by omega)
    omega
  · have : tot [] i = 0 := by
      induction i with
      | zero => rfl
      | succ j ih => simp [tot, ih]
    rw [this]; omega
theorem parts_good (s : List Bx) (i : Nat) : Good ((partsV s).getD i []) := by
  have key : ∀ k, shapeK s = 0 → ∀ l ∈ partsL s (partF s) s.length k, Good l := by
    intro k h
    have hg : Good s := (boxesK_zero (shapeK_zeroP h).1).2
    induction k with
    | zero => intro l hl; cases hl
    | succ k ih =>
      intro l hl
      simp only [partsL] at hl
      split at hl
      · rcases List.mem_append.1 hl with h2 | h2
        · exact ih l h2
        · have e : l = opOf (takesK 1) (selB s (partF s) k s.length) [] := by simpa using h2
          rw [e]
          refine good_op fun b hb => ?_
          obtain ⟨a, ha, _, rfl⟩ := selB_mem hb
          rw [bat_get ha]; exact hg _ (List.getElem_mem ha)
      · exact ih l hl
  unfold partsV
  split
  · rename_i h
    rw [List.getD_eq_getElem?_getD]
    cases hh : (partsL s (partF s) s.length s.length)[i]? with
    | none => intro b hb; cases hb
    | some l => simpa using key _ h l (List.mem_of_getElem? hh)
  · intro b hb; simp at hb
theorem selB_first {s : List Bx} {F : Nat → Nat} {p : Nat} : ∀ {k a : Nat}, a < k → F a = p → bat s a ∈ selB s F p k := by
  intro k
  induction k with
  | zero => intro a ha; omega
  | succ k ih =>
    intro a ha hF
    simp only [selB]
    by_cases e : a = k
    · subst e; rw [if_pos hF]; simp
    · have := ih (a := a) (by omega) hF
      split
      · exact List.mem_append.2 (Or.inl this)
      · exact this
/-- The boxes of the first k parts that have fewer than x cells. -/
def smB (x : Int) (ls : List (List Bx)) : Nat → List Bx
  | 0 => []
  | k + 1 => if areaS (ls.getD k []) < x then smB x ls k ++ ls.getD k [] else smB x ls k
theorem smB_len (x : Int) (ls : List (List Bx)) (k : Nat) : (smB x ls k).length ≤ tot ls k := by
  induction k with
  | zero => exact Nat.le_refl _
  | succ k ih =>
    simp only [smB, tot]; split
    · simp; omega
    · omega
theorem smB_good {x : Int} {ls : List (List Bx)} (h : ∀ i, Good (ls.getD i [])) (k : Nat) : Good (smB x ls k) := by
  induction k with
  | zero => intro b hb; cases hb
  | succ k ih =>
    simp only [smB]; split
    · intro b hb
      rcases List.mem_append.1 hb with hb | hb
      · exact ih b hb
      · exact h k b hb
    · exact ih

end Go.Proofs.Ytlnhfgacgbdjaaa
