/- Proved here: how many boxes the sweep over the heights can leave. No condition on the program. (And ahead of it: Proved here: a sum over boxes that lie apart is the sum over the frame's cells that one of them has. No condition on the program.) -/
import Derived.Test.YtmpbcdolikafpaaSeC
import Derived.Test.YtmpbcdolikafpaaFcM
import Derived.Test.YtmpbcdolikafpaaRimMath
namespace Go.Proofs.Ytmpbcdolikafpaa
set_option linter.unusedVariables false
set_option linter.unusedSimpArgs false

theorem sub_sumU (F : Nat → Int) {lo hi : Nat} (h : lo ≤ hi) : ∀ m, sumN (fun i => if lo ≤ i ∧ i < hi then F i else 0) m = sumN (fun k => F (lo + k)) ((if m ≤ hi then m else hi) - lo)
  | 0 => by simp [sumN]
  | m + 1 => by
    rw [sumN, sub_sumU F h m]
    by_cases h1 : m < lo
    · rw [if_neg (show ¬ (lo ≤ m ∧ m < hi) by omega), if_pos (show m ≤ hi by omega), if_pos (show m + 1 ≤ hi by omega), show m - lo = 0 by omega, show m + 1 - lo = 0 by omega]; simp
    · by_cases h2 : m < hi
      · rw [if_pos (show lo ≤ m ∧ m < hi by omega), if_pos (show m ≤ hi by omega), if_pos (show m + 1 ≤ hi by omega), show m + 1 - lo = (m - lo) + 1 by omega, sumN, show lo + (m - lo) = m by omega]
      · rw [if_neg (show ¬ (lo ≤ m ∧ m < hi) by omega), if_neg (show ¬ m + 1 ≤ hi by omega), show (if m ≤ hi then m else hi) = hi by split <;> omega]; simp
theorem sub_sum (F : Nat → Int) {lo hi W : Nat} (h : lo ≤ hi) (hW : hi ≤ W) : sumN (fun k => F (lo + k)) (hi - lo) = sumN (fun i => if lo ≤ i ∧ i < hi then F i else 0) W := by
  rw [sub_sumU F h]
  by_cases h1 : W ≤ hi
  · rw [if_pos h1, show W = hi by omega]
  · rw [if_neg h1]
/-- How far off a place is. -/
def offA (G : Nat → Nat → Int) (z : Int) (j i : Nat) : Int := (((G j i - z).natAbs : Nat) : Int)
theorem sbR_sum {f b : Bx} (G : Nat → Nat → Int) (z : Int) (hb : InF f b) (j : Nat) : ∀ i, sbR f G z b j i = sumN (fun i => offA G z ((b.y0 - f.y0).toNat + j) ((b.x0 - f.x0).toNat + i)) i
  | 0 => rfl
  | i + 1 => by
    have h1 := sbR_sum G z hb j i
    unfold InF at hb
    rw [sbR, sumN, h1, show (b.y0 + (j : Int) - f.y0).toNat = (b.y0 - f.y0).toNat + j by omega, show (b.x0 + (i : Int) - f.x0).toNat = (b.x0 - f.x0).toNat + i by omega]
    rfl
theorem sbB_sum {f b : Bx} (G : Nat → Nat → Int) (z : Int) (hb : InF f b) : ∀ j, sbB f G z b j = sumN (fun j => sumN (fun i => offA G z ((b.y0 - f.y0).toNat + j) ((b.x0 - f.x0).toNat + i)) (wdN b)) j
  | 0 => rfl
  | j + 1 => by rw [sbB, sumN, sbB_sum G z hb j, sbR_sum G z hb]
theorem sbB_grid {f b : Bx} (G : Nat → Nat → Int) (z : Int) {n W : Nat} (hw : f.x1 = f.x0 + (W : Int)) (hh : f.y1 = f.y0 + (n : Int)) (hb : InF f b) : sbB f G z b (htN b) = grid (fun i j => offA G z j i * ind b (f.x0 + i) (f.y0 + j)) n W := by
  have hB := hb
  unfold InF at hB
  rw [sbB_sum G z hb]
  obtain ⟨lx, hlx⟩ : ∃ q, q = (b.x0 - f.x0).toNat := ⟨_, rfl⟩
  obtain ⟨hx, hhx⟩ : ∃ q, q = (b.x1 - f.x0).toNat := ⟨_, rfl⟩
  obtain ⟨ly, hly⟩ : ∃ q, q = (b.y0 - f.y0).toNat := ⟨_, rfl⟩
  obtain ⟨hy, hhy⟩ : ∃ q, q = (b.y1 - f.y0).toNat := ⟨_, rfl⟩
  rw [← hlx, ← hly, show wdN b = hx - lx by unfold wdN; omega, show htN b = hy - ly by unfold htN; omega]
  rw [sub_sum (fun j => sumN (fun i => offA G z j (lx + i)) (hx - lx)) (lo := ly) (hi := hy) (W := n) (by omega) (by omega)]
  unfold grid
  refine sumN_congr n fun j hj => ?_
  by_cases h1 : ly ≤ j ∧ j < hy
  · rw [if_pos h1, sub_sum (fun i => offA G z j i) (lo := lx) (hi := hx) (W := W) (by omega) (by omega)]
    refine sumN_congr W fun i hi => ?_
    show (if lx ≤ i ∧ i < hx then offA G z j i else 0) = offA G z j i * ind b (f.x0 + (i : Int)) (f.y0 + (j : Int))
    rw [ind_if]
    by_cases h2 : lx ≤ i ∧ i < hx
    · rw [if_pos h2, if_pos (by omega), Int.mul_one]
    · rw [if_neg h2, if_neg (by omega), Int.mul_zero]
  · rw [if_neg h1, ← sumN_zero W]
    refine sumN_congr W fun i hi => ?_
    show (0 : Int) = offA G z j i * ind b (f.x0 + (i : Int)) (f.y0 + (j : Int))
    rw [ind_if, if_neg (by omega), Int.mul_zero]
theorem sbL_sum (f : Bx) (G : Nat → Nat → Int) (z : Int) (cs : List Bx) : ∀ k, k ≤ cs.length → sbL f G z cs k = sumB (fun b => sbB f G z b (htN b)) (cs.take k)
  | 0, _ => rfl
  | k + 1, h => by
    rw [sbL, sbL_sum f G z cs k (by omega), List.take_succ_eq_append_getElem (by omega), sumB_append, bat_get (by omega)]
    simp [sumB]
theorem erW_sum (l : List Sh) (f : Bx) (G : Nat → Nat → Int) (z : Int) (j : Nat) : ∀ i, erW l f G z j i = sumN (fun i => if cvB l (f.x0 + (i : Int)) (f.y0 + (j : Int)) = true then offA G z j i else 0) i
  | 0 => rfl
  | i + 1 => by rw [erW, sumN, erW_sum l f G z j i]; rfl
theorem erA_sum (l : List Sh) (f : Bx) (G : Nat → Nat → Int) (z : Int) (W : Nat) : ∀ j, erA l f G z W j = sumN (fun j => sumN (fun i => if cvB l (f.x0 + (i : Int)) (f.y0 + (j : Int)) = true then offA G z j i else 0) W) j
  | 0 => rfl
  | j + 1 => by rw [erA, sumN, erA_sum l f G z W j, erW_sum]
/-- The two sums are one. -/
theorem sb_er {l : List Sh} {f : Bx} {cs : List Bx} (G : Nat → Nat → Int) (z : Int) {n W : Nat} (hw : f.x1 = f.x0 + (W : Int)) (hh : f.y1 = f.y0 + (n : Int)) (ha : cs.Pairwise Aft) (hy : ∀ b ∈ cs, b.y0 < b.y1) (hi : ∀ b ∈ cs, InF f b)
    (hc : ∀ x y, (f.x0 ≤ x ∧ x < f.x1) ∧ (f.y0 ≤ y ∧ y < f.y1) → (inK (rowK cs y) x = true ↔ cvB l x y = true)) : sbL f G z cs cs.length = erA l f G z W n := by
  rw [sbL_sum f G z cs _ (Nat.le_refl _), List.take_length, erA_sum]
  rw [sumB_congr (f := fun b => grid (fun i j => offA G z j i * ind b (f.x0 + i) (f.y0 + j)) n W) fun b hb => sbB_grid G z hw hh (hi b hb)]
  rw [← grid_sumB (fun b i j => offA G z j i * ind b (f.x0 + i) (f.y0 + j))]
  unfold grid
  refine sumN_congr n fun j hj => sumN_congr W fun i hi' => ?_
  show sumB (fun b => offA G z j i * ind b (f.x0 + (i : Int)) (f.y0 + (j : Int))) cs = if cvB l (f.x0 + (i : Int)) (f.y0 + (j : Int)) = true then offA G z j i else 0
  rw [← sumB_mulL, ind_has ha hy]
  have h1 := hc (f.x0 + (i : Int)) (f.y0 + (j : Int)) (by omega)
  by_cases h2 : cvB l (f.x0 + (i : Int)) (f.y0 + (j : Int)) = true
  · rw [if_pos h2, if_pos (h1.2 h2), Int.mul_one]
  · rw [if_neg h2, if_neg (fun e => h2 (h1.1 e)), Int.mul_zero]

end Go.Proofs.Ytmpbcdolikafpaa

namespace Go.Proofs.Ytmpbcdolikafpaa
set_option linter.unusedVariables false
set_option linter.unusedSimpArgs false

/-- Does the last run end at c? -/
def touches (out : List Bx) (c : Int) : Bool := match out.getLast? with
  | some r => decide (r.x1 = c)
  | none => false
theorem runsK_half {T : Int → Bool} {a b : Int} : ∀ (xs : List Int) (c : Int) (out : List Bx) (k : Nat), Up (c :: xs) → (∀ r ∈ out, r.x1 ≤ c) → 2 * out.length ≤ k + (if touches out c then 1 else 0) → 2 * (runsK T a b (c :: xs) out).length ≤ k + xs.length + 1 := by
  intro xs
  induction xs with
  | nil =>
    intro c out k _ _ h
    simp only [runsK, List.length_nil]
    split at h <;> omega
  | cons d t ih =>
    intro c out k hu hle h
    have hu' := List.pairwise_cons.1 hu
    have hcd := hu'.1 d (by simp)
    rw [runsK]
    have key : ∀ out' : List Bx, (∀ r ∈ out', r.x1 ≤ d) → 2 * out'.length ≤ (k + 1) + (if touches out' d then 1 else 0) → 2 * (runsK T a b (d :: t) out').length ≤ k + (d :: t).length + 1 := by
      intro out' h1 h2
      have := ih d out' (k + 1) hu'.2 h1 h2
      simp only [List.length_cons]
      omega
    unfold stepR
    split
    · cases hl : out.getLast? with
      | none =>
        have ho : out = [] := List.getLast?_eq_none_iff.1 hl
        subst ho
        refine key _ (by intro r hr; simp at hr; subst hr; exact Int.le_refl _) ?_
        have : touches ([] ++ [(⟨c, a, d, b⟩ : Bx)]) d = true := by simp [touches]
        rw [this]
        simp
      | some r =>
        simp only
        have hrm : r ∈ out := List.mem_of_getLast? hl
        have hpos : 0 < out.length := List.length_pos_of_mem hrm
        by_cases hc : r.x1 = c
        · rw [if_pos hc]
          refine key _ ?_ ?_
          · intro q hq
            rcases List.mem_append.1 hq with hq | hq
            · have := hle q (List.dropLast_subset _ hq); omega
            · simp at hq; subst hq; exact Int.le_refl _
          · have ht : touches out c = true := by simp [touches, hl, hc]
            have ht2 : touches (out.dropLast ++ [(⟨r.x0, r.y0, d, r.y1⟩ : Bx)]) d = true := by simp [touches]
            rw [ht] at h
            rw [ht2]
            simp at h ⊢
            omega
        · rw [if_neg hc]
          refine key _ ?_ ?_
          · intro q hq
            rcases List.mem_append.1 hq with hq | hq
            · have := hle q hq; omega
            · simp at hq; subst hq; exact Int.le_refl _
          · have ht : touches out c = false := by simp [touches, hl, hc]
            have ht2 : touches (out ++ [(⟨c, a, d, b⟩ : Bx)]) d = true := by simp [touches]
            rw [ht] at h
            rw [ht2]
            simp at h ⊢
            omega
    · refine key _ (fun q hq => by have := hle q hq; omega) ?_
      split at h <;> split <;> omega
theorem ins_len (v : Int) (xs : List Int) : (ins v xs).length ≤ xs.length + 1 := by
  induction xs with
  | nil => simp [ins]
  | cons x t ih =>
    unfold ins
    split
    · simp
    · split
      · simp
      · simp; omega
theorem endsF_len (f g : Bx → Int) (s : List Bx) : ∀ (xs : List Int), (endsF f g xs s).length ≤ xs.length + 2 * s.length := by
  induction s with
  | nil => intro xs; simp [endsF]
  | cons b t ih =>
    intro xs
    have h1 := ih (ins (g b) (ins (f b) xs))
    have h2 := ins_len (g b) (ins (f b) xs)
    have h3 := ins_len (f b) xs
    simp only [endsF, List.foldl_cons, List.length_cons] at h1 ⊢
    omega
theorem runsOf_half (K : Bool → Bool → Bool) (p q : List Bx) (a b : Int) : (runsOf K p q a b).length ≤ p.length + q.length := by
  unfold runsOf
  have h2 := endsF_len Bx.x0 Bx.x1 p []
  have h3 := endsF_len Bx.x0 Bx.x1 q (endsF Bx.x0 Bx.x1 [] p)
  have hu : Up (endsF Bx.x0 Bx.x1 (endsF Bx.x0 Bx.x1 [] p) q) := endsF_up _ _ _ (endsF_up _ _ _ List.Pairwise.nil)
  simp only [List.length_nil, Nat.zero_add] at h2
  generalize endsF Bx.x0 Bx.x1 (endsF Bx.x0 Bx.x1 [] p) q = xs at h3 hu
  cases xs with
  | nil => simp [runsK]
  | cons c t =>
    have := runsK_half (T := fun x => K (inK p x) (inK q x)) (a := a) (b := b) t c [] 0 hu (by intro r hr; cases hr) (by simp)
    simp only [List.length_cons] at h3
    omega
/-- The sweep leaves no more than the rows together. -/
def sumR (f : Int → Nat) : List Int → Nat
  | [] => 0
  | a :: t => f a + sumR f t
theorem stepO_len (R : Int → Int → List Bx) (st : List Bx × List Bx) (a b : Int) : (stepO R st a b).1.length + (stepO R st a b).2.length ≤ st.1.length + st.2.length + (R a b).length := by
  unfold stepO
  split
  · simp [raise]
  · simp
theorem opK_len {R : Int → Int → List Bx} {f : Int → Nat} (hf : ∀ a b, (R a b).length ≤ f a) : ∀ (ys : List Int) (st : List Bx × List Bx), (opK R ys st).length ≤ st.1.length + st.2.length + sumR f ys := by
  intro ys
  induction ys with
  | nil => intro st; simp [opK, sumR]
  | cons a t ih =>
    intro st
    cases t with
    | nil => simp [opK, sumR]
    | cons b t =>
      have h1 := ih (stepO R st a b)
      have h2 := stepO_len R st a b
      have h3 := hf a b
      rw [opK]
      simp only [sumR] at h1 ⊢
      omega
theorem opOf_len (K : Bool → Bool → Bool) (s q : List Bx) : (opOf K s q).length ≤ sumR (fun y => (rowK s y).length + (rowK q y).length) (endsF Bx.y0 Bx.y1 (endsF Bx.y0 Bx.y1 [] s) q) := by
  unfold opOf
  have := opK_len (R := fun a b => runsOf K (rowK s a) (rowK q a) a b) (f := fun y => (rowK s y).length + (rowK q y).length) (fun a b => runsOf_half K _ _ a b) (endsF Bx.y0 Bx.y1 (endsF Bx.y0 Bx.y1 [] s) q) ([], [])
  simpa using this
theorem sumR_le {f g : Int → Nat} : ∀ ys : List Int, (∀ y ∈ ys, f y ≤ g y) → sumR f ys ≤ sumR g ys := by
  intro ys
  induction ys with
  | nil => intro _; exact Nat.le_refl _
  | cons a t ih =>
    intro h
    have h1 := h a (by simp)
    have h2 := ih fun y hy => h y (by simp [hy])
    simp only [sumR]
    omega
theorem sumR_const (c : Nat) (ys : List Int) : sumR (fun _ => c) ys = ys.length * c := by
  induction ys with
  | nil => simp [sumR]
  | cons a t ih => simp only [sumR, ih, List.length_cons]; rw [Nat.add_mul]; omega
theorem sumR_add (f g : Int → Nat) (ys : List Int) : sumR (fun y => f y + g y) ys = sumR f ys + sumR g ys := by
  induction ys with
  | nil => rfl
  | cons a t ih => simp only [sumR, ih]; omega
/-- The heights at which a box lies. -/
def many (b : Bx) (ys : List Int) : Nat := (ys.filter fun y => decide (b.y0 ≤ y) && decide (y < b.y1)).length
theorem sumR_rows (s : List Bx) (ys : List Int) : sumR (fun y => (rowK s y).length) ys = (s.map fun b => many b ys).foldr (· + ·) 0 := by
  induction s with
  | nil =>
    rw [List.map_nil, List.foldr_nil]
    have : (fun y => (rowK [] y).length) = fun _ : Int => 0 := by funext y; rfl
    rw [this, sumR_const, Nat.mul_zero]
  | cons b t ih =>
    rw [List.map_cons, List.foldr_cons, ← ih]
    have e : (fun y => (rowK (b :: t) y).length) = fun y => (if (decide (b.y0 ≤ y) && decide (y < b.y1)) = true then 1 else 0) + (rowK t y).length := by
      funext y
      unfold rowK
      rw [List.filter_cons]
      split
      · rw [List.length_cons]; omega
      · omega
    rw [e, sumR_add]
    congr 1
    unfold many
    clear e ih
    induction ys with
    | nil => rfl
    | cons y u ih2 =>
      rw [sumR, ih2, List.filter_cons]
      split
      · simp; omega
      · simp
theorem many_one {b : Bx} : ∀ {ys : List Int}, Up ys → (∀ y ∈ ys, b.y0 ≤ y → y < b.y1 → y = b.y0) → many b ys ≤ 1 := by
  intro ys hu h
  unfold many
  have hn : (ys.filter fun y => decide (b.y0 ≤ y) && decide (y < b.y1)).Pairwise (· < ·) := List.Pairwise.filter _ hu
  have hm : ∀ y ∈ ys.filter (fun y => decide (b.y0 ≤ y) && decide (y < b.y1)), y = b.y0 := by
    intro y hy
    rw [List.mem_filter] at hy
    have := hy.2
    simp at this
    exact h y hy.1 this.1 this.2
  generalize ys.filter (fun y => decide (b.y0 ≤ y) && decide (y < b.y1)) = l at hn hm
  match l, hn, hm with
  | [], _, _ => simp
  | [x], _, _ => simp
  | x :: y :: t, hn, hm =>
    have h1 := (List.pairwise_cons.1 hn).1 y (by simp)
    have h2 := hm x (by simp)
    have h3 := hm y (by simp)
    omega
theorem foldr_le_len {l : List Nat} (h : ∀ n ∈ l, n ≤ 1) : l.foldr (· + ·) 0 ≤ l.length := by
  induction l with
  | nil => simp
  | cons a t ih =>
    have h1 := h a (by simp)
    have h2 := ih fun n hn => h n (by simp [hn])
    simp only [List.foldr_cons, List.length_cons]
    omega
/-- Boxes in the one form lie in the same band or one above the other. -/
theorem form_bands : ∀ {rows : List (List Bx)} {below : List Bx}, FormB below rows → ∀ b ∈ rows.flatten, ∀ c ∈ rows.flatten, (b.y0 = c.y0 ∧ b.y1 = c.y1) ∨ b.y1 ≤ c.y0 ∨ c.y1 ≤ b.y0 := by
  intro rows
  induction rows with
  | nil => intro below _ b hb; simp at hb
  | cons r rest ih =>
    intro below h b hb c hc
    have ho := FormB.over h.1 h.2.2.2.2.2
    have habove : ∀ (rest : List (List Bx)) (below : List Bx) (z : Int), FormB below rest → Over z rest → ∀ c ∈ rest.flatten, z ≤ c.y0 := by
      intro rest
      induction rest with
      | nil => intro _ _ _ _ c hc; simp at hc
      | cons q u ih2 =>
        intro below z hF hz c hc
        have hz' : z ≤ hy0 q := hz
        have hlt := hF.2.1
        simp only [List.flatten_cons, List.mem_append] at hc
        rcases hc with hc | hc
        · have := hF.2.2.1.y c hc; omega
        · have := ih2 q (hy1 q) hF.2.2.2.2.2 (FormB.over hF.1 hF.2.2.2.2.2) c hc; omega
    simp only [List.flatten_cons, List.mem_append] at hb hc
    rcases hb with hb | hb
    · have e1 := h.2.2.1.y b hb
      rcases hc with hc | hc
      · have e2 := h.2.2.1.y c hc; left; omega
      · have := habove rest r _ h.2.2.2.2.2 ho c hc; right; left; omega
    · rcases hc with hc | hc
      · have e2 := h.2.2.1.y c hc
        have := habove rest r _ h.2.2.2.2.2 ho b hb; right; right; omega
      · exact ih h.2.2.2.2.2 b hb c hc
theorem form_tall : ∀ {rows : List (List Bx)} {below : List Bx}, FormB below rows → ∀ b ∈ rows.flatten, b.y0 < b.y1 := by
  intro rows
  induction rows with
  | nil => intro below _ b hb; simp at hb
  | cons r rest ih =>
    intro below h b hb
    simp only [List.flatten_cons, List.mem_append] at hb
    rcases hb with hb | hb
    · have := h.2.2.1.y b hb
      have := h.2.1
      omega
    · exact ih h.2.2.2.2.2 b hb
/-- One box without a list in the one form: no more than twice and a few. -/
theorem less_len (K : Bool → Bool → Bool) {B : Bx} {rows : List (List Bx)} (h : FormB [] rows) (hB : ∀ b ∈ rows.flatten, B.y0 ≤ b.y0 ∧ b.y1 ≤ B.y1) : (opOf K [B] rows.flatten).length ≤ 3 * rows.flatten.length + 2 := by
  refine Nat.le_trans (opOf_len K _ _) ?_
  rw [sumR_add]
  have hu : Up (endsF Bx.y0 Bx.y1 (endsF Bx.y0 Bx.y1 [] [B]) rows.flatten) := endsF_up _ _ _ (endsF_up _ _ _ List.Pairwise.nil)
  have hm : ∀ z, z ∈ endsF Bx.y0 Bx.y1 (endsF Bx.y0 Bx.y1 [] [B]) rows.flatten ↔ (∃ b ∈ [B], z = b.y0 ∨ z = b.y1) ∨ ∃ b ∈ rows.flatten, z = b.y0 ∨ z = b.y1 := by
    intro z; rw [endsF_mem, endsF_mem]; simp
  have hl1 := endsF_len Bx.y0 Bx.y1 [B] []
  have hl2 := endsF_len Bx.y0 Bx.y1 rows.flatten (endsF Bx.y0 Bx.y1 [] [B])
  generalize endsF Bx.y0 Bx.y1 (endsF Bx.y0 Bx.y1 [] [B]) rows.flatten = ys at hu hm hl2
  have h1 : sumR (fun y => (rowK [B] y).length) ys ≤ ys.length := by
    have := sumR_le (f := fun y => (rowK [B] y).length) (g := fun _ => 1) ys (fun y _ => by
      have : (rowK [B] y).length ≤ [B].length := List.length_filter_le _ _
      simpa using this)
    rw [sumR_const] at this
    omega
  have h2 : sumR (fun y => (rowK rows.flatten y).length) ys ≤ rows.flatten.length := by
    rw [sumR_rows]
    refine Nat.le_trans (foldr_le_len ?_) (by rw [List.length_map]; exact Nat.le_refl _)
    intro n hn
    obtain ⟨b, hb, rfl⟩ := List.mem_map.1 hn
    refine many_one hu fun y hy h3 h4 => ?_
    rcases (hm y).1 hy with ⟨c, hc, he⟩ | ⟨c, hc, he⟩
    · simp at hc
      subst hc
      have := hB b hb
      rcases he with e | e <;> omega
    · have t1 := form_tall h b hb
      have t2 := form_tall h c hc
      rcases form_bands h b hb c hc with e | e | e <;> rcases he with e2 | e2 <;> omega
  simp at hl1
  omega
/-- A list alone: as many as its heights times itself. -/
theorem or_len (K : Bool → Bool → Bool) (g : List Bx) : (opOf K g []).length ≤ 2 * g.length * g.length := by
  refine Nat.le_trans (opOf_len K _ _) ?_
  have hl := endsF_len Bx.y0 Bx.y1 g []
  have e : endsF Bx.y0 Bx.y1 (endsF Bx.y0 Bx.y1 [] g) [] = endsF Bx.y0 Bx.y1 [] g := rfl
  rw [e]
  have := sumR_le (f := fun y => (rowK g y).length + (rowK [] y).length) (g := fun _ => g.length) (endsF Bx.y0 Bx.y1 [] g) (fun y _ => by
    have : (rowK g y).length ≤ g.length := List.length_filter_le _ _
    simpa [rowK] using this)
  rw [sumR_const] at this
  refine Nat.le_trans this (Nat.mul_le_mul_right _ ?_)
  simpa using hl

end Go.Proofs.Ytmpbcdolikafpaa
