/- Proved here: one step of diffusion, told as sums: dfL; what it keeps. -/
import Derived.Test.YtpbkoigdfjajkaaDtM
namespace Go.Proofs.Ytpbkoigdfjajkaa
set_option linter.unusedVariables false
set_option linter.unusedSimpArgs false

/-- What a place gives to each beside it. -/
def gift (sh : Int) (S : List (List Int)) (a b : Nat) : Int := at2 S a b * sh / 64
/-- What the gift of (a, b) to p does at (i, k). -/
def ctD (sh : Int) (S : List (List Int)) (i k a b : Nat) (p : Int × Int) : Int := (if i = a ∧ k = b then -(gift sh S a b) else 0) + (if p = ((i : Int), (k : Int)) then gift sh S a b else 0)
def psum (f : Int × Int → Int) (l : List (Int × Int)) : Nat → Int
  | 0 => 0
  | t + 1 => psum f l t + f (l.getD t (0, 0))
def rC (sh : Int) (S : List (List Int)) (nb : Nat → Nat → List (Int × Int)) (i k a : Nat) : Nat → Int
  | 0 => 0
  | b + 1 => rC sh S nb i k a b + psum (ctD sh S i k a b) (nb a b) (nb a b).length
def aC (sh : Int) (S : List (List Int)) (nb : Nat → Nat → List (Int × Int)) (W i k : Nat) : Nat → Int
  | 0 => 0
  | a + 1 => aC sh S nb W i k a + rC sh S nb i k a W
/-- A place's number when all ahead of (y, x) have given, and (y, x) to the first t beside it. -/
def vD (sh : Int) (S : List (List Int)) (nb : Nat → Nat → List (Int × Int)) (W y x t i k : Nat) : Int := at2 S i k + aC sh S nb W i k y + rC sh S nb i k y x + psum (ctD sh S i k y x) (nb y x) t
theorem vD_start (sh : Int) (S : List (List Int)) (nb : Nat → Nat → List (Int × Int)) (W i k : Nat) : vD sh S nb W 0 0 0 i k = at2 S i k := by simp [vD, aC, rC, psum]
theorem vD_op (sh : Int) (S : List (List Int)) (nb : Nat → Nat → List (Int × Int)) (W y x t i k : Nat) : vD sh S nb W y x (t + 1) i k = vD sh S nb W y x t i k + ctD sh S i k y x ((nb y x).getD t (0, 0)) := by
  simp only [vD, psum]; omega
theorem vD_place (sh : Int) (S : List (List Int)) (nb : Nat → Nat → List (Int × Int)) (W y x i k : Nat) : vD sh S nb W y (x + 1) 0 i k = vD sh S nb W y x (nb y x).length i k := by
  simp only [vD, psum, rC]; omega
theorem vD_row (sh : Int) (S : List (List Int)) (nb : Nat → Nat → List (Int × Int)) (W y i k : Nat) : vD sh S nb W (y + 1) 0 0 i k = vD sh S nb W y W 0 i k := by
  simp only [vD, psum, rC, aC]; omega
theorem psum_app (f : Int × Int → Int) (l r : List (Int × Int)) : psum f (l ++ r) (l ++ r).length = psum f l l.length + psum f r r.length := by
  have h1 : ∀ t, t ≤ l.length → psum f (l ++ r) t = psum f l t := by
    intro t
    induction t with
    | zero => intro _; rfl
    | succ t ih =>
      intro ht
      rw [psum, psum, ih (by omega), List.getD_eq_getElem?_getD, List.getElem?_append_left (by omega), ← List.getD_eq_getElem?_getD]
  have h2 : ∀ t, psum f (l ++ r) (l.length + t) = psum f l l.length + psum f r t := by
    intro t
    induction t with
    | zero => rw [Nat.add_zero, h1 _ (Nat.le_refl _)]; simp [psum]
    | succ t ih =>
      rw [← Nat.add_assoc, psum, psum, ih, List.getD_eq_getElem?_getD, List.getElem?_append_right (by omega), ← List.getD_eq_getElem?_getD, Nat.add_sub_cancel_left]
      omega
  rw [List.length_append, h2]
theorem psum_nb (f : Int × Int → Int) (n W i k : Int) : psum f (nbI n W i k) (nbI n W i k).length = psum f (nbS n W i k) (nbS n W i k).length := by
  unfold nbI nbS
  simp only [psum_app]
  omega
theorem rC_nb {sh : Int} {S : List (List Int)} {n W : Nat} (i k a b : Nat) : rC sh S (fun y x => nbI n W y x) i k a b = rC sh S (fun y x => nbS n W y x) i k a b := by
  induction b with
  | zero => rfl
  | succ b ih => rw [rC, rC, ih, psum_nb]
theorem aC_nb {sh : Int} {S : List (List Int)} {n W : Nat} (i k a : Nat) : aC sh S (fun y x => nbI n W y x) W i k a = aC sh S (fun y x => nbS n W y x) W i k a := by
  induction a with
  | zero => rfl
  | succ a ih => rw [aC, aC, ih, rC_nb]
/-- One step. -/
def dfL (sh : Int) (n W : Nat) (S : List (List Int)) : List (List Int) := (List.range n).map fun i => (List.range W).map fun k => at2 S i k + aC sh S (fun y x => nbS n W y x) W i k n
theorem dfL_sh (sh : Int) (n W : Nat) (S : List (List Int)) : Sh n W (dfL sh n W S) := by
  refine ⟨by simp [dfL], fun j hj => ?_⟩
  rw [getD_lt (by simpa [dfL] using hj)]; simp [dfL]
theorem dfL_at {sh : Int} {n W : Nat} {S : List (List Int)} {i k : Nat} (hi : i < n) (hk : k < W) : at2 (dfL sh n W S) i k = at2 S i k + aC sh S (fun y x => nbS n W y x) W i k n := by
  unfold at2
  rw [getD_lt (show i < _ by simpa [dfL] using hi)]
  rw [getD_lt (show k < _ by simpa [dfL] using hk)]
  simp [dfL, at2]
theorem dfL_is {sh : Int} {n W : Nat} {S L : List (List Int)} (hL : Sh n W L) (h : ∀ i k, i < n → k < W → at2 L i k = vD sh S (fun y x => nbS n W y x) W n 0 0 i k) : L = dfL sh n W S :=
  grid_ext hL (dfL_sh sh n W S) fun i k hi hk => by rw [h i k hi hk, dfL_at hi hk]; simp [vD, rC, psum]
theorem dfL_isI {sh : Int} {n W : Nat} {S L : List (List Int)} (hL : Sh n W L) (h : ∀ i k, i < n → k < W → at2 L i k = vD sh S (fun y x => nbI n W y x) W n 0 0 i k) : L = dfL sh n W S :=
  dfL_is hL fun i k hi hk => by rw [h i k hi hk]; simp [vD, rC, psum, aC_nb]

/-- The sum when one number turns. -/
theorem rowS_set {n W : Nat} {L : List (List Int)} (hL : Sh n W L) {j m : Nat} (hj : j < n) (hm : m < W) (y : Int) (i b : Nat) (hb : b ≤ W) : rowS (set2 L j m y) i b = rowS L i b + (if i = j ∧ m < b then y - at2 L j m else 0) := by
  induction b with
  | zero => simp [rowS]
  | succ b ih =>
    rw [rowS, rowS, ih (by omega), at2_set2 hL hj hm]
    by_cases e : i = j
    · subst e
      by_cases e2 : b = m
      · subst e2
        rw [if_neg (show ¬ (i = i ∧ b < b) by omega), if_pos (show i = i ∧ b = b from ⟨rfl, rfl⟩), if_pos (show i = i ∧ b < b + 1 by omega)]; omega
      · rw [if_neg (show ¬ (i = i ∧ b = m) by omega)]
        by_cases e3 : m < b
        · rw [if_pos (show i = i ∧ m < b from ⟨rfl, e3⟩), if_pos (show i = i ∧ m < b + 1 by omega)]; omega
        · rw [if_neg (show ¬ (i = i ∧ m < b) by omega), if_neg (show ¬ (i = i ∧ m < b + 1) by omega)]; omega
    · rw [if_neg (show ¬ (i = j ∧ m < b) from fun q => e q.1), if_neg (show ¬ (i = j ∧ b = m) from fun q => e q.1), if_neg (show ¬ (i = j ∧ m < b + 1) from fun q => e q.1)]; omega
theorem allS_set {n W : Nat} {L : List (List Int)} (hL : Sh n W L) {j m : Nat} (hj : j < n) (hm : m < W) (y : Int) (a : Nat) : allS W (set2 L j m y) a = allS W L a + (if j < a then y - at2 L j m else 0) := by
  induction a with
  | zero => simp [allS]
  | succ a ih =>
    rw [allS, allS, ih, rowS_set hL hj hm y a W (Nat.le_refl _)]
    by_cases e : a = j
    · subst e
      rw [if_neg (by omega), if_pos ⟨rfl, hm⟩, if_pos (by omega)]; omega
    · rw [if_neg (show ¬ (a = j ∧ m < W) from fun q => e q.1)]
      by_cases e2 : j < a
      · rw [if_pos e2, if_pos (by omega)]; omega
      · rw [if_neg e2, if_neg (by omega)]; omega
theorem rowS_part {S : List (List Int)} {i k : Nat} : ∀ W, (∀ k, k < W → 0 ≤ at2 S i k) → k < W → at2 S i k ≤ rowS S i W := by
  intro W
  induction W with
  | zero => intro _ h; omega
  | succ W ih =>
    intro h hk
    rw [rowS]
    have h1 := rowS_nn W fun k hk => h k (by omega)
    have h2 := h W (by omega)
    by_cases e : k = W
    · rw [e]; omega
    · have := ih (fun k hk => h k (by omega)) (by omega); omega
theorem allS_part {W : Nat} {S : List (List Int)} {i k : Nat} : ∀ n, (∀ i k, i < n → k < W → 0 ≤ at2 S i k) → i < n → k < W → at2 S i k ≤ allS W S n := by
  intro n
  induction n with
  | zero => intro _ h; omega
  | succ n ih =>
    intro h hi hk
    rw [allS]
    have h1 := allS_nn n fun i k hi hk => h i k (by omega) hk
    have h2 := rowS_nn W fun k hk => h n k (by omega) hk
    by_cases e : i = n
    · rw [e]
      have := rowS_part (i := n) (k := k) W (fun k hk => h n k (by omega) hk) hk; omega
    · have := ih (fun i k hi hk => h i k (by omega) hk) (by omega) hk; omega

/-- A grid that may diffuse: no number below 0, all together at most so many. -/
structure DO (n W : Nat) (S : List (List Int)) : Prop where
  sh : Sh n W S
  nn : ∀ i k, i < n → k < W → 0 ≤ at2 S i k
  su : allS W S n ≤ 256000000
theorem DO.bd {n W : Nat} {S : List (List Int)} (h : DO n W S) {i k : Nat} (hi : i < n) (hk : k < W) : at2 S i k ≤ 256000000 := Int.le_trans (allS_part n h.nn hi hk) h.su
theorem gift_bd {sh : Int} (h0 : 0 ≤ sh) (h1 : sh ≤ 16) {S : List (List Int)} {a b : Nat} (hS : 0 ≤ at2 S a b) (hS2 : at2 S a b ≤ 256000000) : 0 ≤ gift sh S a b ∧ 4 * gift sh S a b ≤ at2 S a b ∧ 0 ≤ at2 S a b * sh ∧ at2 S a b * sh ≤ 4096000000 := by
  unfold gift
  have e1 : 0 ≤ at2 S a b * sh := Int.mul_nonneg hS h0
  have e2 : at2 S a b * sh ≤ at2 S a b * 16 := Int.mul_le_mul_of_nonneg_left h1 hS
  omega
/-- Where a step stands: (y, x) has given to the first t beside it. dc: how often a place has given. -/
structure DS (sh : Int) (n W : Nat) (S : List (List Int)) (nb : Nat → Nat → List (Int × Int)) (y x t : Nat) (L : List (List Int)) : Prop where
  va : ∀ i k, i < n → k < W → at2 L i k = vD sh S nb W y x t i k
  lo : ∀ i k, i < n → k < W → at2 S i k - 4 * gift sh S i k ≤ at2 L i k
  l1 : ∀ i k, i < n → k < W → (i > y ∨ (i = y ∧ k > x)) → at2 S i k ≤ at2 L i k
  l2 : x < W → y < n → at2 S y x - t * gift sh S y x ≤ at2 L y x
  su : allS W L n = allS W S n
theorem DS.start {sh : Int} {n W : Nat} {S : List (List Int)} {nb : Nat → Nat → List (Int × Int)} (hS : DO n W S) (h0 : 0 ≤ sh) (h1 : sh ≤ 16) : DS sh n W S nb 0 0 0 S := by
  refine ⟨fun i k hi hk => (vD_start _ _ _ _ _ _).symm, fun i k hi hk => ?_, fun i k _ _ _ => Int.le_refl _, fun _ _ => by simp, rfl⟩
  have := gift_bd h0 h1 (hS.nn i k hi hk) (hS.bd hi hk)
  omega
theorem DS.op {sh : Int} {n W : Nat} {S L : List (List Int)} {nb : Nat → Nat → List (Int × Int)} {y x t j m : Nat} (hS : DO n W S) (h0 : 0 ≤ sh) (h1 : sh ≤ 16) (hL : Sh n W L) (h : DS sh n W S nb y x t L) (hy : y < n) (hx : x < W) (hj : j < n) (hm : m < W) (ha : Adj y x j m) (hp : (nb y x).getD t (0, 0) = ((j : Int), (m : Int))) (ht : t < 4) :
    DS sh n W S nb y x (t + 1) (set2 (set2 L y x (at2 L y x - gift sh S y x)) j m (at2 L j m + gift sh S y x)) := by
  have hg := gift_bd h0 h1 (hS.nn y x hy hx) (hS.bd hy hx)
  have hne : ¬ (j = y ∧ m = x) := by unfold Adj at ha; omega
  have hL1 := hL.set2 y x (at2 L y x - gift sh S y x)
  have hat : ∀ i k, at2 (set2 (set2 L y x (at2 L y x - gift sh S y x)) j m (at2 L j m + gift sh S y x)) i k = if i = j ∧ k = m then at2 L j m + gift sh S y x else if i = y ∧ k = x then at2 L y x - gift sh S y x else at2 L i k := fun i k => by
    rw [at2_set2 hL1 hj hm, at2_set2 hL hy hx]
  refine ⟨fun i k hi hk => ?_, fun i k hi hk => ?_, fun i k hi hk hc => ?_, fun _ _ => ?_, ?_⟩
  · rw [hat, vD_op, hp, ← h.va i k hi hk]
    unfold ctD
    by_cases e : i = j ∧ k = m
    · rw [if_pos e, if_neg (show ¬ (i = y ∧ k = x) from by omega), if_pos (by rw [e.1, e.2]), e.1, e.2]; omega
    · rw [if_neg e, if_neg (show ¬ (((j : Int), (m : Int)) = ((i : Int), (k : Int))) from by simp only [Prod.mk.injEq]; omega)]
      by_cases e2 : i = y ∧ k = x
      · rw [if_pos e2, if_pos e2, e2.1, e2.2]; omega
      · rw [if_neg e2, if_neg e2]; omega
  · rw [hat]
    have := h.lo i k hi hk
    by_cases e : i = j ∧ k = m
    · rw [if_pos e]; rw [e.1, e.2] at this ⊢; omega
    · rw [if_neg e]
      by_cases e2 : i = y ∧ k = x
      · rw [if_pos e2, e2.1, e2.2]
        have h3 := h.l2 hx hy
        have : (t : Int) * gift sh S y x ≤ 3 * gift sh S y x := Int.mul_le_mul_of_nonneg_right (by omega) hg.1
        omega
      · rw [if_neg e2]; exact this
  · rw [hat]
    have := h.l1 i k hi hk hc
    by_cases e : i = j ∧ k = m
    · rw [if_pos e]; rw [e.1, e.2] at this ⊢; omega
    · rw [if_neg e, if_neg (by omega)]; exact this
  · rw [hat, if_neg (fun q => hne ⟨q.1.symm, q.2.symm⟩), if_pos ⟨rfl, rfl⟩]
    have h3 := h.l2 hx hy
    have : ((t + 1 : Nat) : Int) * gift sh S y x = t * gift sh S y x + gift sh S y x := by rw [Int.natCast_add, Int.add_mul]; simp
    omega
  · rw [allS_set hL1 hj hm, allS_set hL hy hx, if_pos hj, if_pos hy, at2_set2 hL hy hx, if_neg (fun q => hne q), h.su]
    omega
theorem DS.place {sh : Int} {n W : Nat} {S L : List (List Int)} {nb : Nat → Nat → List (Int × Int)} {y x : Nat} (h : DS sh n W S nb y x (nb y x).length L) (hg : ∀ i k, i < n → k < W → 0 ≤ gift sh S i k) : DS sh n W S nb y (x + 1) 0 L := by
  refine ⟨fun i k hi hk => by rw [vD_place]; exact h.va i k hi hk, h.lo, fun i k hi hk hc => h.l1 i k hi hk (by omega), fun hx hy => ?_, h.su⟩
  have := h.l1 y (x + 1) hy hx (by omega)
  simpa using this
theorem DS.row {sh : Int} {n W : Nat} {S L : List (List Int)} {nb : Nat → Nat → List (Int × Int)} {y : Nat} (h : DS sh n W S nb y W 0 L) : DS sh n W S nb (y + 1) 0 0 L := by
  refine ⟨fun i k hi hk => by rw [vD_row]; exact h.va i k hi hk, h.lo, fun i k hi hk hc => h.l1 i k hi hk (by omega), fun hx hy => ?_, h.su⟩
  have := h.l1 (y + 1) 0 hy hx (by omega)
  simpa using this
theorem DS.nn {sh : Int} {n W : Nat} {S L : List (List Int)} {nb : Nat → Nat → List (Int × Int)} {y x t : Nat} (hS : DO n W S) (h0 : 0 ≤ sh) (h1 : sh ≤ 16) (hL : Sh n W L) (h : DS sh n W S nb y x t L) : DO n W L := by
  refine ⟨hL, fun i k hi hk => ?_, by rw [h.su]; exact hS.su⟩
  have a := gift_bd h0 h1 (hS.nn i k hi hk) (hS.bd hi hk)
  have b := h.lo i k hi hk
  omega
/-- So many steps. -/
def itD (sh : Int) (n W : Nat) (S : List (List Int)) : Nat → List (List Int)
  | 0 => S
  | j + 1 => dfL sh n W (itD sh n W S j)

theorem itD_sh {sh : Int} {n W : Nat} {S : List (List Int)} (h : Sh n W S) (j : Nat) : Sh n W (itD sh n W S j) := by
  cases j with
  | zero => exact h
  | succ j => exact dfL_sh _ _ _ _
/-- What Diffuse answers. -/
def diC (ls : List (List Int)) (sh st : Int) : Int := if gfC ls 1000000 = 0 then (if (0 ≤ sh ∧ sh ≤ 16) ∧ (0 ≤ st ∧ st ≤ 20) then gfC (itD sh ls.length (ls.getD 0 []).length ls st.toNat) 1000000 else 3) else gfC ls 1000000
def diL (ls : List (List Int)) (sh st : Int) : List (List Int) := if diC ls sh st = 0 then itD sh ls.length (ls.getD 0 []).length ls st.toNat else []
theorem diL_sm (ls : List (List Int)) (sh st : Int) : SmR (diL ls sh st) := by
  unfold diL
  split
  · rename_i h
    unfold diC at h
    by_cases h0 : gfC ls 1000000 = 0
    · have hG := gfC_good h0
      exact sh_sm (itD_sh hG.sh _) hG.h1 hG.w1
    · rw [if_neg h0] at h; exact absurd h h0
  · exact nil_sm
theorem GG.do {ls : List (List Int)} (h : GG 1000000 ls) : DO ls.length (ls.getD 0 []).length ls := by
  have hx : ∀ i k, 0 ≤ at2 ls i k ∧ at2 ls i k ≤ 1000000 := fun i k => by
    have := h.at i k
    unfold at2; omega
  refine ⟨h.sh, fun i k _ _ => (hx i k).1, ?_⟩
  have h1 : ∀ i b, rowS ls i b ≤ b * 1000000 := by
    intro i b
    induction b with
    | zero => simp [rowS]
    | succ b ih => rw [rowS]; have := hx i b; omega
  have h2 : ∀ a, allS (ls.getD 0 []).length ls a ≤ a * 16000000 := by
    intro a
    induction a with
    | zero => simp [allS]
    | succ a ih => rw [allS]; have := h1 a (ls.getD 0 []).length; have := h.w1; omega
  have := h2 ls.length
  have := h.h1
  omega

end Go.Proofs.Ytpbkoigdfjajkaa
