/- Proved here: the arithmetic of bending lines: one end turned, one end tried, a round, all rounds. -/
import Derived.Test.YtfjcebgknpccbabLnR
import Derived.Test.YtfjcebgknpccbabLnX
namespace Go.Proofs.Ytfjcebgknpccbab
set_option linter.unusedVariables false
set_option linter.unusedSimpArgs false

/-- Lines with one end turned: the ends are counted, each From ahead of its To. -/
def turnE (L : List Ln) (k : Nat) (d : Int) : List Ln :=
  L.set (k / 2) (if k % 2 = 0 then ⟨(lnAt L (k / 2)).f + d, (lnAt L (k / 2)).t⟩ else ⟨(lnAt L (k / 2)).f, (lnAt L (k / 2)).t + d⟩)
theorem turnE_len (L : List Ln) (k : Nat) (d : Int) : (turnE L k d).length = L.length := by simp [turnE]
theorem flL_get (L : List Ln) (k : Nat) (hk : k < 2 * L.length) : (flL L)[k]? = some (if k % 2 = 0 then (lnAt L (k / 2)).f else (lnAt L (k / 2)).t) := by
  have hi : k / 2 < L.length := by omega
  have hl := flL_len L
  obtain ⟨h1, h2⟩ := flL_at L (k / 2) hi
  rw [lnAt_get hi]
  by_cases hm : k % 2 = 0
  · rw [if_pos hm, ← h1]
    have e : 2 * (k / 2) = k := by omega
    rw [e, List.getD_eq_getElem?_getD, List.getElem?_eq_getElem (by omega)]; rfl
  · rw [if_neg hm, ← h2]
    have e : 2 * (k / 2) + 1 = k := by omega
    rw [e, List.getD_eq_getElem?_getD, List.getElem?_eq_getElem (by omega)]; rfl
theorem flL_turn {L : List Ln} {k : Nat} (d : Int) (hk : k < 2 * L.length) : flL (turnE L k d) = (flL L).set k ((flL L).getD k 0 + d) := by
  apply List.ext_getElem?
  intro j
  have hl := flL_len L
  by_cases hj : j < 2 * L.length
  · rw [flL_get _ j (by rw [turnE_len]; exact hj), List.getElem?_set]
    have hi : k / 2 < L.length := by omega
    have hij : j / 2 < L.length := by omega
    rw [lnAt_get (by rw [turnE_len]; exact hij)]
    by_cases hkj : k = j
    · subst hkj
      have hkl : k < (flL L).length := by omega
      rw [if_pos rfl, if_pos hkl, List.getD_eq_getElem?_getD, flL_get L k hk]
      have e : (turnE L k d)[k / 2]'(by rw [turnE_len]; exact hij) = if k % 2 = 0 then ⟨(lnAt L (k / 2)).f + d, (lnAt L (k / 2)).t⟩ else ⟨(lnAt L (k / 2)).f, (lnAt L (k / 2)).t + d⟩ := by simp [turnE]
      rw [e]
      by_cases hm : k % 2 = 0
      · simp only [if_pos hm, Option.getD_some]
      · simp only [if_neg hm, Option.getD_some]
    · rw [if_neg hkj, flL_get L j hj]
      by_cases hd : k / 2 = j / 2
      · by_cases hm : k % 2 = 0
        · have hm2 : ¬ j % 2 = 0 := by omega
          simp [turnE, hm, hm2, hd]
        · have hm2 : j % 2 = 0 := by omega
          simp [turnE, hm, hm2, hd]
      · simp [turnE, hd, lnAt_get hij]
  · rw [List.getElem?_eq_none (by rw [flL_len, turnE_len]; omega), List.getElem?_eq_none (by rw [List.length_set, hl]; omega)]

/-- Where a correction stands: the best lines, the errors. -/
abbrev ClS := List Ln × List Int
def lastE (es : List Int) : Int := es.getD (es.length - 1) 0
/-- One end tried. -/
def tryS (t : List Ln) (len : Int) (ws : List Int) (K : Int) (k : Nat) (d : Int) (S : ClS) : Bool × ClS :=
  if lnF (turnE S.1 k d) len = 0 ∧ (erN t (turnE S.1 k d) ws K len.toNat : Int) < lastE S.2 then (true, (turnE S.1 k d, S.2 ++ [(erN t (turnE S.1 k d) ws K len.toNat : Int)])) else (false, S)
def atS (t : List Ln) (len : Int) (ws : List Int) (K : Int) (k : Nat) (S : ClS) : Bool × ClS :=
  if (tryS t len ws K k (-1) S).1 = true then tryS t len ws K k (-1) S else tryS t len ws K k 1 S
/-- The first k ends of a round. -/
def rdS (t : List Ln) (len : Int) (ws : List Int) (K : Int) : Nat → ClS → Bool × ClS
  | 0, S => (false, S)
  | k + 1, S => ((rdS t len ws K k S).1 || (atS t len ws K k (rdS t len ws K k S).2).1, (atS t len ws K k (rdS t len ws K k S).2).2)
def runS (t : List Ln) (len : Int) (ws : List Int) (K : Int) (n : Nat) : Nat → ClS → ClS
  | 0, S => S
  | m + 1, S => if (rdS t len ws K n S).1 = true then runS t len ws K n m (rdS t len ws K n S).2 else (rdS t len ws K n S).2
/-- What holds all along: as many lines, without a fault; errors, not too many. -/
structure OkS (len : Int) (n m : Nat) (S : ClS) : Prop where
  ll : 2 * S.1.length = n
  lf : lnF S.1 len = 0
  e0 : 0 < S.2.length
  em : S.2.length ≤ m
theorem tryS_ok {t : List Ln} {len : Int} {ws : List Int} {K : Int} {k n m : Nat} {d : Int} {S : ClS} (h : OkS len n m S) : OkS len n (m + 1) (tryS t len ws K k d S).2 := by
  unfold tryS
  split
  · rename_i hc
    exact ⟨by rw [turnE_len]; exact h.ll, hc.1, by simp, by have := h.em; simp; omega⟩
  · exact ⟨h.ll, h.lf, h.e0, Nat.le_succ_of_le h.em⟩
theorem tryS_no {t : List Ln} {len : Int} {ws : List Int} {K : Int} {k : Nat} {d : Int} {S : ClS} (h : ¬ (tryS t len ws K k d S).1 = true) : (tryS t len ws K k d S).2 = S := by
  unfold tryS at h ⊢
  split
  · rename_i hc; rw [if_pos hc] at h; exact absurd rfl h
  · rfl
theorem OkS.mono {len : Int} {n m m' : Nat} {S : ClS} (h : OkS len n m S) (hm : m ≤ m') : OkS len n m' S := ⟨h.ll, h.lf, h.e0, Nat.le_trans h.em hm⟩
theorem atS_ok {t : List Ln} {len : Int} {ws : List Int} {K : Int} {k n m : Nat} {S : ClS} (h : OkS len n m S) : OkS len n (m + 1) (atS t len ws K k S).2 := by
  unfold atS
  split
  · exact tryS_ok h
  · exact tryS_ok h
theorem rdS_ok {t : List Ln} {len : Int} {ws : List Int} {K : Int} {n m : Nat} : ∀ (k : Nat) {S : ClS}, OkS len n m S → OkS len n (m + k) (rdS t len ws K k S).2
  | 0, S, h => h
  | k + 1, S, h => by rw [rdS]; exact atS_ok (rdS_ok k h)
theorem runS_ok {t : List Ln} {len : Int} {ws : List Int} {K : Int} {n : Nat} : ∀ (r : Nat) {m : Nat} {S : ClS}, OkS len n m S → OkS len n (m + n * r) (runS t len ws K n r S)
  | 0, m, S, h => by rw [runS]; exact h.mono (by omega)
  | r + 1, m, S, h => by
    have h1 := rdS_ok (t := t) (ws := ws) (K := K) n h
    rw [runS]
    split
    · exact (runS_ok r h1).mono (by rw [Nat.mul_add]; omega)
    · exact h1.mono (by rw [Nat.mul_add]; omega)

end Go.Proofs.Ytfjcebgknpccbab
