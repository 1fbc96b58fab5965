/- Proved here: what the program's scan of a text has told behind each letter, where it ends, and what ParseFrac makes of it: pfQ. No condition on the program. -/
import Derived.Test.YtcojhkpdlmldcaaPzI
namespace Go.Proofs.Ytcojhkpdlmldcaa
open Go.RowKit
set_option linter.unusedVariables false
set_option linter.unusedSimpArgs false

def fs0 : FSc := ⟨false, 0, 0, 0, 0, 0⟩
/-- What is told behind the first k letters, each taken as it comes. -/
def stF (s : ByteArray) : Nat → FSc
  | 0 => fs0
  | k + 1 => tkF (stF s k) (k : Int) (ltr s k)
def ftB (s : ByteArray) (k : Nat) : Bool := tkB (stF s k) (k : Int) (ltr s k)
def cmB (x : FSc) : Bool := decide (0 < x.tc) && (decide (x.s = 0) || decide (0 < x.bc))

structure FIn (x : FSc) (k : Nat) : Prop where
  s0 : 0 ≤ x.s
  s1 : x.s ≤ k
  t : ∃ a : Nat, x.tc = a ∧ a ≤ k ∧ 0 ≤ x.tv ∧ x.tv < 10 ^ (min a 18)
  b : ∃ a : Nat, x.bc = a ∧ a ≤ k ∧ 0 ≤ x.bv ∧ x.bv < 10 ^ (min a 18)
theorem wi_bd (a : Nat) (v d : Int) (h0 : 0 ≤ v) (h1 : v < 10 ^ (min a 18)) (d0 : 0 ≤ d) (d1 : d ≤ 9) : 0 ≤ wiV (a : Int) v d ∧ wiV (a : Int) v d < 10 ^ (min (a + 1) 18) := by
  unfold wiV
  by_cases h : a + 1 ≤ 18
  · rw [if_pos (by omega)]
    rw [Nat.min_eq_left (by omega)] at h1 ⊢
    rw [Int.pow_succ]
    generalize (10 : Int) ^ a = q at *
    omega
  · rw [if_neg (by omega)]
    rw [Nat.min_eq_right (by omega)] at h1 ⊢
    exact ⟨h0, h1⟩
theorem fin_ok {x : FSc} {k : Nat} (h : FIn x k) (hk : k ≤ 4000) : FOk x := by
  obtain ⟨s0, s1, ⟨a, ha, ak, ta, tb⟩, ⟨b, hb, bk, ba, bb⟩⟩ := h
  have P : ∀ c : Nat, (10 : Int) ^ (min c 18) ≤ 1000000000000000000 ∧ (c ≤ 17 → (10 : Int) ^ (min c 18) ≤ 100000000000000000) := by
    intro c
    rcases (by omega : c ≤ 17 ∨ 18 ≤ c) with h | h
    · rw [Nat.min_eq_left (by omega)]
      have := pow_small c h
      exact ⟨by omega, fun _ => this⟩
    · rw [Nat.min_eq_right h]
      exact ⟨by decide, fun h' => by omega⟩
  have p1 := P a
  have p2 := P b
  exact ⟨s0, by omega, by omega, by omega, by omega, by omega, ta, by omega, ba, by omega, fun h => by have := p1.2 (by omega); omega, fun h => by have := p2.2 (by omega); omega⟩
theorem fin_mono {x : FSc} {k : Nat} (h : FIn x k) : FIn x (k + 1) := by
  obtain ⟨s0, s1, ⟨a, ha, ak, ta, tb⟩, ⟨b, hb, bk, ba, bb⟩⟩ := h
  exact ⟨s0, by omega, ⟨a, ha, by omega, ta, tb⟩, ⟨b, hb, by omega, ba, bb⟩⟩
theorem st_in (s : ByteArray) : ∀ k, FIn (stF s k) k
  | 0 => by
    show FIn fs0 0
    exact ⟨by decide, by decide, ⟨0, rfl, by omega, by decide, by decide⟩, ⟨0, rfl, by omega, by decide, by decide⟩⟩
  | k + 1 => by
    have h := st_in s k
    unfold stF tkF
    by_cases h1 : 48 ≤ ltr s k ∧ ltr s k ≤ 57
    · rw [if_pos h1]
      obtain ⟨s0, s1, ⟨a, ha, ak, ta, tb⟩, ⟨b, hb, bk, ba, bb⟩⟩ := h
      unfold wdF
      by_cases h2 : 0 < (stF s k).s
      · rw [if_pos h2]
        have := wi_bd b _ (ltr s k - 48) ba bb (by omega) (by omega)
        exact ⟨s0, by show (stF s k).s ≤ _; omega, ⟨a, ha, by omega, ta, tb⟩, ⟨b + 1, by show (stF s k).bc + 1 = _; omega, by omega, by show 0 ≤ wiV (stF s k).bc _ _; rw [hb]; exact this.1, by show wiV (stF s k).bc _ _ < _; rw [hb]; exact this.2⟩⟩
      · rw [if_neg h2]
        have := wi_bd a _ (ltr s k - 48) ta tb (by omega) (by omega)
        exact ⟨s0, by show (stF s k).s ≤ _; omega, ⟨a + 1, by show (stF s k).tc + 1 = _; omega, by omega, by show 0 ≤ wiV (stF s k).tc _ _; rw [ha]; exact this.1, by show wiV (stF s k).tc _ _ < _; rw [ha]; exact this.2⟩, ⟨b, hb, by omega, ba, bb⟩⟩
    · rw [if_neg h1]
      split
      · have := fin_mono h
        exact ⟨this.s0, this.s1, this.t, this.b⟩
      · split
        · have := fin_mono h
          exact ⟨by show (0 : Int) ≤ (k : Int); omega, by show (k : Int) ≤ _; omega, this.t, this.b⟩
        · exact fin_mono h
theorem st_ok (s : ByteArray) (k : Nat) (hk : k ≤ 4000) : FOk (stF s k) := fin_ok (st_in s k) hk

/-- Where a scan ends is one place. -/
theorem one_end (f : Nat → Bool) {a b : Nat} (h1 : ∀ j, j < a → f j = true) (h2 : f a = false) (h3 : ∀ j, j < b → f j = true) (h4 : f b = false) : a = b := by
  rcases Nat.lt_trichotomy a b with h | h | h
  · rw [h3 a h] at h2; cases h2
  · exact h
  · rw [h1 b h] at h4; cases h4

theorem num_wi (s : ByteArray) (p j : Nat) (h : isD (ltr s (p + j)) = true) : wiV (j : Int) (numR s p (min j 18)) (ltr s (p + j) - 48) = numR s p (min (j + 1) 18) := by
  unfold wiV
  by_cases h1 : j + 1 ≤ 18
  · rw [if_pos (by omega), Nat.min_eq_left (by omega), Nat.min_eq_left h1]
    show _ = numR s p j * 10 + _
    have hl : p + j < s.size := by
      rcases Nat.lt_or_ge (p + j) s.size with h' | h'
      · exact h'
      · rw [ltr_out (by omega)] at h; cases h
    rw [ltr_in hl, letter_at s (p + j) hl]
  · rw [if_neg (by omega), Nat.min_eq_right (by omega), Nat.min_eq_right (by omega)]
theorem run_ltr (s : ByteArray) (p i : Nat) (h : i < runD s p) : isD (ltr s (p + i)) = true := by
  obtain ⟨h1, h2⟩ := runD_in s p i h
  rw [ltr_in h1]; exact h2
theorem run_end (s : ByteArray) (p : Nat) : isD (ltr s (p + runD s p)) = false := by
  by_cases h : p + runD s p < s.size
  · rw [ltr_in h]; exact runD_out s p h
  · rw [ltr_out h]; rfl

theorem st_p (s : ByteArray) : stF s (pfP s) = ⟨decide (ltr s 0 = 45), 0, 0, 0, 0, 0⟩ ∧ ∀ j, j < pfP s → ftB s j = true := by
  unfold pfP
  by_cases h : ltr s 0 = 45
  · rw [if_pos h]
    refine ⟨?_, fun j hj => ?_⟩
    · show tkF fs0 _ _ = _
      unfold tkF
      simp [h, fs0]
    · obtain rfl : j = 0 := by omega
      unfold ftB tkB
      simp [h]
  · rw [if_neg h]
    refine ⟨?_, fun j hj => by omega⟩
    simp [stF, fs0, h]
/-- Within the first run of digits. -/
theorem st_n (s : ByteArray) : ∀ j, j ≤ pfN s → stF s (pfP s + j) = ⟨decide (ltr s 0 = 45), 0, (j : Int), numR s (pfP s) (min j 18), 0, 0⟩ ∧ ∀ i, i < pfP s + j → ftB s i = true
  | 0, _ => by
    obtain ⟨h1, h2⟩ := st_p s
    exact ⟨h1, h2⟩
  | j + 1, h => by
    obtain ⟨h1, h2⟩ := st_n s j (by omega)
    have hd := run_ltr s (pfP s) j (by unfold pfN at h; omega)
    have hb := isD_bd hd
    refine ⟨?_, fun i hi => ?_⟩
    · show tkF (stF s (pfP s + j)) _ (ltr s (pfP s + j)) = _
      rw [h1]
      unfold tkF wdF
      rw [if_pos hb, if_neg (show ¬ (0 : Int) < 0 by decide)]
      simp only
      rw [num_wi s (pfP s) j hd]
      simp
    · rcases (by omega : i < pfP s + j ∨ i = pfP s + j) with h' | h'
      · exact h2 i h'
      · subst h'
        unfold ftB tkB
        exact decide_eq_true (Or.inl hb)
/-- Behind the slash. -/
theorem st_b (s : ByteArray) (hn : 0 < pfN s) (hl : ltr s (pfB s) = 47) : ∀ j, j ≤ pfK s → stF s (pfB s + 1 + j) = ⟨decide (ltr s 0 = 45), (pfB s : Int), (pfN s : Int), numR s (pfP s) (min (pfN s) 18), (j : Int), numR s (pfB s + 1) (min j 18)⟩ ∧ ∀ i, i < pfB s + 1 + j → ftB s i = true
  | 0, _ => by
    obtain ⟨h1, h2⟩ := st_n s (pfN s) (Nat.le_refl _)
    have e : pfP s + pfN s = pfB s := rfl
    rw [e] at h1 h2
    refine ⟨?_, fun i hi => ?_⟩
    · show tkF (stF s (pfB s)) _ (ltr s (pfB s)) = _
      rw [h1, hl]
      unfold tkF
      rw [if_neg (by omega), if_neg (by omega), if_pos ⟨rfl, rfl, by show (0 : Int) < (pfN s : Int); omega⟩]
      rfl
    · rcases (by omega : i < pfB s ∨ i = pfB s) with h' | h'
      · exact h2 i h'
      · subst h'
        unfold ftB tkB
        rw [h1, hl]
        exact decide_eq_true (Or.inr (Or.inr ⟨rfl, rfl, by show (0 : Int) < (pfN s : Int); omega⟩))
  | j + 1, h => by
    obtain ⟨h1, h2⟩ := st_b s hn hl j (by omega)
    have hd := run_ltr s (pfB s + 1) j (by unfold pfK at h; omega)
    have hb := isD_bd hd
    have hp : 0 < (pfB s : Int) := by unfold pfB; omega
    refine ⟨?_, fun i hi => ?_⟩
    · show tkF (stF s (pfB s + 1 + j)) _ (ltr s (pfB s + 1 + j)) = _
      rw [h1]
      unfold tkF wdF
      rw [if_pos hb, if_pos hp]
      simp only
      rw [num_wi s (pfB s + 1) j hd]
      simp
    · rcases (by omega : i < pfB s + 1 + j ∨ i = pfB s + 1 + j) with h' | h'
      · exact h2 i h'
      · subst h'
        unfold ftB tkB
        exact decide_eq_true (Or.inl hb)

/-- How a scan ends: at a letter that does not fit, at the end of a text that is not whole, or well. -/
inductive ScE (s : ByteArray) : Prop where
  | bad (k : Nat) (h : k < s.size) (h1 : ∀ j, j < k → ftB s j = true) (h2 : ftB s k = false) (q : pfQ s = ⟨5, (k : Int), 0, 0⟩)
  | cut (h1 : ∀ j, j < s.size → ftB s j = true) (h2 : cmB (stF s s.size) = false) (q : pfQ s = ⟨5, (s.size : Int), 0, 0⟩)
  | good (h1 : ∀ j, j < s.size → ftB s j = true) (h2 : cmB (stF s s.size) = true)
      (q : pfQ s = if 18 < (stF s s.size).tc ∨ 18 < (stF s s.size).bc then ⟨3, 0, 0, 0⟩ else if 0 < (stF s s.size).s ∧ (stF s s.size).bv = 0 then ⟨6, (stF s s.size).s, 0, 0⟩ else
        toQ (if (stF s s.size).m = true then -(stF s s.size).tv else (stF s s.size).tv) (if (stF s s.size).s = 0 then 1 else (stF s s.size).bv))
theorem not_d {c : Int} (h : isD c = false) : ¬ (48 ≤ c ∧ c ≤ 57) := by
  intro ⟨h1, h2⟩
  unfold isD at h
  rw [decide_eq_true h1, decide_eq_true h2] at h
  cases h
theorem p_zero {s : ByteArray} (h : pfP s = 0) : ltr s 0 ≠ 45 := by
  intro h'
  unfold pfP at h
  rw [if_pos h'] at h
  cases h
theorem p_le {s : ByteArray} : pfP s ≤ s.size := by
  unfold pfP
  split
  · rename_i h
    rcases Nat.lt_or_ge 0 s.size with h' | h'
    · exact h'
    · rw [ltr_out (by omega)] at h; omega
  · omega
theorem sc_ends (s : ByteArray) (hs : s.size ≤ 4000) : ScE s := by
  obtain ⟨Q, hq⟩ : ∃ Q, pfQ s = Q := ⟨_, rfl⟩
  have hQ : Q = pfQ s := hq.symm
  unfold pfQ at hQ
  rw [if_neg (by omega)] at hQ
  have hpl := p_le (s := s)
  have hB : pfB s ≤ s.size := runD_le s (pfP s) hpl
  obtain ⟨n1, n2⟩ := st_n s (pfN s) (Nat.le_refl _)
  have hBe : pfP s + pfN s = pfB s := rfl
  rw [hBe] at n1 n2
  have hE : isD (ltr s (pfB s)) = false := run_end s (pfP s)
  by_cases h0 : pfN s = 0
  · rw [if_pos h0] at hQ
    have hBP : pfB s = pfP s := by omega
    rw [hBP] at hE hB n1 n2
    rw [h0] at n1
    rcases Nat.lt_or_ge (pfP s) s.size with h | h
    · refine .bad (pfP s) h n2 ?_ (hq.trans hQ)
      unfold ftB tkB
      rw [n1]
      refine decide_eq_false ?_
      rintro (h' | ⟨h', h''⟩ | ⟨_, _, h'⟩)
      · exact not_d hE h'
      · have hz : pfP s = 0 := by omega
        have := p_zero hz
        rw [hz] at h'
        exact this h'
      · exact absurd (show (0 : Int) < 0 from h') (by decide)
    · have e : s.size = pfP s := by omega
      rw [← e] at n1 n2 hQ
      refine .cut n2 ?_ (hq.trans hQ)
      rw [n1]; rfl
  rw [if_neg h0] at hQ
  have hn : 0 < pfN s := by omega
  by_cases hl : ltr s (pfB s) = 47
  · rw [if_pos hl] at hQ
    have hlt : pfB s < s.size := by
      rcases Nat.lt_or_ge (pfB s) s.size with h' | h'
      · exact h'
      · rw [ltr_out (by omega)] at hl; omega
    have hK : pfB s + 1 + pfK s ≤ s.size := runD_le s (pfB s + 1) hlt
    obtain ⟨b1, b2⟩ := st_b s hn hl (pfK s) (Nat.le_refl _)
    have hE2 : isD (ltr s (pfB s + 1 + pfK s)) = false := run_end s (pfB s + 1)
    have hp : 0 < (pfB s : Int) := by omega
    have hno : ftB s (pfB s + 1 + pfK s) = false := by
      unfold ftB tkB
      rw [b1]
      refine decide_eq_false ?_
      rintro (h' | ⟨_, h'⟩ | ⟨_, h', _⟩)
      · exact not_d hE2 h'
      · omega
      · have h' : (pfB s : Int) = 0 := h'
        omega
    by_cases hk : pfK s = 0
    · rw [if_pos hk] at hQ
      rw [hk] at b1 b2 hno hK
      rcases Nat.lt_or_ge (pfB s + 1) s.size with h | h
      · exact .bad (pfB s + 1) h b2 hno (hq.trans hQ)
      · have e : s.size = pfB s + 1 := by omega
        rw [← e] at hQ
        have e2 : s.size = pfB s + 1 + 0 := e
        rw [← e2] at b1 b2
        refine .cut b2 ?_ (hq.trans hQ)
        rw [b1]
        unfold cmB
        simp only
        rw [decide_eq_false (show ¬ (pfB s : Int) = 0 by omega)]
        simp
    · rw [if_neg hk] at hQ
      rcases Nat.lt_or_ge (pfB s + 1 + pfK s) s.size with h | h
      · rw [if_pos h] at hQ
        exact .bad _ h b2 hno (hq.trans hQ)
      · rw [if_neg (by omega)] at hQ
        have e : s.size = pfB s + 1 + pfK s := by omega
        rw [← e] at b1 b2
        refine .good b2 ?_ ?_
        · rw [b1]
          unfold cmB
          simp only
          rw [decide_eq_true (show (0 : Int) < (pfN s : Int) by omega), decide_eq_true (show (0 : Int) < (pfK s : Int) by omega)]
          simp
        · rw [b1]
          simp only
          rw [hq, hQ]
          by_cases hm : 18 < pfN s ∨ 18 < pfK s
          · rw [if_pos hm, if_pos (show 18 < (pfN s : Int) ∨ 18 < (pfK s : Int) by omega)]
          · rw [if_neg hm, if_neg (show ¬ (18 < (pfN s : Int) ∨ 18 < (pfK s : Int)) by omega), Nat.min_eq_left (show pfN s ≤ 18 by omega), Nat.min_eq_left (show pfK s ≤ 18 by omega)]
            by_cases hz : numR s (pfB s + 1) (pfK s) = 0
            · rw [if_pos hz, if_pos ⟨hp, hz⟩]
            · rw [if_neg hz, if_neg (fun h => hz h.2), if_neg (show ¬ (pfB s : Int) = 0 by omega)]
              unfold pfG
              by_cases hm' : ltr s 0 = 45
              · rw [if_pos hm', if_pos (decide_eq_true hm')]
              · rw [if_neg hm', if_neg (by rw [decide_eq_false hm']; decide)]
  · rw [if_neg hl] at hQ
    rcases Nat.lt_or_ge (pfB s) s.size with h | h
    · rw [if_pos h] at hQ
      refine .bad _ h n2 ?_ (hq.trans hQ)
      unfold ftB tkB
      refine decide_eq_false ?_
      rintro (h' | ⟨_, h'⟩ | ⟨h', _⟩)
      · exact not_d hE h'
      · omega
      · exact hl h'
    · rw [if_neg (by omega)] at hQ
      have e : s.size = pfB s := by omega
      rw [← e] at n1 n2
      refine .good n2 ?_ ?_
      · rw [n1]
        unfold cmB
        simp only
        rw [decide_eq_true (show (0 : Int) < (pfN s : Int) by omega)]
        simp
      · rw [n1]
        simp only
        rw [hq, hQ]
        by_cases hm : 18 < pfN s
        · rw [if_pos hm, if_pos (show 18 < (pfN s : Int) ∨ 18 < (0 : Int) by omega)]
        · rw [if_neg hm, if_neg (show ¬ (18 < (pfN s : Int) ∨ 18 < (0 : Int)) by omega), if_neg (show ¬ ((0 : Int) < 0 ∧ True) from fun h => absurd h.1 (by decide)), Nat.min_eq_left (show pfN s ≤ 18 by omega), if_pos trivial]
          unfold pfG
          by_cases hm' : ltr s 0 = 45
          · rw [if_pos hm', if_pos (decide_eq_true hm')]
          · rw [if_neg hm', if_neg (by rw [decide_eq_false hm']; decide)]

end Go.Proofs.Ytcojhkpdlmldcaa
