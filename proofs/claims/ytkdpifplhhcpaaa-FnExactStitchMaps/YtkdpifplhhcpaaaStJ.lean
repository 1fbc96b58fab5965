/- Proved here: the faults of two maps, of the program. -/
import Derived.Test.YtkdpifplhhcpaaaStI
import Derived.BigQuiet
namespace Go.Proofs.Ytkdpifplhhcpaaa
open Go.RowKit
set_option linter.unusedVariables false
set_option linter.unusedSimpArgs false

def stK (a b : List (List Int)) : Int := if smF a ≠ 0 then smF a else if smF b ≠ 0 then smF b else if a.length ≠ b.length ∨ (a.getD 0 []).length ≠ (b.getD 0 []).length then 1 else 0
theorem stC_K (a b : List (List Int)) : stC a b = if stK a b ≠ 0 then stK a b else if cfA a b = true then 7 else 0 := by
  unfold stC stK
  by_cases h1 : smF a ≠ 0
  · rw [if_pos h1, if_pos h1, if_pos h1]
  · rw [if_neg h1, if_neg h1]
    by_cases h2 : smF b ≠ 0
    · rw [if_pos h2, if_pos h2, if_pos h2]
    · rw [if_neg h2, if_neg h2]
      by_cases h3 : a.length ≠ b.length ∨ (a.getD 0 []).length ≠ (b.getD 0 []).length
      · rw [if_pos h3, if_pos h3, if_pos (by decide)]
      · rw [if_neg h3, if_neg h3]; simp
theorem stK_ok {a b : List (List Int)} (h : stK a b = 0) : smF a = 0 ∧ smF b = 0 ∧ a.length = b.length ∧ (a.getD 0 []).length = (b.getD 0 []).length := by
  unfold stK at h
  by_cases h1 : smF a ≠ 0
  · rw [if_pos h1] at h; exact absurd h h1
  · rw [if_neg h1] at h
    by_cases h2 : smF b ≠ 0
    · rw [if_pos h2] at h; exact absurd h h2
    · rw [if_neg h2] at h
      by_cases h3 : a.length ≠ b.length ∨ (a.getD 0 []).length ≠ (b.getD 0 []).length
      · rw [if_pos h3] at h; cases h
      · exact ⟨Decidable.not_not.1 h1, Decidable.not_not.1 h2, by omega, by omega⟩

set_option maxRecDepth 10000 in
set_option maxHeartbeats 6400000 in
theorem impl_smfs {W : World} {va vb : Value} {la lb : List (List Int)} (hna : SmR la) (ha : RdR W va la) (hnb : SmR lb) (hb : RdR W vb lb) :
    Calls Try.prog 60 #[va, vb] W fun e w' => e = .returned (.int .i64 (stK la lb)) ∧ Below W.heap.size W w' := by
  obtain ⟨a, c, rfl⟩ := ha.form
  obtain ⟨b, d, rfl⟩ := hb.form
  obtain ⟨n, hnn⟩ : ∃ n, n = la.length := ⟨_, rfl⟩
  obtain ⟨k, hkk⟩ : ∃ k, k = lb.length := ⟨_, rfl⟩
  rw [← hnn] at ha ⊢
  rw [← hkk] at hb ⊢
  have hn20 : n ≤ 1048576 := by rw [hnn]; exact hna.len
  have hk20 : k ≤ 1048576 := by rw [hkk]; exact hnb.len
  have H : Hid (RdR W (.slice a n c) la ∧ RdR W (.slice b k d) lb ∧ n = la.length ∧ k = lb.length) := ⟨ha, hb, hnn, hkk⟩
  obtain ⟨fa, hfa⟩ : ∃ f, f = smF la := ⟨_, rfl⟩
  obtain ⟨fb, hfb⟩ : ∃ f, f = smF lb := ⟨_, rfl⟩
  obtain ⟨R, hR⟩ : ∃ R, R = stK la lb := ⟨_, rfl⟩
  have HR : Hid (R = if fa ≠ 0 then fa else if fb ≠ 0 then fb else if n ≠ k ∨ (la.getD 0 []).length ≠ (lb.getD 0 []).length then 1 else 0) := by unfold Hid; rw [hR, stK, hfa, hfb, hnn, hkk]
  have HA : Hid (∀ X, Below W.heap.size W X → Calls Try.prog 66 #[.slice a n c] X fun e w' => e = .returned (.int .i64 fa) ∧ Below X.heap.size X w') := fun X hx => by rw [hfa]; exact impl_smf hna (ha.below hx)
  have HB : Hid (∀ X, Below W.heap.size W X → Calls Try.prog 66 #[.slice b k d] X fun e w' => e = .returned (.int .i64 fb) ∧ Below X.heap.size X w') := fun X hx => by rw [hfb]; exact impl_smf hnb (hb.below hx)
  have HS : Hid (SmR la ∧ SmR lb ∧ (fa = 0 → GM la) ∧ (fb = 0 → GM lb)) := ⟨hna, hnb, fun h => smF_ok (hfa.symm.trans h), fun h => smF_ok (hfb.symm.trans h)⟩
  rw [← hR]
  clear hR hfa hfb ha hb hnn hkk hna hnb
  go_enter Try.func60, Try.ntmps60
  go_wp2_with (fail)
  refine (HA.out _ (Below.refl _ _)).mono ?_
  rintro e w1 ⟨rfl, hb1⟩
  have HW1 : Hid (Below W.heap.size W w1) := hb1
  clear hb1 HA
  by_cases hfa : fa = 0
  case neg =>
    have h1 : (fa != 0) = true := by simpa using hfa
    have HN : Hid (R = fa) := by unfold Hid; rw [HR.out, if_pos hfa]
    clear HR
    go_wp2
    go_returns
    exact ⟨by rw [HN.out]; rfl, HW1.out⟩
  have HR2 : Hid (R = if fb ≠ 0 then fb else if n ≠ k ∨ (la.getD 0 []).length ≠ (lb.getD 0 []).length then 1 else 0) := by unfold Hid; rw [HR.out, if_neg (fun h => h hfa)]
  have HGA : Hid (GM la) := HS.out.2.2.1 hfa
  subst hfa
  clear HR
  go_wp2_with (fail)
  refine (HB.out _ HW1.out).mono ?_
  rintro e w2 ⟨rfl, hb2⟩
  have HW2 : Hid (Below W.heap.size W w2) := HW1.out.trans (hb2.mono HW1.out.size)
  clear hb2 HB HW1
  by_cases hfb : fb = 0
  case neg =>
    have h1 : (fb != 0) = true := by simpa using hfb
    have HN : Hid (R = fb) := by unfold Hid; rw [HR2.out, if_pos hfb]
    clear HR2
    go_wp2
    go_returns
    exact ⟨by rw [HN.out]; rfl, HW2.out⟩
  have HR3 : Hid (R = if n ≠ k ∨ (la.getD 0 []).length ≠ (lb.getD 0 []).length then 1 else 0) := by unfold Hid; rw [HR2.out, if_neg (fun h => h hfb)]
  have HGB : Hid (GM lb) := HS.out.2.2.2 hfb
  subst hfb
  clear HR2
  have hn0 : 0 < n := by rw [H.out.2.2.1]; exact HGA.out.h0
  have hk0 : 0 < k := by rw [H.out.2.2.2]; exact HGB.out.h0
  obtain ⟨g, o, ra, m, e1, rfl, hg, r0, hm, _⟩ := (H.out.1.below HW2.out).at hn0
  obtain ⟨g', o', rb, m', e1', rfl, hg', r0', hm', _⟩ := (H.out.2.1.below HW2.out).at hk0
  rw [Nat.add_zero] at r0 r0'
  have hm20 : m ≤ 1048576 := by rw [hm]; exact HS.out.1.row 0
  have hm20' : m' ≤ 1048576 := by rw [hm']; exact HS.out.2.1.row 0
  rw [← hm, ← hm'] at HR3
  have bn : (0 : Int) < (n : Int) := by omega
  have bk : (0 : Int) < (k : Int) := by omega
  clear hm hm'
  by_cases hnk : n = k
  case neg =>
    have h1 : ¬ (n : Int) = (k : Int) := by omega
    have h1b : ((n : Int) != (k : Int)) = true := by simpa using h1
    have HN : Hid (R = 1) := by unfold Hid; rw [HR3.out, if_pos (Or.inl hnk)]
    clear HR3
    go_wp2
    go_quiet (fail)
    go_wp2
    go_returns
    exact ⟨by rw [HN.out]; rfl, below_drewN HW2.out _⟩
  have hnki : ((n : Int) != (k : Int)) = false := by simp [hnk]
  by_cases hmm : m = m'
  · have HN : Hid (R = 0) := by unfold Hid; rw [HR3.out, if_neg (by omega)]
    have hmmi : ((m : Int) != (m' : Int)) = false := by simp [hmm]
    clear HR3
    subst hnk hmm
    go_wp2
    go_quiet (fail)
    go_wp2
    go_returns
    exact ⟨by rw [HN.out]; rfl, below_drewN HW2.out _⟩
  · have HN : Hid (R = 1) := by unfold Hid; rw [HR3.out, if_pos (Or.inr hmm)]
    have h1 : ¬ (m : Int) = (m' : Int) := by omega
    have h1b : ((m : Int) != (m' : Int)) = true := by simpa using h1
    clear HR3
    subst hnk
    go_wp2
    go_quiet (fail)
    go_wp2
    go_returns
    exact ⟨by rw [HN.out]; rfl, below_drewN HW2.out _⟩

end Go.Proofs.Ytkdpifplhhcpaaa
