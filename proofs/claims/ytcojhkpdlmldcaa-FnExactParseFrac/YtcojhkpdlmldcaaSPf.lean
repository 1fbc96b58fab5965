/- Proved here: ParseFrac of the model: pfQ. -/
import Derived.Test.YtcojhkpdlmldcaaPfM
import Derived.Test.YtcojhkpdlmldcaaSPath2
namespace Go.Proofs.Ytcojhkpdlmldcaa
open Go.RowKit
set_option linter.unusedVariables false
set_option linter.unusedSimpArgs false

def PFc (s : ByteArray) (Q : Q4) (w : World) : Prop := Calls Try.prog 4 #[.string s] w fun e w' => e = .returned (.agg #[.int .i64 Q.c, .int .i64 Q.p, .int .i64 Q.n, .int .i64 Q.d]) ∧ Below w.heap.size w w'
theorem PFc.of {s : ByteArray} {Q : Q4} {w : World} {a b c d : Int} (h : Calls Try.prog 4 #[.string s] w fun e w' => e = .returned (.agg #[.int .i64 a, .int .i64 b, .int .i64 c, .int .i64 d]) ∧ Below w.heap.size w w') (hq : Q = ⟨a, b, c, d⟩) : PFc s Q w := by
  rw [hq]; exact h

set_option maxHeartbeats 800000 in
theorem spec_pf_nil (w : World) : PFc ⟨#[]⟩ ⟨5, 0, 0, 0⟩ w := by
  unfold PFc
  have hd := spec_digits ⟨#[]⟩ 0 (w.alloc (.cells #[.int .i64 0, .int .i64 0, .int .i64 0, .int .i64 0] 25)) (by decide) (by decide)
  have e0 : runD ⟨#[]⟩ 0 = 0 := by rfl
  rw [e0] at hd
  have HD : Hid (Calls Try.prog 8 #[.string ⟨#[]⟩, .int .i64 0] (w.alloc (.cells #[.int .i64 0, .int .i64 0, .int .i64 0, .int .i64 0] 25)) fun e w' => e = .returned (.int .i64 0) ∧ w' = w.alloc (.cells #[.int .i64 0, .int .i64 0, .int .i64 0, .int .i64 0] 25)) := hd
  clear hd
  go_enter Try.func4, Try.ntmps4
  go_wp2_with (fail)
  refine HD.out.mono ?_
  rintro e w' ⟨rfl, rfl⟩
  go_wp2_with (fail)
  refine (spec_textFault _ _ _ (by omega)).mono ?_
  rintro e w1 ⟨rfl, hb1⟩
  obtain ⟨hc1, hf1⟩ := bcell hb1
  have hl1 : w.heap.size < w1.heap.size := by have := hb1.size; simp at this; omega
  have hB1 : Hid (Below w.heap.size w w1) := ((Below.refl _ _).alloc (Nat.le_refl _) _).trans (hb1.mono (by simp))
  go_wp2
  have hz1 : w.heap.size < w.heap.size + 1 := by omega
  refine bodyPost_ret (by simp [results, Try.results4, go_sem, hc1, hz1, hl1]) rfl ⟨rfl, ?_⟩
  have hB : Below w.heap.size w w1 := hB1.out
  clear hc1 hf1 hb1 hB1
  (repeat' (first | (with_reducible exact Below.refl _ _) | (with_reducible assumption) | (with_reducible refine Below.setCell ?_ ?_ _) | (with_reducible refine Below.alloc ?_ ?_ _) | (with_reducible refine below_drewN ?_ _) | (with_reducible refine Below.drew ?_) | (with_reducible exact Nat.le_refl _) | omega | (simp; done) | (simp; omega)))

theorem s_toList_len (s : ByteArray) : s.toList.length = s.size := by
  rw [ByteArray.toList_eq]; rfl
theorem spec_pf (s : ByteArray) (w : World) (hs : s.size ≤ 1048576) : PFc s (pfQ s) w := by
  by_cases h4 : 4000 < s.size
  · exact PFc.of (spec_parse_many s w h4 (by omega)) (by unfold pfQ; rw [if_pos h4])
  by_cases h0 : 0 < s.size
  case neg =>
    obtain ⟨⟨l⟩⟩ := s
    have : l = [] := List.length_eq_zero_iff.1 (by
      have : (ByteArray.mk ⟨l⟩).size = l.length := rfl
      omega)
    subst this
    exact spec_pf_nil w
  have hne : s.toList.isEmpty = false := by
    cases hh : s.toList.isEmpty
    · rfl
    · exfalso
      have h1 := List.isEmpty_iff.1 hh
      have h2 := s_toList_len s
      rw [h1] at h2
      simp at h2
      omega
  have hsz : s.size ≤ 4000 := by omega
  have hdg : ∀ (p : Nat), p ≤ 5000 → ∀ (q : Int) w, q = (p : Int) → Calls Try.prog 8 #[.string s, .int .i64 q] w fun e w' => e = .returned (.int .i64 (runD s p)) ∧ w' = w := by
    intro p hp q w hq
    subst hq
    exact spec_digits s p w (by omega) (by omega)
  have hnum : ∀ p, p ≤ s.size → runD s p ≤ 18 → ∀ w, Calls Try.prog 9 #[.string (s.extract p (p + runD s p))] w fun e w' => e = .returned (.int .i64 (numR s p (runD s p))) ∧ w' = w := by
    intro p hp h18 w
    have h1 := runD_le s p hp
    have h2 := part_size s h1
    have h3 := spec_number (s.extract p (p + runD s p)) w (by rw [h2]; exact h18) (part_digits s p)
    rw [h2, numK_extract s p (runD s p) (runD s p) (Nat.le_refl _)] at h3
    exact h3
  have hone : ∀ w, Calls Try.prog 9 #[.string { data := #[49] }] w fun e w' => e = .returned (.int .i64 1) ∧ w' = w := by
    intro w
    have h3 := spec_number { data := #[49] } w (by decide) (by intro i h; have : i = 0 := by have h9 : (ByteArray.mk #[49]).size = 1 := rfl; omega
                                                               subst this; rfl)
    exact h3
  by_cases hm : ltr s 0 = 45
  · have hP : pfP s = 1 := by unfold pfP; rw [if_pos hm]
    have hG : ∀ x, pfG s x = -x := fun x => by unfold pfG; rw [if_pos hm]
    have hm1 : (((s[0].toNat : Nat) : Int) == 45) = true := by rw [ltr_in h0] at hm; simpa using hm
    obtain ⟨n, hn⟩ : ∃ n, n = runD s 1 := ⟨_, rfl⟩
    have hN : pfN s = n := by unfold pfN; rw [hP, hn]
    have hB : pfB s = 1 + n := by unfold pfB; rw [hP, hN]
    have hd1 := hdg 1 (by omega)
    rw [← hn] at hd1
    have hle := runD_le s 1 (by omega)
    rw [← hn] at hle
    by_cases hn0 : n = 0
    · subst hn0
      exact PFc.of (sp_n0_m s 0 0 w hsz h0 hne hm1 hd1) (by unfold pfQ; rw [if_neg h4, hN, if_pos rfl, hP]; rfl)
    obtain ⟨k, hk⟩ : ∃ k, k = runD s (1 + n + 1) := ⟨_, rfl⟩
    have hK : pfK s = k := by unfold pfK; rw [hB, hk]
    have hX : (s.extract 1 (1 + n)).size = n := by have := part_size s (p := 1) (n := n) (by omega); exact this
    have hxa : n ≤ 18 → ∀ w, Calls Try.prog 9 #[.string (s.extract 1 (1 + n))] w fun e w' => e = .returned (.int .i64 (numR s 1 n)) ∧ w' = w := fun h18 w => by
      have := hnum 1 (by omega) (by omega) w
      rw [← hn] at this
      exact this
    have hna : n ≤ 18 → 0 ≤ numR s 1 n ∧ numR s 1 n ≤ 1000000000000000000 := fun h18 => by
      have := numR_small s 1 (by omega) (by omega)
      rw [← hn] at this
      exact this
    by_cases hlt : 1 + n < s.size
    · by_cases hsl : ltr s (1 + n) = 47
      · have hs1 : (((s[1 + n].toNat : Nat) : Int) == 47) = true := by rw [ltr_in hlt] at hsl; simpa using hsl
        have hd2 := hdg (1 + n + 1) (by omega)
        rw [← hk] at hd2
        have hle2 := runD_le s (1 + n + 1) (by omega)
        rw [← hk] at hle2
        have hd2' : ∀ (q : Int) w, q = 1 + (n : Int) + 1 → Calls Try.prog 8 #[.string s, .int .i64 q] w fun e w' => e = .returned (.int .i64 k) ∧ w' = w := fun q w hq => hd2 q w (by omega)
        by_cases hk0 : k = 0
        · subst hk0
          exact PFc.of (sp_k0_m s n 0 w hsz h0 hne hm1 (by omega) hlt hs1 hd1 hd2') (by unfold pfQ; rw [if_neg h4, hN, if_neg hn0, hB, if_pos hsl, hK, if_pos rfl]; try first | rfl | (congr 1; omega))
        by_cases hst : 1 + n + 1 + k < s.size
        · exact PFc.of (sp_kstray_m s n k w hsz h0 hne hm1 (by omega) (by omega) hlt hs1 hst hd1 hd2') (by unfold pfQ; rw [if_neg h4, hN, if_neg hn0, hB, if_pos hsl, hK, if_neg hk0, if_pos hst]; try first | rfl | (congr 1; omega))
        have hY : (s.extract (1 + n + 1) (1 + n + 1 + k)).size = k := part_size s (by omega)
        by_cases hl1 : 18 < n
        · exact PFc.of (sp_long1_m s n k w hsz h0 hne hm1 (by omega) (by omega) hl1 hlt hs1 (by omega) (by omega) hd1 hd2' hX hY) (by unfold pfQ; rw [if_neg h4, hN, if_neg hn0, hB, if_pos hsl, hK, if_neg hk0, if_neg hst, if_pos (Or.inl hl1)])
        by_cases hl2 : 18 < k
        · exact PFc.of (sp_long2_m s n k w hsz h0 hne hm1 (by omega) (by omega) (by omega) hl2 hlt hs1 (by omega) (by omega) hd1 hd2' hX hY) (by unfold pfQ; rw [if_neg h4, hN, if_neg hn0, hB, if_pos hsl, hK, if_neg hk0, if_neg hst, if_pos (Or.inr hl2)])
        have hor : ¬ (18 < n ∨ 18 < k) := by omega
        have hxb : ∀ w, Calls Try.prog 9 #[.string (s.extract (1 + n + 1) (1 + n + 1 + k))] w fun e w' => e = .returned (.int .i64 (numR s (1 + n + 1) k)) ∧ w' = w := fun w => by
          have := hnum (1 + n + 1) (by omega) (by omega) w
          rw [← hk] at this
          exact this
        have hnb := numR_small s (1 + n + 1) (by omega) (by omega)
        rw [← hk] at hnb
        have ha := hna (by omega)
        by_cases hz : numR s (1 + n + 1) k = 0
        · rw [hz] at hxb
          exact PFc.of (sp_zero1_m s n k w hsz h0 hne hm1 (by omega) (by omega) (by omega) (by omega) hlt hs1 (by omega) (by omega) hd1 hd2' hX hY hxb) (by unfold pfQ; rw [if_neg h4, hN, if_neg hn0, hB, if_pos hsl, hK, if_neg hk0, if_neg hst, if_neg hor, if_pos hz])
        · exact PFc.of (sp_told1_m s n k w hsz h0 hne hm1 (by omega) (by omega) (by omega) (by omega) hlt hs1 (by omega) (by omega) hd1 hd2' hX hY (numR s 1 n) (numR s (1 + n + 1) k) _ _ _ ha hz (hxa (by omega)) hxb (fun w => spec_told _ _ w (by omega) (by omega) (by omega) (by omega))) (by unfold pfQ; rw [if_neg h4, hN, if_neg hn0, hB, if_pos hsl, hK, if_neg hk0, if_neg hst, if_neg hor, if_neg hz, hP, hG]; try rfl)
      · have hs1 : (((s[1 + n].toNat : Nat) : Int) == 47) = false := by rw [ltr_in hlt] at hsl; simpa using hsl
        exact PFc.of (sp_stray_m s n 0 w hsz h0 hne hm1 (by omega) hlt hs1 hd1) (by unfold pfQ; rw [if_neg h4, hN, if_neg hn0, hB, if_neg hsl, if_pos hlt]; try first | rfl | (congr 1; omega))
    · have hsl : ¬ ltr s (1 + n) = 47 := by rw [ltr_out hlt]; decide
      by_cases hl1 : 18 < n
      · exact PFc.of (sp_long0_m s n 0 w hsz h0 hne hm1 (by omega) hl1 (by omega) (by omega) hd1 hX) (by unfold pfQ; rw [if_neg h4, hN, if_neg hn0, hB, if_neg hsl, if_neg hlt, if_pos hl1])
      · have ha := hna (by omega)
        exact PFc.of (sp_told0_m s n 0 w hsz h0 hne hm1 (by omega) (by omega) (by omega) (by omega) hd1 hX (numR s 1 n) 1 _ _ _ ha (by decide) (hxa (by omega)) hone (fun w => spec_told _ _ w (by omega) (by omega) (by omega) (by omega))) (by unfold pfQ; rw [if_neg h4, hN, if_neg hn0, hB, if_neg hsl, if_neg hlt, if_neg hl1, hP, hG]; try rfl)
  · have hP : pfP s = 0 := by unfold pfP; rw [if_neg hm]
    have hG : ∀ x, pfG s x = x := fun x => by unfold pfG; rw [if_neg hm]
    have hm1 : (((s[0].toNat : Nat) : Int) == 45) = false := by rw [ltr_in h0] at hm; simpa using hm
    obtain ⟨n, hn⟩ : ∃ n, n = runD s 0 := ⟨_, rfl⟩
    have hN : pfN s = n := by unfold pfN; rw [hP, hn]
    have hB : pfB s = n := by unfold pfB; rw [hP, hN]; omega
    have hd1 := hdg 0 (by omega)
    rw [← hn] at hd1
    have hle := runD_le s 0 (by omega)
    rw [← hn] at hle
    by_cases hn0 : n = 0
    · subst hn0
      exact PFc.of (sp_n0_p s 0 0 w hsz h0 hne hm1 hd1) (by unfold pfQ; rw [if_neg h4, hN, if_pos rfl, hP]; rfl)
    obtain ⟨k, hk⟩ : ∃ k, k = runD s (n + 1) := ⟨_, rfl⟩
    have hK : pfK s = k := by unfold pfK; rw [hB, hk]
    have hX : (s.extract 0 (n)).size = n := by have := part_size s (p := 0) (n := n) (by omega); rw [Nat.zero_add] at this; exact this
    have hxa : n ≤ 18 → ∀ w, Calls Try.prog 9 #[.string (s.extract 0 (n))] w fun e w' => e = .returned (.int .i64 (numR s 0 n)) ∧ w' = w := fun h18 w => by
      have := hnum 0 (by omega) (by omega) w
      rw [← hn, Nat.zero_add] at this
      exact this
    have hna : n ≤ 18 → 0 ≤ numR s 0 n ∧ numR s 0 n ≤ 1000000000000000000 := fun h18 => by
      have := numR_small s 0 (by omega) (by omega)
      rw [← hn] at this
      exact this
    by_cases hlt : n < s.size
    · by_cases hsl : ltr s (n) = 47
      · have hs1 : (((s[n].toNat : Nat) : Int) == 47) = true := by rw [ltr_in hlt] at hsl; simpa using hsl
        have hd2 := hdg (n + 1) (by omega)
        rw [← hk] at hd2
        have hle2 := runD_le s (n + 1) (by omega)
        rw [← hk] at hle2
        have hd2' : ∀ (q : Int) w, q = (n : Int) + 1 → Calls Try.prog 8 #[.string s, .int .i64 q] w fun e w' => e = .returned (.int .i64 k) ∧ w' = w := fun q w hq => hd2 q w (by omega)
        by_cases hk0 : k = 0
        · subst hk0
          exact PFc.of (sp_k0_p s n 0 w hsz h0 hne hm1 (by omega) hlt hs1 hd1 hd2') (by unfold pfQ; rw [if_neg h4, hN, if_neg hn0, hB, if_pos hsl, hK, if_pos rfl]; try first | rfl | (congr 1; omega))
        by_cases hst : n + 1 + k < s.size
        · exact PFc.of (sp_kstray_p s n k w hsz h0 hne hm1 (by omega) (by omega) hlt hs1 hst hd1 hd2') (by unfold pfQ; rw [if_neg h4, hN, if_neg hn0, hB, if_pos hsl, hK, if_neg hk0, if_pos hst]; try first | rfl | (congr 1; omega))
        have hY : (s.extract (n + 1) (n + 1 + k)).size = k := part_size s (by omega)
        by_cases hl1 : 18 < n
        · exact PFc.of (sp_long1_p s n k w hsz h0 hne hm1 (by omega) (by omega) hl1 hlt hs1 (by omega) (by omega) hd1 hd2' hX hY) (by unfold pfQ; rw [if_neg h4, hN, if_neg hn0, hB, if_pos hsl, hK, if_neg hk0, if_neg hst, if_pos (Or.inl hl1)])
        by_cases hl2 : 18 < k
        · exact PFc.of (sp_long2_p s n k w hsz h0 hne hm1 (by omega) (by omega) (by omega) hl2 hlt hs1 (by omega) (by omega) hd1 hd2' hX hY) (by unfold pfQ; rw [if_neg h4, hN, if_neg hn0, hB, if_pos hsl, hK, if_neg hk0, if_neg hst, if_pos (Or.inr hl2)])
        have hor : ¬ (18 < n ∨ 18 < k) := by omega
        have hxb : ∀ w, Calls Try.prog 9 #[.string (s.extract (n + 1) (n + 1 + k))] w fun e w' => e = .returned (.int .i64 (numR s (n + 1) k)) ∧ w' = w := fun w => by
          have := hnum (n + 1) (by omega) (by omega) w
          rw [← hk] at this
          exact this
        have hnb := numR_small s (n + 1) (by omega) (by omega)
        rw [← hk] at hnb
        have ha := hna (by omega)
        by_cases hz : numR s (n + 1) k = 0
        · rw [hz] at hxb
          exact PFc.of (sp_zero1_p s n k w hsz h0 hne hm1 (by omega) (by omega) (by omega) (by omega) hlt hs1 (by omega) (by omega) hd1 hd2' hX hY hxb) (by unfold pfQ; rw [if_neg h4, hN, if_neg hn0, hB, if_pos hsl, hK, if_neg hk0, if_neg hst, if_neg hor, if_pos hz])
        · exact PFc.of (sp_told1_p s n k w hsz h0 hne hm1 (by omega) (by omega) (by omega) (by omega) hlt hs1 (by omega) (by omega) hd1 hd2' hX hY (numR s 0 n) (numR s (n + 1) k) _ _ _ ha hz (hxa (by omega)) hxb (fun w => spec_told _ _ w (by omega) (by omega) (by omega) (by omega))) (by unfold pfQ; rw [if_neg h4, hN, if_neg hn0, hB, if_pos hsl, hK, if_neg hk0, if_neg hst, if_neg hor, if_neg hz, hP, hG]; try rfl)
      · have hs1 : (((s[n].toNat : Nat) : Int) == 47) = false := by rw [ltr_in hlt] at hsl; simpa using hsl
        exact PFc.of (sp_stray_p s n 0 w hsz h0 hne hm1 (by omega) hlt hs1 hd1) (by unfold pfQ; rw [if_neg h4, hN, if_neg hn0, hB, if_neg hsl, if_pos hlt]; try first | rfl | (congr 1; omega))
    · have hsl : ¬ ltr s (n) = 47 := by rw [ltr_out hlt]; decide
      by_cases hl1 : 18 < n
      · exact PFc.of (sp_long0_p s n 0 w hsz h0 hne hm1 (by omega) hl1 (by omega) (by omega) hd1 hX) (by unfold pfQ; rw [if_neg h4, hN, if_neg hn0, hB, if_neg hsl, if_neg hlt, if_pos hl1])
      · have ha := hna (by omega)
        exact PFc.of (sp_told0_p s n 0 w hsz h0 hne hm1 (by omega) (by omega) (by omega) (by omega) hd1 hX (numR s 0 n) 1 _ _ _ ha (by decide) (hxa (by omega)) hone (fun w => spec_told _ _ w (by omega) (by omega) (by omega) (by omega))) (by unfold pfQ; rw [if_neg h4, hN, if_neg hn0, hB, if_neg hsl, if_neg hlt, if_neg hl1, hP, hG]; try rfl)

end Go.Proofs.Ytcojhkpdlmldcaa
