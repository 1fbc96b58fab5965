/- Proved here: FleetFault of the program: flF. -/
import Derived.Test.YtgbbigokbbllgaaFzM
import Derived.Test.YtgbbigokbbllgaaTwA
import Derived.Test.YtgbbigokbbllgaaLfI
import Derived.Test.YtgbbigokbbllgaaSxI
import Derived.Test.YtgbbigokbbllgaaTkR
namespace Go.Proofs.Ytgbbigokbbllgaa
open Go.RowKit
set_option linter.unusedVariables false
set_option linter.unusedSimpArgs false

theorem chG_two (lo hi : Int) (s : List Int) : chG lo hi s = 0 ∨ chG lo hi s = 3 := by
  induction s with
  | nil => exact Or.inl rfl
  | cons a t ih =>
    rw [chG]
    split
    · exact ih
    · exact Or.inr rfl

set_option maxRecDepth 10000 in
set_option maxHeartbeats 3200000 in
theorem impl_ff (Z : Int) {w : World} {a b : Option Addr} {c d : Nat} {s t : List Int} (hn : s.length ≤ 1048576 ∧ t.length ≤ 1048576) (hc : s.length ≤ c) (h : RdL w (.slice a s.length c) (.slice b t.length d) s t) :
    Calls Try.prog 23 #[.agg #[.int .i64 Z, .slice a s.length c, .slice b t.length d]] w fun e w' => e = .returned (.int .i64 (flF Z s t)) ∧ Below w.heap.size w w' := by
  obtain ⟨n, hnn⟩ : ∃ n, n = s.length := ⟨_, rfl⟩
  obtain ⟨m, hmm⟩ : ∃ n, n = t.length := ⟨_, rfl⟩
  obtain ⟨D, hD⟩ : ∃ D, D = flF Z s t := ⟨_, rfl⟩
  rw [← hnn, ← hmm] at hn h ⊢
  rw [← hD]
  rw [← hnn] at hc
  have H : Hid (RdL w (.slice a n c) (.slice b m d) s t ∧ n = s.length ∧ m = t.length ∧ D = flF Z s t ∧ s.length ≤ 1048576 ∧ t.length ≤ 1048576) := ⟨h, hnn, hmm, hD, by omega, by omega⟩
  obtain ⟨q, hq⟩ : ∃ q, q = decide (1 ≤ Z ∧ Z ≤ 30) := ⟨_, rfl⟩
  have HI : Hid (∀ W, Calls Try.prog 42 #[.int .i64 Z, .int .i64 1, .int .i64 30] W fun e w' => e = .returned (.bool q) ∧ w' = W) := impl_insC Z 1 30 q hq
  have HS : Hid (SB w (.cells #[.int .i64 Z, .slice a n c, .slice b m d] 45) (w.alloc (.cells #[.int .i64 Z, .slice a n c, .slice b m d] 45))) := SB.new _ _
  have HQ : Hid (q = decide (1 ≤ Z ∧ Z ≤ 30)) := hq
  clear h hnn hmm hD hq
  go_enter Try.func23, Try.ntmps23
  go_wp2_with (fail)
  obtain ⟨U, hU⟩ : ∃ U, U = w.alloc (.cells #[.int .i64 Z, .slice a n c, .slice b m d] 45) := ⟨_, rfl⟩
  rw [← hU] at HS ⊢
  clear hU
  refine (HI.out _).mono ?_
  rintro e w5 ⟨rfl, hw5⟩
  subst w5
  clear HI
  obtain ⟨p0, p1, p2, pf, pl⟩ := tw_three HS.out.bx
  clear pf
  cases q with
  | false =>
    have HD : Hid (D = 3) := by
      unfold Hid; rw [H.out.2.2.2.1]; unfold flF
      rw [if_pos (of_decide_eq_false HQ.out.symm)]
    go_wp2
    go_returns
    exact ⟨by rw [HD.out]; rfl, HS.out.bl⟩
  | true =>
  have hz : 1 ≤ Z ∧ Z ≤ 30 := of_decide_eq_true HQ.out.symm
  have hz0 := hz.1
  have hz1 := hz.2
  by_cases h2 : m = n
  case neg =>
    have h2' : ¬ (m : Int) = (n : Int) := by omega
    have HD : Hid (D = 1) := by
      unfold Hid; rw [H.out.2.2.2.1]; unfold flF
      rw [if_neg (fun e => e hz), if_pos (by rw [← H.out.2.1, ← H.out.2.2.1]; exact h2)]
    clear hz h2
    go_wp2
    go_returns
    exact ⟨by rw [HD.out]; rfl, HS.out.bl⟩
  subst m
  by_cases h3 : Z < (n : Int)
  · have HD : Hid (D = 2) := by
      unfold Hid; rw [H.out.2.2.2.1]; unfold flF
      rw [if_neg (fun e => e hz), if_neg (by rw [← H.out.2.1, ← H.out.2.2.1]; simp), if_pos (by rw [← H.out.2.1]; exact h3)]
    clear hz
    go_wp2
    go_returns
    exact ⟨by rw [HD.out]; rfl, HS.out.bl⟩
  have HD : Hid (D = if chG 0 (Z - 1) s ≠ 0 ∨ chG 0 (Z - 1) t ≠ 0 then 3 else if dif s = true then 0 else 7) := by
    unfold Hid; rw [H.out.2.2.2.1]; unfold flF
    rw [if_neg (fun e => e hz), if_neg (by rw [← H.out.2.1, ← H.out.2.2.1]; simp), if_neg (by rw [← H.out.2.1]; exact h3)]
  obtain ⟨x, hx⟩ : ∃ x, x = chG 0 (Z - 1) s := ⟨_, rfl⟩
  obtain ⟨y, hy⟩ : ∃ y, y = chG 0 (Z - 1) t := ⟨_, rfl⟩
  have HA : Hid (∀ W, Below w.heap.size w W → Calls Try.prog 41 #[.slice a n c, .int .i64 0, .int .i64 (Z - 1)] W fun e w' => e = .returned (.int .i64 x) ∧ w' = W) := fun W hb => by
    have := impl_lf 0 (Z - 1) H.out.2.2.2.2.1 (H.out.1.1.below hb)
    rw [chL, if_neg (by rw [← H.out.2.1]; omega), ← hx] at this
    exact this
  have HB : Hid (∀ W, Below w.heap.size w W → Calls Try.prog 41 #[.slice b n d, .int .i64 0, .int .i64 (Z - 1)] W fun e w' => e = .returned (.int .i64 y) ∧ w' = W) := fun W hb => by
    have := impl_lf 0 (Z - 1) H.out.2.2.2.2.2 (H.out.1.2.below hb)
    rw [chL, if_neg (by rw [← H.out.2.2.1]; omega), ← hy] at this
    exact this
  rw [← hx, ← hy] at HD
  have hx2 : x = 0 ∨ x = 3 := by rw [hx]; exact chG_two _ _ _
  have hy2 : y = 0 ∨ y = 3 := by rw [hy]; exact chG_two _ _ _
  clear hx hy hz
  rcases hx2 with rfl | rfl
  case inr =>
    have HE : Hid (D = 3) := by unfold Hid; rw [HD.out, if_pos (Or.inl (by decide))]
    go_wp2_with (fail)
    refine (HA.out _ HS.out.bl).mono ?_
    rintro e w5 ⟨rfl, hw5⟩
    subst w5
    clear HA HB
    go_wp2
    go_returns
    exact ⟨by rw [HE.out]; rfl, HS.out.bl⟩
  go_wp2_with (fail)
  refine (HA.out _ HS.out.bl).mono ?_
  rintro e w5 ⟨rfl, hw5⟩
  subst w5
  clear HA
  go_wp2_with (fail)
  refine (HB.out _ HS.out.bl).mono ?_
  rintro e w5 ⟨rfl, hw5⟩
  subst w5
  clear HB
  rcases hy2 with rfl | rfl
  case inr =>
    have HE : Hid (D = 3) := by unfold Hid; rw [HD.out, if_pos (Or.inr (by decide))]
    go_wp2
    go_returns
    exact ⟨by rw [HE.out]; rfl, HS.out.bl⟩
  have HE : Hid (D = if dif s = true then 0 else 7) := by unfold Hid; rw [HD.out, if_neg (by simp)]
  clear HD
  go_wp2
  go_loopw [41] (fun i wr => ∃ k : Nat, k ≤ n ∧ i = .int .i64 k ∧ Hid (SB w (.cells #[.int .i64 Z, .slice a n c, .slice b n d] 45) wr ∧ ∀ j, j < k → newAt s j)) (fun i _ => n - (intOf i).toNat)
  case atStart => exact ⟨0, Nat.zero_le _, rfl, HS.out, fun j hj => by omega⟩
  case round =>
    clear HS p0 p1 p2 pl
    obtain ⟨k, hk, rfl, hR⟩ := hrel
    obtain ⟨p0, p1, p2, pf, pl⟩ := tw_three hR.out.1.bx
    clear pf
    by_cases hlt : k < n
    · obtain ⟨g, o, rfl, hg, hc0⟩ := rd_at (H.out.1.1.below hR.out.1.bl) hlt
      obtain ⟨x, hx⟩ : ∃ x, x = s.getD k 0 := ⟨_, rfl⟩
      rw [← hx] at hc0
      obtain ⟨q, hq⟩ : ∃ q, q = decide (x ∈ s.take k) := ⟨_, rfl⟩
      have HC : Hid (Calls Try.prog 48 #[.slice (some ⟨g, o, none⟩) k c, .int .i64 x] wr fun e w' => e = .returned (.bool q) ∧ Below wr.heap.size wr w') := by
        unfold Hid
        rw [hq]
        refine sl_contains x (by rw [List.length_take]; have := H.out.2.2.2.2.1; omega) (rg_take (H.out.1.1.below hR.out.1.bl) (by omega))
      have HX : Hid ((q = true → ¬ newAt s k) ∧ (q = false → newAt s k) ∧ k < s.length) := by
        have hkl : k < s.length := by rw [← H.out.2.1]; exact hlt
        refine ⟨fun e => ?_, fun e => ?_, hkl⟩
        · rw [new_take hkl, ← hx]; rw [hq] at e; exact fun h => h (of_decide_eq_true e)
        · rw [new_take hkl, ← hx]; rw [hq] at e; exact of_decide_eq_false e
      have b0 : (0 : Int) ≤ (k : Int) := by omega
      have b1 : (k : Int) < (n : Int) := by omega
      have b2 : (k : Int) ≤ (c : Int) := by omega
      have b3 : k ≤ c := by omega
      clear hx hq
      go_wp2_with (fail)
      refine HC.out.mono ?_
      rintro e w5 ⟨rfl, hb5⟩
      have HR : Hid (SB w (.cells #[.int .i64 Z, .slice (some ⟨g, o, none⟩) n c, .slice b n d] 45) w5 ∧ ∀ j, j < k → newAt s j) := ⟨hR.out.1.next hb5, hR.out.2⟩
      clear hb5 hR HC p0 p1 p2 pl hg hc0
      cases q with
      | true =>
        have HE2 : Hid (D = 7) := by unfold Hid; rw [HE.out, dif_not HX.out.2.2 (HX.out.1 rfl)]; rfl
        go_wp2
        go_returns
        exact ⟨by rw [HE2.out]; rfl, HR.out.1.bl⟩
      | false =>
        have HN : Hid (∀ j, j < k + 1 → newAt s j) := fun j hj => by
          rcases (by omega : j < k ∨ j = k) with e | rfl
          · exact HR.out.2 j e
          · exact HX.out.2.1 rfl
        go_wp2
        go_roundw
        case rel => exact ⟨k + 1, by omega, by go_num, HR.out.1, HN.out⟩
        case measure => simp [intOf]; omega
    · have HE2 : Hid (D = 0) := by
        unfold Hid; rw [HE.out, if_pos (dif_iff.2 fun j hj => hR.out.2 j (by rw [← H.out.2.1] at hj; omega))]
      have HB : Hid (Below w.heap.size w wr) := hR.out.1.bl
      clear hR
      go_wp2
      go_returns
      exact ⟨by rw [HE2.out]; rfl, HB.out⟩

end Go.Proofs.Ytgbbigokbbllgaa
