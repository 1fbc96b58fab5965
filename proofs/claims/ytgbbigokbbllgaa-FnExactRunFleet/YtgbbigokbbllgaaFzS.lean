/- Proved here: l20In and FleetFault of the model: fxI, flF. -/
import Derived.Test.YtgbbigokbbllgaaFzM
import Derived.Test.YtgbbigokbbllgaaTwA
import Derived.Test.YtgbbigokbbllgaaInS
import Derived.BigQuiet
namespace Go.Proofs.Ytgbbigokbbllgaa
open Go.RowKit
set_option linter.unusedVariables false
set_option linter.unusedSimpArgs false

set_option maxRecDepth 10000 in
set_option maxHeartbeats 3200000 in
theorem spec_i20 (Z z : Int) {w : World} {a b : Option Addr} {c m d : Nat} {s : List Int} (hn : s.length ≤ 1048576) (h : RdI w (.slice a s.length c) s) :
    Calls Try.prog 47 #[.agg #[.int .i64 Z, .slice a s.length c, .slice b m d], .int .i64 z] w fun e w' => e = .returned (.int .i64 (fxI s z)) ∧ Below w.heap.size w w' := by
  obtain ⟨n, hnn⟩ : ∃ n, n = s.length := ⟨_, rfl⟩
  obtain ⟨D, hD⟩ : ∃ D, D = fxI s z := ⟨_, rfl⟩
  rw [← hnn] at hn h ⊢
  rw [← hD]
  have H : Hid (RdI w (.slice a n c) s ∧ n = s.length ∧ D = fxI s z) := ⟨h, hnn, hD⟩
  have HS : Hid (SB w (.cells #[.int .i64 Z, .slice a n c, .slice b m d] 45) (w.alloc (.cells #[.int .i64 Z, .slice a n c, .slice b m d] 45))) := SB.new _ _
  clear h hnn hD
  go_enter Try.func47, Try.ntmps47
  go_wp2
  go_loopw [5] (fun i wr => ∃ k : Nat, k ≤ n ∧ i = .int .i64 k ∧ Hid (SB w (.cells #[.int .i64 Z, .slice a n c, .slice b m d] 45) wr ∧ ∀ j, j < k → s.getD j 0 ≠ z)) (fun i _ => n - (intOf i).toNat)
  case atStart => exact ⟨0, Nat.zero_le _, rfl, HS.out, fun j hj => by omega⟩
  case round =>
    clear HS
    obtain ⟨k, hk, rfl, hR⟩ := hrel
    obtain ⟨p0, p1, p2, pf, pl⟩ := tw_three hR.out.1.bx
    clear pf
    by_cases hlt : k < n
    · obtain ⟨g, o, rfl, hg, hc0⟩ := rd_at (H.out.1.below hR.out.1.bl) hlt
      obtain ⟨x, hx⟩ : ∃ x, x = s.getD k 0 := ⟨_, rfl⟩
      rw [← hx] at hc0
      have HX : Hid (x = s.getD k 0 ∧ k < s.length) := ⟨hx, by rw [← H.out.2.1]; exact hlt⟩
      have b0 : (0 : Int) ≤ (k : Int) := by omega
      have b1 : (k : Int) < (n : Int) := by omega
      clear hx
      by_cases he : x = z
      · have HM : Hid (D = (k : Int)) := by unfold Hid; rw [H.out.2.2]; exact fxI_hit HX.out.2 (by rw [← HX.out.1]; exact he) hR.out.2
        subst he
        go_wp2
        go_returns
        exact ⟨by rw [HM.out]; rfl, hR.out.1.bl⟩
      · have HN : Hid (SB w (.cells #[.int .i64 Z, .slice (some ⟨g, o, none⟩) n c, .slice b m d] 45) wr ∧ ∀ j, j < k + 1 → s.getD j 0 ≠ z) := ⟨hR.out.1, fun j hj => by
          rcases (by omega : j < k ∨ j = k) with e | rfl
          · exact hR.out.2 j e
          · rw [← HX.out.1]; exact he⟩
        clear hR
        go_wp2
        go_roundw
        case rel => exact ⟨k + 1, by omega, by go_num, HN.out.1, HN.out.2⟩
        case measure => simp [intOf]; omega
    · have HM : Hid (D = -1) := by unfold Hid; rw [H.out.2.2]; exact fxI_none fun j hj => hR.out.2 j (by rw [← H.out.2.1] at hj; omega)
      have HB : Hid (Below w.heap.size w wr) := hR.out.1.bl
      clear hR
      go_wp2
      go_returns
      exact ⟨by rw [HM.out]; rfl, HB.out⟩

set_option maxRecDepth 10000 in
set_option maxHeartbeats 3200000 in
theorem spec_ff (Z : Int) {w : World} {a b : Option Addr} {c d : Nat} {s t : List Int} (hn : s.length ≤ 1048576 ∧ t.length ≤ 1048576) (h : RdL w (.slice a s.length c) (.slice b t.length d) s t) :
    Calls Try.prog 21 #[.agg #[.int .i64 Z, .slice a s.length c, .slice b t.length d]] w fun e w' => e = .returned (.int .i64 (flF Z s t)) ∧ Below w.heap.size w w' := by
  obtain ⟨n, hnn⟩ : ∃ n, n = s.length := ⟨_, rfl⟩
  obtain ⟨m, hmm⟩ : ∃ n, n = t.length := ⟨_, rfl⟩
  obtain ⟨D, hD⟩ : ∃ D, D = flF Z s t := ⟨_, rfl⟩
  rw [← hnn, ← hmm] at hn h ⊢
  rw [← hD]
  have H : Hid (RdL w (.slice a n c) (.slice b m d) s t ∧ n = s.length ∧ m = t.length ∧ D = flF Z s t ∧ s.length ≤ 1048576 ∧ t.length ≤ 1048576) := ⟨h, hnn, hmm, hD, by omega, by omega⟩
  obtain ⟨q, hq⟩ : ∃ q, q = decide (1 ≤ Z ∧ Z ≤ 30) := ⟨_, rfl⟩
  have HI : Hid (∀ W, Calls Try.prog 39 #[.int .i64 Z, .int .i64 1, .int .i64 30] W fun e w' => e = .returned (.bool q) ∧ w' = W) := by rw [hq]; exact spec_in10 Z 1 30
  have HS : Hid (SB w (.cells #[.int .i64 Z, .slice a n c, .slice b m d] 45) (w.alloc (.cells #[.int .i64 Z, .slice a n c, .slice b m d] 45))) := SB.new _ _
  have HQ : Hid (q = decide (1 ≤ Z ∧ Z ≤ 30)) := hq
  clear h hnn hmm hD hq
  go_enter Try.func21, Try.ntmps21
  go_wp2_with (fail)
  obtain ⟨U, hU⟩ : ∃ U, U = w.alloc (.cells #[.int .i64 Z, .slice a n c, .slice b m d] 45) := ⟨_, rfl⟩
  rw [← hU] at HS ⊢
  clear hU
  refine (HI.out _).mono ?_
  rintro e w5 ⟨rfl, hw5⟩
  subst w5
  clear HI
  obtain ⟨p0, p1, p2, pf, pl⟩ := tw_three HS.out.bx
  clear pf
  cases q with
  | false =>
    have HD : Hid (D = 3) := by
      unfold Hid; rw [H.out.2.2.2.1]; unfold flF
      rw [if_pos (of_decide_eq_false HQ.out.symm)]
    go_wp2
    go_returns
    exact ⟨by rw [HD.out]; rfl, HS.out.bl⟩
  | true =>
  have hz : 1 ≤ Z ∧ Z ≤ 30 := of_decide_eq_true HQ.out.symm
  have hz0 := hz.1
  have hz1 := hz.2
  by_cases h2 : m = n
  case neg =>
    have h2' : ¬ (m : Int) = (n : Int) := by omega
    have HD : Hid (D = 1) := by
      unfold Hid; rw [H.out.2.2.2.1]; unfold flF
      rw [if_neg (fun e => e hz), if_pos (by rw [← H.out.2.1, ← H.out.2.2.1]; exact h2)]
    clear hz h2
    go_wp2
    go_returns
    exact ⟨by rw [HD.out]; rfl, HS.out.bl⟩
  subst m
  by_cases h3 : Z < (n : Int)
  · have HD : Hid (D = 2) := by
      unfold Hid; rw [H.out.2.2.2.1]; unfold flF
      rw [if_neg (fun e => e hz), if_neg (by rw [← H.out.2.1, ← H.out.2.2.1]; simp), if_pos (by rw [← H.out.2.1]; exact h3)]
    clear hz
    go_wp2
    go_returns
    exact ⟨by rw [HD.out]; rfl, HS.out.bl⟩
  have HD : Hid (D = if chG 0 (Z - 1) s ≠ 0 ∨ chG 0 (Z - 1) t ≠ 0 then 3 else if dif s = true then 0 else 7) := by
    unfold Hid; rw [H.out.2.2.2.1]; unfold flF
    rw [if_neg (fun e => e hz), if_neg (by rw [← H.out.2.1, ← H.out.2.2.1]; simp), if_neg (by rw [← H.out.2.1]; exact h3)]
  clear hz
  go_wp2
  go_loopw [3] (fun i wr => ∃ k : Nat, k ≤ n ∧ i = .int .i64 k ∧ Hid (SB w (.cells #[.int .i64 Z, .slice a n c, .slice b n d] 45) wr ∧ ∀ j, j < k → (0 ≤ s.getD j 0 ∧ s.getD j 0 ≤ Z - 1) ∧ (0 ≤ t.getD j 0 ∧ t.getD j 0 ≤ Z - 1))) (fun i _ => n - (intOf i).toNat)
  case atStart => exact ⟨0, Nat.zero_le _, rfl, HS.out, fun j hj => by omega⟩
  case round =>
    clear HS p0 p1 p2 pl
    obtain ⟨k, hk, rfl, hR⟩ := hrel
    obtain ⟨p0, p1, p2, pf, pl⟩ := tw_three hR.out.1.bx
    clear pf
    by_cases hlt : k < n
    · obtain ⟨g, o, rfl, hg, hc0⟩ := rd_at (H.out.1.1.below hR.out.1.bl) hlt
      obtain ⟨g', o', rfl, hg', hc0'⟩ := rd_at (H.out.1.2.below hR.out.1.bl) hlt
      obtain ⟨x, hx⟩ : ∃ x, x = s.getD k 0 := ⟨_, rfl⟩
      obtain ⟨y, hy⟩ : ∃ x, x = t.getD k 0 := ⟨_, rfl⟩
      rw [← hx] at hc0
      rw [← hy] at hc0'
      obtain ⟨q, hq⟩ : ∃ q, q = decide (0 ≤ x ∧ x ≤ Z - 1) := ⟨_, rfl⟩
      obtain ⟨r, hr⟩ : ∃ q, q = decide (0 ≤ y ∧ y ≤ Z - 1) := ⟨_, rfl⟩
      have HA : Hid (∀ W, Calls Try.prog 39 #[.int .i64 x, .int .i64 0, .int .i64 (Z - 1)] W fun e w' => e = .returned (.bool q) ∧ w' = W) := by rw [hq]; exact spec_in10 x 0 (Z - 1)
      have HB : Hid (∀ W, Calls Try.prog 39 #[.int .i64 y, .int .i64 0, .int .i64 (Z - 1)] W fun e w' => e = .returned (.bool r) ∧ w' = W) := by rw [hr]; exact spec_in10 y 0 (Z - 1)
      have HX : Hid (q = decide (0 ≤ s.getD k 0 ∧ s.getD k 0 ≤ Z - 1) ∧ r = decide (0 ≤ t.getD k 0 ∧ t.getD k 0 ≤ Z - 1) ∧ k < s.length ∧ k < t.length) := ⟨by rw [hq, hx], by rw [hr, hy], by rw [← H.out.2.1]; exact hlt, by rw [← H.out.2.2.1]; exact hlt⟩
      have HR : Hid (SB w (.cells #[.int .i64 Z, .slice (some ⟨g, o, none⟩) n c, .slice (some ⟨g', o', none⟩) n d] 45) wr ∧ ∀ j, j < k → (0 ≤ s.getD j 0 ∧ s.getD j 0 ≤ Z - 1) ∧ (0 ≤ t.getD j 0 ∧ t.getD j 0 ≤ Z - 1)) := hR.out
      have b0 : (0 : Int) ≤ (k : Int) := by omega
      have b1 : (k : Int) < (n : Int) := by omega
      clear hx hy hq hr hR
      cases q with
      | false =>
        have HE : Hid (D = 3) := by
          unfold Hid; rw [HD.out, if_pos (Or.inl fun e => of_decide_eq_false HX.out.1.symm (chG_iff.1 e k HX.out.2.2.1))]
        go_wp2
        go_quiet (first | (go_at_call 39; with_reducible refine Calls.quiet_of_same (HA.out _)))
        go_wp2
        go_returns
        exact ⟨by rw [HE.out]; rfl, below_drewN HR.out.1.bl _⟩
      | true =>
      cases r with
      | false =>
        have HE : Hid (D = 3) := by
          unfold Hid; rw [HD.out, if_pos (Or.inr fun e => of_decide_eq_false HX.out.2.1.symm (chG_iff.1 e k HX.out.2.2.2))]
        go_wp2
        go_quiet (first | (go_at_call 39; with_reducible refine Calls.quiet_of_same (HA.out _)) | (go_at_call 39; with_reducible refine Calls.quiet_of_same (HB.out _)))
        go_wp2
        go_returns
        exact ⟨by rw [HE.out]; rfl, below_drewN HR.out.1.bl _⟩
      | true =>
        have HN : Hid (∀ j, j < k + 1 → (0 ≤ s.getD j 0 ∧ s.getD j 0 ≤ Z - 1) ∧ (0 ≤ t.getD j 0 ∧ t.getD j 0 ≤ Z - 1)) := fun j hj => by
          rcases (by omega : j < k ∨ j = k) with e | rfl
          · exact HR.out.2 j e
          · exact ⟨of_decide_eq_true HX.out.1.symm, of_decide_eq_true HX.out.2.1.symm⟩
        go_wp2
        go_quiet (first | (go_at_call 39; with_reducible refine Calls.quiet_of_same (HA.out _)) | (go_at_call 39; with_reducible refine Calls.quiet_of_same (HB.out _)))
        go_wp2
        go_roundw
        case rel => exact ⟨k + 1, by omega, by go_num, ⟨below_drewN HR.out.1.bl _, by simpa using HR.out.1.bx⟩, HN.out⟩
        case measure => simp [intOf]; omega
    have HE : Hid (D = if dif s = true then 0 else 7) := by
      unfold Hid
      rw [HD.out, if_neg]
      rintro (e | e)
      · exact e (chG_iff.2 fun j hj => (hR.out.2 j (by rw [← H.out.2.1] at hj; omega)).1)
      · exact e (chG_iff.2 fun j hj => (hR.out.2 j (by rw [← H.out.2.2.1] at hj; omega)).2)
    have HS : Hid (SB w (.cells #[.int .i64 Z, .slice a n c, .slice b n d] 45) wr) := hR.out.1
    clear HD hR
    go_wp2
    go_loopw [4] (fun i wq => ∃ k : Nat, k ≤ n ∧ i = .int .i64 k ∧ Hid (SB w (.cells #[.int .i64 Z, .slice a n c, .slice b n d] 45) wq ∧ ∀ j, j < k → newAt s j)) (fun i _ => n - (intOf i).toNat)
    case atStart => exact ⟨0, Nat.zero_le _, rfl, HS.out, fun j hj => by omega⟩
    case round =>
      clear HS p0 p1 p2 pl hlt hk
      obtain ⟨k, hk, rfl, hR⟩ := hrel
      obtain ⟨p0, p1, p2, pf, pl⟩ := tw_three hR.out.1.bx
      clear pf
      by_cases hlt : k < n
      · obtain ⟨g, o, rfl, hg, hc0⟩ := rd_at (H.out.1.1.below hR.out.1.bl) hlt
        obtain ⟨x, hx⟩ : ∃ x, x = s.getD k 0 := ⟨_, rfl⟩
        rw [← hx] at hc0
        obtain ⟨r, hr⟩ : ∃ r, r = fxI s x := ⟨_, rfl⟩
        have HC : Hid (∀ y : Und wr.heap.size wr, Calls Try.prog 47 #[.agg #[.int .i64 Z, .slice (some ⟨g, o, none⟩) n c, .slice b n d], .int .i64 x] y.W fun e w' => e = .returned (.int .i64 r) ∧ Below y.W.heap.size y.W w') := fun y => by
          have h1 := H.out.1.1.below (hR.out.1.bl.trans (y.below.mono hR.out.1.bl.size))
          have := spec_i20 (b := b) (m := n) (d := d) Z x (a := some ⟨g, o, none⟩) (c := c) H.out.2.2.2.2.1 (by rw [← H.out.2.1]; exact h1)
          rw [← H.out.2.1, ← hr] at this
          exact this
        have HX : Hid ((r = (k : Int) ↔ newAt s k) ∧ k < s.length) := by
          have hkl : k < s.length := by rw [← H.out.2.1]; exact hlt
          exact ⟨by rw [hr, hx]; exact fxI_new hkl, hkl⟩
        have HR : Hid (SB w (.cells #[.int .i64 Z, .slice (some ⟨g, o, none⟩) n c, .slice b n d] 45) wr ∧ ∀ j, j < k → newAt s j) := hR.out
        have b0 : (0 : Int) ≤ (k : Int) := by omega
        have b1 : (k : Int) < (n : Int) := by omega
        clear hx hr hR
        by_cases he : r = (k : Int)
        · have HN : Hid (∀ j, j < k + 1 → newAt s j) := fun j hj => by
            rcases (by omega : j < k ∨ j = k) with e | rfl
            · exact HR.out.2 j e
            · exact HX.out.1.1 he
          rw [he] at HC
          clear he
          go_wp2
          (refine wp_region_und (by kernel_rfl) (by kernel_rfl) (fun hund => ?_); (repeat (go_big_quiet_step (first | (go_at_call 47; with_reducible refine und_call ?_ (HC.out _); exact Nat.le_refl _)))); with_reducible refine wpQuiet_nil ?_; clear hund; intro W1 hb1; obtain ⟨hc1, hf1⟩ := undcell hb1)
          go_wp2
          go_roundw
          case rel => exact ⟨k + 1, by omega, by go_num, HR.out.1.next hb1, HN.out⟩
          case measure => simp [intOf]; omega
        · have HE2 : Hid (D = 7) := by unfold Hid; rw [HE.out, dif_not HX.out.2 (fun h => he (HX.out.1.2 h))]; rfl
          have hne : (r != (k : Int)) = true := by simp [he]
          go_wp2
          (refine wp_region_und (by kernel_rfl) (by kernel_rfl) (fun hund => ?_); (repeat (go_big_quiet_step (first | (go_at_call 47; with_reducible refine und_call ?_ (HC.out _); exact Nat.le_refl _)))); with_reducible refine wpQuiet_nil ?_; clear hund; intro W1 hb1; obtain ⟨hc1, hf1⟩ := undcell hb1)
          go_wp2
          go_returns
          exact ⟨by rw [HE2.out]; rfl, (HR.out.1.next hb1).bl⟩
      · have HE2 : Hid (D = 0) := by
          unfold Hid; rw [HE.out, if_pos (dif_iff.2 fun j hj => hR.out.2 j (by rw [← H.out.2.1] at hj; omega))]
        have HB : Hid (Below w.heap.size w _) := hR.out.1.bl
        clear hR
        go_wp2
        go_returns
        exact ⟨by rw [HE2.out]; rfl, HB.out⟩

end Go.Proofs.Ytgbbigokbbllgaa
