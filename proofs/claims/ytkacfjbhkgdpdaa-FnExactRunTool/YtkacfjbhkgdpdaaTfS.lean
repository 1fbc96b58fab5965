/- Proved here: places of names among approvals, and what is kept behind a loss of power: its fault, of the model. (And ahead of it: Proved here: a number between two others, of the model (l4In).) -/
import Derived.Test.YtkacfjbhkgdpdaaIntsBase
import Derived.Test.YtkacfjbhkgdpdaaKept
import Derived.Test.YtkacfjbhkgdpdaaLwS
import Derived.BigQuiet
import Derived.ChangeMaps5
namespace Go.Proofs.Ytkacfjbhkgdpdaa
open Go.RowKit
set_option linter.unusedVariables false
set_option linter.unusedSimpArgs false

set_option maxHeartbeats 800000 in
theorem spec_in10 (n a b : Int) (w : World) : Calls Try.prog 27 #[.int .i64 n, .int .i64 a, .int .i64 b] w fun e w' => e = .returned (.bool (decide (a ≤ n ∧ n ≤ b))) ∧ w' = w := by
  obtain ⟨r, hr⟩ : ∃ r, r = decide (a ≤ n ∧ n ≤ b) := ⟨_, rfl⟩
  rw [← hr]
  have H : Hid ((¬ a ≤ n → r = false) ∧ (a ≤ n → n ≤ b → r = true) ∧ (a ≤ n → ¬ n ≤ b → r = false)) := by
    unfold Hid; rw [hr]
    exact ⟨fun h => by simp [h], fun h1 h2 => by simp [h1, h2], fun h1 h2 => by simp [h1, h2]⟩
  clear hr
  by_cases h1 : a ≤ n
  · by_cases h2 : n ≤ b
    · obtain rfl := H.out.2.1 h1 h2
      go_enter Try.func27, Try.ntmps27
      go_wp2
      go_returns
      exact ⟨rfl, rfl⟩
    · obtain rfl := H.out.2.2 h1 h2
      go_enter Try.func27, Try.ntmps27
      go_wp2
      go_returns
      exact ⟨rfl, rfl⟩
  · obtain rfl := H.out.1 h1
    go_enter Try.func27, Try.ntmps27
    go_wp2
    go_returns
    exact ⟨rfl, rfl⟩

end Go.Proofs.Ytkacfjbhkgdpdaa

namespace Go.Proofs.Ytkacfjbhkgdpdaa
open Go.ChangeShapes Go.WideShapes Go.ChangeAt Go.RowKit Go.Joins
set_option linter.unusedVariables false
set_option linter.unusedSimpArgs false

set_option maxRecDepth 10000 in
set_option maxHeartbeats 3200000 in
theorem spec_fd {s : List Ap} {nm : ByteArray} {W : World} {n m c : Nat} {a : Option Addr} (hN : n ≤ 1048576) (hn : m ≤ n) (hs : RG 2 apC W (.slice a n c) s) :
    Calls Try.prog 56 #[.slice a n c, .int .i64 (m : Int), .string nm] W fun e w' => e = .returned (.int .i64 (atL ((s.take m).map (·.nm)) nm)) ∧ w' = W := by
  have hml : n = s.length := hs.len
  obtain ⟨G, hG⟩ : ∃ G, G = atL ((s.take m).map (·.nm)) nm := ⟨_, rfl⟩
  rw [← hG]
  have H : Hid (RG 2 apC W (.slice a n c) s ∧ n = s.length ∧ G = atL ((s.take m).map (·.nm)) nm) := ⟨hs, hml, hG⟩
  clear hs hml hG
  go_enter Try.func56, Try.ntmps56
  go_wp2
  go_loopw [7] (fun i wr => ∃ t : Nat, t ≤ m ∧ i = .int .i64 t ∧ W = wr ∧ Hid (∀ i (h : i < s.length), i < t → ¬ (s[i]).nm = nm)) (fun i _ => m - (intOf i).toNat)
  case atStart => exact ⟨0, Nat.zero_le _, rfl, rfl, fun i _ hi => by omega⟩
  case round =>
    obtain ⟨t, ht, rfl, rfl, hR⟩ := hrel
    by_cases hlt : t < m
    · have htl : t < s.length := by rw [← H.out.2.1]; omega
      obtain ⟨g, o, c2, he, hg, hj⟩ := H.out.1.pos (by omega)
      simp only [Value.slice.injEq] at he
      obtain ⟨rfl, hx1, hx2⟩ := he
      clear hx1 hx2
      obtain ⟨c0, c1⟩ := apC_at (hj t htl)
      obtain ⟨x, hx⟩ : ∃ x, x = s[t] := ⟨_, rfl⟩
      rw [← hx] at c0 c1
      have b0 : (0 : Int) ≤ (t : Int) := by omega
      have b1 : (t : Int) < (n : Int) := by omega
      have b2 : (t : Int) < (m : Int) := by omega
      by_cases hq : x.nm = nm
      · have HG : Hid (G = (t : Int)) := by
          unfold Hid; rw [H.out.2.2]
          exact atL_some (by simp; omega) (fun i hi hit => by simpa using hR.out i (by simp at hi; omega) hit) (by simpa [← hx] using hq)
        rw [hq] at c0
        clear hj hx hq hR
        go_wp2
        go_returns
        exact ⟨by rw [HG.out]; rfl, rfl⟩
      · have HG : Hid (∀ i (h : i < s.length), i < t + 1 → ¬ (s[i]).nm = nm) := fun i hi hit => by
          rcases (by omega : i < t ∨ i = t) with h | rfl
          · exact hR.out i hi h
          · rw [← hx]; exact hq
        have e1 := str_ne hq
        clear hj hx hq hR
        go_wp2
        go_roundw
        case rel => exact ⟨t + 1, by omega, by go_num, by first | rfl | trivial, HG.out⟩
        case measure => simp [intOf]; omega
    · have HM : Hid (G = -1) := by
        unfold Hid; rw [H.out.2.2]
        exact atL_none (fun i hi => by simpa using hR.out i (by simp at hi; omega) (by simp at hi; omega))
      clear hR
      go_wp2
      go_returns
      exact ⟨by rw [HM.out]; rfl, rfl⟩

set_option maxRecDepth 10000 in
set_option maxHeartbeats 6400000 in
theorem spec_kp (A : Int) (R : ByteArray) (S U L : Int) (Q : Bool) {w : World} {a : Option Addr} {n c : Nat} {s : List Ap} (hn : n ≤ 1048576) (hz : ∀ j (h : j < s.length), s[j].nm.size ≤ 2000000) (h : RG 2 apC w (.slice a n c) s) :
    Calls Try.prog 47 #[.agg #[.int .i64 A, .string R, .int .i64 S, .int .i64 U, .int .i64 L, .bool Q, .slice a n c]] w fun e w' => e = .returned (.int .i64 (kpF U L s)) ∧ Below w.heap.size w w' := by
  obtain ⟨D, hD⟩ : ∃ D, D = kpF U L s := ⟨_, rfl⟩
  rw [← hD]
  obtain ⟨q, hq⟩ : ∃ q, q = decide (1 ≤ L ∧ L ≤ 1000) := ⟨_, rfl⟩
  obtain ⟨r, hr⟩ : ∃ q, q = decide (0 ≤ U ∧ U ≤ L) := ⟨_, rfl⟩
  have H : Hid (RG 2 apC w (.slice a n c) s ∧ n = s.length ∧ D = (if q = false ∨ r = false then 3 else if 20 < s.length then 2 else fnz (apF s) s.length) ∧ ∀ j (h : j < s.length), s[j].nm.size ≤ 2000000) := by
    refine ⟨h, h.len, ?_, hz⟩
    rw [hD, hq, hr]
    unfold kpF
    simp only [decide_eq_false_iff_not]
  have HI : Hid (∀ W, Calls Try.prog 27 #[.int .i64 L, .int .i64 1, .int .i64 1000] W fun e w' => e = .returned (.bool q) ∧ w' = W) := by rw [hq]; exact spec_in10 L 1 1000
  have HJ : Hid (∀ W, Calls Try.prog 27 #[.int .i64 U, .int .i64 0, .int .i64 L] W fun e w' => e = .returned (.bool r) ∧ w' = W) := by rw [hr]; exact spec_in10 U 0 L
  have HS : Hid (SB w (.cells #[.int .i64 A, .string R, .int .i64 S, .int .i64 U, .int .i64 L, .bool Q, .slice a n c] 31) (w.alloc (.cells #[.int .i64 A, .string R, .int .i64 S, .int .i64 U, .int .i64 L, .bool Q, .slice a n c] 31))) := SB.new _ _
  clear h hz hD hq hr
  go_enter Try.func47, Try.ntmps47
  go_wp2_with (fail)
  obtain ⟨W0, hW0⟩ : ∃ X9, X9 = w.alloc (.cells #[.int .i64 A, .string R, .int .i64 S, .int .i64 U, .int .i64 L, .bool Q, .slice a n c] 31) := ⟨_, rfl⟩
  rw [← hW0] at HS ⊢
  clear hW0
  obtain ⟨p0, p1, p2, p3, p4, p5, p6, pl⟩ := tf_seven HS.out.bx
  refine (HI.out _).mono ?_
  rintro e w5 ⟨rfl, hw5⟩
  subst w5
  clear HI
  cases q with
  | false =>
    have HD : Hid (D = 3) := by unfold Hid; rw [H.out.2.2.1]; simp
    clear HJ
    go_wp2
    go_returns
    exact ⟨by rw [HD.out]; rfl, HS.out.bl⟩
  | true =>
  go_wp2_with (fail)
  refine (HJ.out _).mono ?_
  rintro e w5 ⟨rfl, hw5⟩
  subst w5
  clear HJ
  cases r with
  | false =>
    have HD : Hid (D = 3) := by unfold Hid; rw [H.out.2.2.1]; simp
    go_wp2
    go_returns
    exact ⟨by rw [HD.out]; rfl, HS.out.bl⟩
  | true =>
  by_cases h2 : (20 : Int) < (n : Int)
  · have HD : Hid (D = 2) := by unfold Hid; rw [H.out.2.2.1, if_neg (by simp), if_pos (by rw [← H.out.2.1]; omega)]
    go_wp2
    go_returns
    exact ⟨by rw [HD.out]; rfl, HS.out.bl⟩
  have HD : Hid (D = fnz (apF s) s.length) := by unfold Hid; rw [H.out.2.2.1, if_neg (by simp), if_neg (by rw [← H.out.2.1]; omega)]
  go_wp2
  go_loopw [3] (fun i wr => ∃ k : Nat, k ≤ n ∧ i = .int .i64 k ∧ Hid (SB w (.cells #[.int .i64 A, .string R, .int .i64 S, .int .i64 U, .int .i64 L, .bool Q, .slice a n c] 31) wr ∧ ∀ j, j < k → apF s j = 0)) (fun i _ => n - (intOf i).toNat)
  case atStart => exact ⟨0, Nat.zero_le _, rfl, HS.out, fun j hj => by omega⟩
  case round =>
    clear HS p0 p1 p2 p3 p4 p5 p6 pl
    obtain ⟨k, hk, rfl, hR⟩ := hrel
    obtain ⟨p0, p1, p2, p3, p4, p5, p6, pl⟩ := tf_seven hR.out.1.bx
    clear p0 p1 p2 p3 p4 p5
    by_cases hlt : k < n
    · have hkl : k < s.length := by rw [← H.out.2.1]; exact hlt
      obtain ⟨g, o, c2, he, hg, hj⟩ := (H.out.1.below hR.out.1.bl).pos (by omega)
      simp only [Value.slice.injEq] at he
      obtain ⟨rfl, hx1, hx2⟩ := he
      clear hx1 hx2
      obtain ⟨c0, c1⟩ := apC_at (hj k hkl)
      obtain ⟨y, hy⟩ : ∃ y, y = s[k] := ⟨_, rfl⟩
      rw [← hy] at c0 c1
      obtain ⟨nm, su⟩ := y
      simp only at c0 c1
      obtain ⟨v, hv⟩ : ∃ v, v = nameK nm := ⟨_, rfl⟩
      obtain ⟨r, hr⟩ : ∃ v, v = atL ((s.take k).map (·.nm)) nm := ⟨_, rfl⟩
      have HF : Hid (apF s k = (if v ≠ 0 then v else if 0 ≤ r then 1 else 0) ∧ k < s.length) := by
        refine ⟨?_, hkl⟩
        unfold apF
        rw [getA hkl, ← hy]
        simp only
        rw [← hv, ← hr]
      have HN : Hid (∀ W, Calls Try.prog 55 #[.string nm] W fun e w' => e = .returned (.int .i64 v) ∧ w' = W) := fun W => by
        rw [hv]; exact spec_name nm W (by have := H.out.2.2.2 k hkl; rw [← hy] at this; exact this)
      have b0 : (0 : Int) ≤ (k : Int) := by omega
      have b1 : (k : Int) < (n : Int) := by omega
      have HA : Hid (∀ W, Below w.heap.size w W → Calls Try.prog 56 #[.slice (some ⟨g, o, none⟩) n c, .int .i64 (k : Int), .string nm] W fun e w' => e = .returned (.int .i64 r) ∧ w' = W) := fun W hb => by
        rw [hr]; exact spec_fd (by omega) (by omega) (H.out.1.below hb)
      have HT : Hid (SB w (.cells #[.int .i64 A, .string R, .int .i64 S, .int .i64 U, .int .i64 L, .bool Q, .slice (some ⟨g, o, none⟩) n c] 31) wr ∧ ∀ j, j < k → apF s j = 0) := hR.out
      clear hv hr hy hj hkl hR
      go_wp2_with (fail)
      refine (HN.out _).mono ?_
      rintro e w5 ⟨rfl, hw5⟩
      subst w5
      clear HN
      by_cases hv0 : v = 0
      case neg =>
        have HE : Hid (D = v) := by
          unfold Hid
          rw [HD.out, fnz_stop HF.out.2 HT.out.2 (by rw [HF.out.1, if_pos hv0]; exact hv0), HF.out.1, if_pos hv0]
        have hv1 : (v != 0) = true := by simpa using hv0
        clear HA
        go_wp2
        go_returns
        exact ⟨by rw [HE.out]; rfl, HT.out.1.bl⟩
      subst hv0
      by_cases hr0 : 0 ≤ r
      · have HE : Hid (D = 1) := by
          unfold Hid
          have h3 : apF s k = 1 := by rw [HF.out.1, if_neg (by simp), if_pos hr0]
          rw [HD.out, fnz_stop HF.out.2 HT.out.2 (by rw [h3]; decide), h3]
        go_wp2
        go_quiet (first | (go_at_call 56; with_reducible refine Calls.quiet_of_same (HA.out _ (below_drewN HT.out.1.bl _))))
        go_wp2
        go_returns
        exact ⟨by rw [HE.out]; rfl, below_drewN HT.out.1.bl _⟩
      · have HE : Hid (∀ j, j < k + 1 → apF s j = 0) := fun j hj => by
          rcases (by omega : j < k ∨ j = k) with e | rfl
          · exact HT.out.2 j e
          · rw [HF.out.1, if_neg (by simp), if_neg hr0]
        go_wp2
        go_quiet (first | (go_at_call 56; with_reducible refine Calls.quiet_of_same (HA.out _ (below_drewN HT.out.1.bl _))))
        go_wp2
        go_roundw
        case rel => exact ⟨k + 1, by omega, by go_num, ⟨below_drewN HT.out.1.bl _, by simpa using HT.out.1.bx⟩, HE.out⟩
        case measure => simp [intOf]; omega
    · have HE : Hid (D = 0) := by unfold Hid; rw [HD.out]; exact fnz_zero fun j hj => hR.out.2 j (by rw [← H.out.2.1] at hj; omega)
      have HB : Hid (Below w.heap.size w wr) := hR.out.1.bl
      clear hR
      go_wp2
      go_returns
      exact ⟨by rw [HE.out]; rfl, HB.out⟩

end Go.Proofs.Ytkacfjbhkgdpdaa
