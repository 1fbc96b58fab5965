/- Proved here: the fault of a map, of the model. -/
import Derived.Test.YtkdpifplhhcpaaaStF
import Derived.Test.YtkdpifplhhcpaaaIns
import Derived.Test.YtkdpifplhhcpaaaCeQ
import Derived.Test.YtkdpifplhhcpaaaUnd
import Derived.BigQuiet
namespace Go.Proofs.Ytkdpifplhhcpaaa
open Go.RowKit
set_option linter.unusedVariables false
set_option linter.unusedSimpArgs false

set_option maxRecDepth 10000 in
set_option maxHeartbeats 12800000 in
theorem spec_smf {W : World} {v : Value} {ls : List (List Int)} (hn : SmR ls) (hs : RdR W v ls) :
    Calls Try.prog 57 #[v] W fun e w' => e = .returned (.int .i64 (smF ls)) ∧ Below W.heap.size W w' := by
  obtain ⟨a, c, rfl⟩ := hs.form
  obtain ⟨n, hnn⟩ : ∃ n, n = ls.length := ⟨_, rfl⟩
  rw [← hnn] at hs ⊢
  have hnl : n ≤ 1048576 := by rw [hnn]; exact hn.len
  have H : Hid (RdR W (.slice a n c) ls ∧ n = ls.length ∧ SmR ls) := ⟨hs, hnn, hn⟩
  obtain ⟨R, hR⟩ : ∃ R, R = smF ls := ⟨_, rfl⟩
  have HRR : Hid (R = smF ls) := hR
  rw [← hR]
  clear hs hnn hn hR
  by_cases h0 : n = 0
  · have HN : Hid (R = 1) := by unfold Hid; rw [HRR.out, smF, if_pos (Or.inl (by rw [← H.out.2.1]; exact h0))]
    subst h0
    go_enter Try.func57, Try.ntmps57
    go_wp2
    go_returns
    exact ⟨by rw [HN.out]; rfl, Below.refl _ _⟩
  have h0i : ¬ (n : Int) = 0 := by omega
  have h0b : ((n : Int) == 0) = false := by simpa using h0i
  have bn : (0 : Int) < (n : Int) := by omega
  obtain ⟨g, o, ra, m, e1, rfl, hg, r0, hm, _⟩ := H.out.1.at (show 0 < n by omega)
  rw [Nat.add_zero] at r0
  have hm20 : m ≤ 1048576 := by rw [hm]; exact H.out.2.2.row 0
  have HM : Hid (m = (ls.getD 0 []).length) := hm
  clear hm
  by_cases hm0 : m = 0
  · have HN : Hid (R = 1) := by unfold Hid; rw [HRR.out, smF, if_pos (Or.inr (by rw [← HM.out]; exact hm0))]
    subst hm0
    go_enter Try.func57, Try.ntmps57
    go_wp2
    go_returns
    exact ⟨by rw [HN.out]; rfl, Below.refl _ _⟩
  have hm0i : ¬ (m : Int) = 0 := by omega
  have hm0b : ((m : Int) == 0) = false := by simpa using hm0i
  by_cases h20 : (20 : Int) < (n : Int)
  · have HN : Hid (R = 2) := by unfold Hid; rw [HRR.out, smF, if_neg (by rw [← HM.out, ← H.out.2.1]; omega), if_pos (by rw [← H.out.2.1]; omega)]
    go_enter Try.func57, Try.ntmps57
    go_wp2
    go_returns
    exact ⟨by rw [HN.out]; rfl, Below.refl _ _⟩
  have HR : Hid (R = if ls.any lgM = true then 2 else if ls.any (unM m) = true then 1 else if ls.any ouM = true then 3 else 0) := by
    unfold Hid; rw [HRR.out, smF, if_neg (by rw [← HM.out, ← H.out.2.1]; omega), if_neg (by rw [← H.out.2.1]; omega), ← HM.out]
  have HG0 : Hid (g < W.heap.size ∧ W.cell? ⟨g, o, none⟩ = some (.slice ra m e1)) := ⟨hg, r0⟩
  clear HRR
  go_enter Try.func57, Try.ntmps57
  go_wp2
  clear hg r0
  go_loopw [3] (fun i wr => ∃ t : Nat, t ≤ n ∧ i = .int .i64 t ∧ Hid (Below W.heap.size W wr ∧ (ls.drop t).any lgM = ls.any lgM)) (fun i _ => n - (intOf i).toNat)
  case atStart => exact ⟨0, Nat.zero_le _, rfl, Below.refl _ _, rfl⟩
  case round =>
    obtain ⟨t, ht, rfl, hR⟩ := hrel
    by_cases hlt : t < n
    · have htl : t < ls.length := by rw [← H.out.2.1]; exact hlt
      obtain ⟨g9, o9, ua, un, uc, he9, hg9, c0, hun, _⟩ := (H.out.1.below hR.out.1).at hlt
      simp only [Option.some.injEq, Addr.mk.injEq, and_true] at he9
      obtain ⟨rfl, rfl⟩ := he9
      have hul : un ≤ 1048576 := by rw [hun]; exact H.out.2.2.row t
      rw [getD_lt htl] at hun
      have HQ : Hid (ls.any lgM = (decide (20 < un) || (ls.drop (t + 1)).any lgM)) := by unfold Hid; rw [← hR.out.2, any_at htl, lgM, hun]
      have HB : Hid (Below W.heap.size W wr) := hR.out.1
      clear hun hR htl
      have b0 : (0 : Int) ≤ (t : Int) := by omega
      have b1 : (t : Int) < (n : Int) := by omega
      by_cases hu : (20 : Int) < (un : Int)
      · have HN : Hid (R = 2) := by unfold Hid; rw [HR.out, HQ.out, decide_eq_true (show 20 < un by omega)]; rfl
        clear HQ HR
        go_wp2
        go_returns
        exact ⟨by rw [HN.out]; rfl, HB.out⟩
      · have HN : Hid ((ls.drop (t + 1)).any lgM = ls.any lgM) := by unfold Hid; rw [HQ.out, decide_eq_false (show ¬ 20 < un by omega)]; rfl
        clear HQ
        go_wp2
        go_roundw
        case rel => exact ⟨t + 1, by omega, by go_num, HB.out, HN.out⟩
        case measure => simp [intOf]; omega
    have HR2 : Hid (R = if ls.any (unM m) = true then 1 else if ls.any ouM = true then 3 else 0) := by
      unfold Hid; rw [HR.out, ← hR.out.2, any_end (by rw [← H.out.2.1]; omega), if_neg (by decide)]
    have HB1 : Hid (Below W.heap.size W wr) := hR.out.1
    clear hR HR
    go_wp2
    go_loopw [4] (fun i wr => ∃ t : Nat, t ≤ n ∧ i = .int .i64 t ∧ Hid (Below W.heap.size W wr ∧ (ls.drop t).any (unM m) = ls.any (unM m))) (fun i _ => n - (intOf i).toNat)
    case atStart => exact ⟨0, Nat.zero_le _, rfl, HB1.out, rfl⟩
    case round =>
      clear HB1
      obtain ⟨t, ht, rfl, hR⟩ := hrel
      by_cases hlt : t < n
      · have htl : t < ls.length := by rw [← H.out.2.1]; exact hlt
        obtain ⟨g9, o9, ua, un, uc, he9, hg9, c0, hun, _⟩ := (H.out.1.below hR.out.1).at hlt
        simp only [Option.some.injEq, Addr.mk.injEq, and_true] at he9
        obtain ⟨rfl, rfl⟩ := he9
        have hul : un ≤ 1048576 := by rw [hun]; exact H.out.2.2.row t
        rw [getD_lt htl] at hun
        have HQ : Hid (ls.any (unM m) = (!decide (un = m) || (ls.drop (t + 1)).any (unM m))) := by unfold Hid; rw [← hR.out.2, any_at htl, unM, hun]
        have HB : Hid (Below W.heap.size W wr) := hR.out.1
        have d0 := (hR.out.1.cell (p := ⟨g, o, none⟩) HG0.out.1).trans HG0.out.2
        clear hun hR htl
        have b0 : (0 : Int) ≤ (t : Int) := by omega
        have b1 : (t : Int) < (n : Int) := by omega
        by_cases hu : un = m
        · have HN : Hid ((ls.drop (t + 1)).any (unM m) = ls.any (unM m)) := by unfold Hid; rw [HQ.out, decide_eq_true hu]; rfl
          have hui : ((un : Int) != (m : Int)) = false := by simp [hu]
          clear HQ
          subst hu
          go_wp2
          go_quiet (fail)
          go_wp2
          go_roundw
          case rel => exact ⟨t + 1, by omega, by go_num, below_drewN HB.out _, HN.out⟩
          case measure => simp [intOf]; omega
        · have HN : Hid (R = 1) := by unfold Hid; rw [HR2.out, HQ.out, decide_eq_false hu]; rfl
          have hui : ¬ (un : Int) = (m : Int) := by omega
          have huib : ((un : Int) != (m : Int)) = true := by simpa using hui
          clear HQ HR2
          go_wp2
          go_quiet (fail)
          go_wp2
          go_returns
          exact ⟨by rw [HN.out]; rfl, below_drewN HB.out _⟩
      have HR3 : Hid (R = if ls.any ouM = true then 3 else 0) := by
        unfold Hid; rw [HR2.out, ← hR.out.2, any_end (by rw [← H.out.2.1]; omega), if_neg (by decide)]
      have HB1 : Hid (Below W.heap.size W wr) := hR.out.1
      clear hR HR2
      go_wp2
      go_loopw [5] (fun i wr => ∃ t : Nat, t ≤ n ∧ i = .int .i64 t ∧ Hid (Below W.heap.size W wr ∧ (ls.drop t).any ouM = ls.any ouM)) (fun i _ => n - (intOf i).toNat)
      case atStart => exact ⟨0, Nat.zero_le _, rfl, HB1.out, rfl⟩
      case round =>
        clear HB1
        obtain ⟨t, ht, rfl, hR⟩ := hrel
        by_cases hlt : t < n
        · have htl : t < ls.length := by rw [← H.out.2.1]; exact hlt
          obtain ⟨g9, o9, ua, un, uc, he9, hg9, c0, hun, hrd⟩ := (H.out.1.below hR.out.1).at hlt
          simp only [Option.some.injEq, Addr.mk.injEq, and_true] at he9
          obtain ⟨rfl, rfl⟩ := he9
          have hul : un ≤ 1048576 := by rw [hun]; exact H.out.2.2.row t
          obtain ⟨x, hx⟩ : ∃ x, x = ls.getD t [] := ⟨_, rfl⟩
          rw [← hx] at hun hrd
          have HX : Hid (RdI wr (.slice ua un uc) x ∧ un = x.length) := ⟨hrd, hun⟩
          have HQ : Hid (ls.any ouM = (x.any (oo 0 99) || (ls.drop (t + 1)).any ouM)) := by unfold Hid; rw [← hR.out.2, any_at htl, ← getD_lt (d := []) htl, ← hx, ouM]
          have HB : Hid (Below W.heap.size W wr) := hR.out.1
          obtain ⟨V2, hV2⟩ : ∃ V2, V2 = wr := ⟨_, rfl⟩
          clear hun hR htl hx hrd
          have b0 : (0 : Int) ≤ (t : Int) := by omega
          have b1 : (t : Int) < (n : Int) := by omega
          go_wp2
          rw [← hV2] at HX HB c0 hg9 ⊢
          clear hV2
          go_loopw [6] (fun i wr => ∃ k : Nat, k ≤ un ∧ i = .int .i64 k ∧ wr = V2 ∧ Hid ((x.drop k).any (oo 0 99) = x.any (oo 0 99))) (fun i _ => un - (intOf i).toNat)
          case atStart => exact ⟨0, Nat.zero_le _, rfl, rfl, rfl⟩
          case round =>
            obtain ⟨k, hk, rfl, rfl, hK⟩ := hrel
            by_cases hku : k < un
            · have hkx : k < x.length := by rw [← HX.out.2]; exact hku
              obtain ⟨gx, ox, rfl, hgx, k0⟩ := rd_at HX.out.1 hku
              obtain ⟨z, hz⟩ : ∃ z, z = x.getD k 0 := ⟨_, rfl⟩
              rw [← hz] at k0
              obtain ⟨q, hq⟩ : ∃ q, q = decide (0 ≤ z ∧ z ≤ 99) := ⟨_, rfl⟩
              have HI : Hid (∀ X, Calls Try.prog 41 #[.int .i64 z, .int .i64 0, .int .i64 99] X fun e w' => e = .returned (.bool q) ∧ w' = X) := fun X => spec_ins z 0 99 q hq X
              have HQ2 : Hid (x.any (oo 0 99) = (!q || (x.drop (k + 1)).any (oo 0 99))) := by unfold Hid; rw [← hK.out, any_at hkx, ← getD_at hkx, ← hz, oo, hq]
              clear hz hq hkx hK
              have b2 : (0 : Int) ≤ (k : Int) := by omega
              have b3 : (k : Int) < (un : Int) := by omega
              go_wp2_with (fail)
              refine (HI.out _).mono ?_
              rintro e w3 ⟨rfl, hw3⟩
              subst w3
              cases q
              case false =>
                have HN : Hid (R = 3) := by unfold Hid; rw [HR3.out, HQ.out, HQ2.out]; rfl
                clear HQ HQ2 HR3
                go_wp2
                go_returns
                exact ⟨by rw [HN.out]; rfl, HB.out⟩
              case true =>
                have HN : Hid ((x.drop (k + 1)).any (oo 0 99) = x.any (oo 0 99)) := by unfold Hid; rw [HQ2.out]; rfl
                clear HQ2
                go_wp2
                go_roundw
                case rel => exact ⟨k + 1, by omega, by go_num, by first | rfl | trivial, HN.out⟩
                case measure => simp [intOf]; omega
            · have HN : Hid ((ls.drop (t + 1)).any ouM = ls.any ouM) := by
                have h9 : (x.drop k).any (oo 0 99) = false := any_end (by rw [← HX.out.2]; omega)
                unfold Hid; rw [HQ.out, ← hK.out, h9]; rfl
              clear HQ
              go_wp2
              go_roundw
              case rel => exact ⟨t + 1, by omega, by go_num, HB.out, HN.out⟩
              case measure => simp [intOf]; omega
        · have HN : Hid (R = 0) := by unfold Hid; rw [HR3.out, ← hR.out.2, any_end (by rw [← H.out.2.1]; omega), if_neg (by decide)]
          have HB : Hid (Below W.heap.size W wr) := hR.out.1
          clear hR HR3
          go_wp2
          go_returns
          exact ⟨by rw [HN.out]; rfl, HB.out⟩

end Go.Proofs.Ytkdpifplhhcpaaa
