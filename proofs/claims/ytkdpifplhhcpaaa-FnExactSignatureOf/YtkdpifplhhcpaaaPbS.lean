/- Proved here: are all of a list noughts and ones, of the model. -/
import Derived.Test.YtkdpifplhhcpaaaPbM
import Derived.Test.YtkdpifplhhcpaaaIns
namespace Go.Proofs.Ytkdpifplhhcpaaa
open Go.RowKit
set_option linter.unusedVariables false
set_option linter.unusedSimpArgs false

set_option maxRecDepth 10000 in
set_option maxHeartbeats 3200000 in
theorem spec_bits23 {W : World} {v : Value} {s : List Int} (hn : s.length ≤ 2000000) (hs : RdI W v s) :
    Calls Try.prog 52 #[v] W fun e w' => e = .returned (.bool (!s.any (oo 0 1))) ∧ Below W.heap.size W w' := by
  obtain ⟨a, c, rfl⟩ := hs.form
  obtain ⟨n, hnn⟩ : ∃ n, n = s.length := ⟨_, rfl⟩
  rw [← hnn] at hs hn ⊢
  obtain ⟨G, hG⟩ : ∃ G, G = s.any (oo 0 1) := ⟨_, rfl⟩
  rw [← hG]
  have H : Hid (RdI W (.slice a n c) s ∧ n = s.length ∧ G = s.any (oo 0 1)) := ⟨hs, hnn, hG⟩
  clear hs hnn hG
  go_enter Try.func52, Try.ntmps52
  go_wp2
  go_loopw [3] (fun i wr => ∃ t : Nat, t ≤ n ∧ i = .int .i64 t ∧ Hid ((s.drop t).any (oo 0 1) = s.any (oo 0 1) ∧ Below W.heap.size W wr)) (fun i _ => n - (intOf i).toNat)
  case atStart => exact ⟨0, Nat.zero_le _, rfl, rfl, Below.refl _ _⟩
  case round =>
    obtain ⟨t, ht, rfl, hR⟩ := hrel
    by_cases hlt : t < n
    · have htl : t < s.length := by rw [← H.out.2.1]; exact hlt
      obtain ⟨g, o, rfl, hg, c0⟩ := rd_at (H.out.1.below hR.out.2) hlt
      obtain ⟨x, hx⟩ : ∃ x, x = s[t] := ⟨_, rfl⟩
      rw [getD_at htl, ← hx] at c0
      obtain ⟨b, hb⟩ : ∃ b, b = decide (0 ≤ x ∧ x ≤ 1) := ⟨_, rfl⟩
      have HQ : Hid (s.any (oo 0 1) = (!b || (s.drop (t + 1)).any (oo 0 1))) := by unfold Hid; rw [← hR.out.1, any_at htl, ← hx, oo, hb]
      have HC : Hid (∀ X, Calls Try.prog 41 #[.int .i64 x, .int .i64 0, .int .i64 1] X fun e w' => e = .returned (.bool b) ∧ w' = X) := fun X => spec_ins x 0 1 b hb X
      have HB : Hid (Below W.heap.size W wr) := hR.out.2
      clear hx hb hR
      have b0 : (0 : Int) ≤ (t : Int) := by omega
      have b1 : (t : Int) < (n : Int) := by omega
      go_wp2_with (fail)
      refine (HC.out _).mono ?_
      rintro e w5 ⟨rfl, hw⟩
      subst w5
      clear HC c0
      cases b with
      | false =>
        have HG : Hid (G = true) := by unfold Hid; rw [H.out.2.2, HQ.out]; rfl
        clear HQ
        go_wp2
        go_returns
        exact ⟨by rw [HG.out]; rfl, HB.out⟩
      | true =>
        have HG : Hid ((s.drop (t + 1)).any (oo 0 1) = s.any (oo 0 1)) := by unfold Hid; rw [HQ.out]; rfl
        clear HQ
        go_wp2
        go_roundw
        case rel => exact ⟨t + 1, by omega, by go_num, HG.out, HB.out⟩
        case measure => simp [intOf]; omega
    · have HM : Hid (G = false) := by
        unfold Hid; rw [H.out.2.2, ← hR.out.1, any_end (by rw [← H.out.2.1]; omega)]
      go_wp2
      go_returns
      exact ⟨by rw [HM.out]; rfl, hR.out.2⟩

end Go.Proofs.Ytkdpifplhhcpaaa
