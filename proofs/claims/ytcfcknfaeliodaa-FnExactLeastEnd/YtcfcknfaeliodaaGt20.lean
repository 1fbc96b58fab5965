/- Proved here: slices.Max at numbers: gt2. -/
import Derived.Test.YtcfcknfaeliodaaLeM
import Derived.Test.YtcfcknfaeliodaaNlJ
namespace Go.Proofs.Ytcfcknfaeliodaa
open Go.RowKit
set_option linter.unusedVariables false
set_option linter.unusedSimpArgs false

set_option maxHeartbeats 1600000 in
theorem impl_max20 {w : World} {v : Value} {s : List Int} (hp : 0 < s.length) (hn : s.length ≤ 1048576) (h : RdI w v s) :
    Calls Try.prog 52 #[v] w fun e w' => e = .returned (.int .i64 (gt2 s (s.length - 1))) ∧ w' = w := by
  obtain ⟨g, o, c, rfl, hg, hj⟩ := h.ri hp
  obtain ⟨n, hnn⟩ : ∃ n, n = s.length := ⟨_, rfl⟩
  obtain ⟨C, hC⟩ : ∃ C, C = gt2 s (s.length - 1) := ⟨_, rfl⟩
  rw [← hC]
  have H : Hid ((∀ j, j < s.length → w.cell? ⟨g, o + j, none⟩ = some (.int .i64 (s.getD j 0))) ∧ n = s.length ∧ C = gt2 s (n - 1)) := ⟨hj, hnn, by rw [hC, hnn]⟩
  rw [← hnn] at hp hn ⊢
  clear h hj hC hnn
  have c0 := H.out.1 0 (by rw [← H.out.2.1]; omega)
  rw [Nat.add_zero] at c0
  obtain ⟨x0, hx0⟩ : ∃ x, x = s.getD 0 0 := ⟨_, rfl⟩
  rw [← hx0] at c0
  have HX0 : Hid (x0 = gt2 s 0) := by unfold Hid; rw [gt2]; exact hx0
  clear hx0
  have z0 : (0 : Int) < (n : Int) := by omega
  have z1 : ¬ (n : Int) < 1 := by omega
  go_enter Try.func52, Try.ntmps52
  go_wp2
  go_loopw [3, 4] (fun m i wr => ∃ k k1 : Nat, k1 ≤ n ∧ m = .int .i64 (gt2 s k) ∧ i = .int .i64 k1 ∧ w = wr ∧ Hid (k1 = k + 1)) (fun _ i _ => n - (intOf i).toNat)
  case atStart => exact ⟨0, 1, by omega, by rw [← HX0.out], rfl, rfl, rfl⟩
  case round =>
    clear c0
    obtain ⟨k, k1, hk, rfl, rfl, rfl, hR⟩ := hrel
    obtain ⟨M, hM⟩ : ∃ M, M = gt2 s k := ⟨_, rfl⟩
    rw [← hM]
    have HM : Hid (M = gt2 s k) := hM
    clear hM
    by_cases hlt : k1 < n
    · have c0 := H.out.1 k1 (by rw [← H.out.2.1]; exact hlt)
      obtain ⟨x, hx⟩ : ∃ x, x = s.getD k1 0 := ⟨_, rfl⟩
      rw [← hx] at c0
      have HN : Hid (gt2 s (k + 1) = if M < x then x else M) := by unfold Hid; rw [gt2, hx, HM.out, hR.out]
      clear hx
      have b0 : (0 : Int) ≤ (k1 : Int) := by omega
      have b1 : (k1 : Int) < (n : Int) := by omega
      by_cases hc : M < x
      · have HE : Hid (x = gt2 s (k + 1) ∧ k1 + 1 = k + 1 + 1) := ⟨by rw [HN.out, if_pos hc], by rw [hR.out]⟩
        clear HN
        go_wp2
        go_roundw
        case rel => exact ⟨k + 1, k1 + 1, by omega, by rw [← HE.out.1], by go_num, by first | rfl | trivial, HE.out.2⟩
        case measure => simp [intOf]; omega
      · have HE : Hid (M = gt2 s (k + 1) ∧ k1 + 1 = k + 1 + 1) := ⟨by rw [HN.out, if_neg hc], by rw [hR.out]⟩
        clear HN
        go_wp2
        go_roundw
        case rel => exact ⟨k + 1, k1 + 1, by omega, by rw [← HE.out.1], by go_num, by first | rfl | trivial, HE.out.2⟩
        case measure => simp [intOf]; omega
    · have HE : Hid (C = M) := by unfold Hid; rw [H.out.2.2, HM.out, show n - 1 = k by have := hR.out; omega]
      go_wp2
      go_returns
      exact ⟨by rw [HE.out]; try rfl, rfl⟩


end Go.Proofs.Ytcfcknfaeliodaa
