/- Proved here: frameOf of the program: frV. -/
import Derived.Test.YtgjdcdhdfhkfcaaFmA
namespace Go.Proofs.Ytgjdcdhdfhkfcaa
open Go.RowKit
set_option linter.unusedVariables false
set_option linter.unusedSimpArgs false

set_option maxRecDepth 10000 in
set_option maxHeartbeats 12800000 in
theorem impl_frame {w : World} {v : Value} {s : List Nat} (hn : s.length ≤ 8) (h : RFl w v s) :
    Calls Try.prog 45 #[v] w fun e w' => e = .returned (.agg (arF (frV s))) ∧ Below w.heap.size w w' := by
  obtain ⟨a, c, rfl⟩ := h.form
  obtain ⟨n, hnn⟩ : ∃ n, n = s.length := ⟨_, rfl⟩
  rw [← hnn] at hn h ⊢
  have H : Hid (RFl w (.slice a n c) s ∧ n = s.length) := ⟨h, hnn⟩
  clear h hnn
  obtain ⟨W0, hW0⟩ : ∃ W, W = (w.alloc (.cells #[.int .u64 0, .int .u64 0, .int .u64 0, .int .u64 0, .int .u64 0, .int .u64 0, .int .u64 0, .int .u64 0] 74)).alloc (.cells #[.int .u64 0, .int .u64 0, .int .u64 0, .int .u64 0, .int .u64 0, .int .u64 0, .int .u64 0, .int .u64 0] 74) := ⟨_, rfl⟩
  obtain ⟨K, hK⟩ : ∃ K, K = w.heap.size + 1 := ⟨_, rfl⟩
  have HW0 : Hid (Below w.heap.size w W0 ∧ W0.heap[w.heap.size]? = some (.cells (arF (fun _ => 0)) 74) ∧ W0.heap[K]? = some (.cells (arF (fun _ => 0)) 74) ∧ K = w.heap.size + 1) := by
    refine ⟨by rw [hW0]; (repeat' (first | (with_reducible exact Below.refl _ _) | (with_reducible assumption) | (with_reducible refine Below.setCell ?_ ?_ _) | (with_reducible refine Below.alloc ?_ ?_ _) | (with_reducible refine below_drewN ?_ _) | (with_reducible refine Below.drew ?_) | (with_reducible exact Nat.le_refl _) | omega | (simp; done) | (simp; omega))), ?_, ?_, hK⟩
    · rw [hW0, Below.heap_alloc _ _ _ (by simp)]; exact heap_alloc_new _ _
    · rw [hW0, hK]; have := heap_alloc_new (w.alloc (.cells #[.int .u64 0, .int .u64 0, .int .u64 0, .int .u64 0, .int .u64 0, .int .u64 0, .int .u64 0, .int .u64 0] 74)) (.cells #[.int .u64 0, .int .u64 0, .int .u64 0, .int .u64 0, .int .u64 0, .int .u64 0, .int .u64 0, .int .u64 0] 74); rw [show (w.alloc (.cells #[.int .u64 0, .int .u64 0, .int .u64 0, .int .u64 0, .int .u64 0, .int .u64 0, .int .u64 0, .int .u64 0] 74)).heap.size = w.heap.size + 1 by simp] at this; exact this
  go_enter Try.func45, Try.ntmps45
  go_wp2
  rw [← hW0, ← hK]
  clear hW0 hK
  go_loopw [7] (fun i wr => ∃ k : Nat, k ≤ 8 ∧ i = .int .i64 k ∧ Hid (Below w.heap.size w wr ∧ wr.heap[w.heap.size]? = some (.cells (arF (fun _ => 0)) 74) ∧ ∃ f : Nat → Int, (∀ j, j < k → f j = 9221120237041090560) ∧ wr.heap[K]? = some (.cells (arF (f)) 74))) (fun i _ => 8 - (intOf i).toNat)
  case atStart => exact ⟨0, Nat.zero_le _, rfl, HW0.out.1, HW0.out.2.1, fun _ => 0, fun j hj => absurd hj (Nat.not_lt_zero _), HW0.out.2.2.1⟩
  case round =>
    obtain ⟨k, hk, rfl, hR⟩ := hrel
    by_cases hlt : k < 8
    · obtain ⟨f, hf, hbk⟩ := hR.out.2.2
      have u0 : wr.cell? ⟨K, k, none⟩ = some (.int .u64 (f k)) := cellOf hbk k (arF_at f k hlt)
      have u1 : wr.frozen? ⟨K, k, none⟩ = false := frozOf hbk k
      have u2 : K < wr.heap.size := ltOf hbk
      have b0 : (0 : Int) ≤ (k : Int) := by omega
      have b1 : (k : Int) < 8 := by omega
      have HP : Hid (Below w.heap.size w (wr.setCell ⟨K, k, none⟩ (.int .u64 9221120237041090560)) ∧ (wr.setCell ⟨K, k, none⟩ (.int .u64 9221120237041090560)).heap[w.heap.size]? = some (.cells (arF (fun _ => 0)) 74) ∧ ∃ f : Nat → Int, (∀ j, j < k + 1 → f j = 9221120237041090560) ∧ (wr.setCell ⟨K, k, none⟩ (.int .u64 9221120237041090560)).heap[K]? = some (.cells (arF (f)) 74)) := by
        have hKw := HW0.out.2.2.2
        refine ⟨hR.out.1.setCell (p := ⟨K, k, none⟩) (by simp; omega) _, ?_, fun i => if i = k then 9221120237041090560 else f i, fun j hj => ?_, ?_⟩
        · rw [heap_setCell_other _ _ _ _ (by simp; omega)]; exact hR.out.2.1
        · by_cases hjk : j = k
          · simp [hjk]
          · simp only [hjk, if_false]; exact hf j (by omega)
        · rw [← arF_set f _ k hlt]; exact heap_setCell_same wr K k _ _ _ hbk
      clear hR hf hbk
      go_wp2
      go_roundw
      case rel => exact ⟨k + 1, by omega, by go_num, HP.out⟩
      case measure => simp [intOf]; omega
    · have HE : Hid (Below w.heap.size w wr ∧ wr.heap[w.heap.size]? = some (.cells (arF (fun _ => 0)) 74) ∧ ∃ f : Nat → Int, (∀ j, j < 8 → f j = 9221120237041090560) ∧ wr.heap[K]? = some (.cells (arF (f)) 74)) := by
        have h3 := hR.out
        rw [show k = 8 by omega] at h3
        exact h3
      clear hR
      go_wp2
      go_loopw [15] (fun i wr => ∃ k : Nat, k ≤ n ∧ i = .int .i64 k ∧ Hid (Below w.heap.size w wr ∧ wr.heap[w.heap.size]? = some (.cells (arF (fun _ => 0)) 74) ∧ ∃ f : Nat → Int, (∀ j, j < k → f j = btV (s.getD j 0)) ∧ (∀ j, k ≤ j → j < 8 → f j = 9221120237041090560) ∧ wr.heap[K]? = some (.cells (arF (f)) 74))) (fun i _ => n - (intOf i).toNat)
      case atStart =>
        obtain ⟨h1, h2, f, h3, h4⟩ := HE.out
        exact ⟨0, Nat.zero_le _, rfl, h1, h2, f, fun j hj => absurd hj (Nat.not_lt_zero _), fun j _ hj => h3 j hj, h4⟩
      case round =>
        clear HE hlt hk
        obtain ⟨k, hk, rfl, hR⟩ := hrel
        by_cases hlt : k < n
        · obtain ⟨f, hf, hf2, hbk⟩ := hR.out.2.2
          obtain ⟨g, o, z, ha, hg, hz, c0⟩ := rf_at (H.out.1.below hR.out.1) hlt
          subst ha
          have u0 : wr.cell? ⟨K, k, none⟩ = some (.int .u64 (f k)) := cellOf hbk k (arF_at f k (by omega))
          have u1 : wr.frozen? ⟨K, k, none⟩ = false := frozOf hbk k
          have u2 : K < wr.heap.size := ltOf hbk
          have b0 : (0 : Int) ≤ (k : Int) := by omega
          have b1 : (k : Int) < (n : Int) := by omega
          have b2 : (k : Int) < 8 := by omega
          obtain ⟨B, hB⟩ : ∃ B, B = btV z := ⟨_, rfl⟩
          have HI : Hid (∀ W, Calls Try.prog 62 #[.float .f64 z] W fun e w' => e = .returned (.int .u64 B) ∧ w' = W) := fun W => by rw [hB]; exact impl_bits z W
          have HP : Hid (Below w.heap.size w (wr.setCell ⟨K, k, none⟩ (.int .u64 B)) ∧ (wr.setCell ⟨K, k, none⟩ (.int .u64 B)).heap[w.heap.size]? = some (.cells (arF (fun _ => 0)) 74) ∧ ∃ f : Nat → Int, (∀ j, j < k + 1 → f j = btV (s.getD j 0)) ∧ (∀ j, k + 1 ≤ j → j < 8 → f j = 9221120237041090560) ∧ (wr.setCell ⟨K, k, none⟩ (.int .u64 B)).heap[K]? = some (.cells (arF (f)) 74)) := by
            have hKw := HW0.out.2.2.2
            refine ⟨hR.out.1.setCell (p := ⟨K, k, none⟩) (by simp; omega) _, ?_, fun i => if i = k then B else f i, fun j hj => ?_, fun j hj hj8 => ?_, ?_⟩
            · rw [heap_setCell_other _ _ _ _ (by simp; omega)]; exact hR.out.2.1
            · by_cases hjk : j = k
              · subst hjk; simp only [if_true]; rw [hB, fl_get hz]
              · simp only [hjk, if_false]; exact hf j (by omega)
            · simp only [show ¬ j = k by omega, if_false]; exact hf2 j (by omega) hj8
            · rw [← arF_set f _ k (by omega)]; exact heap_setCell_same wr K k _ _ _ hbk
          clear hR hf hf2 hbk hz hB
          go_wp2_with (fail)
          refine (HI.out _).mono ?_
          rintro e w3 ⟨rfl, hw3⟩
          subst w3
          go_wp2
          go_roundw
          case rel => exact ⟨k + 1, by omega, by go_num, HP.out⟩
          case measure => simp [intOf]; omega
        · obtain ⟨f, hf, hf2, hbk⟩ := hR.out.2.2
          have HF : Hid (arF (frV s) = arF f) := arF_eq fun i hi => by
            unfold frV
            by_cases hin : i < s.length
            · rw [if_pos hin]; exact (hf i (by have := H.out.2; omega)).symm
            · rw [if_neg hin]; exact (hf2 i (by have := H.out.2; omega) hi).symm
          obtain ⟨⟨k0, k1, k2, k3, k4, k5, k6, k7⟩, kf, kl⟩ := eight_q hbk
          obtain ⟨⟨q0, q1, q2, q3, q4, q5, q6, q7⟩, qf, ql⟩ := eight_q hR.out.2.1
          have HB : Hid (Below w.heap.size w wr) := hR.out.1
          clear hR hf hf2 hbk
          go_wp2
          try simp only [Exit.inBlock, Exit.then]
          refine bodyPost_ret (by simp [results, Try.results45, go_sem, q0, q1, q2, q3, q4, q5, q6, q7, ql]; try rfl) rfl ⟨by rw [HF.out]; rfl, ?_⟩
          have hb := HB.out
          (repeat' (first | (with_reducible exact Below.refl _ _) | (with_reducible assumption) | (with_reducible refine Below.setCell ?_ ?_ _) | (with_reducible refine Below.alloc ?_ ?_ _) | (with_reducible refine below_drewN ?_ _) | (with_reducible refine Below.drew ?_) | (with_reducible exact Nat.le_refl _) | omega | (simp; done) | (simp; omega)))

end Go.Proofs.Ytgjdcdhdfhkfcaa
