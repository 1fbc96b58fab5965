/- Proved here: heldIn of the program: trK. -/
import Derived.Test.YtgjdcdhdfhkfcaaFmO
import Derived.Test.YtgjdcdhdfhkfcaaFmM
import Derived.Test.YtgjdcdhdfhkfcaaFmE
namespace Go.Proofs.Ytgjdcdhdfhkfcaa
open Go.RowKit
set_option linter.unusedVariables false
set_option linter.unusedSimpArgs false

set_option maxRecDepth 10000 in
set_option maxHeartbeats 6400000 in
theorem impl_held {w : World} {g o c : Nat} {s : List Nat} (hl : s.length = 8) (hc : 8 ≤ c) (h : RFl w (.slice (some ⟨g, o, none⟩) 8 c) s) :
    Calls Try.prog 51 #[.slice (some ⟨g, o, none⟩) 8 c] w fun e w' => e = .returned (.int .i64 (trK s 8)) ∧ Below w.heap.size w w' := by
  obtain ⟨F, hF⟩ : ∃ F, F = frV s := ⟨_, rfl⟩
  obtain ⟨T, hT⟩ : ∃ T, T = trK s 8 := ⟨_, rfl⟩
  have HFR : Hid (∀ W, RFl W (.slice (some ⟨g, o, none⟩) 8 c) s → Calls Try.prog 45 #[.slice (some ⟨g, o, none⟩) 8 c] W fun e w' => e = .returned (.agg #[.int .u64 (F 0), .int .u64 (F 1), .int .u64 (F 2), .int .u64 (F 3), .int .u64 (F 4), .int .u64 (F 5), .int .u64 (F 6), .int .u64 (F 7)]) ∧ Below W.heap.size W w') := fun W hW => by rw [hF]; exact impl_frame (by omega) hW
  have HFK : Hid (∀ (W : World) (k : Nat), k ≤ 8 → RFl W (.slice (some ⟨g, o, none⟩) 8 c) s → Calls Try.prog 45 #[.slice (some ⟨g, o, none⟩) k c] W fun e w' => e = .returned (.agg (arF (frV (s.take k)))) ∧ Below W.heap.size W w') := fun W k hk hW => by
    have h9 := RFl.part hW (a := 0) (m := k) (by omega) c
    rw [Nat.add_zero, List.drop_zero] at h9
    exact impl_frame (by rw [List.length_take]; omega) h9
  have H : Hid (RFl w (.slice (some ⟨g, o, none⟩) 8 c) s ∧ s.length = 8 ∧ F = frV s ∧ T = trK s 8) := ⟨h, hl, hF, hT⟩
  have hT8 : T ≤ 8 := by rw [hT]; exact trK_le s 8
  rw [← hT]
  clear h hl hF hT
  go_enter Try.func51, Try.ntmps51
  go_wp2_with (fail)
  refine (HFR.out _ H.out.1).mono ?_
  rintro e w1 ⟨rfl, hb1⟩
  obtain ⟨K, hK⟩ : ∃ K, K = w1.heap.size := ⟨_, rfl⟩
  have HB1 : Hid (Below w.heap.size w w1) := hb1
  clear hb1 HFR
  go_wp2
  obtain ⟨V, hV⟩ : ∃ V, V = w1.alloc (.cells #[.int .u64 (F 0), .int .u64 (F 1), .int .u64 (F 2), .int .u64 (F 3), .int .u64 (F 4), .int .u64 (F 5), .int .u64 (F 6), .int .u64 (F 7)] 74) := ⟨_, rfl⟩
  rw [← hV, ← hK]
  have HV : Hid (Below w.heap.size w V ∧ V.heap[K]? = some (.cells (arF F) 74)) := by
    rw [hV, hK]; exact ⟨HB1.out.alloc HB1.out.size _, heap_alloc_new _ _⟩
  clear hV hK HB1
  go_loopw [4] (fun i wr => ∃ k : Nat, k ≤ T ∧ i = .int .i64 k ∧ Hid (Below V.heap.size V wr)) (fun i _ => T + 1 - (intOf i).toNat)
  case atStart => exact ⟨0, Nat.zero_le _, rfl, Below.refl _ _⟩
  case round =>
    obtain ⟨k, hk, rfl, hR⟩ := hrel
    obtain ⟨⟨q0, q1, q2, q3, q4, q5, q6, q7⟩, qf, ql⟩ := eight_q ((hR.out.block _ (ltOf HV.out.2)).trans HV.out.2)
    have HBW : Hid (Below w.heap.size w wr) := HV.out.1.trans (hR.out.mono HV.out.1.size)
    have HBV : Hid (Below V.heap.size V wr) := hR.out
    have t0 : (0 : Int) ≤ (k : Int) := by omega
    have t1 : (k : Int) ≤ 8 := by omega
    have t2 : (k : Int) ≤ (c : Int) := by omega
    have t3 : k ≤ c := by omega
    have t4 : ¬ c = 0 := by omega
    have t5 : k ≤ 8 := by omega
    have hnq := fun W => neq_fr (frV (s.take k)) F W
    obtain ⟨G, hG⟩ : ∃ G, G = frV (s.take k) := ⟨_, rfl⟩
    obtain ⟨E, hE⟩ : ∃ E, E = frE G F := ⟨_, rfl⟩
    rw [← hG, ← hE] at hnq
    have hnq2 : ∀ W, (binOp .neq 74 (.agg #[.int .u64 (G 0), .int .u64 (G 1), .int .u64 (G 2), .int .u64 (G 3), .int .u64 (G 4), .int .u64 (G 5), .int .u64 (G 6), .int .u64 (G 7)]) (.agg #[.int .u64 (F 0), .int .u64 (F 1), .int .u64 (F 2), .int .u64 (F 3), .int .u64 (F 4), .int .u64 (F 5), .int .u64 (F 6), .int .u64 (F 7)])).run Try.prog W = .ok (.bool (!E)) W := hnq
    have HFG : Hid (∀ W : World, RFl W (.slice (some ⟨g, o, none⟩) 8 c) s → Calls Try.prog 45 #[.slice (some ⟨g, o, none⟩) k c] W fun e w' => e = .returned (.agg #[.int .u64 (G 0), .int .u64 (G 1), .int .u64 (G 2), .int .u64 (G 3), .int .u64 (G 4), .int .u64 (G 5), .int .u64 (G 6), .int .u64 (G 7)]) ∧ Below W.heap.size W w') := fun W hW => by rw [hG]; exact HFK.out W k t5 hW
    have HEQ : Hid (E = true ↔ T ≤ k) := by
      unfold Hid
      rw [hE, frE_iff, hG, H.out.2.2.1, fr_same H.out.2.1 t5, H.out.2.2.2]
    clear hR hG hE hnq
    go_wp2_with (fail)
    refine wp_region_float (by kernel_rfl) (fun hS => ?_)
    refine fl_take (i := 0) (d := 7) (v := .slice (some ⟨g, o, none⟩) 8 c) rfl rfl rfl (by kernel_rfl) (by kernel_rfl) (by kernel_rfl) hS ?_ ?_
    · intro w' hk; go_simp
    simp only [Act.put, List.setIfInBounds_toArray, List.set_cons_zero, List.set_cons_succ]
    refine fl_take (i := 1) (d := 8) (v := .int .i64 k) rfl rfl rfl (by kernel_rfl) (by kernel_rfl) (by kernel_rfl) hS ?_ ?_
    · intro w' hk; go_simp
    simp only [Act.put, List.setIfInBounds_toArray, List.set_cons_zero, List.set_cons_succ]
    refine fl_take (i := 2) (d := 9) (v := .slice (some ⟨g, o, none⟩) k c) rfl rfl rfl (by kernel_rfl) (by kernel_rfl) (by kernel_rfl) hS ?_ ?_
    · intro w' hk; go_simp
    simp only [Act.put, List.setIfInBounds_toArray, List.set_cons_zero, List.set_cons_succ]
    refine fl_take (i := 4) (d := 11) (v := .agg #[.int .u64 (F 0), .int .u64 (F 1), .int .u64 (F 2), .int .u64 (F 3), .int .u64 (F 4), .int .u64 (F 5), .int .u64 (F 6), .int .u64 (F 7)]) rfl rfl rfl (by kernel_rfl) (by kernel_rfl) (by kernel_rfl) hS ?_ ?_
    · intro w' hk; go_simp
    simp only [Act.put, List.setIfInBounds_toArray, List.set_cons_zero, List.set_cons_succ]
    refine wpAnyH_all (rs := [3]) (by kernel_rfl) (by simp) ?_
    intro iz hi
    obtain rfl : iz = 3 := by simpa using hi
    clear hi
    refine op_call (d := 10) rfl rfl rfl (by go_simp) ((HFG.out _ (H.out.1.below (HBW.out.trans (hS.2.mono HBW.out.size)))).mono ?_)
    rintro e y1 ⟨rfl, hb1⟩
    have hK1 : KS wr y1 := hS.call hb1
    refine ⟨_, rfl, hK1, ?_⟩
    simp only [Act.put, List.setIfInBounds_toArray, List.set_cons_zero, List.set_cons_succ]
    refine wpAnyH_all (rs := [5]) (by kernel_rfl) (by simp) ?_
    intro iz hi
    obtain rfl : iz = 5 := by simpa using hi
    clear hi
    refine op_val (d := 12) (v := .bool (!E)) (w' := y1) rfl rfl rfl (by go_simp; try rfl) ?_
    simp only [Act.put, List.setIfInBounds_toArray, List.set_cons_zero, List.set_cons_succ]
    refine ⟨hK1, wpAnyH_done (by kernel_rfl) (NoPanic.normal ?_) _⟩
    have HB3 : Hid (Below V.heap.size V y1) := HBV.out.trans (hK1.2.mono HBV.out.size)
    clear hK1 hb1 hS q0 q1 q2 q3 q4 q5 q6 q7 qf ql hnq2
    cases hEb : E
    · have hkT : k < T := by
        rcases Nat.lt_or_ge k T with h9 | h9
        · exact h9
        · have := HEQ.out.2 h9; rw [hEb] at this; cases this
      rw [hEb] at HEQ
      subst hEb
      go_wp2
      go_roundw
      case rel => exact ⟨k + 1, by omega, by go_num, HB3.out⟩
      case measure => simp [intOf]; omega
    · have hkT : Hid (k = T) := by have := HEQ.out.1 hEb; unfold Hid; omega
      subst hEb
      have HBZ : Hid (Below w.heap.size w y1) := HV.out.1.trans (HB3.out.mono HV.out.1.size)
      go_wp2
      go_returns
      exact ⟨by rw [← hkT.out]; rfl, HBZ.out⟩

end Go.Proofs.Ytgjdcdhdfhkfcaa
