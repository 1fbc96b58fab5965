/- Proved here: the run rules of the model, upward. -/
import Derived.Test.YtcdpaokmjoklcaaDoorAaB
import Derived.Deep.DeepCutAuto
import Derived.BigQuiet
namespace Go.Proofs.YtcdpaokmjoklcaaDoor
open Go.RowKit
set_option linter.unusedVariables false
set_option linter.unusedSimpArgs false

set_option maxRecDepth 10000 in
set_option maxHeartbeats 6400000 in
theorem spec_u0 (sg : Int) (i : Nat) {w : World} {v : Value} {dl : List Int} (hs : 1 ≤ sg ∧ sg ≤ 100000) (hi0 : i < dl.length) (hn : dl.length ≤ 1000) (h : RdI w v dl) :
    Calls Tryd.prog 16 #[.int .i64 1, v, .int .i64 i, .int .i64 sg] w fun e w' => e = .returned (.bool (upB (fun j => dl.getD j 0) sg i 0)) ∧ Below w.heap.size w w' := by
  obtain ⟨g, o, c, rfl, hg, hj⟩ := h.ri (by omega)
  obtain ⟨n, hnn⟩ : ∃ n, n = dl.length := ⟨_, rfl⟩
  obtain ⟨C, hC⟩ : ∃ C : Bool, C = upB (fun j => dl.getD j 0) sg i 0 := ⟨_, rfl⟩
  rw [← hC]
  have H : Hid ((∀ j, j < dl.length → w.cell? ⟨g, o + j, none⟩ = some (.int .i64 (dl.getD j 0))) ∧ n = dl.length ∧ C = upB (fun j => dl.getD j 0) sg i 0 ∧ RdI w (.slice (some ⟨g, o, none⟩) n c) dl ∧ g < w.heap.size) := ⟨hj, hnn, hC, by rw [hnn]; exact h, hg⟩
  rw [← hnn] at hi0 hn ⊢
  clear h hj hC hnn
  have c0 := H.out.1 i (by rw [← H.out.2.1]; omega)
  obtain ⟨x, hx⟩ : ∃ x, x = dl.getD i 0 := ⟨_, rfl⟩
  rw [← hx] at c0
  have b0 : (0 : Int) ≤ (i : Int) := by omega
  have b1 : (i : Int) < (n : Int) := by omega
  have e3 : IntKind.i64.wrap (3 * sg) = 3 * sg := by rw [IntKind.wrap_i64]; omega
  have e2 : IntKind.i64.wrap (2 * sg) = 2 * sg := by rw [IntKind.wrap_i64]; omega
  by_cases hc : 3 * sg < x
  · have HE : Hid (C = true) := by unfold Hid; rw [H.out.2.2.1, upB, ← hx]; exact decide_eq_true hc
    clear hx H
    go_enter Tryd.func16, Tryd.ntmps16
    go_wp2
    go_returns
    exact ⟨by rw [HE.out]; rfl, Below.refl _ _⟩
  · have HE : Hid (C = false) := by unfold Hid; rw [H.out.2.2.1, upB, ← hx]; exact decide_eq_false hc
    clear hx H
    go_enter Tryd.func16, Tryd.ntmps16
    go_wp2
    go_returns
    exact ⟨by rw [HE.out]; rfl, Below.refl _ _⟩

set_option maxRecDepth 10000 in
set_option maxHeartbeats 6400000 in
theorem spec_u1 (sg : Int) (i : Nat) {w : World} {v : Value} {dl : List Int} (hs : 1 ≤ sg ∧ sg ≤ 100000) (hi0 : i < dl.length) (hn : dl.length ≤ 1000) (h : RdI w v dl) :
    Calls Tryd.prog 16 #[.int .i64 2, v, .int .i64 i, .int .i64 sg] w fun e w' => e = .returned (.bool (upB (fun j => dl.getD j 0) sg i 1)) ∧ Below w.heap.size w w' := by
  obtain ⟨g, o, c, rfl, hg, hj⟩ := h.ri (by omega)
  obtain ⟨n, hnn⟩ : ∃ n, n = dl.length := ⟨_, rfl⟩
  obtain ⟨C, hC⟩ : ∃ C : Bool, C = upB (fun j => dl.getD j 0) sg i 1 := ⟨_, rfl⟩
  rw [← hC]
  have H : Hid ((∀ j, j < dl.length → w.cell? ⟨g, o + j, none⟩ = some (.int .i64 (dl.getD j 0))) ∧ n = dl.length ∧ C = upB (fun j => dl.getD j 0) sg i 1 ∧ RdI w (.slice (some ⟨g, o, none⟩) n c) dl ∧ g < w.heap.size) := ⟨hj, hnn, hC, by rw [hnn]; exact h, hg⟩
  rw [← hnn] at hi0 hn ⊢
  clear h hj hC hnn
  have c0 := H.out.1 i (by rw [← H.out.2.1]; omega)
  obtain ⟨x, hx⟩ : ∃ x, x = dl.getD i 0 := ⟨_, rfl⟩
  rw [← hx] at c0
  have b0 : (0 : Int) ≤ (i : Int) := by omega
  have b1 : (i : Int) < (n : Int) := by omega
  have e3 : IntKind.i64.wrap (3 * sg) = 3 * sg := by rw [IntKind.wrap_i64]; omega
  have e2 : IntKind.i64.wrap (2 * sg) = 2 * sg := by rw [IntKind.wrap_i64]; omega
  obtain ⟨M, hM⟩ : ∃ M : Nat, M = cd (fun j => dl.getD j 0) (2 * sg) i (min 3 (i + 1)) := ⟨_, rfl⟩
  have HB : Hid (∀ W, Below w.heap.size w W → Calls Tryd.prog 24 #[.slice (some ⟨g, o, none⟩) n c, .int .i64 i, .int .i64 3, .int .i64 (2 * sg)] W fun e w' => e = .returned (.int .i64 (M : Int)) ∧ w' = W) := fun W hW => by
    rw [hM]; exact spec_by (2 * sg) 3 i (by omega) (by rw [← H.out.2.1]; omega) (by rw [← H.out.2.1]; omega) (H.out.2.2.2.1.below hW)
  have HCC : Hid (C = (decide (2 * sg < x) && decide (2 ≤ M))) := by unfold Hid; rw [H.out.2.2.1, upB, ← hx, hM]
  clear hM hx
  by_cases hc : 2 * sg < x
  · go_enter Tryd.func16, Tryd.ntmps16
    go_wp2_with (fail)
    refine (HB.out _ (Below.refl _ _)).mono ?_
    rintro e w1 ⟨rfl, hw⟩
    subst w1
    by_cases hm : (2 : Int) ≤ (M : Int)
    · have HE : Hid (C = true) := by unfold Hid; rw [HCC.out, decide_eq_true hc, decide_eq_true (show 2 ≤ M by omega)]; rfl
      have hmd : decide ((2 : Int) ≤ (M : Int)) = true := decide_eq_true hm
      clear HCC H hm
      go_wp2
      go_returns
      exact ⟨by rw [HE.out]; rfl, Below.refl _ _⟩
    · have HE : Hid (C = false) := by unfold Hid; rw [HCC.out, decide_eq_false (show ¬ 2 ≤ M by omega), Bool.and_false]
      have hmd : decide ((2 : Int) ≤ (M : Int)) = false := decide_eq_false hm
      clear HCC H hm
      go_wp2
      go_returns
      exact ⟨by rw [HE.out]; rfl, Below.refl _ _⟩
  · have HE : Hid (C = false) := by unfold Hid; rw [HCC.out, decide_eq_false hc, Bool.false_and]
    clear HCC H
    go_enter Tryd.func16, Tryd.ntmps16
    go_wp2
    go_returns
    exact ⟨by rw [HE.out]; rfl, Below.refl _ _⟩

set_option maxRecDepth 10000 in
set_option maxHeartbeats 6400000 in
theorem spec_u2 (sg : Int) (i : Nat) {w : World} {v : Value} {dl : List Int} (hs : 1 ≤ sg ∧ sg ≤ 100000) (hi0 : i < dl.length) (hn : dl.length ≤ 1000) (h : RdI w v dl) :
    Calls Tryd.prog 16 #[.int .i64 3, v, .int .i64 i, .int .i64 sg] w fun e w' => e = .returned (.bool (upB (fun j => dl.getD j 0) sg i 2)) ∧ Below w.heap.size w w' := by
  obtain ⟨g, o, c, rfl, hg, hj⟩ := h.ri (by omega)
  obtain ⟨n, hnn⟩ : ∃ n, n = dl.length := ⟨_, rfl⟩
  obtain ⟨C, hC⟩ : ∃ C : Bool, C = upB (fun j => dl.getD j 0) sg i 2 := ⟨_, rfl⟩
  rw [← hC]
  have H : Hid ((∀ j, j < dl.length → w.cell? ⟨g, o + j, none⟩ = some (.int .i64 (dl.getD j 0))) ∧ n = dl.length ∧ C = upB (fun j => dl.getD j 0) sg i 2 ∧ RdI w (.slice (some ⟨g, o, none⟩) n c) dl ∧ g < w.heap.size) := ⟨hj, hnn, hC, by rw [hnn]; exact h, hg⟩
  rw [← hnn] at hi0 hn ⊢
  clear h hj hC hnn
  have c0 := H.out.1 i (by rw [← H.out.2.1]; omega)
  obtain ⟨x, hx⟩ : ∃ x, x = dl.getD i 0 := ⟨_, rfl⟩
  rw [← hx] at c0
  have b0 : (0 : Int) ≤ (i : Int) := by omega
  have b1 : (i : Int) < (n : Int) := by omega
  have e3 : IntKind.i64.wrap (3 * sg) = 3 * sg := by rw [IntKind.wrap_i64]; omega
  have e2 : IntKind.i64.wrap (2 * sg) = 2 * sg := by rw [IntKind.wrap_i64]; omega
  obtain ⟨M, hM⟩ : ∃ M : Nat, M = cd (fun j => dl.getD j 0) (sg) i (min 5 (i + 1)) := ⟨_, rfl⟩
  have HB : Hid (∀ W, Below w.heap.size w W → Calls Tryd.prog 24 #[.slice (some ⟨g, o, none⟩) n c, .int .i64 i, .int .i64 5, .int .i64 (sg)] W fun e w' => e = .returned (.int .i64 (M : Int)) ∧ w' = W) := fun W hW => by
    rw [hM]; exact spec_by (sg) 5 i (by omega) (by rw [← H.out.2.1]; omega) (by rw [← H.out.2.1]; omega) (H.out.2.2.2.1.below hW)
  have HCC : Hid (C = (decide (sg < x) && decide (4 ≤ M))) := by unfold Hid; rw [H.out.2.2.1, upB, ← hx, hM]
  clear hM hx
  by_cases hc : sg < x
  · go_enter Tryd.func16, Tryd.ntmps16
    go_wp2_with (fail)
    refine (HB.out _ (Below.refl _ _)).mono ?_
    rintro e w1 ⟨rfl, hw⟩
    subst w1
    by_cases hm : (4 : Int) ≤ (M : Int)
    · have HE : Hid (C = true) := by unfold Hid; rw [HCC.out, decide_eq_true hc, decide_eq_true (show 4 ≤ M by omega)]; rfl
      have hmd : decide ((4 : Int) ≤ (M : Int)) = true := decide_eq_true hm
      clear HCC H hm
      go_wp2
      go_returns
      exact ⟨by rw [HE.out]; rfl, Below.refl _ _⟩
    · have HE : Hid (C = false) := by unfold Hid; rw [HCC.out, decide_eq_false (show ¬ 4 ≤ M by omega), Bool.and_false]
      have hmd : decide ((4 : Int) ≤ (M : Int)) = false := decide_eq_false hm
      clear HCC H hm
      go_wp2
      go_returns
      exact ⟨by rw [HE.out]; rfl, Below.refl _ _⟩
  · have HE : Hid (C = false) := by unfold Hid; rw [HCC.out, decide_eq_false hc, Bool.false_and]
    clear HCC H
    go_enter Tryd.func16, Tryd.ntmps16
    go_wp2
    go_returns
    exact ⟨by rw [HE.out]; rfl, Below.refl _ _⟩

set_option maxRecDepth 10000 in
set_option maxHeartbeats 6400000 in
theorem spec_u3 (sg : Int) (i : Nat) {w : World} {v : Value} {dl : List Int} (hs : 1 ≤ sg ∧ sg ≤ 100000) (hi0 : i < dl.length) (hn : dl.length ≤ 1000) (h : RdI w v dl) :
    Calls Tryd.prog 16 #[.int .i64 4, v, .int .i64 i, .int .i64 sg] w fun e w' => e = .returned (.bool (upB (fun j => dl.getD j 0) sg i 3)) ∧ Below w.heap.size w w' := by
  obtain ⟨g, o, c, rfl, hg, hj⟩ := h.ri (by omega)
  obtain ⟨n, hnn⟩ : ∃ n, n = dl.length := ⟨_, rfl⟩
  obtain ⟨C, hC⟩ : ∃ C : Bool, C = upB (fun j => dl.getD j 0) sg i 3 := ⟨_, rfl⟩
  rw [← hC]
  have H : Hid ((∀ j, j < dl.length → w.cell? ⟨g, o + j, none⟩ = some (.int .i64 (dl.getD j 0))) ∧ n = dl.length ∧ C = upB (fun j => dl.getD j 0) sg i 3 ∧ RdI w (.slice (some ⟨g, o, none⟩) n c) dl ∧ g < w.heap.size) := ⟨hj, hnn, hC, by rw [hnn]; exact h, hg⟩
  rw [← hnn] at hi0 hn ⊢
  clear h hj hC hnn
  have c0 := H.out.1 i (by rw [← H.out.2.1]; omega)
  obtain ⟨x, hx⟩ : ∃ x, x = dl.getD i 0 := ⟨_, rfl⟩
  rw [← hx] at c0
  have b0 : (0 : Int) ≤ (i : Int) := by omega
  have b1 : (i : Int) < (n : Int) := by omega
  have e3 : IntKind.i64.wrap (3 * sg) = 3 * sg := by rw [IntKind.wrap_i64]; omega
  have e2 : IntKind.i64.wrap (2 * sg) = 2 * sg := by rw [IntKind.wrap_i64]; omega
  obtain ⟨M, hM⟩ : ∃ M : Nat, M = cd (fun j => dl.getD j 0) 0 i (min 8 (i + 1)) := ⟨_, rfl⟩
  have HB : Hid (∀ W, Below w.heap.size w W → Calls Tryd.prog 24 #[.slice (some ⟨g, o, none⟩) n c, .int .i64 i, .int .i64 8, .int .i64 0] W fun e w' => e = .returned (.int .i64 (M : Int)) ∧ w' = W) := fun W hW => by
    rw [hM]; exact spec_by 0 8 i (by omega) (by rw [← H.out.2.1]; omega) (by rw [← H.out.2.1]; omega) (H.out.2.2.2.1.below hW)
  have HCC : Hid (C = decide (M = 8)) := by unfold Hid; rw [H.out.2.2.1, upB, hM]
  clear hM hx
  go_enter Tryd.func16, Tryd.ntmps16
  go_wp2_with (fail)
  refine (HB.out _ (Below.refl _ _)).mono ?_
  rintro e w1 ⟨rfl, hw⟩
  subst w1
  by_cases hm : M = 8
  · have HE : Hid (C = true) := by unfold Hid; rw [HCC.out, decide_eq_true hm]
    have hm1 : ((M : Int) == 8) = true := by simp; omega
    have hm2 : (M : Int) = 8 := by omega
    clear HCC H hm
    go_wp2
    go_returns
    exact ⟨by rw [HE.out]; rfl, Below.refl _ _⟩
  · have HE : Hid (C = false) := by unfold Hid; rw [HCC.out, decide_eq_false hm]
    have hm1 : ((M : Int) == 8) = false := by simp; omega
    have hm2 : ¬ (M : Int) = 8 := by omega
    clear HCC H hm
    go_wp2
    go_returns
    exact ⟨by rw [HE.out]; rfl, Below.refl _ _⟩

set_option maxRecDepth 10000 in
set_option maxHeartbeats 6400000 in
theorem spec_u4 (sg : Int) (i : Nat) {w : World} {v : Value} {dl : List Int} (hs : 1 ≤ sg ∧ sg ≤ 100000) (hi0 : i < dl.length) (hn : dl.length ≤ 1000) (h : RdI w v dl) :
    Calls Tryd.prog 16 #[.int .i64 5, v, .int .i64 i, .int .i64 sg] w fun e w' => e = .returned (.bool (upB (fun j => dl.getD j 0) sg i 4)) ∧ Below w.heap.size w w' := by
  obtain ⟨g, o, c, rfl, hg, hj⟩ := h.ri (by omega)
  obtain ⟨n, hnn⟩ : ∃ n, n = dl.length := ⟨_, rfl⟩
  obtain ⟨C, hC⟩ : ∃ C : Bool, C = upB (fun j => dl.getD j 0) sg i 4 := ⟨_, rfl⟩
  rw [← hC]
  have H : Hid ((∀ j, j < dl.length → w.cell? ⟨g, o + j, none⟩ = some (.int .i64 (dl.getD j 0))) ∧ n = dl.length ∧ C = upB (fun j => dl.getD j 0) sg i 4 ∧ RdI w (.slice (some ⟨g, o, none⟩) n c) dl ∧ g < w.heap.size) := ⟨hj, hnn, hC, by rw [hnn]; exact h, hg⟩
  rw [← hnn] at hi0 hn ⊢
  clear h hj hC hnn
  have c0 := H.out.1 i (by rw [← H.out.2.1]; omega)
  obtain ⟨x, hx⟩ : ∃ x, x = dl.getD i 0 := ⟨_, rfl⟩
  rw [← hx] at c0
  have b0 : (0 : Int) ≤ (i : Int) := by omega
  have b1 : (i : Int) < (n : Int) := by omega
  have e3 : IntKind.i64.wrap (3 * sg) = 3 * sg := by rw [IntKind.wrap_i64]; omega
  have e2 : IntKind.i64.wrap (2 * sg) = 2 * sg := by rw [IntKind.wrap_i64]; omega
  clear hx c0
  by_cases hs0 : (i : Int) < 5
  · have HE : Hid (C = false) := by
      unfold Hid; rw [H.out.2.2.1]; show ris (fun j => dl.getD j 0) 5 i = false
      cases hr : ris (fun j => dl.getD j 0) 5 i
      · rfl
      · have h9 := ris_iff.1 hr; have := h9.1; omega
    clear H
    go_enter Tryd.func16, Tryd.ntmps16
    go_wp2
    go_returns
    exact ⟨by rw [HE.out]; rfl, Below.refl _ _⟩
  have HW : Hid (∀ W : World, Below w.heap.size w W → ∀ p, p < n → W.cell? ⟨g, o + p, none⟩ = some (.int .i64 (dl.getD p 0))) := fun W hW p hp => by
    have h1 := H.out.1 p (by rw [← H.out.2.1]; exact hp)
    have h2 := hW.block g H.out.2.2.2.2
    simp only [World.cell?] at h1 ⊢
    rw [h2]; exact h1
  have e5 : IntKind.i64.wrap ((i : Int) - 4) = (i : Int) - 4 := by rw [IntKind.wrap_i64]; omega
  go_enter Tryd.func16, Tryd.ntmps16
  go_wp2
  go_loopw [9] (fun p wr => ∃ (u q : Nat), u ≤ 5 ∧ p = .int .i64 (q : Int) ∧ Hid (q = i - 4 + u ∧ Below w.heap.size w wr ∧ ∀ u', u' < u → (fun j => dl.getD j 0) (i + 1 - 5 + u' - 1) < (fun j => dl.getD j 0) (i + 1 - 5 + u'))) (fun p _ => ((i : Int) + 1 - intOf p).toNat)
  case atStart => exact ⟨0, i - 4, by omega, by go_num, by omega, Below.refl _ _, fun u' h => absurd h (Nat.not_lt_zero _)⟩
  case round =>
    obtain ⟨u, q, hu, rfl, hR⟩ := hrel
    have hq := hR.out.1
    by_cases hlt : u < 5
    · have b2 : (q : Int) ≤ (i : Int) := by omega
      obtain ⟨r, hr⟩ : ∃ r : Nat, r = q - 1 := ⟨_, rfl⟩
      have d0 := HW.out wr hR.out.2.1 q (by omega)
      have d1 := HW.out wr hR.out.2.1 r (by omega)
      obtain ⟨x, hx⟩ : ∃ x, x = dl.getD q 0 := ⟨_, rfl⟩
      obtain ⟨y, hy⟩ : ∃ x, x = dl.getD r 0 := ⟨_, rfl⟩
      rw [← hx] at d0
      rw [← hy] at d1
      have e6 : IntKind.i64.wrap ((q : Int) - 1) = (r : Int) := by rw [IntKind.wrap_i64]; omega
      have b3 : (0 : Int) ≤ (q : Int) := by omega
      have b4 : (q : Int) < (n : Int) := by omega
      have b5 : (0 : Int) ≤ (r : Int) := by omega
      have b6 : (r : Int) < (n : Int) := by omega
      have HXY : Hid (x = dl.getD (i + 1 - 5 + u) 0 ∧ y = dl.getD (i + 1 - 5 + u - 1) 0) := ⟨by rw [hx, hq]; congr 1 <;> omega, by rw [hy, hr, hq]; congr 1 <;> omega⟩
      have HBW : Hid (Below w.heap.size w wr) := hR.out.2.1
      have HQ : Hid (q = i - 4 + u ∧ ∀ u', u' < u → (fun j => dl.getD j 0) (i + 1 - 5 + u' - 1) < (fun j => dl.getD j 0) (i + 1 - 5 + u')) := ⟨hq, hR.out.2.2⟩
      clear hx hy hr hR
      by_cases hc : x ≤ y
      · have HE : Hid (C = false) := by
          unfold Hid; rw [H.out.2.2.1]; show ris (fun j => dl.getD j 0) 5 i = false
          cases hr : ris (fun j => dl.getD j 0) 5 i
          · rfl
          · exfalso
            have h9 := (ris_iff.1 hr).2 u hlt
            have h10 := HXY.out; simp only at h9; rw [← h10.1, ← h10.2] at h9; omega
        clear HQ HXY hq
        have hdc : decide (x ≤ y) = true := decide_eq_true hc
        go_wp2
        go_quiet (fail)
        go_wp2
        go_returns
        exact ⟨by rw [HE.out]; rfl, below_drewN HBW.out _⟩
      · have HN : Hid (q + 1 = i - 4 + (u + 1) ∧ ∀ u', u' < u + 1 → (fun j => dl.getD j 0) (i + 1 - 5 + u' - 1) < (fun j => dl.getD j 0) (i + 1 - 5 + u')) := by
          refine ⟨by have := HQ.out.1; omega, fun u' hu' => ?_⟩
          rcases (by omega : u' < u ∨ u' = u) with h9 | h9
          · exact HQ.out.2 u' h9
          · rw [h9]; have h10 := HXY.out; simp only; rw [← h10.1, ← h10.2]; omega
        clear HQ HXY hq
        have hdc : decide (x ≤ y) = false := decide_eq_false hc
        go_wp2
        go_quiet (fail)
        go_wp2
        go_roundw
        case rel => exact ⟨u + 1, q + 1, by omega, by go_num, HN.out.1, below_drewN HBW.out _, HN.out.2⟩
        case measure => simp [intOf]; omega
    · have HE : Hid (C = true ∧ Below w.heap.size w wr) := by
        refine ⟨?_, hR.out.2.1⟩
        rw [H.out.2.2.1]
        exact ris_iff.2 ⟨by omega, fun u' hu' => hR.out.2.2 u' (by omega)⟩
      have b2 : ¬ (q : Int) ≤ (i : Int) := by omega
      clear hR hq
      go_wp2
      go_returns
      exact ⟨by rw [HE.out.1]; rfl, HE.out.2⟩

set_option maxRecDepth 10000 in
set_option maxHeartbeats 6400000 in
theorem spec_u5 (sg : Int) (i : Nat) {w : World} {v : Value} {dl : List Int} (hs : 1 ≤ sg ∧ sg ≤ 100000) (hi0 : i < dl.length) (hn : dl.length ≤ 1000) (h : RdI w v dl) :
    Calls Tryd.prog 16 #[.int .i64 6, v, .int .i64 i, .int .i64 sg] w fun e w' => e = .returned (.bool (upB (fun j => dl.getD j 0) sg i 5)) ∧ Below w.heap.size w w' := by
  obtain ⟨g, o, c, rfl, hg, hj⟩ := h.ri (by omega)
  obtain ⟨n, hnn⟩ : ∃ n, n = dl.length := ⟨_, rfl⟩
  obtain ⟨C, hC⟩ : ∃ C : Bool, C = upB (fun j => dl.getD j 0) sg i 5 := ⟨_, rfl⟩
  rw [← hC]
  have H : Hid ((∀ j, j < dl.length → w.cell? ⟨g, o + j, none⟩ = some (.int .i64 (dl.getD j 0))) ∧ n = dl.length ∧ C = upB (fun j => dl.getD j 0) sg i 5 ∧ RdI w (.slice (some ⟨g, o, none⟩) n c) dl ∧ g < w.heap.size) := ⟨hj, hnn, hC, by rw [hnn]; exact h, hg⟩
  rw [← hnn] at hi0 hn ⊢
  clear h hj hC hnn
  have c0 := H.out.1 i (by rw [← H.out.2.1]; omega)
  obtain ⟨x, hx⟩ : ∃ x, x = dl.getD i 0 := ⟨_, rfl⟩
  rw [← hx] at c0
  have b0 : (0 : Int) ≤ (i : Int) := by omega
  have b1 : (i : Int) < (n : Int) := by omega
  have e3 : IntKind.i64.wrap (3 * sg) = 3 * sg := by rw [IntKind.wrap_i64]; omega
  have e2 : IntKind.i64.wrap (2 * sg) = 2 * sg := by rw [IntKind.wrap_i64]; omega
  clear hx c0
  by_cases hs0 : (i : Int) < 13
  · have HE : Hid (C = false) := by
      unfold Hid; rw [H.out.2.2.1]; show zig (fun j => dl.getD j 0) 13 i = false
      cases hr : zig (fun j => dl.getD j 0) 13 i
      · rfl
      · have h9 := zig_iff.1 hr; have := h9.1; omega
    clear H
    go_enter Tryd.func16, Tryd.ntmps16
    go_wp2
    go_returns
    exact ⟨by rw [HE.out]; rfl, Below.refl _ _⟩
  have HW : Hid (∀ W : World, Below w.heap.size w W → ∀ p, p < n → W.cell? ⟨g, o + p, none⟩ = some (.int .i64 (dl.getD p 0))) := fun W hW p hp => by
    have h1 := H.out.1 p (by rw [← H.out.2.1]; exact hp)
    have h2 := hW.block g H.out.2.2.2.2
    simp only [World.cell?] at h1 ⊢
    rw [h2]; exact h1
  have e5 : IntKind.i64.wrap ((i : Int) - 12) = (i : Int) - 12 := by rw [IntKind.wrap_i64]; omega
  go_enter Tryd.func16, Tryd.ntmps16
  go_wp2
  go_loopw [10] (fun p wr => ∃ (u q : Nat), u ≤ 13 ∧ p = .int .i64 (q : Int) ∧ Hid (q = i - 12 + u ∧ Below w.heap.size w wr ∧ ∀ u', u' < u → ((u' % 2 = 0 → (fun j => dl.getD j 0) (i + 1 - 13 + u' - 1) < (fun j => dl.getD j 0) (i + 1 - 13 + u')) ∧ (u' % 2 ≠ 0 → (fun j => dl.getD j 0) (i + 1 - 13 + u') < (fun j => dl.getD j 0) (i + 1 - 13 + u' - 1))))) (fun p _ => ((i : Int) + 1 - intOf p).toNat)
  case atStart => exact ⟨0, i - 12, by omega, by go_num, by omega, Below.refl _ _, fun u' h => absurd h (Nat.not_lt_zero _)⟩
  case round =>
    obtain ⟨u, q, hu, rfl, hR⟩ := hrel
    have hq := hR.out.1
    by_cases hlt : u < 13
    · have b2 : (q : Int) ≤ (i : Int) := by omega
      obtain ⟨r, hr⟩ : ∃ r : Nat, r = q - 1 := ⟨_, rfl⟩
      have d0 := HW.out wr hR.out.2.1 q (by omega)
      have d1 := HW.out wr hR.out.2.1 r (by omega)
      obtain ⟨x, hx⟩ : ∃ x, x = dl.getD q 0 := ⟨_, rfl⟩
      obtain ⟨y, hy⟩ : ∃ x, x = dl.getD r 0 := ⟨_, rfl⟩
      rw [← hx] at d0
      rw [← hy] at d1
      have e6 : IntKind.i64.wrap ((q : Int) - 1) = (r : Int) := by rw [IntKind.wrap_i64]; omega
      have b3 : (0 : Int) ≤ (q : Int) := by omega
      have b4 : (q : Int) < (n : Int) := by omega
      have b5 : (0 : Int) ≤ (r : Int) := by omega
      have b6 : (r : Int) < (n : Int) := by omega
      have HXY : Hid (x = dl.getD (i + 1 - 13 + u) 0 ∧ y = dl.getD (i + 1 - 13 + u - 1) 0) := ⟨by rw [hx, hq]; congr 1 <;> omega, by rw [hy, hr, hq]; congr 1 <;> omega⟩
      have HBW : Hid (Below w.heap.size w wr) := hR.out.2.1
      have HQ : Hid (q = i - 12 + u ∧ ∀ u', u' < u → ((u' % 2 = 0 → (fun j => dl.getD j 0) (i + 1 - 13 + u' - 1) < (fun j => dl.getD j 0) (i + 1 - 13 + u')) ∧ (u' % 2 ≠ 0 → (fun j => dl.getD j 0) (i + 1 - 13 + u') < (fun j => dl.getD j 0) (i + 1 - 13 + u' - 1)))) := ⟨hq, hR.out.2.2⟩
      clear hx hy hr hR
      obtain ⟨X, hX⟩ : ∃ X : Int, X = (q : Int) - (i : Int) := ⟨_, rfl⟩
      have e7 : IntKind.i64.wrap ((q : Int) - (i : Int)) = X := by rw [← hX, IntKind.wrap_i64]; omega
      have hXu : X = (u : Int) - 12 := by omega
      by_cases h2 : u % 2 = 0
      · have hmm : Int.tmod X 2 = 0 := Int.tmod_eq_zero_of_dvd (by omega)
        have hm1 : (Int.tmod X 2 == 0) = true := by rw [hmm]; rfl
        clear hX hXu
        by_cases hc : x ≤ y
        · have HE : Hid (C = false) := by
            unfold Hid; rw [H.out.2.2.1]; show zig (fun j => dl.getD j 0) 13 i = false
            cases hr : zig (fun j => dl.getD j 0) 13 i
            · rfl
            · exfalso
              have h9 := (zig_iff.1 hr).2 u hlt
              have h10 := HXY.out; have h11 := h9.1 h2; simp only at h11; rw [← h10.1, ← h10.2] at h11; omega
          clear HQ HXY hq h2
          have hdc : decide (x ≤ y) = true := decide_eq_true hc
          go_wp2
          go_quiet (fail)
          go_wp2
          go_returns
          exact ⟨by rw [HE.out]; rfl, below_drewN HBW.out _⟩
        · have HN : Hid (q + 1 = i - 12 + (u + 1) ∧ ∀ u', u' < u + 1 → ((u' % 2 = 0 → (fun j => dl.getD j 0) (i + 1 - 13 + u' - 1) < (fun j => dl.getD j 0) (i + 1 - 13 + u')) ∧ (u' % 2 ≠ 0 → (fun j => dl.getD j 0) (i + 1 - 13 + u') < (fun j => dl.getD j 0) (i + 1 - 13 + u' - 1)))) := by
            refine ⟨by have := HQ.out.1; omega, fun u' hu' => ?_⟩
            rcases (by omega : u' < u ∨ u' = u) with h9 | h9
            · exact HQ.out.2 u' h9
            · rw [h9]; have h10 := HXY.out; refine ⟨fun _ => ?_, fun h12 => absurd h2 h12⟩; simp only; rw [← h10.1, ← h10.2]; omega
          clear HQ HXY hq h2
          have hdc : decide (x ≤ y) = false := decide_eq_false hc
          go_wp2
          go_quiet (fail)
          go_wp2
          go_roundw
          case rel => exact ⟨u + 1, q + 1, by omega, by go_num, HN.out.1, below_drewN HBW.out _, HN.out.2⟩
          case measure => simp [intOf]; omega
      · have hmm : ¬ Int.tmod X 2 = 0 := fun h9 => by have := Int.dvd_of_tmod_eq_zero h9; omega
        have hm1 : (Int.tmod X 2 == 0) = false := by simpa using hmm
        clear hX hXu hmm
        by_cases hc : y ≤ x
        · have HE : Hid (C = false) := by
            unfold Hid; rw [H.out.2.2.1]; show zig (fun j => dl.getD j 0) 13 i = false
            cases hr : zig (fun j => dl.getD j 0) 13 i
            · rfl
            · exfalso
              have h9 := (zig_iff.1 hr).2 u hlt
              have h10 := HXY.out; have h11 := h9.2 h2; simp only at h11; rw [← h10.1, ← h10.2] at h11; omega
          clear HQ HXY hq h2
          have hdc : decide (y ≤ x) = true := decide_eq_true hc
          go_wp2
          go_quiet (fail)
          go_wp2
          go_returns
          exact ⟨by rw [HE.out]; rfl, below_drewN HBW.out _⟩
        · have HN : Hid (q + 1 = i - 12 + (u + 1) ∧ ∀ u', u' < u + 1 → ((u' % 2 = 0 → (fun j => dl.getD j 0) (i + 1 - 13 + u' - 1) < (fun j => dl.getD j 0) (i + 1 - 13 + u')) ∧ (u' % 2 ≠ 0 → (fun j => dl.getD j 0) (i + 1 - 13 + u') < (fun j => dl.getD j 0) (i + 1 - 13 + u' - 1)))) := by
            refine ⟨by have := HQ.out.1; omega, fun u' hu' => ?_⟩
            rcases (by omega : u' < u ∨ u' = u) with h9 | h9
            · exact HQ.out.2 u' h9
            · rw [h9]; have h10 := HXY.out; refine ⟨fun h12 => absurd h12 h2, fun _ => ?_⟩; simp only; rw [← h10.1, ← h10.2]; omega
          clear HQ HXY hq h2
          have hdc : decide (y ≤ x) = false := decide_eq_false hc
          go_wp2
          go_quiet (fail)
          go_wp2
          go_roundw
          case rel => exact ⟨u + 1, q + 1, by omega, by go_num, HN.out.1, below_drewN HBW.out _, HN.out.2⟩
          case measure => simp [intOf]; omega
    · have HE : Hid (C = true ∧ Below w.heap.size w wr) := by
        refine ⟨?_, hR.out.2.1⟩
        rw [H.out.2.2.1]
        exact zig_iff.2 ⟨by omega, fun u' hu' => hR.out.2.2 u' (by omega)⟩
      have b2 : ¬ (q : Int) ≤ (i : Int) := by omega
      clear hR hq
      go_wp2
      go_returns
      exact ⟨by rw [HE.out.1]; rfl, HE.out.2⟩


end Go.Proofs.YtcdpaokmjoklcaaDoor
