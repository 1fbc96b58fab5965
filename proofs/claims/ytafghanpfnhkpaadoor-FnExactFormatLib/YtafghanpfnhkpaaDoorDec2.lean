/- Proved here: the model's decimal text of a number from 10 to 10 to the 9, out of that of its tenth. -/
import Derived.Test.YtafghanpfnhkpaaDoorDec
import Derived.Test.YtafghanpfnhkpaaDoorFloat
namespace Go.Proofs.YtafghanpfnhkpaaDoor
open Go.RowKit
set_option linter.unusedVariables false
set_option linter.unusedSimpArgs false

set_option maxHeartbeats 800000 in
theorem dec_more (n : Int) (w : World) (h0 : 10 ≤ n) (h1 : n ≤ 1000000000)
    (ih : Hid (∀ w, Calls Tryd.prog 35 #[.int .i64 (n / 10)] w fun e w' => e = .returned (.string (decS (n / 10).toNat)) ∧ Below w.heap.size w w')) :
    Calls Tryd.prog 35 #[.int .i64 n] w fun e w' => e = .returned (.string (decS n.toNat)) ∧ Below w.heap.size w w' := by
  have HM : Hid (decS (n / 10).toNat ++ strOfNums [48 + n % 10] = decS n.toNat) := decS_more n h0
  have hsz : ¬ 9223372036854775807 < (decS (n / 10).toNat).size + (strOfNums [48 + n % 10]).size := by
    have h2 := decS_size (n / 10).toNat
    rw [strOfNums_size]
    simp
    omega
  go_enter Tryd.func35, Tryd.ntmps35
  go_wp2
  refine wp_region_float (by kernel_rfl) (fun hS => ?_)
  refine fl_take (i := 0) (d := 10) (v := .int .i64 n) rfl rfl rfl (by kernel_rfl) (by kernel_rfl) (by kernel_rfl) hS ?_ ?_
  · intro w' hk; go_simp
  simp only [Act.put, List.setIfInBounds_toArray, List.set_cons_zero, List.set_cons_succ]
  refine fl_take (i := 1) (d := 11) (v := .int .i64 (n / 10)) rfl rfl rfl (by kernel_rfl) (by kernel_rfl) (by kernel_rfl) hS ?_ ?_
  · intro w' hk; go_simp; rw [Int.tdiv_eq_ediv_of_nonneg (by omega), IntKind.wrap_i64]; omega
  simp only [Act.put, List.setIfInBounds_toArray, List.set_cons_zero, List.set_cons_succ]
  refine fl_take (i := 3) (d := 13) (v := .int .i64 n) rfl rfl rfl (by kernel_rfl) (by kernel_rfl) (by kernel_rfl) hS ?_ ?_
  · intro w' hk; go_simp
  simp only [Act.put, List.setIfInBounds_toArray, List.set_cons_zero, List.set_cons_succ]
  refine fl_take (i := 4) (d := 14) (v := .int .i64 (n % 10)) rfl rfl rfl (by kernel_rfl) (by kernel_rfl) (by kernel_rfl) hS ?_ ?_
  · intro w' hk; go_simp; exact Int.tmod_eq_emod_of_nonneg (by omega)
  simp only [Act.put, List.setIfInBounds_toArray, List.set_cons_zero, List.set_cons_succ]
  refine fl_take (i := 5) (d := 15) (v := .int .i64 (48 + n % 10)) rfl rfl rfl (by kernel_rfl) (by kernel_rfl) (by kernel_rfl) hS ?_ ?_
  · intro w' hk; go_simp; rw [IntKind.wrap_i64]; omega
  simp only [Act.put, List.setIfInBounds_toArray, List.set_cons_zero, List.set_cons_succ]
  refine fl_take (i := 6) (d := 16) (v := .int .u8 (48 + n % 10)) rfl rfl rfl (by kernel_rfl) (by kernel_rfl) (by kernel_rfl) hS ?_ ?_
  · intro w' hk; go_simp; rw [IntKind.wrap_u8]; omega
  simp only [Act.put, List.setIfInBounds_toArray, List.set_cons_zero, List.set_cons_succ]
  refine wpAnyH_all (rs := [2, 7]) (by kernel_rfl) (by simp) ?_
  intro i hi
  rcases (by simpa using hi : i = 2 ∨ i = 7) with rfl | rfl
  · refine op_call (d := 12) rfl rfl rfl (by go_simp) ((ih.out _).mono ?_)
    rintro e w1 ⟨rfl, hb1⟩
    have hk1 : KS w w1 := hS.call hb1
    refine ⟨_, rfl, hk1, ?_⟩
    simp only [Act.put, List.setIfInBounds_toArray, List.set_cons_zero, List.set_cons_succ]
    refine wpAnyH_all (rs := [7]) (by kernel_rfl) (by simp) ?_
    intro i hi
    obtain rfl : i = 7 := by simpa using hi
    refine op_val (d := 17) (v := .slice (some ⟨w1.heap.size, 0, none⟩) 1 1) (w' := w1.alloc (.cells #[.int .u8 (48 + n % 10)] 5)) rfl rfl rfl (by go_simp; try rfl) ?_
    simp only [Act.put, List.setIfInBounds_toArray, List.set_cons_zero, List.set_cons_succ]
    have hk2 : KS w (w1.alloc (.cells #[.int .u8 (48 + n % 10)] 5)) := hk1.alloc _
    have hcv := conv_one (W := w1.alloc (.cells #[.int .u8 (48 + n % 10)] 5)) (L := w1.heap.size) (x := 48 + n % 10) (by simp)
    refine ⟨hk2, wpAnyH_all (rs := [8]) (by kernel_rfl) (by simp) ?_⟩
    intro i hi
    obtain rfl : i = 8 := by simpa using hi
    refine op_val (d := 18) (v := .string (strOfNums [48 + n % 10])) rfl rfl rfl (by go_simp; try rfl) ?_
    simp only [Act.put, List.setIfInBounds_toArray, List.set_cons_zero, List.set_cons_succ]
    refine ⟨hk2, ?_⟩
    refine wpAnyH_all (rs := [9]) (by kernel_rfl) (by simp) ?_
    intro i hi
    obtain rfl : i = 9 := by simpa using hi
    refine op_val (d := 19) (v := .string (decS (n / 10).toNat ++ strOfNums [48 + n % 10])) rfl rfl rfl (by go_simp; try rfl) ?_
    simp only [Act.put, List.setIfInBounds_toArray, List.set_cons_zero, List.set_cons_succ]
    refine ⟨hk2, wpAnyH_all (rs := [10]) (by kernel_rfl) (by simp) ?_⟩
    intro i hi
    obtain rfl : i = 10 := by simpa using hi
    refine op_val (d := 2) (v := .string (decS (n / 10).toNat ++ strOfNums [48 + n % 10])) rfl rfl rfl (by go_simp; try rfl) ?_
    simp only [Act.put, List.setIfInBounds_toArray, List.set_cons_zero, List.set_cons_succ]
    refine ⟨hk2, wpAnyH_done (by kernel_rfl) (NoPanic.normal ?_) _⟩
    go_wp2
    go_returns
    exact ⟨by rw [← HM.out]; rfl, (hk2).2⟩
  · refine op_val (d := 17) (v := .slice (some ⟨w.heap.size, 0, none⟩) 1 1) (w' := (w.alloc (.cells #[.int .u8 (48 + n % 10)] 5)).drew) rfl rfl rfl (by go_simp; try rfl) ?_
    simp only [Act.put, List.setIfInBounds_toArray, List.set_cons_zero, List.set_cons_succ]
    have hk2 : KS w (w.alloc (.cells #[.int .u8 (48 + n % 10)] 5)).drew := KS.of (((Below.refl _ _).alloc (Nat.le_refl _) _).drew)
    have hcv := conv_one (W := (w.alloc (.cells #[.int .u8 (48 + n % 10)] 5)).drew) (L := w.heap.size) (x := 48 + n % 10) (by simp)
    refine ⟨hk2, wpAnyH_all (rs := [2, 8]) (by kernel_rfl) (by simp) ?_⟩
    intro i hi
    rcases (by simpa using hi : i = 2 ∨ i = 8) with rfl | rfl
    · refine op_call (d := 12) rfl rfl rfl (by go_simp) ((ih.out _).mono ?_)
      rintro e w1 ⟨rfl, hb1⟩
      have hk3 : KS w w1 := hk2.call hb1
      have hcv3 := conv_one (W := w1) (L := w.heap.size) (x := 48 + n % 10) (by rw [hb1.cell (by simp)]; simp)
      refine ⟨_, rfl, hk3, ?_⟩
      simp only [Act.put, List.setIfInBounds_toArray, List.set_cons_zero, List.set_cons_succ]
      refine wpAnyH_all (rs := [8]) (by kernel_rfl) (by simp) ?_
      intro i hi
      obtain rfl : i = 8 := by simpa using hi
      refine op_val (d := 18) (v := .string (strOfNums [48 + n % 10])) rfl rfl rfl (by go_simp; try rfl) ?_
      simp only [Act.put, List.setIfInBounds_toArray, List.set_cons_zero, List.set_cons_succ]
      refine ⟨hk3, ?_⟩
      refine wpAnyH_all (rs := [9]) (by kernel_rfl) (by simp) ?_
      intro i hi
      obtain rfl : i = 9 := by simpa using hi
      refine op_val (d := 19) (v := .string (decS (n / 10).toNat ++ strOfNums [48 + n % 10])) rfl rfl rfl (by go_simp; try rfl) ?_
      simp only [Act.put, List.setIfInBounds_toArray, List.set_cons_zero, List.set_cons_succ]
      refine ⟨hk3, wpAnyH_all (rs := [10]) (by kernel_rfl) (by simp) ?_⟩
      intro i hi
      obtain rfl : i = 10 := by simpa using hi
      refine op_val (d := 2) (v := .string (decS (n / 10).toNat ++ strOfNums [48 + n % 10])) rfl rfl rfl (by go_simp; try rfl) ?_
      simp only [Act.put, List.setIfInBounds_toArray, List.set_cons_zero, List.set_cons_succ]
      refine ⟨hk3, wpAnyH_done (by kernel_rfl) (NoPanic.normal ?_) _⟩
      go_wp2
      go_returns
      exact ⟨by rw [← HM.out]; rfl, (hk3).2⟩
    · refine op_val (d := 18) (v := .string (strOfNums [48 + n % 10])) rfl rfl rfl (by go_simp; try rfl) ?_
      simp only [Act.put, List.setIfInBounds_toArray, List.set_cons_zero, List.set_cons_succ]
      refine ⟨hk2, wpAnyH_all (rs := [2]) (by kernel_rfl) (by simp) ?_⟩
      intro i hi
      obtain rfl : i = 2 := by simpa using hi
      refine op_call (d := 12) rfl rfl rfl (by go_simp) ((ih.out _).mono ?_)
      rintro e w1 ⟨rfl, hb1⟩
      have hk3 : KS w w1 := hk2.call hb1
      refine ⟨_, rfl, hk3, ?_⟩
      simp only [Act.put, List.setIfInBounds_toArray, List.set_cons_zero, List.set_cons_succ]
      refine wpAnyH_all (rs := [9]) (by kernel_rfl) (by simp) ?_
      intro i hi
      obtain rfl : i = 9 := by simpa using hi
      refine op_val (d := 19) (v := .string (decS (n / 10).toNat ++ strOfNums [48 + n % 10])) rfl rfl rfl (by go_simp; try rfl) ?_
      simp only [Act.put, List.setIfInBounds_toArray, List.set_cons_zero, List.set_cons_succ]
      refine ⟨hk3, wpAnyH_all (rs := [10]) (by kernel_rfl) (by simp) ?_⟩
      intro i hi
      obtain rfl : i = 10 := by simpa using hi
      refine op_val (d := 2) (v := .string (decS (n / 10).toNat ++ strOfNums [48 + n % 10])) rfl rfl rfl (by go_simp; try rfl) ?_
      simp only [Act.put, List.setIfInBounds_toArray, List.set_cons_zero, List.set_cons_succ]
      refine ⟨hk3, wpAnyH_done (by kernel_rfl) (NoPanic.normal ?_) _⟩
      go_wp2
      go_returns
      exact ⟨by rw [← HM.out]; rfl, (hk3).2⟩

/-- The model's text of every number from 0 to 10 to the 9. -/
theorem dec_any : ∀ (k : Nat) (n : Int) (w : World), n.toNat ≤ k → 0 ≤ n → n ≤ 1000000000 →
    Calls Tryd.prog 35 #[.int .i64 n] w fun e w' => e = .returned (.string (decS n.toNat)) ∧ Below w.heap.size w w'
  | 0, n, w, hk, h0, h1 => dec_one n w h0 (by omega)
  | k + 1, n, w, hk, h0, h1 => by
    by_cases h : n < 10
    · exact dec_one n w h0 h
    · exact dec_more n w (by omega) h1 (fun w => dec_any k (n / 10) w (by omega) (by omega) (by omega))

end Go.Proofs.YtafghanpfnhkpaaDoor
