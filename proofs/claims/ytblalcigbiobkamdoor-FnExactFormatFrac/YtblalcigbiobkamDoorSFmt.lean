/- Proved here: the model's text of a fraction, at every two numbers. -/
import Derived.Test.YtblalcigbiobkamDoorFmt
namespace Go.Proofs.YtblalcigbiobkamDoor
open Go.ChangeShapes Go.WideShapes Go.ChangeAt Go.RowKit
set_option linter.unusedVariables false
set_option linter.unusedSimpArgs false

theorem slash_size : (⟨#[47]⟩ : ByteArray).size = 1 := rfl
theorem okF_bd {n d : Int} (h : okF n d = true) : 1 ≤ d ∧ d ≤ 1000000000 ∧ -1000000000 ≤ n ∧ n ≤ 1000000000 := by
  have : inB n d = true := by
    unfold okF at h
    cases hb : inB n d with
    | true => rfl
    | false => simp [hb] at h
  have hb := inB_true this
  omega
theorem codeF_ok {n d : Int} (h : okF n d = true) : codeF n d = 0 := by simp [codeF, h]
theorem codeF_no {n d : Int} (h : okF n d = false) : codeF n d = 1 := by simp [codeF, h]
theorem cat_room (n d : Int) (h : okF n d = true) : (itoaS n).size ≤ 2000000000 ∧ (itoaS d).size ≤ 2000000000 := by
  have hb := okF_bd h
  exact ⟨itoaS_size n (by omega) (by omega), itoaS_size d (by omega) (by omega)⟩

set_option maxHeartbeats 400000 in
theorem spec_fmt_no (n d : Int) (w : World) (h : okF n d = false) :
    Calls Tryd.prog 4 #[.agg #[.int .i64 n, .int .i64 d]] w fun e w' => e = .returned (.string (fmtS n d)) ∧ Below w.heap.size w w' := by
  have HM : Hid (fmtS n d = ⟨#[]⟩) := by unfold Hid fmtS; rw [h]; rfl
  have hf : ∀ w, Calls Tryd.prog 7 #[.agg #[.int .i64 n, .int .i64 d]] w fun e w' => e = .returned (.int .i64 1) ∧ Below w.heap.size w w' := fun w => by
    have := spec_fault n d w
    rw [codeF_no h] at this
    exact this
  go_enter Tryd.func4, Tryd.ntmps4
  go_wp2_with (fail)
  refine (hf _).mono ?_
  rintro e w1 ⟨rfl, hb1⟩
  go_wp2
  go_returns
  exact ⟨by rw [HM.out]; rfl, (((Below.refl _ _).alloc (Nat.le_refl _) _).trans (hb1.mono (by simp)))⟩

set_option maxHeartbeats 400000 in
theorem spec_fmt_whole (n : Int) (w : World) (h : okF n 1 = true) :
    Calls Tryd.prog 4 #[.agg #[.int .i64 n, .int .i64 1]] w fun e w' => e = .returned (.string (fmtS n 1)) ∧ Below w.heap.size w w' := by
  have HM : Hid (fmtS n 1 = itoaS n) := by unfold Hid fmtS; rw [h]; rfl
  have hb := okF_bd h
  have hf : ∀ w, Calls Tryd.prog 7 #[.agg #[.int .i64 n, .int .i64 1]] w fun e w' => e = .returned (.int .i64 0) ∧ Below w.heap.size w w' := fun w => by
    have := spec_fault n 1 w
    rw [codeF_ok h] at this
    exact this
  go_enter Tryd.func4, Tryd.ntmps4
  go_wp2_with (fail)
  refine (hf _).mono ?_
  rintro e w1 ⟨rfl, hb1⟩
  have hc1 := (bcell hb1).1
  go_wp2_with (fail)
  refine (int_any n _ (by omega) (by omega)).mono ?_
  rintro e w2 ⟨rfl, hb2⟩
  go_wp2
  go_returns
  have hB2 := hb1.trans (hb2.mono hb1.size)
  exact ⟨by rw [HM.out]; rfl, (((Below.refl _ _).alloc (Nat.le_refl _) _).trans (hB2.mono (by simp)))⟩

set_option maxHeartbeats 800000 in
theorem spec_fmt_walk (n d : Int) (a b : ByteArray) (w : World) (h1 : ¬ d = 1) (hs1 : a.size ≤ 2000000000) (hs2 : b.size ≤ 2000000000)
    (hf : ∀ w, Calls Tryd.prog 7 #[.agg #[.int .i64 n, .int .i64 d]] w fun e w' => e = .returned (.int .i64 0) ∧ Below w.heap.size w w')
    (Hn : Hid (∀ w, Calls Tryd.prog 8 #[.int .i64 n] w fun e w' => e = .returned (.string a) ∧ Below w.heap.size w w'))
    (Hd : Hid (∀ w, Calls Tryd.prog 8 #[.int .i64 d] w fun e w' => e = .returned (.string b) ∧ Below w.heap.size w w')) :
    Calls Tryd.prog 4 #[.agg #[.int .i64 n, .int .i64 d]] w fun e w' => e = .returned (.string ((a ++ ⟨#[47]⟩) ++ b)) ∧ Below w.heap.size w w' := by
  go_enter Tryd.func4, Tryd.ntmps4
  go_wp2_with (fail)
  refine (hf _).mono ?_
  rintro e w1 ⟨rfl, hb1⟩
  have hc1 := (bcell hb1).1
  have hl1 : w.heap.size < w1.heap.size := by have := hb1.size; simp at this; omega
  go_wp2_with (fail)
  refine wp_region_float (by kernel_rfl) (fun hS => ?_)
  refine fl_take (i := 0) (d := 12) (v := .pointer (some ⟨w.heap.size, 0, none⟩)) rfl rfl rfl (by kernel_rfl) (by kernel_rfl) (by kernel_rfl) hS ?_ ?_
  · intro w' hk; go_simp <;> omega
  simp only [Act.put, List.setIfInBounds_toArray, List.set_cons_zero, List.set_cons_succ]
  refine fl_take (i := 1) (d := 13) (v := .int .i64 n) rfl rfl rfl (by kernel_rfl) (by kernel_rfl) (by kernel_rfl) hS ?_ ?_
  · intro w' hk; go_simp <;> omega
  simp only [Act.put, List.setIfInBounds_toArray, List.set_cons_zero, List.set_cons_succ]
  refine fl_take (i := 4) (d := 16) (v := .pointer (some ⟨w.heap.size, 1, none⟩)) rfl rfl rfl (by kernel_rfl) (by kernel_rfl) (by kernel_rfl) hS ?_ ?_
  · intro w' hk; go_simp <;> omega
  simp only [Act.put, List.setIfInBounds_toArray, List.set_cons_zero, List.set_cons_succ]
  refine fl_take (i := 5) (d := 17) (v := .int .i64 d) rfl rfl rfl (by kernel_rfl) (by kernel_rfl) (by kernel_rfl) hS ?_ ?_
  · intro w' hk; go_simp <;> omega
  simp only [Act.put, List.setIfInBounds_toArray, List.set_cons_zero, List.set_cons_succ]
  refine wpAnyH_all (rs := [2]) (by kernel_rfl) (by simp) ?_
  intro i hi
  obtain rfl : i = 2 := by simpa using hi
  refine op_call (d := 14) rfl rfl rfl (by go_simp) ((Hn.out _).mono ?_)
  rintro e w2 ⟨rfl, hbw2⟩
  have hS2 : KS w1 w2 := hS.call hbw2
  refine ⟨_, rfl, hS2, ?_⟩
  simp only [Act.put, List.setIfInBounds_toArray, List.set_cons_zero, List.set_cons_succ]
  refine fl_take (i := 3) (d := 15) (v := .string (a ++ ⟨#[47]⟩)) rfl rfl rfl (by kernel_rfl) (by kernel_rfl) (by kernel_rfl) hS2 ?_ ?_
  · intro w' hk; go_simp <;> omega
  simp only [Act.put, List.setIfInBounds_toArray, List.set_cons_zero, List.set_cons_succ]
  refine wpAnyH_all (rs := [6]) (by kernel_rfl) (by simp) ?_
  intro i hi
  obtain rfl : i = 6 := by simpa using hi
  refine op_call (d := 18) rfl rfl rfl (by go_simp) ((Hd.out _).mono ?_)
  rintro e w3 ⟨rfl, hbw3⟩
  have hS3 : KS w1 w3 := hS2.call hbw3
  refine ⟨_, rfl, hS3, ?_⟩
  simp only [Act.put, List.setIfInBounds_toArray, List.set_cons_zero, List.set_cons_succ]
  refine fl_take (i := 7) (d := 19) (v := .string ((a ++ ⟨#[47]⟩) ++ b)) rfl rfl rfl (by kernel_rfl) (by kernel_rfl) (by kernel_rfl) hS3 ?_ ?_
  · intro w' hk; go_simp <;> omega
  simp only [Act.put, List.setIfInBounds_toArray, List.set_cons_zero, List.set_cons_succ]
  refine fl_take (i := 8) (d := 2) (v := .string ((a ++ ⟨#[47]⟩) ++ b)) rfl rfl rfl (by kernel_rfl) (by kernel_rfl) (by kernel_rfl) hS3 ?_ ?_
  · intro w' hk; go_simp <;> omega
  simp only [Act.put, List.setIfInBounds_toArray, List.set_cons_zero, List.set_cons_succ]
  refine wpAnyH_done (by kernel_rfl) (NoPanic.normal ?_) _
  go_wp2
  go_returns
  have hB3 := hb1.trans (hS3.2.mono hb1.size)
  exact ⟨rfl, (((Below.refl _ _).alloc (Nat.le_refl _) _).trans (hB3.mono (by simp)))⟩

theorem spec_fmt_part (n d : Int) (w : World) (h : okF n d = true) (h1 : ¬ d = 1) :
    Calls Tryd.prog 4 #[.agg #[.int .i64 n, .int .i64 d]] w fun e w' => e = .returned (.string (fmtS n d)) ∧ Below w.heap.size w w' := by
  have HM : fmtS n d = (itoaS n ++ ⟨#[47]⟩) ++ itoaS d := by unfold fmtS; rw [h, if_pos rfl, if_neg h1]
  have hb := okF_bd h
  obtain ⟨hs1, hs2⟩ := cat_room n d h
  have hf : ∀ w, Calls Tryd.prog 7 #[.agg #[.int .i64 n, .int .i64 d]] w fun e w' => e = .returned (.int .i64 0) ∧ Below w.heap.size w w' := fun w => by
    have := spec_fault n d w
    rw [codeF_ok h] at this
    exact this
  rw [HM]
  exact spec_fmt_walk n d (itoaS n) (itoaS d) w h1 hs1 hs2 hf (fun w => int_any n w (by omega) (by omega)) (fun w => int_any d w (by omega) (by omega))

theorem spec_fmt (n d : Int) (w : World) :
    Calls Tryd.prog 4 #[.agg #[.int .i64 n, .int .i64 d]] w fun e w' => e = .returned (.string (fmtS n d)) ∧ Below w.heap.size w w' := by
  cases h : okF n d with
  | false => exact spec_fmt_no n d w h
  | true =>
    by_cases h1 : d = 1
    · subst h1; exact spec_fmt_whole n w h
    · exact spec_fmt_part n d w h h1

end Go.Proofs.YtblalcigbiobkamDoor
