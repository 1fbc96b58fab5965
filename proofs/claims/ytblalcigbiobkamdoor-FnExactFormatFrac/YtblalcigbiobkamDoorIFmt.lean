/- Proved here: the program's text of a fraction, at every two numbers, where the library's table of powers of ten is as it was laid. -/
import Derived.Test.YtblalcigbiobkamDoorSFmt
import Derived.Test.YtblalcigbiobkamDoorShelf
import Derived.Lib.AppendIntMem
namespace Go.Proofs.YtblalcigbiobkamDoor
open Go.ChangeShapes Go.WideShapes Go.ChangeAt Go.RowKit
set_option linter.unusedVariables false
set_option linter.unusedSimpArgs false

/-- The library's table of powers of ten lies there, and in whatever world has grown out of this one. -/
def Tab (w : World) : Prop := ∀ w', Below w.heap.size w w' → Lib.TabIs Tryd.prog w' "internal/strconv.uint64pow10" .u64 Lib.pow10Tab
theorem Tab.of {w : World} (h : Lib.TabIs Tryd.prog w "internal/strconv.uint64pow10" .u64 Lib.pow10Tab) : Tab w := fun w' hb => Lib.tabBelow_of_tabIs h w' hb
theorem Tab.step {w w' : World} (h : Tab w) (hb : Below w.heap.size w w') : Tab w' := fun w'' h2 => h w'' (hb.trans (h2.mono hb.size))

theorem fi_any (n : Int) (w : World) (h0 : -1000000000 ≤ n) (h1 : n ≤ 1000000000) (ht : Tab w) :
    Calls Tryd.prog 10 #[.int .i64 n, .int .i64 10] w fun e w' => e = .returned (.string (itoaS n)) ∧ Below w.heap.size w w' := by
  refine (Tryd.strconv_FormatInt_10 n (by omega) (by omega) w (ht w (Below.refl _ _))).mono ?_
  rintro e w' ⟨rfl, k, os, rfl⟩
  exact ⟨rfl, Lib.below_grow _ w (Nat.le_refl _) k os⟩

set_option maxHeartbeats 400000 in
theorem impl_fmt_no (n d : Int) (w : World) (h : okF n d = false) :
    Calls Tryd.prog 6 #[.agg #[.int .i64 n, .int .i64 d]] w fun e w' => e = .returned (.string (fmtS n d)) ∧ Below w.heap.size w w' := by
  have HM : Hid (fmtS n d = ⟨#[]⟩) := by unfold Hid fmtS; rw [h]; rfl
  have hf : ∀ w, Calls Tryd.prog 9 #[.agg #[.int .i64 n, .int .i64 d]] w fun e w' => e = .returned (.int .i64 1) ∧ Below w.heap.size w w' := fun w => by
    have := impl_fault n d w
    rw [codeF_no h] at this
    exact this
  go_enter Tryd.func6, Tryd.ntmps6
  go_wp2_with (fail)
  refine (hf _).mono ?_
  rintro e w1 ⟨rfl, hb1⟩
  go_wp2
  go_returns
  exact ⟨by rw [HM.out]; rfl, (((Below.refl _ _).alloc (Nat.le_refl _) _).trans (hb1.mono (by simp)))⟩

set_option maxHeartbeats 400000 in
theorem impl_fmt_walk1 (n : Int) (a : ByteArray) (w : World) (ht : Hid (Tab w))
    (hf : ∀ w, Calls Tryd.prog 9 #[.agg #[.int .i64 n, .int .i64 1]] w fun e w' => e = .returned (.int .i64 0) ∧ Below w.heap.size w w')
    (Hn : Hid (∀ w, Tab w → Calls Tryd.prog 10 #[.int .i64 n, .int .i64 10] w fun e w' => e = .returned (.string a) ∧ Below w.heap.size w w')) :
    Calls Tryd.prog 6 #[.agg #[.int .i64 n, .int .i64 1]] w fun e w' => e = .returned (.string a) ∧ Below w.heap.size w w' := by
  go_enter Tryd.func6, Tryd.ntmps6
  go_wp2_with (fail)
  refine (hf _).mono ?_
  rintro e w1 ⟨rfl, hb1⟩
  have hc1 := (bcell hb1).1
  have hB1 : Hid (Below w.heap.size w w1) := ((Below.refl _ _).alloc (Nat.le_refl _) _).trans (hb1.mono (by simp))
  go_wp2_with (fail)
  refine (Hn.out _ (ht.out.step hB1.out)).mono ?_
  rintro e w2 ⟨rfl, hb2⟩
  have hB2 := hb1.trans (hb2.mono hb1.size)
  have hc2 := (bcell hB2).1
  clear hc1
  go_wp2
  go_returns
  exact ⟨rfl, hB1.out.trans (hb2.mono hB1.out.size)⟩

set_option maxHeartbeats 400000 in
theorem impl_fmt_walk2 (n d : Int) (a b : ByteArray) (w : World) (ht : Hid (Tab w)) (h1 : ¬ d = 1) (hs1 : a.size ≤ 2000000000) (hs2 : b.size ≤ 2000000000)
    (hf : ∀ w, Calls Tryd.prog 9 #[.agg #[.int .i64 n, .int .i64 d]] w fun e w' => e = .returned (.int .i64 0) ∧ Below w.heap.size w w')
    (Hn : Hid (∀ w, Tab w → Calls Tryd.prog 10 #[.int .i64 n, .int .i64 10] w fun e w' => e = .returned (.string a) ∧ Below w.heap.size w w'))
    (Hd : Hid (∀ w, Tab w → Calls Tryd.prog 10 #[.int .i64 d, .int .i64 10] w fun e w' => e = .returned (.string b) ∧ Below w.heap.size w w')) :
    Calls Tryd.prog 6 #[.agg #[.int .i64 n, .int .i64 d]] w fun e w' => e = .returned (.string ((a ++ ⟨#[47]⟩) ++ b)) ∧ Below w.heap.size w w' := by
  go_enter Tryd.func6, Tryd.ntmps6
  go_wp2_with (fail)
  refine (hf _).mono ?_
  rintro e w1 ⟨rfl, hb1⟩
  have hc1 := (bcell hb1).1
  have hB1 : Hid (Below w.heap.size w w1) := ((Below.refl _ _).alloc (Nat.le_refl _) _).trans (hb1.mono (by simp))
  go_wp2_with (fail)
  refine (Hn.out _ (ht.out.step hB1.out)).mono ?_
  rintro e w2 ⟨rfl, hb2⟩
  have hB2 : Hid (Below w.heap.size w w2) := hB1.out.trans (hb2.mono hB1.out.size)
  have hC2 := hb1.trans (hb2.mono hb1.size)
  have hc2 := (bcell hC2).1
  clear hc1
  go_wp2_with (fail)
  refine (Hd.out _ (ht.out.step hB2.out)).mono ?_
  rintro e w3 ⟨rfl, hb3⟩
  go_wp2
  go_returns
  exact ⟨rfl, hB2.out.trans (hb3.mono hB2.out.size)⟩

theorem impl_fmt (n d : Int) (w : World) (ht : Tab w) :
    Calls Tryd.prog 6 #[.agg #[.int .i64 n, .int .i64 d]] w fun e w' => e = .returned (.string (fmtS n d)) ∧ Below w.heap.size w w' := by
  cases h : okF n d with
  | false => exact impl_fmt_no n d w h
  | true =>
    have hb := okF_bd h
    obtain ⟨hs1, hs2⟩ := cat_room n d h
    have hf : ∀ w, Calls Tryd.prog 9 #[.agg #[.int .i64 n, .int .i64 d]] w fun e w' => e = .returned (.int .i64 0) ∧ Below w.heap.size w w' := fun w => by
      have := impl_fault n d w
      rw [codeF_ok h] at this
      exact this
    by_cases h1 : d = 1
    · subst h1
      have HM : fmtS n 1 = itoaS n := by unfold fmtS; rw [h]; rfl
      rw [HM]
      exact impl_fmt_walk1 n (itoaS n) w ht hf (fun w ht => fi_any n w (by omega) (by omega) ht)
    · have HM : fmtS n d = (itoaS n ++ ⟨#[47]⟩) ++ itoaS d := by unfold fmtS; rw [h, if_pos rfl, if_neg h1]
      rw [HM]
      exact impl_fmt_walk2 n d (itoaS n) (itoaS d) w ht h1 hs1 hs2 hf (fun w ht => fi_any n w (by omega) (by omega) ht) (fun w ht => fi_any d w (by omega) (by omega) ht)

end Go.Proofs.YtblalcigbiobkamDoor
