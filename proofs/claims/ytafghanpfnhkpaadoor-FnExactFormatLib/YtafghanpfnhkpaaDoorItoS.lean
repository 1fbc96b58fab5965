/- Proved here: the model's text of a number from -10 to the 9 to 10 to the 9. -/
import Derived.Test.YtafghanpfnhkpaaDoorDec2
namespace Go.Proofs.YtafghanpfnhkpaaDoor
open Go.ChangeShapes Go.WideShapes Go.ChangeAt Go.RowKit
set_option linter.unusedVariables false
set_option linter.unusedSimpArgs false

/-- The letters of a number with its sign. -/
def itoaS (n : Int) : ByteArray := ⟨(Lib.itoa n).toArray⟩
theorem itoaS_pos (n : Int) (h : 0 ≤ n) : decS n.toNat = itoaS n := by
  have e := Lib.itoa_nonneg n.toNat
  rw [show ((n.toNat : Nat) : Int) = n by omega] at e
  unfold decS itoaS
  rw [e]
theorem itoaS_neg (n : Int) (h : n < 0) : (⟨#[45]⟩ : ByteArray) ++ decS (-n).toNat = itoaS n := by
  have e := Lib.itoa_neg (-n).toNat (by omega)
  rw [show -(((-n).toNat : Nat) : Int) = n by omega] at e
  unfold decS itoaS
  rw [e]
  apply ByteArray.ext
  rw [ByteArray.data_append]
  simp
theorem itoaS_size (n : Int) (h0 : -1000000000 ≤ n) (h1 : n ≤ 1000000000) : (itoaS n).size ≤ 2000000000 := by
  by_cases h : n < 0
  · rw [← itoaS_neg n h, ByteArray.size_append]
    have := decS_size (-n).toNat
    have e : (⟨#[45]⟩ : ByteArray).size = 1 := rfl
    omega
  · rw [← itoaS_pos n (by omega)]
    have := decS_size n.toNat
    omega

set_option maxHeartbeats 400000 in
theorem int_neg (n : Int) (w : World) (h0 : -1000000000 ≤ n) (h1 : n < 0) :
    Calls Tryd.prog 22 #[.int .i64 n] w fun e w' => e = .returned (.string (itoaS n)) ∧ Below w.heap.size w w' := by
  have HM : Hid ((⟨#[45]⟩ : ByteArray) ++ decS (-n).toNat = itoaS n) := itoaS_neg n h1
  have hsz : ¬ 9223372036854775807 < (⟨#[45]⟩ : ByteArray).size + (decS (-n).toNat).size := by
    have h2 := decS_size (-n).toNat
    have e : (⟨#[45]⟩ : ByteArray).size = 1 := rfl
    omega
  have hd := fun w => dec_any (-n).toNat (-n) w (Nat.le_refl _) (by omega) (by omega)
  go_enter Tryd.func22, Tryd.ntmps22
  go_wp2_with (go_at_call 35; refine (hd _).mono ?_; rintro e w1 ⟨rfl, hb1⟩)
  go_returns
  exact ⟨by rw [← HM.out]; rfl, hb1⟩

set_option maxHeartbeats 400000 in
theorem int_pos (n : Int) (w : World) (h0 : 0 ≤ n) (h1 : n ≤ 1000000000) :
    Calls Tryd.prog 22 #[.int .i64 n] w fun e w' => e = .returned (.string (itoaS n)) ∧ Below w.heap.size w w' := by
  have HM : Hid (decS n.toNat = itoaS n) := itoaS_pos n h0
  have hd := fun w => dec_any n.toNat n w (Nat.le_refl _) (by omega) (by omega)
  go_enter Tryd.func22, Tryd.ntmps22
  go_wp2_with (go_at_call 35; refine (hd _).mono ?_; rintro e w1 ⟨rfl, hb1⟩)
  go_returns
  exact ⟨by rw [← HM.out]; rfl, hb1⟩

theorem int_any (n : Int) (w : World) (h0 : -1000000000 ≤ n) (h1 : n ≤ 1000000000) :
    Calls Tryd.prog 22 #[.int .i64 n] w fun e w' => e = .returned (.string (itoaS n)) ∧ Below w.heap.size w w' := by
  by_cases h : n < 0
  · exact int_neg n w h0 h
  · exact int_pos n w (by omega) h1

end Go.Proofs.YtafghanpfnhkpaaDoor
