/- Proved here: the program's text of a value, where the library's table of powers of ten is as it was laid. -/
import Derived.Test.YtnljomeacnjmmaaDoorXvM
import Derived.Test.YtnljomeacnjmmaaDoorItoI
namespace Go.Proofs.YtnljomeacnjmmaaDoor
open Go.ChangeShapes Go.WideShapes Go.ChangeAt Go.RowKit Go.Joins
set_option linter.unusedVariables false
set_option linter.unusedSimpArgs false

set_option maxRecDepth 10000 in
set_option maxHeartbeats 1600000 in
theorem impl_vt_one (n : Int) (s : ByteArray) (w : World) (ht : Hid (Tab w)) :
    Calls Tryd.prog 34 #[.agg #[.int .i64 1, .int .i64 n, .string s]] w fun e w' => e = .returned (.string (vtS ⟨1, n, s⟩)) ∧ Below w.heap.size w w' := by
  by_cases hs : s = ⟨#[]⟩
  · subst hs
    by_cases hn : -1000000 ≤ n ∧ n ≤ 1000000
    · have HK : Hid (vtS ⟨1, n, ⟨#[]⟩⟩ = itoaS n) := vtS_num hn
      have ho := fun w => impl_ins n (-1000000) 1000000 w
      rw [insB_yes hn] at ho
      have hi := fun w => fun ht : Tab w => fi_any n w (by omega) (by omega) ht
      go_enter Tryd.func34, Tryd.ntmps34
      go_wp2_with (first | (go_at_call 52; refine (ho _).mono ?_; rintro e w1 ⟨rfl, rfl⟩) | (go_at_call 59; refine (hi _ (ht.out.step (by (repeat' (first | (with_reducible exact Below.refl _ _) | (with_reducible assumption) | (with_reducible refine Below.setCell ?_ ?_ _) | (with_reducible refine Below.alloc ?_ ?_ _) | (with_reducible refine below_drewN ?_ _) | (with_reducible refine Below.drew ?_) | (with_reducible exact Nat.le_refl _) | omega | (simp; done) | (simp; omega)))))).mono ?_; rintro e w2 ⟨rfl, hb2⟩))
      go_returns
      exact ⟨by rw [HK.out]; rfl, Below.trans (by (repeat' (first | (with_reducible exact Below.refl _ _) | (with_reducible assumption) | (with_reducible refine Below.setCell ?_ ?_ _) | (with_reducible refine Below.alloc ?_ ?_ _) | (with_reducible refine below_drewN ?_ _) | (with_reducible refine Below.drew ?_) | (with_reducible exact Nat.le_refl _) | omega | (simp; done) | (simp; omega)))) (hb2.mono (by simp))⟩
    · have HK : Hid (vtS ⟨1, n, ⟨#[]⟩⟩ = ⟨#[]⟩) := vtS_num_no (fun h => hn h.2)
      have ho := fun w => impl_ins n (-1000000) 1000000 w
      rw [insB_no hn] at ho
      go_enter Tryd.func34, Tryd.ntmps34
      go_wp2_with (first | (go_at_call 52; refine (ho _).mono ?_; rintro e w1 ⟨rfl, rfl⟩))
      go_returns
      exact ⟨by rw [HK.out]; rfl, by (repeat' (first | (with_reducible exact Below.refl _ _) | (with_reducible assumption) | (with_reducible refine Below.setCell ?_ ?_ _) | (with_reducible refine Below.alloc ?_ ?_ _) | (with_reducible refine below_drewN ?_ _) | (with_reducible refine Below.drew ?_) | (with_reducible exact Nat.le_refl _) | omega | (simp; done) | (simp; omega)))⟩
  · have HK : Hid (vtS ⟨1, n, s⟩ = ⟨#[]⟩) := vtS_num_no (fun h => hs h.1)
    obtain ⟨q, q0⟩ := ne_empty hs
    clear hs
    go_enter Tryd.func34, Tryd.ntmps34
    go_wp2
    go_returns
    exact ⟨by rw [HK.out]; rfl, by (repeat' (first | (with_reducible exact Below.refl _ _) | (with_reducible assumption) | (with_reducible refine Below.setCell ?_ ?_ _) | (with_reducible refine Below.alloc ?_ ?_ _) | (with_reducible refine below_drewN ?_ _) | (with_reducible refine Below.drew ?_) | (with_reducible exact Nat.le_refl _) | omega | (simp; done) | (simp; omega)))⟩

set_option maxRecDepth 10000 in
set_option maxHeartbeats 1600000 in
theorem impl_vt_two (n : Int) (s : ByteArray) (w : World) (ht : Hid (Tab w)) (hs : s.size ≤ 2000000) :
    Calls Tryd.prog 34 #[.agg #[.int .i64 2, .int .i64 n, .string s]] w fun e w' => e = .returned (.string (vtS ⟨2, n, s⟩)) ∧ Below w.heap.size w w' := by
  by_cases hn : n = 0
  · subst hn
    rcases nameK_01 s with h | h
    · have HK : Hid (vtS ⟨2, 0, s⟩ = ⟨#[36]⟩ ++ s) := vtS_par h
      have ho := fun w => impl_name s w hs
      rw [h] at ho
      have hsz : ¬ 9223372036854775807 < (⟨#[36]⟩ : ByteArray).size + s.size := by
        have e : (⟨#[36]⟩ : ByteArray).size = 1 := rfl
        omega
      go_enter Tryd.func34, Tryd.ntmps34
      go_wp2_with (first | (go_at_call 30; refine (ho _).mono ?_; rintro e w1 ⟨rfl, rfl⟩))
      go_returns
      exact ⟨by rw [HK.out]; rfl, by (repeat' (first | (with_reducible exact Below.refl _ _) | (with_reducible assumption) | (with_reducible refine Below.setCell ?_ ?_ _) | (with_reducible refine Below.alloc ?_ ?_ _) | (with_reducible refine below_drewN ?_ _) | (with_reducible refine Below.drew ?_) | (with_reducible exact Nat.le_refl _) | omega | (simp; done) | (simp; omega)))⟩
    · have HK : Hid (vtS ⟨2, 0, s⟩ = ⟨#[]⟩) := vtS_par_no (fun h' => by have := h'.2; omega)
      have ho := fun w => impl_name s w hs
      rw [h] at ho
      go_enter Tryd.func34, Tryd.ntmps34
      go_wp2_with (first | (go_at_call 30; refine (ho _).mono ?_; rintro e w1 ⟨rfl, rfl⟩))
      go_returns
      exact ⟨by rw [HK.out]; rfl, by (repeat' (first | (with_reducible exact Below.refl _ _) | (with_reducible assumption) | (with_reducible refine Below.setCell ?_ ?_ _) | (with_reducible refine Below.alloc ?_ ?_ _) | (with_reducible refine below_drewN ?_ _) | (with_reducible refine Below.drew ?_) | (with_reducible exact Nat.le_refl _) | omega | (simp; done) | (simp; omega)))⟩
  · have HK : Hid (vtS ⟨2, n, s⟩ = ⟨#[]⟩) := vtS_par_no (fun h => hn h.1)
    go_enter Tryd.func34, Tryd.ntmps34
    go_wp2
    go_returns
    exact ⟨by rw [HK.out]; rfl, by (repeat' (first | (with_reducible exact Below.refl _ _) | (with_reducible assumption) | (with_reducible refine Below.setCell ?_ ?_ _) | (with_reducible refine Below.alloc ?_ ?_ _) | (with_reducible refine below_drewN ?_ _) | (with_reducible refine Below.drew ?_) | (with_reducible exact Nat.le_refl _) | omega | (simp; done) | (simp; omega)))⟩

set_option maxRecDepth 10000 in
set_option maxHeartbeats 1600000 in
theorem impl_vt (x : Vl) (w : World) (ht : Hid (Tab w)) (hs : x.s.size ≤ 2000000) :
    Calls Tryd.prog 34 #[.agg #[.int .i64 x.k, .int .i64 x.n, .string x.s]] w fun e w' => e = .returned (.string (vtS x)) ∧ Below w.heap.size w w' := by
  obtain ⟨k, n, s⟩ := x
  show Calls Tryd.prog 34 #[.agg #[.int .i64 k, .int .i64 n, .string s]] w _
  by_cases h1 : k = 1
  · subst h1; exact impl_vt_one n s w ht
  by_cases h2 : k = 2
  · subst h2; exact impl_vt_two n s w ht hs
  have HK : Hid (vtS ⟨k, n, s⟩ = ⟨#[]⟩) := vtS_none h1 h2
  clear hs
  go_enter Tryd.func34, Tryd.ntmps34
  go_wp2
  go_returns
  exact ⟨by rw [HK.out]; rfl, by (repeat' (first | (with_reducible exact Below.refl _ _) | (with_reducible assumption) | (with_reducible refine Below.setCell ?_ ?_ _) | (with_reducible refine Below.alloc ?_ ?_ _) | (with_reducible refine below_drewN ?_ _) | (with_reducible refine Below.drew ?_) | (with_reducible exact Nat.le_refl _) | omega | (simp; done) | (simp; omega)))⟩
end Go.Proofs.YtnljomeacnjmmaaDoor
