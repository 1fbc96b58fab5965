/- Proved here: a step of a talk, of the model: tkN. -/
import Derived.Test.YtejpjbihdclngaaTkM
import Derived.Deep.Cut
namespace Go.Proofs.Ytejpjbihdclngaa
open Go.RowKit
set_option linter.unusedVariables false
set_option linter.unusedSimpArgs false

set_option maxHeartbeats 6400000 in
theorem spec_tk (p t q e : Int) (ht : -9223372036854775808 ≤ t) (hq : -9223372036854775808 ≤ q) (w : World) :
    Calls Try.prog 33 #[.agg #[.int .i64 p, .int .i64 t, .int .i64 q], .int .i64 e] w fun r w' => r = .returned (.agg #[.int .i64 (tkN ⟨p, t, q⟩ e).1.p, .int .i64 (tkN ⟨p, t, q⟩ e).1.t, .int .i64 (tkN ⟨p, t, q⟩ e).1.w, .bool (tkN ⟨p, t, q⟩ e).2]) ∧ Below w.heap.size w w' := by
  by_cases h0 : p = 0
  case pos =>
    subst h0
    by_cases h1 : e = 1
    · subst h1
      go_enter Try.func33, Try.ntmps33
      go_wp2
      go_returns
      exact ⟨by rw [tkN_0 ⟨rfl, rfl⟩]; try rfl, by (repeat' (first | (with_reducible exact Below.refl _ _) | (with_reducible assumption) | (with_reducible refine Below.setCell ?_ ?_ _) | (with_reducible refine Below.alloc ?_ ?_ _) | (with_reducible refine below_drewN ?_ _) | (with_reducible refine Below.drew ?_) | (with_reducible exact Nat.le_refl _) | omega | (simp; done) | (simp; omega)))⟩
    · go_enter Try.func33, Try.ntmps33
      go_wp2
      go_returns
      exact ⟨by rw [tkN_1 (by omega) (by decide)]; try rfl, by (repeat' (first | (with_reducible exact Below.refl _ _) | (with_reducible assumption) | (with_reducible refine Below.setCell ?_ ?_ _) | (with_reducible refine Below.alloc ?_ ?_ _) | (with_reducible refine below_drewN ?_ _) | (with_reducible refine Below.drew ?_) | (with_reducible exact Nat.le_refl _) | omega | (simp; done) | (simp; omega)))⟩
  by_cases h1 : p = 1
  case neg =>
    go_enter Try.func33, Try.ntmps33
    go_wp2
    go_returns
    exact ⟨by rw [tkN_1 (by omega) h1]; try rfl, by (repeat' (first | (with_reducible exact Below.refl _ _) | (with_reducible assumption) | (with_reducible refine Below.setCell ?_ ?_ _) | (with_reducible refine Below.alloc ?_ ?_ _) | (with_reducible refine below_drewN ?_ _) | (with_reducible refine Below.drew ?_) | (with_reducible exact Nat.le_refl _) | omega | (simp; done) | (simp; omega)))⟩
  subst h1
  clear h0
  by_cases h2 : e = 2
  · subst h2
    go_enter Try.func33, Try.ntmps33
    go_wp2
    go_returns
    exact ⟨by rw [tkN_2]; try rfl, by (repeat' (first | (with_reducible exact Below.refl _ _) | (with_reducible assumption) | (with_reducible refine Below.setCell ?_ ?_ _) | (with_reducible refine Below.alloc ?_ ?_ _) | (with_reducible refine below_drewN ?_ _) | (with_reducible refine Below.drew ?_) | (with_reducible exact Nat.le_refl _) | omega | (simp; done) | (simp; omega)))⟩
  by_cases h3 : e = 3
  · subst h3
    by_cases hh : 3 ≤ t
    · go_enter Try.func33, Try.ntmps33
      go_wp2
      go_returns
      exact ⟨by rw [tkN_3, tkA_f hh]; try rfl, by (repeat' (first | (with_reducible exact Below.refl _ _) | (with_reducible assumption) | (with_reducible refine Below.setCell ?_ ?_ _) | (with_reducible refine Below.alloc ?_ ?_ _) | (with_reducible refine below_drewN ?_ _) | (with_reducible refine Below.drew ?_) | (with_reducible exact Nat.le_refl _) | omega | (simp; done) | (simp; omega)))⟩
    · go_enter Try.func33, Try.ntmps33
      go_wp2
      go_returns
      exact ⟨by rw [tkN_3, tkA_s (by omega)]; try rfl, by (repeat' (first | (with_reducible exact Below.refl _ _) | (with_reducible assumption) | (with_reducible refine Below.setCell ?_ ?_ _) | (with_reducible refine Below.alloc ?_ ?_ _) | (with_reducible refine below_drewN ?_ _) | (with_reducible refine Below.drew ?_) | (with_reducible exact Nat.le_refl _) | omega | (simp; done) | (simp; omega)))⟩
  by_cases h4 : e = 4
  · subst h4
    by_cases h5 : q < 2
    · have hq2 : (decide (2 ≤ q)) = false := by simp; omega
      go_enter Try.func33, Try.ntmps33
      go_wp2
      go_returns
      exact ⟨by rw [tkN_4 h5]; try rfl, by (repeat' (first | (with_reducible exact Below.refl _ _) | (with_reducible assumption) | (with_reducible refine Below.setCell ?_ ?_ _) | (with_reducible refine Below.alloc ?_ ?_ _) | (with_reducible refine below_drewN ?_ _) | (with_reducible refine Below.drew ?_) | (with_reducible exact Nat.le_refl _) | omega | (simp; done) | (simp; omega)))⟩
    have hq2 : (decide (2 ≤ q)) = true := by simp; omega
    rw [tkN_5 h5]
    by_cases hh : 3 ≤ t
    · go_enter Try.func33, Try.ntmps33
      go_wp2
      go_returns
      exact ⟨by rw [tkA_f hh]; try rfl, by (repeat' (first | (with_reducible exact Below.refl _ _) | (with_reducible assumption) | (with_reducible refine Below.setCell ?_ ?_ _) | (with_reducible refine Below.alloc ?_ ?_ _) | (with_reducible refine below_drewN ?_ _) | (with_reducible refine Below.drew ?_) | (with_reducible exact Nat.le_refl _) | omega | (simp; done) | (simp; omega)))⟩
    · go_enter Try.func33, Try.ntmps33
      go_wp2
      go_returns
      exact ⟨by rw [tkA_s (by omega)]; try rfl, by (repeat' (first | (with_reducible exact Below.refl _ _) | (with_reducible assumption) | (with_reducible refine Below.setCell ?_ ?_ _) | (with_reducible refine Below.alloc ?_ ?_ _) | (with_reducible refine below_drewN ?_ _) | (with_reducible refine Below.drew ?_) | (with_reducible exact Nat.le_refl _) | omega | (simp; done) | (simp; omega)))⟩
  go_enter Try.func33, Try.ntmps33
  go_wp2
  go_returns
  exact ⟨by rw [tkN_6 h2 h3 h4]; try rfl, by (repeat' (first | (with_reducible exact Below.refl _ _) | (with_reducible assumption) | (with_reducible refine Below.setCell ?_ ?_ _) | (with_reducible refine Below.alloc ?_ ?_ _) | (with_reducible refine below_drewN ?_ _) | (with_reducible refine Below.drew ?_) | (with_reducible exact Nat.le_refl _) | omega | (simp; done) | (simp; omega)))⟩

end Go.Proofs.Ytejpjbihdclngaa
