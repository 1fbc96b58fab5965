/- Proved here: a box within a grid (liesWithin), and a box whose places are all good (allGood), of the program. -/
import Derived.Test.YthmddnachancfabWkM
import Derived.Test.YthmddnachancfabWnE
namespace Go.Proofs.Ythmddnachancfab
open Go.RowKit
set_option linter.unusedVariables false
set_option linter.unusedSimpArgs false

set_option maxRecDepth 10000 in
set_option maxHeartbeats 6400000 in
theorem impl_within (x0 y0 x1 y1 : Int) (W n : Nat) (hW : W ≤ 1048576) (hn : n ≤ 1048576) (w : World) :
    Calls Try.prog 29 #[.agg #[.int .i64 x0, .int .i64 y0, .int .i64 x1, .int .i64 y1], .agg #[.int .i64 W, .int .i64 n]] w fun e w' => e = .returned (.bool (decide (0 ≤ x0 ∧ x0 < x1 ∧ x1 ≤ (W : Int) ∧ 0 ≤ y0 ∧ y0 < y1 ∧ y1 ≤ (n : Int)))) ∧ Below w.heap.size w w' := by
  obtain ⟨r, hr⟩ : ∃ r, r = decide (0 ≤ x0 ∧ x0 < x1 ∧ x1 ≤ (W : Int) ∧ 0 ≤ y0 ∧ y0 < y1 ∧ y1 ≤ (n : Int)) := ⟨_, rfl⟩
  rw [← hr]
  have HR : Hid ((¬ (0 ≤ x0 ∧ x0 < x1 ∧ x1 ≤ (W : Int) ∧ 0 ≤ y0 ∧ y0 < y1 ∧ y1 ≤ (n : Int)) → r = false) ∧ ((0 ≤ x0 ∧ x0 < x1 ∧ x1 ≤ (W : Int) ∧ 0 ≤ y0 ∧ y0 < y1 ∧ y1 ≤ (n : Int)) → r = true)) := ⟨fun h => by rw [hr]; exact decide_eq_false h, fun h => by rw [hr]; exact decide_eq_true h⟩
  clear hr
  by_cases h1 : 0 ≤ x0
  case neg =>
    obtain rfl := HR.out.1 (fun e => h1 e.1)
    go_enter Try.func29, Try.ntmps29
    go_wp2
    go_returns
    exact ⟨rfl, by (repeat' (first | (with_reducible exact Below.refl _ _) | (with_reducible assumption) | (with_reducible refine Below.setCell ?_ ?_ _) | (with_reducible refine Below.alloc ?_ ?_ _) | (with_reducible refine below_drewN ?_ _) | (with_reducible refine Below.drew ?_) | (with_reducible exact Nat.le_refl _) | omega | (simp; done) | (simp; omega)))⟩
  by_cases h2 : x0 < x1
  case neg =>
    obtain rfl := HR.out.1 (fun e => h2 e.2.1)
    go_enter Try.func29, Try.ntmps29
    go_wp2
    go_returns
    exact ⟨rfl, by (repeat' (first | (with_reducible exact Below.refl _ _) | (with_reducible assumption) | (with_reducible refine Below.setCell ?_ ?_ _) | (with_reducible refine Below.alloc ?_ ?_ _) | (with_reducible refine below_drewN ?_ _) | (with_reducible refine Below.drew ?_) | (with_reducible exact Nat.le_refl _) | omega | (simp; done) | (simp; omega)))⟩
  by_cases h3 : x1 ≤ (W : Int)
  case neg =>
    obtain rfl := HR.out.1 (fun e => h3 e.2.2.1)
    go_enter Try.func29, Try.ntmps29
    go_wp2
    go_returns
    exact ⟨rfl, by (repeat' (first | (with_reducible exact Below.refl _ _) | (with_reducible assumption) | (with_reducible refine Below.setCell ?_ ?_ _) | (with_reducible refine Below.alloc ?_ ?_ _) | (with_reducible refine below_drewN ?_ _) | (with_reducible refine Below.drew ?_) | (with_reducible exact Nat.le_refl _) | omega | (simp; done) | (simp; omega)))⟩
  by_cases h4 : 0 ≤ y0
  case neg =>
    obtain rfl := HR.out.1 (fun e => h4 e.2.2.2.1)
    go_enter Try.func29, Try.ntmps29
    go_wp2
    go_returns
    exact ⟨rfl, by (repeat' (first | (with_reducible exact Below.refl _ _) | (with_reducible assumption) | (with_reducible refine Below.setCell ?_ ?_ _) | (with_reducible refine Below.alloc ?_ ?_ _) | (with_reducible refine below_drewN ?_ _) | (with_reducible refine Below.drew ?_) | (with_reducible exact Nat.le_refl _) | omega | (simp; done) | (simp; omega)))⟩
  by_cases h5 : y0 < y1
  case neg =>
    obtain rfl := HR.out.1 (fun e => h5 e.2.2.2.2.1)
    go_enter Try.func29, Try.ntmps29
    go_wp2
    go_returns
    exact ⟨rfl, by (repeat' (first | (with_reducible exact Below.refl _ _) | (with_reducible assumption) | (with_reducible refine Below.setCell ?_ ?_ _) | (with_reducible refine Below.alloc ?_ ?_ _) | (with_reducible refine below_drewN ?_ _) | (with_reducible refine Below.drew ?_) | (with_reducible exact Nat.le_refl _) | omega | (simp; done) | (simp; omega)))⟩
  by_cases h6 : y1 ≤ (n : Int)
  case neg =>
    obtain rfl := HR.out.1 (fun e => h6 e.2.2.2.2.2)
    go_enter Try.func29, Try.ntmps29
    go_wp2
    go_returns
    exact ⟨rfl, by (repeat' (first | (with_reducible exact Below.refl _ _) | (with_reducible assumption) | (with_reducible refine Below.setCell ?_ ?_ _) | (with_reducible refine Below.alloc ?_ ?_ _) | (with_reducible refine below_drewN ?_ _) | (with_reducible refine Below.drew ?_) | (with_reducible exact Nat.le_refl _) | omega | (simp; done) | (simp; omega)))⟩
  obtain rfl := HR.out.2 ⟨h1, h2, h3, h4, h5, h6⟩
  go_enter Try.func29, Try.ntmps29
  go_wp2
  go_returns
  exact ⟨rfl, by (repeat' (first | (with_reducible exact Below.refl _ _) | (with_reducible assumption) | (with_reducible refine Below.setCell ?_ ?_ _) | (with_reducible refine Below.alloc ?_ ?_ _) | (with_reducible refine below_drewN ?_ _) | (with_reducible refine Below.drew ?_) | (with_reducible exact Nat.le_refl _) | omega | (simp; done) | (simp; omega)))⟩

end Go.Proofs.Ythmddnachancfab
