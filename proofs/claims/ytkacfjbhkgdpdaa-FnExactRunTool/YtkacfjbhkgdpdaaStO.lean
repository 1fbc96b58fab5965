/- Proved here: stateOf of the program: the type tells the state. -/
import Derived.Test.YtkacfjbhkgdpdaaTaN
namespace Go.Proofs.Ytkacfjbhkgdpdaa
open Go.RowKit
set_option linter.unusedVariables false
set_option linter.unusedSimpArgs false


set_option maxRecDepth 10000 in
set_option maxHeartbeats 1600000 in
theorem st_0 (R : ByteArray) (S U L : Int) (Q : Bool) (a : Option Addr) (n c : Nat) (w : World) :
    Calls Try.prog 35 #[.agg #[.int .i64 0, .string R, .int .i64 S, .int .i64 U, .int .i64 L, .bool Q, .slice a n c]] w fun e w' => e = .returned (.iface 93 (.agg #[.int .i64 0, .string R, .int .i64 S, .int .i64 U, .int .i64 L, .bool Q, .slice a n c])) ∧ Below w.heap.size w w' := by
  go_enter Try.func35, Try.ntmps35
  go_wp2
  go_returns
  exact ⟨rfl, by (repeat' (first | (with_reducible exact Below.refl _ _) | (with_reducible assumption) | (with_reducible refine Below.setCell ?_ ?_ _) | (with_reducible refine Below.alloc ?_ ?_ _) | (with_reducible refine below_drewN ?_ _) | (with_reducible refine Below.drew ?_) | (with_reducible exact Nat.le_refl _) | omega | (simp; done) | (simp; omega)))⟩

set_option maxRecDepth 10000 in
set_option maxHeartbeats 1600000 in
theorem st_1 (R : ByteArray) (S U L : Int) (Q : Bool) (a : Option Addr) (n c : Nat) (w : World) :
    Calls Try.prog 35 #[.agg #[.int .i64 1, .string R, .int .i64 S, .int .i64 U, .int .i64 L, .bool Q, .slice a n c]] w fun e w' => e = .returned (.iface 97 (.agg #[.int .i64 1, .string R, .int .i64 S, .int .i64 U, .int .i64 L, .bool Q, .slice a n c])) ∧ Below w.heap.size w w' := by
  go_enter Try.func35, Try.ntmps35
  go_wp2
  go_returns
  exact ⟨rfl, by (repeat' (first | (with_reducible exact Below.refl _ _) | (with_reducible assumption) | (with_reducible refine Below.setCell ?_ ?_ _) | (with_reducible refine Below.alloc ?_ ?_ _) | (with_reducible refine below_drewN ?_ _) | (with_reducible refine Below.drew ?_) | (with_reducible exact Nat.le_refl _) | omega | (simp; done) | (simp; omega)))⟩

set_option maxRecDepth 10000 in
set_option maxHeartbeats 1600000 in
theorem st_2 (R : ByteArray) (S U L : Int) (Q : Bool) (a : Option Addr) (n c : Nat) (w : World) :
    Calls Try.prog 35 #[.agg #[.int .i64 2, .string R, .int .i64 S, .int .i64 U, .int .i64 L, .bool Q, .slice a n c]] w fun e w' => e = .returned (.iface 98 (.agg #[.int .i64 2, .string R, .int .i64 S, .int .i64 U, .int .i64 L, .bool Q, .slice a n c])) ∧ Below w.heap.size w w' := by
  go_enter Try.func35, Try.ntmps35
  go_wp2
  go_returns
  exact ⟨rfl, by (repeat' (first | (with_reducible exact Below.refl _ _) | (with_reducible assumption) | (with_reducible refine Below.setCell ?_ ?_ _) | (with_reducible refine Below.alloc ?_ ?_ _) | (with_reducible refine below_drewN ?_ _) | (with_reducible refine Below.drew ?_) | (with_reducible exact Nat.le_refl _) | omega | (simp; done) | (simp; omega)))⟩

set_option maxRecDepth 10000 in
set_option maxHeartbeats 1600000 in
theorem st_3 (R : ByteArray) (S U L : Int) (Q : Bool) (a : Option Addr) (n c : Nat) (w : World) :
    Calls Try.prog 35 #[.agg #[.int .i64 3, .string R, .int .i64 S, .int .i64 U, .int .i64 L, .bool Q, .slice a n c]] w fun e w' => e = .returned (.iface 99 (.agg #[.int .i64 3, .string R, .int .i64 S, .int .i64 U, .int .i64 L, .bool Q, .slice a n c])) ∧ Below w.heap.size w w' := by
  go_enter Try.func35, Try.ntmps35
  go_wp2
  go_returns
  exact ⟨rfl, by (repeat' (first | (with_reducible exact Below.refl _ _) | (with_reducible assumption) | (with_reducible refine Below.setCell ?_ ?_ _) | (with_reducible refine Below.alloc ?_ ?_ _) | (with_reducible refine below_drewN ?_ _) | (with_reducible refine Below.drew ?_) | (with_reducible exact Nat.le_refl _) | omega | (simp; done) | (simp; omega)))⟩

set_option maxRecDepth 10000 in
set_option maxHeartbeats 1600000 in
theorem st_4 (R : ByteArray) (S U L : Int) (Q : Bool) (a : Option Addr) (n c : Nat) (w : World) :
    Calls Try.prog 35 #[.agg #[.int .i64 4, .string R, .int .i64 S, .int .i64 U, .int .i64 L, .bool Q, .slice a n c]] w fun e w' => e = .returned (.iface 100 (.agg #[.int .i64 4, .string R, .int .i64 S, .int .i64 U, .int .i64 L, .bool Q, .slice a n c])) ∧ Below w.heap.size w w' := by
  go_enter Try.func35, Try.ntmps35
  go_wp2
  go_returns
  exact ⟨rfl, by (repeat' (first | (with_reducible exact Below.refl _ _) | (with_reducible assumption) | (with_reducible refine Below.setCell ?_ ?_ _) | (with_reducible refine Below.alloc ?_ ?_ _) | (with_reducible refine below_drewN ?_ _) | (with_reducible refine Below.drew ?_) | (with_reducible exact Nat.le_refl _) | omega | (simp; done) | (simp; omega)))⟩

set_option maxRecDepth 10000 in
set_option maxHeartbeats 1600000 in
theorem st_5 (R : ByteArray) (S U L : Int) (Q : Bool) (a : Option Addr) (n c : Nat) (w : World) :
    Calls Try.prog 35 #[.agg #[.int .i64 5, .string R, .int .i64 S, .int .i64 U, .int .i64 L, .bool Q, .slice a n c]] w fun e w' => e = .returned (.iface 101 (.agg #[.int .i64 5, .string R, .int .i64 S, .int .i64 U, .int .i64 L, .bool Q, .slice a n c])) ∧ Below w.heap.size w w' := by
  go_enter Try.func35, Try.ntmps35
  go_wp2
  go_returns
  exact ⟨rfl, by (repeat' (first | (with_reducible exact Below.refl _ _) | (with_reducible assumption) | (with_reducible refine Below.setCell ?_ ?_ _) | (with_reducible refine Below.alloc ?_ ?_ _) | (with_reducible refine below_drewN ?_ _) | (with_reducible refine Below.drew ?_) | (with_reducible exact Nat.le_refl _) | omega | (simp; done) | (simp; omega)))⟩

set_option maxRecDepth 10000 in
set_option maxHeartbeats 1600000 in
theorem st_6 (R : ByteArray) (S U L : Int) (Q : Bool) (a : Option Addr) (n c : Nat) (w : World) :
    Calls Try.prog 35 #[.agg #[.int .i64 6, .string R, .int .i64 S, .int .i64 U, .int .i64 L, .bool Q, .slice a n c]] w fun e w' => e = .returned (.iface 102 (.agg #[.int .i64 6, .string R, .int .i64 S, .int .i64 U, .int .i64 L, .bool Q, .slice a n c])) ∧ Below w.heap.size w w' := by
  go_enter Try.func35, Try.ntmps35
  go_wp2
  go_returns
  exact ⟨rfl, by (repeat' (first | (with_reducible exact Below.refl _ _) | (with_reducible assumption) | (with_reducible refine Below.setCell ?_ ?_ _) | (with_reducible refine Below.alloc ?_ ?_ _) | (with_reducible refine below_drewN ?_ _) | (with_reducible refine Below.drew ?_) | (with_reducible exact Nat.le_refl _) | omega | (simp; done) | (simp; omega)))⟩

end Go.Proofs.Ytkacfjbhkgdpdaa
