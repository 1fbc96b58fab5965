/- Proved here: eventOf of the program, by whether the assertion holds. -/
import Derived.Test.YtkacfjbhkgdpdaaEvF
namespace Go.Proofs.Ytkacfjbhkgdpdaa
open Go.RowKit
set_option linter.unusedVariables false
set_option linter.unusedSimpArgs false


set_option maxRecDepth 10000 in
set_option maxHeartbeats 1600000 in
theorem ev_power_y (T : TypeId) (p : Value) (h : ∀ w : World, (Instr.typeAssert (.iface T p) 66 110 true).run Try.prog w = .ok (.tuple #[.iface T p, .bool true]) w) (w : World) :
    Calls Try.prog 52 #[.iface T p, .int .i64 1] w fun e w' => e = .returned (.tuple #[.func (.method "loop.example/g00057/impl.power") #[.iface T p] #[], .int .i64 0]) ∧ w' = w := by
  go_enter Try.func52, Try.ntmps52
  go_wp2
  go_returns
  exact ⟨rfl, rfl⟩

set_option maxRecDepth 10000 in
set_option maxHeartbeats 1600000 in
theorem ev_power_n (T : TypeId) (p : Value) (h : ∀ w : World, (Instr.typeAssert (.iface T p) 66 110 true).run Try.prog w = .ok (.tuple #[.nilIface, .bool false]) w) (w : World) :
    Calls Try.prog 52 #[.iface T p, .int .i64 1] w fun e w' => e = .returned (.tuple #[.nilFunc, .int .i64 1]) ∧ w' = w := by
  go_enter Try.func52, Try.ntmps52
  go_wp2
  go_returns
  exact ⟨rfl, rfl⟩

set_option maxRecDepth 10000 in
set_option maxHeartbeats 1600000 in
theorem ev_load_y (T : TypeId) (p : Value) (h : ∀ w : World, (Instr.typeAssert (.iface T p) 66 113 true).run Try.prog w = .ok (.tuple #[.iface T p, .bool true]) w) (w : World) :
    Calls Try.prog 52 #[.iface T p, .int .i64 2] w fun e w' => e = .returned (.tuple #[.func (.method "loop.example/g00057/impl.load") #[.iface T p] #[], .int .i64 0]) ∧ w' = w := by
  go_enter Try.func52, Try.ntmps52
  go_wp2
  go_returns
  exact ⟨rfl, rfl⟩

set_option maxRecDepth 10000 in
set_option maxHeartbeats 1600000 in
theorem ev_load_n (T : TypeId) (p : Value) (h : ∀ w : World, (Instr.typeAssert (.iface T p) 66 113 true).run Try.prog w = .ok (.tuple #[.nilIface, .bool false]) w) (w : World) :
    Calls Try.prog 52 #[.iface T p, .int .i64 2] w fun e w' => e = .returned (.tuple #[.nilFunc, .int .i64 1]) ∧ w' = w := by
  go_enter Try.func52, Try.ntmps52
  go_wp2
  go_returns
  exact ⟨rfl, rfl⟩

set_option maxRecDepth 10000 in
set_option maxHeartbeats 1600000 in
theorem ev_start_y (T : TypeId) (p : Value) (h : ∀ w : World, (Instr.typeAssert (.iface T p) 66 116 true).run Try.prog w = .ok (.tuple #[.iface T p, .bool true]) w) (w : World) :
    Calls Try.prog 52 #[.iface T p, .int .i64 3] w fun e w' => e = .returned (.tuple #[.func (.method "loop.example/g00057/impl.start") #[.iface T p] #[], .int .i64 0]) ∧ w' = w := by
  go_enter Try.func52, Try.ntmps52
  go_wp2
  go_returns
  exact ⟨rfl, rfl⟩

set_option maxRecDepth 10000 in
set_option maxHeartbeats 1600000 in
theorem ev_start_n (T : TypeId) (p : Value) (h : ∀ w : World, (Instr.typeAssert (.iface T p) 66 116 true).run Try.prog w = .ok (.tuple #[.nilIface, .bool false]) w) (w : World) :
    Calls Try.prog 52 #[.iface T p, .int .i64 3] w fun e w' => e = .returned (.tuple #[.nilFunc, .int .i64 1]) ∧ w' = w := by
  go_enter Try.func52, Try.ntmps52
  go_wp2
  go_returns
  exact ⟨rfl, rfl⟩

set_option maxRecDepth 10000 in
set_option maxHeartbeats 1600000 in
theorem ev_end_y (T : TypeId) (p : Value) (h : ∀ w : World, (Instr.typeAssert (.iface T p) 66 119 true).run Try.prog w = .ok (.tuple #[.iface T p, .bool true]) w) (w : World) :
    Calls Try.prog 52 #[.iface T p, .int .i64 4] w fun e w' => e = .returned (.tuple #[.func (.method "loop.example/g00057/impl.end") #[.iface T p] #[], .int .i64 0]) ∧ w' = w := by
  go_enter Try.func52, Try.ntmps52
  go_wp2
  go_returns
  exact ⟨rfl, rfl⟩

set_option maxRecDepth 10000 in
set_option maxHeartbeats 1600000 in
theorem ev_end_n (T : TypeId) (p : Value) (h : ∀ w : World, (Instr.typeAssert (.iface T p) 66 119 true).run Try.prog w = .ok (.tuple #[.nilIface, .bool false]) w) (w : World) :
    Calls Try.prog 52 #[.iface T p, .int .i64 4] w fun e w' => e = .returned (.tuple #[.nilFunc, .int .i64 1]) ∧ w' = w := by
  go_enter Try.func52, Try.ntmps52
  go_wp2
  go_returns
  exact ⟨rfl, rfl⟩

set_option maxRecDepth 10000 in
set_option maxHeartbeats 1600000 in
theorem ev_trip_y (T : TypeId) (p : Value) (h : ∀ w : World, (Instr.typeAssert (.iface T p) 66 122 true).run Try.prog w = .ok (.tuple #[.iface T p, .bool true]) w) (w : World) :
    Calls Try.prog 52 #[.iface T p, .int .i64 5] w fun e w' => e = .returned (.tuple #[.func (.method "loop.example/g00057/impl.trip") #[.iface T p] #[], .int .i64 0]) ∧ w' = w := by
  go_enter Try.func52, Try.ntmps52
  go_wp2
  go_returns
  exact ⟨rfl, rfl⟩

set_option maxRecDepth 10000 in
set_option maxHeartbeats 1600000 in
theorem ev_trip_n (T : TypeId) (p : Value) (h : ∀ w : World, (Instr.typeAssert (.iface T p) 66 122 true).run Try.prog w = .ok (.tuple #[.nilIface, .bool false]) w) (w : World) :
    Calls Try.prog 52 #[.iface T p, .int .i64 5] w fun e w' => e = .returned (.tuple #[.nilFunc, .int .i64 1]) ∧ w' = w := by
  go_enter Try.func52, Try.ntmps52
  go_wp2
  go_returns
  exact ⟨rfl, rfl⟩

set_option maxRecDepth 10000 in
set_option maxHeartbeats 1600000 in
theorem ev_clear_y (T : TypeId) (p : Value) (h : ∀ w : World, (Instr.typeAssert (.iface T p) 66 125 true).run Try.prog w = .ok (.tuple #[.iface T p, .bool true]) w) (w : World) :
    Calls Try.prog 52 #[.iface T p, .int .i64 6] w fun e w' => e = .returned (.tuple #[.func (.method "loop.example/g00057/impl.clear") #[.iface T p] #[], .int .i64 0]) ∧ w' = w := by
  go_enter Try.func52, Try.ntmps52
  go_wp2
  go_returns
  exact ⟨rfl, rfl⟩

set_option maxRecDepth 10000 in
set_option maxHeartbeats 1600000 in
theorem ev_clear_n (T : TypeId) (p : Value) (h : ∀ w : World, (Instr.typeAssert (.iface T p) 66 125 true).run Try.prog w = .ok (.tuple #[.nilIface, .bool false]) w) (w : World) :
    Calls Try.prog 52 #[.iface T p, .int .i64 6] w fun e w' => e = .returned (.tuple #[.nilFunc, .int .i64 1]) ∧ w' = w := by
  go_enter Try.func52, Try.ntmps52
  go_wp2
  go_returns
  exact ⟨rfl, rfl⟩

set_option maxRecDepth 10000 in
set_option maxHeartbeats 1600000 in
theorem ev_service_y (T : TypeId) (p : Value) (h : ∀ w : World, (Instr.typeAssert (.iface T p) 66 128 true).run Try.prog w = .ok (.tuple #[.iface T p, .bool true]) w) (w : World) :
    Calls Try.prog 52 #[.iface T p, .int .i64 7] w fun e w' => e = .returned (.tuple #[.func (.method "loop.example/g00057/impl.service") #[.iface T p] #[], .int .i64 0]) ∧ w' = w := by
  go_enter Try.func52, Try.ntmps52
  go_wp2
  go_returns
  exact ⟨rfl, rfl⟩

set_option maxRecDepth 10000 in
set_option maxHeartbeats 1600000 in
theorem ev_service_n (T : TypeId) (p : Value) (h : ∀ w : World, (Instr.typeAssert (.iface T p) 66 128 true).run Try.prog w = .ok (.tuple #[.nilIface, .bool false]) w) (w : World) :
    Calls Try.prog 52 #[.iface T p, .int .i64 7] w fun e w' => e = .returned (.tuple #[.nilFunc, .int .i64 1]) ∧ w' = w := by
  go_enter Try.func52, Try.ntmps52
  go_wp2
  go_returns
  exact ⟨rfl, rfl⟩

set_option maxRecDepth 10000 in
set_option maxHeartbeats 1600000 in
theorem ev_qualify_y (T : TypeId) (p : Value) (h : ∀ w : World, (Instr.typeAssert (.iface T p) 66 131 true).run Try.prog w = .ok (.tuple #[.iface T p, .bool true]) w) (w : World) :
    Calls Try.prog 52 #[.iface T p, .int .i64 8] w fun e w' => e = .returned (.tuple #[.func (.method "loop.example/g00057/impl.qualify") #[.iface T p] #[], .int .i64 0]) ∧ w' = w := by
  go_enter Try.func52, Try.ntmps52
  go_wp2
  go_returns
  exact ⟨rfl, rfl⟩

set_option maxRecDepth 10000 in
set_option maxHeartbeats 1600000 in
theorem ev_qualify_n (T : TypeId) (p : Value) (h : ∀ w : World, (Instr.typeAssert (.iface T p) 66 131 true).run Try.prog w = .ok (.tuple #[.nilIface, .bool false]) w) (w : World) :
    Calls Try.prog 52 #[.iface T p, .int .i64 8] w fun e w' => e = .returned (.tuple #[.nilFunc, .int .i64 1]) ∧ w' = w := by
  go_enter Try.func52, Try.ntmps52
  go_wp2
  go_returns
  exact ⟨rfl, rfl⟩

set_option maxRecDepth 10000 in
set_option maxHeartbeats 1600000 in
theorem ev_fail (T : TypeId) (p : Value) (w : World) :
    Calls Try.prog 52 #[.iface T p, .int .i64 9] w fun e w' => e = .returned (.tuple #[.func (.method "loop.example/g00057/impl.fail") #[.iface T p] #[], .int .i64 0]) ∧ w' = w := by
  go_enter Try.func52, Try.ntmps52
  go_wp2
  go_returns
  exact ⟨rfl, rfl⟩

set_option maxRecDepth 10000 in
set_option maxHeartbeats 1600000 in
theorem ev_none (T : TypeId) (p : Value) (k : Int) (hk : ¬ (1 ≤ k ∧ k ≤ 9)) (w : World) :
    Calls Try.prog 52 #[.iface T p, .int .i64 k] w fun e w' => e = .returned (.tuple #[.nilFunc, .int .i64 5]) ∧ w' = w := by
  have k1 : ¬ k = 1 := by omega
  have k2 : ¬ k = 2 := by omega
  have k3 : ¬ k = 3 := by omega
  have k4 : ¬ k = 4 := by omega
  have k5 : ¬ k = 5 := by omega
  have k6 : ¬ k = 6 := by omega
  have k7 : ¬ k = 7 := by omega
  have k8 : ¬ k = 8 := by omega
  have k9 : ¬ k = 9 := by omega
  go_enter Try.func52, Try.ntmps52
  go_wp2
  go_returns
  exact ⟨rfl, rfl⟩

end Go.Proofs.Ytkacfjbhkgdpdaa
