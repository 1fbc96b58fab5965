/- Proved here: which states of a tool can do what. -/
import Derived.Test.YtkacfjbhkgdpdaaAsN
import Derived.Test.YtkacfjbhkgdpdaaRows
namespace Go.Proofs.Ytkacfjbhkgdpdaa
open Go.RowKit
set_option linter.unusedVariables false
set_option linter.unusedSimpArgs false

theorem as_power_0 (p : Value) (w : World) : (Instr.typeAssert (.iface 93 p) 66 110 true).run Try.prog w = .ok (.tuple #[.iface 93 p, .bool true]) w := by kernel_rfl
theorem as_power_1 (p : Value) (w : World) : (Instr.typeAssert (.iface 97 p) 66 110 true).run Try.prog w = .ok (.tuple #[.nilIface, .bool false]) w := by
  unfold Instr.typeAssert
  simp [go_sem]
  split
  · next h => exact (mm_none h (by kernel_rfl)).elim
  · kernel_rfl
theorem as_power_2 (p : Value) (w : World) : (Instr.typeAssert (.iface 98 p) 66 110 true).run Try.prog w = .ok (.tuple #[.nilIface, .bool false]) w := by
  unfold Instr.typeAssert
  simp [go_sem]
  split
  · next h => exact (mm_none h (by kernel_rfl)).elim
  · kernel_rfl
theorem as_power_3 (p : Value) (w : World) : (Instr.typeAssert (.iface 99 p) 66 110 true).run Try.prog w = .ok (.tuple #[.nilIface, .bool false]) w := by
  unfold Instr.typeAssert
  simp [go_sem]
  split
  · next h => exact (mm_none h (by kernel_rfl)).elim
  · kernel_rfl
theorem as_power_4 (p : Value) (w : World) : (Instr.typeAssert (.iface 100 p) 66 110 true).run Try.prog w = .ok (.tuple #[.nilIface, .bool false]) w := by
  unfold Instr.typeAssert
  simp [go_sem]
  split
  · next h => exact (mm_none h (by kernel_rfl)).elim
  · kernel_rfl
theorem as_power_5 (p : Value) (w : World) : (Instr.typeAssert (.iface 101 p) 66 110 true).run Try.prog w = .ok (.tuple #[.nilIface, .bool false]) w := by
  unfold Instr.typeAssert
  simp [go_sem]
  split
  · next h => exact (mm_none h (by kernel_rfl)).elim
  · kernel_rfl
theorem as_power_6 (p : Value) (w : World) : (Instr.typeAssert (.iface 102 p) 66 110 true).run Try.prog w = .ok (.tuple #[.nilIface, .bool false]) w := by
  unfold Instr.typeAssert
  simp [go_sem]
  split
  · next h => exact (mm_none h (by kernel_rfl)).elim
  · kernel_rfl
theorem as_load_0 (p : Value) (w : World) : (Instr.typeAssert (.iface 93 p) 66 113 true).run Try.prog w = .ok (.tuple #[.nilIface, .bool false]) w := by
  unfold Instr.typeAssert
  simp [go_sem]
  split
  · next h => exact (mm_none h (by kernel_rfl)).elim
  · kernel_rfl
theorem as_load_1 (p : Value) (w : World) : (Instr.typeAssert (.iface 97 p) 66 113 true).run Try.prog w = .ok (.tuple #[.iface 97 p, .bool true]) w := by kernel_rfl
theorem as_load_2 (p : Value) (w : World) : (Instr.typeAssert (.iface 98 p) 66 113 true).run Try.prog w = .ok (.tuple #[.iface 98 p, .bool true]) w := by kernel_rfl
theorem as_load_3 (p : Value) (w : World) : (Instr.typeAssert (.iface 99 p) 66 113 true).run Try.prog w = .ok (.tuple #[.nilIface, .bool false]) w := by
  unfold Instr.typeAssert
  simp [go_sem]
  split
  · next h => exact (mm_none h (by kernel_rfl)).elim
  · kernel_rfl
theorem as_load_4 (p : Value) (w : World) : (Instr.typeAssert (.iface 100 p) 66 113 true).run Try.prog w = .ok (.tuple #[.nilIface, .bool false]) w := by
  unfold Instr.typeAssert
  simp [go_sem]
  split
  · next h => exact (mm_none h (by kernel_rfl)).elim
  · kernel_rfl
theorem as_load_5 (p : Value) (w : World) : (Instr.typeAssert (.iface 101 p) 66 113 true).run Try.prog w = .ok (.tuple #[.nilIface, .bool false]) w := by
  unfold Instr.typeAssert
  simp [go_sem]
  split
  · next h => exact (mm_none h (by kernel_rfl)).elim
  · kernel_rfl
theorem as_load_6 (p : Value) (w : World) : (Instr.typeAssert (.iface 102 p) 66 113 true).run Try.prog w = .ok (.tuple #[.nilIface, .bool false]) w := by
  unfold Instr.typeAssert
  simp [go_sem]
  split
  · next h => exact (mm_none h (by kernel_rfl)).elim
  · kernel_rfl
theorem as_start_0 (p : Value) (w : World) : (Instr.typeAssert (.iface 93 p) 66 116 true).run Try.prog w = .ok (.tuple #[.nilIface, .bool false]) w := by
  unfold Instr.typeAssert
  simp [go_sem]
  split
  · next h => exact (mm_none h (by kernel_rfl)).elim
  · kernel_rfl
theorem as_start_1 (p : Value) (w : World) : (Instr.typeAssert (.iface 97 p) 66 116 true).run Try.prog w = .ok (.tuple #[.nilIface, .bool false]) w := by
  unfold Instr.typeAssert
  simp [go_sem]
  split
  · next h => exact (mm_none h (by kernel_rfl)).elim
  · kernel_rfl
theorem as_start_2 (p : Value) (w : World) : (Instr.typeAssert (.iface 98 p) 66 116 true).run Try.prog w = .ok (.tuple #[.iface 98 p, .bool true]) w := by kernel_rfl
theorem as_start_3 (p : Value) (w : World) : (Instr.typeAssert (.iface 99 p) 66 116 true).run Try.prog w = .ok (.tuple #[.nilIface, .bool false]) w := by
  unfold Instr.typeAssert
  simp [go_sem]
  split
  · next h => exact (mm_none h (by kernel_rfl)).elim
  · kernel_rfl
theorem as_start_4 (p : Value) (w : World) : (Instr.typeAssert (.iface 100 p) 66 116 true).run Try.prog w = .ok (.tuple #[.nilIface, .bool false]) w := by
  unfold Instr.typeAssert
  simp [go_sem]
  split
  · next h => exact (mm_none h (by kernel_rfl)).elim
  · kernel_rfl
theorem as_start_5 (p : Value) (w : World) : (Instr.typeAssert (.iface 101 p) 66 116 true).run Try.prog w = .ok (.tuple #[.nilIface, .bool false]) w := by
  unfold Instr.typeAssert
  simp [go_sem]
  split
  · next h => exact (mm_none h (by kernel_rfl)).elim
  · kernel_rfl
theorem as_start_6 (p : Value) (w : World) : (Instr.typeAssert (.iface 102 p) 66 116 true).run Try.prog w = .ok (.tuple #[.nilIface, .bool false]) w := by
  unfold Instr.typeAssert
  simp [go_sem]
  split
  · next h => exact (mm_none h (by kernel_rfl)).elim
  · kernel_rfl
theorem as_end_0 (p : Value) (w : World) : (Instr.typeAssert (.iface 93 p) 66 119 true).run Try.prog w = .ok (.tuple #[.nilIface, .bool false]) w := by
  unfold Instr.typeAssert
  simp [go_sem]
  split
  · next h => exact (mm_none h (by kernel_rfl)).elim
  · kernel_rfl
theorem as_end_1 (p : Value) (w : World) : (Instr.typeAssert (.iface 97 p) 66 119 true).run Try.prog w = .ok (.tuple #[.nilIface, .bool false]) w := by
  unfold Instr.typeAssert
  simp [go_sem]
  split
  · next h => exact (mm_none h (by kernel_rfl)).elim
  · kernel_rfl
theorem as_end_2 (p : Value) (w : World) : (Instr.typeAssert (.iface 98 p) 66 119 true).run Try.prog w = .ok (.tuple #[.nilIface, .bool false]) w := by
  unfold Instr.typeAssert
  simp [go_sem]
  split
  · next h => exact (mm_none h (by kernel_rfl)).elim
  · kernel_rfl
theorem as_end_3 (p : Value) (w : World) : (Instr.typeAssert (.iface 99 p) 66 119 true).run Try.prog w = .ok (.tuple #[.iface 99 p, .bool true]) w := by kernel_rfl
theorem as_end_4 (p : Value) (w : World) : (Instr.typeAssert (.iface 100 p) 66 119 true).run Try.prog w = .ok (.tuple #[.nilIface, .bool false]) w := by
  unfold Instr.typeAssert
  simp [go_sem]
  split
  · next h => exact (mm_none h (by kernel_rfl)).elim
  · kernel_rfl
theorem as_end_5 (p : Value) (w : World) : (Instr.typeAssert (.iface 101 p) 66 119 true).run Try.prog w = .ok (.tuple #[.nilIface, .bool false]) w := by
  unfold Instr.typeAssert
  simp [go_sem]
  split
  · next h => exact (mm_none h (by kernel_rfl)).elim
  · kernel_rfl
theorem as_end_6 (p : Value) (w : World) : (Instr.typeAssert (.iface 102 p) 66 119 true).run Try.prog w = .ok (.tuple #[.nilIface, .bool false]) w := by
  unfold Instr.typeAssert
  simp [go_sem]
  split
  · next h => exact (mm_none h (by kernel_rfl)).elim
  · kernel_rfl
theorem as_trip_0 (p : Value) (w : World) : (Instr.typeAssert (.iface 93 p) 66 122 true).run Try.prog w = .ok (.tuple #[.nilIface, .bool false]) w := by
  unfold Instr.typeAssert
  simp [go_sem]
  split
  · next h => exact (mm_none h (by kernel_rfl)).elim
  · kernel_rfl
theorem as_trip_1 (p : Value) (w : World) : (Instr.typeAssert (.iface 97 p) 66 122 true).run Try.prog w = .ok (.tuple #[.iface 97 p, .bool true]) w := by kernel_rfl
theorem as_trip_2 (p : Value) (w : World) : (Instr.typeAssert (.iface 98 p) 66 122 true).run Try.prog w = .ok (.tuple #[.iface 98 p, .bool true]) w := by kernel_rfl
theorem as_trip_3 (p : Value) (w : World) : (Instr.typeAssert (.iface 99 p) 66 122 true).run Try.prog w = .ok (.tuple #[.iface 99 p, .bool true]) w := by kernel_rfl
theorem as_trip_4 (p : Value) (w : World) : (Instr.typeAssert (.iface 100 p) 66 122 true).run Try.prog w = .ok (.tuple #[.nilIface, .bool false]) w := by
  unfold Instr.typeAssert
  simp [go_sem]
  split
  · next h => exact (mm_none h (by kernel_rfl)).elim
  · kernel_rfl
theorem as_trip_5 (p : Value) (w : World) : (Instr.typeAssert (.iface 101 p) 66 122 true).run Try.prog w = .ok (.tuple #[.nilIface, .bool false]) w := by
  unfold Instr.typeAssert
  simp [go_sem]
  split
  · next h => exact (mm_none h (by kernel_rfl)).elim
  · kernel_rfl
theorem as_trip_6 (p : Value) (w : World) : (Instr.typeAssert (.iface 102 p) 66 122 true).run Try.prog w = .ok (.tuple #[.nilIface, .bool false]) w := by
  unfold Instr.typeAssert
  simp [go_sem]
  split
  · next h => exact (mm_none h (by kernel_rfl)).elim
  · kernel_rfl
theorem as_clear_0 (p : Value) (w : World) : (Instr.typeAssert (.iface 93 p) 66 125 true).run Try.prog w = .ok (.tuple #[.nilIface, .bool false]) w := by
  unfold Instr.typeAssert
  simp [go_sem]
  split
  · next h => exact (mm_none h (by kernel_rfl)).elim
  · kernel_rfl
theorem as_clear_1 (p : Value) (w : World) : (Instr.typeAssert (.iface 97 p) 66 125 true).run Try.prog w = .ok (.tuple #[.nilIface, .bool false]) w := by
  unfold Instr.typeAssert
  simp [go_sem]
  split
  · next h => exact (mm_none h (by kernel_rfl)).elim
  · kernel_rfl
theorem as_clear_2 (p : Value) (w : World) : (Instr.typeAssert (.iface 98 p) 66 125 true).run Try.prog w = .ok (.tuple #[.nilIface, .bool false]) w := by
  unfold Instr.typeAssert
  simp [go_sem]
  split
  · next h => exact (mm_none h (by kernel_rfl)).elim
  · kernel_rfl
theorem as_clear_3 (p : Value) (w : World) : (Instr.typeAssert (.iface 99 p) 66 125 true).run Try.prog w = .ok (.tuple #[.nilIface, .bool false]) w := by
  unfold Instr.typeAssert
  simp [go_sem]
  split
  · next h => exact (mm_none h (by kernel_rfl)).elim
  · kernel_rfl
theorem as_clear_4 (p : Value) (w : World) : (Instr.typeAssert (.iface 100 p) 66 125 true).run Try.prog w = .ok (.tuple #[.iface 100 p, .bool true]) w := by kernel_rfl
theorem as_clear_5 (p : Value) (w : World) : (Instr.typeAssert (.iface 101 p) 66 125 true).run Try.prog w = .ok (.tuple #[.nilIface, .bool false]) w := by
  unfold Instr.typeAssert
  simp [go_sem]
  split
  · next h => exact (mm_none h (by kernel_rfl)).elim
  · kernel_rfl
theorem as_clear_6 (p : Value) (w : World) : (Instr.typeAssert (.iface 102 p) 66 125 true).run Try.prog w = .ok (.tuple #[.nilIface, .bool false]) w := by
  unfold Instr.typeAssert
  simp [go_sem]
  split
  · next h => exact (mm_none h (by kernel_rfl)).elim
  · kernel_rfl
theorem as_service_0 (p : Value) (w : World) : (Instr.typeAssert (.iface 93 p) 66 128 true).run Try.prog w = .ok (.tuple #[.nilIface, .bool false]) w := by
  unfold Instr.typeAssert
  simp [go_sem]
  split
  · next h => exact (mm_none h (by kernel_rfl)).elim
  · kernel_rfl
theorem as_service_1 (p : Value) (w : World) : (Instr.typeAssert (.iface 97 p) 66 128 true).run Try.prog w = .ok (.tuple #[.iface 97 p, .bool true]) w := by kernel_rfl
theorem as_service_2 (p : Value) (w : World) : (Instr.typeAssert (.iface 98 p) 66 128 true).run Try.prog w = .ok (.tuple #[.nilIface, .bool false]) w := by
  unfold Instr.typeAssert
  simp [go_sem]
  split
  · next h => exact (mm_none h (by kernel_rfl)).elim
  · kernel_rfl
theorem as_service_3 (p : Value) (w : World) : (Instr.typeAssert (.iface 99 p) 66 128 true).run Try.prog w = .ok (.tuple #[.nilIface, .bool false]) w := by
  unfold Instr.typeAssert
  simp [go_sem]
  split
  · next h => exact (mm_none h (by kernel_rfl)).elim
  · kernel_rfl
theorem as_service_4 (p : Value) (w : World) : (Instr.typeAssert (.iface 100 p) 66 128 true).run Try.prog w = .ok (.tuple #[.iface 100 p, .bool true]) w := by kernel_rfl
theorem as_service_5 (p : Value) (w : World) : (Instr.typeAssert (.iface 101 p) 66 128 true).run Try.prog w = .ok (.tuple #[.nilIface, .bool false]) w := by
  unfold Instr.typeAssert
  simp [go_sem]
  split
  · next h => exact (mm_none h (by kernel_rfl)).elim
  · kernel_rfl
theorem as_service_6 (p : Value) (w : World) : (Instr.typeAssert (.iface 102 p) 66 128 true).run Try.prog w = .ok (.tuple #[.iface 102 p, .bool true]) w := by kernel_rfl
theorem as_qualify_0 (p : Value) (w : World) : (Instr.typeAssert (.iface 93 p) 66 131 true).run Try.prog w = .ok (.tuple #[.nilIface, .bool false]) w := by
  unfold Instr.typeAssert
  simp [go_sem]
  split
  · next h => exact (mm_none h (by kernel_rfl)).elim
  · kernel_rfl
theorem as_qualify_1 (p : Value) (w : World) : (Instr.typeAssert (.iface 97 p) 66 131 true).run Try.prog w = .ok (.tuple #[.nilIface, .bool false]) w := by
  unfold Instr.typeAssert
  simp [go_sem]
  split
  · next h => exact (mm_none h (by kernel_rfl)).elim
  · kernel_rfl
theorem as_qualify_2 (p : Value) (w : World) : (Instr.typeAssert (.iface 98 p) 66 131 true).run Try.prog w = .ok (.tuple #[.nilIface, .bool false]) w := by
  unfold Instr.typeAssert
  simp [go_sem]
  split
  · next h => exact (mm_none h (by kernel_rfl)).elim
  · kernel_rfl
theorem as_qualify_3 (p : Value) (w : World) : (Instr.typeAssert (.iface 99 p) 66 131 true).run Try.prog w = .ok (.tuple #[.nilIface, .bool false]) w := by
  unfold Instr.typeAssert
  simp [go_sem]
  split
  · next h => exact (mm_none h (by kernel_rfl)).elim
  · kernel_rfl
theorem as_qualify_4 (p : Value) (w : World) : (Instr.typeAssert (.iface 100 p) 66 131 true).run Try.prog w = .ok (.tuple #[.nilIface, .bool false]) w := by
  unfold Instr.typeAssert
  simp [go_sem]
  split
  · next h => exact (mm_none h (by kernel_rfl)).elim
  · kernel_rfl
theorem as_qualify_5 (p : Value) (w : World) : (Instr.typeAssert (.iface 101 p) 66 131 true).run Try.prog w = .ok (.tuple #[.iface 101 p, .bool true]) w := by kernel_rfl
theorem as_qualify_6 (p : Value) (w : World) : (Instr.typeAssert (.iface 102 p) 66 131 true).run Try.prog w = .ok (.tuple #[.nilIface, .bool false]) w := by
  unfold Instr.typeAssert
  simp [go_sem]
  split
  · next h => exact (mm_none h (by kernel_rfl)).elim
  · kernel_rfl
theorem as_measured_0 (p : Value) (w : World) : (Instr.typeAssert (.iface 93 p) 66 86 true).run Try.prog w = .ok (.tuple #[.nilIface, .bool false]) w := by
  unfold Instr.typeAssert
  simp [go_sem]
  split
  · next h => exact (mm_none h (by kernel_rfl)).elim
  · kernel_rfl
theorem as_measured_1 (p : Value) (w : World) : (Instr.typeAssert (.iface 97 p) 66 86 true).run Try.prog w = .ok (.tuple #[.nilIface, .bool false]) w := by
  unfold Instr.typeAssert
  simp [go_sem]
  split
  · next h => exact (mm_none h (by kernel_rfl)).elim
  · kernel_rfl
theorem as_measured_2 (p : Value) (w : World) : (Instr.typeAssert (.iface 98 p) 66 86 true).run Try.prog w = .ok (.tuple #[.nilIface, .bool false]) w := by
  unfold Instr.typeAssert
  simp [go_sem]
  split
  · next h => exact (mm_none h (by kernel_rfl)).elim
  · kernel_rfl
theorem as_measured_3 (p : Value) (w : World) : (Instr.typeAssert (.iface 99 p) 66 86 true).run Try.prog w = .ok (.tuple #[.iface 99 p, .bool true]) w := by kernel_rfl
theorem as_measured_4 (p : Value) (w : World) : (Instr.typeAssert (.iface 100 p) 66 86 true).run Try.prog w = .ok (.tuple #[.nilIface, .bool false]) w := by
  unfold Instr.typeAssert
  simp [go_sem]
  split
  · next h => exact (mm_none h (by kernel_rfl)).elim
  · kernel_rfl
theorem as_measured_5 (p : Value) (w : World) : (Instr.typeAssert (.iface 101 p) 66 86 true).run Try.prog w = .ok (.tuple #[.nilIface, .bool false]) w := by
  unfold Instr.typeAssert
  simp [go_sem]
  split
  · next h => exact (mm_none h (by kernel_rfl)).elim
  · kernel_rfl
theorem as_measured_6 (p : Value) (w : World) : (Instr.typeAssert (.iface 102 p) 66 86 true).run Try.prog w = .ok (.tuple #[.nilIface, .bool false]) w := by
  unfold Instr.typeAssert
  simp [go_sem]
  split
  · next h => exact (mm_none h (by kernel_rfl)).elim
  · kernel_rfl

end Go.Proofs.Ytkacfjbhkgdpdaa
