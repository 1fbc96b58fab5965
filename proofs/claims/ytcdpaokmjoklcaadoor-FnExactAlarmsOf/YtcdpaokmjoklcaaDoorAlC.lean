/- Proved here: alarms: how they lie in memory. -/
import Derived.Test.YtcdpaokmjoklcaaDoorGen
import Derived.Test.YtcdpaokmjoklcaaDoorChM
import Derived.Test.YtcdpaokmjoklcaaDoorLwS
import Derived.Deep.AppendLies
namespace Go.Proofs.YtcdpaokmjoklcaaDoor
open Go.RowKit
set_option linter.unusedVariables false
set_option linter.unusedSimpArgs false


def alC (x : Alm) : List Value := [.int .i64 x.a, .int .i64 x.r]
theorem alC_len (x : Alm) : (alC x).length = 2 := rfl
theorem alC_one (x : Alm) : ∀ u ∈ alC x, u.oneCell' = true := by
  intro u hu
  simp only [alC, List.mem_cons, List.not_mem_nil, or_false] at hu
  rcases hu with rfl | rfl <;> rfl
theorem info_Alarm : (Tryd.prog.info? 38).map (fun i => (i.zero, i.size, i.bytes)) = some (some (.agg #[.int .i64 0, .int .i64 0]), 2, 16) := by kernel_rfl
/-- The cells of an element, one by one. -/
theorem alC_at {w : World} {g o : Nat} {x : Alm} (h : ∀ i, i < 2 → w.cell? ⟨g, o + i, none⟩ = (alC x)[i]?) : w.cell? ⟨g, o, none⟩ = some (.int .i64 x.a) ∧ w.cell? ⟨g, o + 1, none⟩ = some (.int .i64 x.r) :=
  ⟨h 0 (by omega), h 1 (by omega)⟩

end Go.Proofs.YtcdpaokmjoklcaaDoor
