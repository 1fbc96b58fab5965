/- Proved here: jobs: their cells. -/
import Derived.Test.YtecobfhlpjlpkaaGen
namespace Go.Proofs.Ytecobfhlpjlpkaa
open Go.RowKit
set_option linter.unusedVariables false
set_option linter.unusedSimpArgs false

/-- A job. -/
structure Jb where
  id : Int
  co : Int
  ti : Int
  se : Int
  du : Int
  we : Int
  ki : Int
deriving DecidableEq
instance : Inhabited Jb := ⟨⟨0, 0, 0, 0, 0, 0, 0⟩⟩

def jbC (x : Jb) : List Value := [.int .i64 x.id, .int .i64 x.co, .int .i64 x.ti, .int .i64 x.se, .int .i64 x.du, .int .i64 x.we, .int .i64 x.ki]
theorem jbC_len (x : Jb) : (jbC x).length = 7 := rfl
theorem jbC_one (x : Jb) : ∀ u ∈ jbC x, u.oneCell' = true := by
  intro u hu
  simp only [jbC, List.mem_cons, List.not_mem_nil, or_false] at hu
  rcases hu with rfl | rfl | rfl | rfl | rfl | rfl | rfl <;> rfl
theorem info_Job : (Try.prog.info? 48).map (fun i => (i.zero, i.size, i.bytes)) = some (some (.agg #[.int .i64 0, .int .i64 0, .int .i64 0, .int .i64 0, .int .i64 0, .int .i64 0, .int .i64 0]), 7, 56) := by kernel_rfl
/-- The cells of an element, one by one. -/
theorem jbC_at {w : World} {g o : Nat} {x : Jb} (h : ∀ i, i < 7 → w.cell? ⟨g, o + i, none⟩ = (jbC x)[i]?) : w.cell? ⟨g, o, none⟩ = some (.int .i64 x.id) ∧ w.cell? ⟨g, o + 1, none⟩ = some (.int .i64 x.co) ∧ w.cell? ⟨g, o + 2, none⟩ = some (.int .i64 x.ti) ∧ w.cell? ⟨g, o + 3, none⟩ = some (.int .i64 x.se) ∧ w.cell? ⟨g, o + 4, none⟩ = some (.int .i64 x.du) ∧ w.cell? ⟨g, o + 5, none⟩ = some (.int .i64 x.we) ∧ w.cell? ⟨g, o + 6, none⟩ = some (.int .i64 x.ki) :=
  ⟨h 0 (by omega), h 1 (by omega), h 2 (by omega), h 3 (by omega), h 4 (by omega), h 5 (by omega), h 6 (by omega)⟩

end Go.Proofs.Ytecobfhlpjlpkaa
