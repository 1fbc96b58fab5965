/- Proved here: CombineShapes' code and list: cmC, cmL. -/
import Derived.Test.YtokdpgabmifdjabTold
namespace Go.Proofs.Ytokdpgabmifdjab
open Go.RowKit
set_option linter.unusedVariables false
set_option linter.unusedSimpArgs false

def opOk (op : Int) : Bool := decide (1 ≤ op ∧ op ≤ 4)
def cmC (op : Int) (s t : List Bx) : Int := if opOk op = true then (if shapeK s = 0 then (if shapeK t = 0 then toldC (opOf (takesK op) s t).length else shapeK t) else shapeK s) else 1
def cmL (op : Int) (s t : List Bx) : List Bx := if opOk op = true ∧ shapeK s = 0 ∧ shapeK t = 0 then toldL (opOf (takesK op) s t) else []
theorem cmL_length (op : Int) (s t : List Bx) : (cmL op s t).length ≤ 150 := by
  unfold cmL toldL
  split
  · split
    · assumption
    · simp
  · simp
theorem shapeK_len {s : List Bx} (h : shapeK s = 0) : s.length ≤ 150 := by
  refine (boxesK_zero ?_).1
  unfold shapeK at h
  split at h
  · assumption
  · rename_i h0; exact absurd h h0

theorem shapeK_x {s : List Bx} (h : shapeK s = 0) : ∀ b ∈ s, b.x0 < b.x1 := by
  intro b hb
  refine ((boxesK_zero ?_).2 b hb).1
  unfold shapeK at h
  split at h
  · assumption
  · rename_i h0; exact absurd h h0

end Go.Proofs.Ytokdpgabmifdjab
