/- Proved here: a talk by value in the laws: copied, compared; how one that came in is read. -/
import Derived.Test.YtejpjbihdclngaaLwS
import Derived.Test.YtejpjbihdclngaaTyGen
import Derived.OpenShut
import Derived.Lib.SmallJoins
namespace Go.Proofs.Ytejpjbihdclngaa
open Go.ChangeShapes Go.WideShapes Go.ChangeAt Go.RowKit Go.Joins Go.Deep
set_option linter.unusedVariables false
set_option linter.unusedSimpArgs false

set_option maxHeartbeats 800000 in
theorem toTalk_is (a b c : Int) (w : World) :
    Calls Try.prog 34 #[.agg #[.int .i64 a, .int .i64 b, .int .i64 c]] w fun e w' => e = .returned (.agg #[.int .i64 a, .int .i64 b, .int .i64 c]) ∧ Below w.heap.size w w' := by
  go_enter Try.func34, Try.ntmps34
  go_wp2
  go_returns
  exact ⟨rfl, by (repeat' (first | (with_reducible exact Below.refl _ _) | (with_reducible assumption) | (with_reducible refine Below.setCell ?_ ?_ _) | (with_reducible refine Below.alloc ?_ ?_ _) | (with_reducible refine below_drewN ?_ _) | (with_reducible refine Below.drew ?_) | (with_reducible exact Nat.le_refl _) | omega | (simp; done) | (simp; omega)))⟩
set_option maxHeartbeats 800000 in
theorem eqTalk_to (a b c : Int) (w : World) :
    Calls Try.prog 61 #[.agg #[.int .i64 a, .int .i64 b, .int .i64 c], .agg #[.int .i64 a, .int .i64 b, .int .i64 c]] w fun e w' => e = .returned (.bool true) ∧ Below w.heap.size w w' := by
  go_enter Try.func61, Try.ntmps61
  go_wp2
  go_returns
  exact ⟨rfl, by (repeat' (first | (with_reducible exact Below.refl _ _) | (with_reducible assumption) | (with_reducible refine Below.setCell ?_ ?_ _) | (with_reducible refine Below.alloc ?_ ?_ _) | (with_reducible refine below_drewN ?_ _) | (with_reducible refine Below.drew ?_) | (with_reducible exact Nat.le_refl _) | omega | (simp; done) | (simp; omega)))⟩
set_option maxHeartbeats 1600000 in
theorem eqTalkResult_to (a b c : Int) (d : Bool) (w : World) :
    Calls Try.prog 36 #[.agg #[.int .i64 a, .int .i64 b, .int .i64 c, .bool d], .agg #[.int .i64 a, .int .i64 b, .int .i64 c, .bool d]] w fun e w' => e = .returned (.bool true) ∧ Below w.heap.size w w' := by
  obtain ⟨W0, hW0⟩ : ∃ W, W = (w.alloc (.cells #[.int .i64 a, .int .i64 b, .int .i64 c, .bool d] 59)).alloc (.cells #[.int .i64 a, .int .i64 b, .int .i64 c, .bool d] 59) := ⟨_, rfl⟩
  have HW0 : Hid (Below w.heap.size w W0 ∧ W0.heap[w.heap.size]? = some (.cells #[.int .i64 a, .int .i64 b, .int .i64 c, .bool d] 59) ∧ W0.heap[w.heap.size + 1]? = some (.cells #[.int .i64 a, .int .i64 b, .int .i64 c, .bool d] 59)) := by
    rw [hW0]
    refine ⟨by (repeat' (first | (with_reducible exact Below.refl _ _) | (with_reducible assumption) | (with_reducible refine Below.setCell ?_ ?_ _) | (with_reducible refine Below.alloc ?_ ?_ _) | (with_reducible refine below_drewN ?_ _) | (with_reducible refine Below.drew ?_) | (with_reducible exact Nat.le_refl _) | omega | (simp; done) | (simp; omega))), ?_, ?_⟩
    · rw [Below.heap_alloc _ _ _ (by simp)]; exact heap_alloc_new _ _
    · have := heap_alloc_new (w.alloc (.cells #[.int .i64 a, .int .i64 b, .int .i64 c, .bool d] 59)) (.cells #[.int .i64 a, .int .i64 b, .int .i64 c, .bool d] 59); simpa using this
  go_enter Try.func36, Try.ntmps36
  go_wp2_with (fail)
  rw [← hW0]
  clear hW0
  refine (eqTalk_to a b c W0).mono ?_
  rintro e w1 ⟨rfl, hb⟩
  have x0 := (hb.block _ (ltOf HW0.out.2.1)).trans HW0.out.2.1
  have x1 := (hb.block _ (ltOf HW0.out.2.2)).trans HW0.out.2.2
  have c0 := cellOf x0 3 rfl
  have c1 := cellOf x1 3 rfl
  have l0 := ltOf x0
  have l1 := ltOf x1
  have HB : Hid (Below w.heap.size w w1) := HW0.out.1.trans (hb.mono HW0.out.1.size)
  clear hb x0 x1 HW0
  cases d
  · go_wp2
    go_returns
    exact ⟨rfl, HB.out⟩
  · go_wp2
    go_returns
    exact ⟨rfl, HB.out⟩
set_option maxRecDepth 100000 in
theorem talk_open {H : Type} {enc : TypeId × Value → H} {W : World} {base : Nat} {v : Value} {d : DataW H} {p : List MemPlace}
    (hv : Value.okWide Try.prog W .any base 57 v) (h : DataW.Trod enc Try.prog W 0 (fun _ => true) true 57 v d p) :
    ∃ a0 a1 a2 : Int, v = .agg #[.int .i64 a0, .int .i64 a1, .int .i64 a2] ∧ -9223372036854775808 ≤ a1 ∧ -9223372036854775808 ≤ a2 := by
  obtain ⟨cs, rfl, hsz⟩ := okWide_struct Try.underlying57 hv
  obtain ⟨fuel, hf⟩ := h
  obtain ⟨y0, y1, y2, n, hx, hl, h0, h1, h2⟩ := trod_struct3 Try.underlying57 hf
  have k6 : Try.prog.cellsOf 57 = 3 := by kernel_rfl
  have k1 : Try.prog.cellsOf 2 = 1 := by kernel_rfl
  rw [k6] at hl
  obtain ⟨l⟩ := cs
  obtain ⟨c0, c1, c2, rfl⟩ : ∃ c0 c1 c2, l = [c0, c1, c2] := by
    have hl' : l.length = 3 := by simpa [Value.cells] using hl
    match l, hl' with
    | [c0, c1, c2], _ => exact ⟨c0, c1, c2, rfl⟩
  obtain ⟨m0, f0, _, g0⟩ := DataW.trod_int Try.underlying2 h0
  obtain ⟨m1, f1, _, g1⟩ := DataW.trod_int Try.underlying2 h1
  obtain ⟨m2, f2, _, g2⟩ := DataW.trod_int Try.underlying2 h2
  simp [k1, Value.cells] at f0 f1 f2
  subst f0 f1 f2
  refine ⟨m0, m1, m2, rfl, ?_, ?_⟩
  · have h9 : IntKind.min .i64 = -9223372036854775808 := by decide
    simp [Lit.wf] at g1; omega
  · have h9 : IntKind.min .i64 = -9223372036854775808 := by decide
    simp [Lit.wf] at g2; omega

end Go.Proofs.Ytejpjbihdclngaa
