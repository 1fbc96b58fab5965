/- Proved here: an event of a tool, in the laws' package: weighed, copied, opened. No condition. -/
import Derived.Test.YtkacfjbhkgdpdaaTlB
namespace Go.Proofs.Ytkacfjbhkgdpdaa
open Go.ChangeShapes Go.WideShapes Go.ChangeAt Go.RowKit Go.Joins Go.Deep
set_option linter.unusedVariables false
set_option linter.unusedSimpArgs false

set_option maxHeartbeats 800000 in
theorem szToolEvent_gen (k : Int) (er : ByteArray) (es l : Int) (w : World) (h0 : 0 ≤ l) (h1 : l ≤ 1048576) (h2 : er.size ≤ maxLen) :
    Calls Try.prog 6 #[.agg #[.int .i64 k, .string er, .int .i64 es], .int .i64 l] w fun e w' => ∃ r, e = .returned (.int .i64 r) ∧ (r < 0 ∨ (0 ≤ r ∧ r ≤ l ∧ (er.size : Int) ≤ l)) ∧ Below w.heap.size w w' := by
  unfold maxLen at h2
  have hw : IntKind.i64.wrap (l - (er.size : Int)) = l - (er.size : Int) := by rw [IntKind.wrap_i64]; omega
  by_cases hn : l - (er.size : Int) < 0
  · go_enter Try.func6, Try.ntmps6
    go_wp2
    go_returns
    exact ⟨-1, rfl, Or.inl (by omega), by (repeat' (first | (with_reducible exact Below.refl _ _) | (with_reducible assumption) | (with_reducible refine Below.setCell ?_ ?_ _) | (with_reducible refine Below.alloc ?_ ?_ _) | (with_reducible refine below_drewN ?_ _) | (with_reducible refine Below.drew ?_) | (with_reducible exact Nat.le_refl _) | omega | (simp; done) | (simp; omega)))⟩
  · go_enter Try.func6, Try.ntmps6
    go_wp2
    go_returns
    exact ⟨_, rfl, Or.inr ⟨by omega, by omega, by omega⟩, by (repeat' (first | (with_reducible exact Below.refl _ _) | (with_reducible assumption) | (with_reducible refine Below.setCell ?_ ?_ _) | (with_reducible refine Below.alloc ?_ ?_ _) | (with_reducible refine below_drewN ?_ _) | (with_reducible refine Below.drew ?_) | (with_reducible exact Nat.le_refl _) | omega | (simp; done) | (simp; omega)))⟩

set_option maxHeartbeats 1600000 in
theorem toToolEvent_is (k : Int) (er : ByteArray) (es : Int) (w : World) :
    Calls Try.prog 9 #[.agg #[.int .i64 k, .string er, .int .i64 es]] w fun e w' => e = .returned (.agg #[.int .i64 k, .string er, .int .i64 es]) ∧ Below w.heap.size w w' := by
  go_enter Try.func9, Try.ntmps9
  go_wp2
  go_returns
  exact ⟨rfl, by (repeat' (first | (with_reducible exact Below.refl _ _) | (with_reducible assumption) | (with_reducible refine Below.setCell ?_ ?_ _) | (with_reducible refine Below.alloc ?_ ?_ _) | (with_reducible refine below_drewN ?_ _) | (with_reducible refine Below.drew ?_) | (with_reducible exact Nat.le_refl _) | omega | (simp; done) | (simp; omega)))⟩
theorem list3e {α : Type} {l : List α} (h : l.length = 3) : ∃ c0 c1 c2, l = [c0, c1, c2] := by
  match l, h with
  | [c0, c1, c2], _ => exact ⟨c0, c1, c2, rfl⟩
set_option maxRecDepth 100000 in
/-- An event that came in. -/
theorem event_open {H : Type} {enc : TypeId × Value → H} {W : World} {base : Nat} {v : Value} {d : DataW H} {p : List MemPlace}
    (hv : Value.okWide Try.prog W .any base 26 v) (h : DataW.Trod enc Try.prog W 0 (fun _ => true) true 26 v d p) :
    ∃ (k : Int) (er : ByteArray) (es : Int), v = .agg #[.int .i64 k, .string er, .int .i64 es] ∧ er.size ≤ maxLen := by
  obtain ⟨l, n, rfl, hl, hf⟩ := agg_open Try.underlying26 (by kernel_rfl) (by kernel_rfl) hv h
  obtain ⟨c0, c1, c2, rfl⟩ := list3e hl
  obtain ⟨_, y0, e0, t0⟩ := hf 0 _ rfl
  obtain ⟨_, y1, e1, t1⟩ := hf 1 _ rfl
  obtain ⟨_, y2, e2, t2⟩ := hf 2 _ rfl
  obtain ⟨n0, k0, _, _⟩ := DataW.trod_int Try.underlying2 t0
  obtain ⟨s1, k1, _, hs⟩ := DataW.trod_string Try.underlying9 t1
  obtain ⟨n2, k2, _, _⟩ := DataW.trod_int Try.underlying2 t2
  simp at e0 e1 e2 k0 k1 k2
  subst e0 e1 e2
  subst k0 k1 k2
  exact ⟨n0, s1, n2, rfl, hs⟩

end Go.Proofs.Ytkacfjbhkgdpdaa
