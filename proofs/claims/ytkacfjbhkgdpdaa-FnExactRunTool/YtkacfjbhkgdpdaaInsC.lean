/- Proved here: 'inside' of the program. (And ahead of it: Proved here: a list cut off behind so many elements is read.) -/
import Derived.Test.YtkacfjbhkgdpdaaGen
import Derived.Test.YtkacfjbhkgdpdaaIntsBase
namespace Go.Proofs.Ytkacfjbhkgdpdaa
open Go.RowKit
set_option linter.unusedVariables false
set_option linter.unusedSimpArgs false

theorem rg_take {α : Type} {k : Nat} {enc : α → List Value} {w : World} {a : Option Addr} {n c c' j : Nat} {s : List α} (h : RG k enc w (.slice a n c) s) (hj : j ≤ n) : RG k enc w (.slice a j c') (s.take j) := by
  have hl := h.len
  obtain ⟨a', c2, e, h⟩ := h
  simp only [Value.slice.injEq] at e
  obtain ⟨rfl, rfl, rfl⟩ := e
  refine ⟨a, c', by rw [List.length_take, Nat.min_eq_left hj], fun hn => ?_⟩
  obtain ⟨g, o, rfl, hg, hc⟩ := h (by intro e; subst e; simp at hn)
  refine ⟨g, o, rfl, hg, fun i hi q hq => ?_⟩
  rw [List.length_take] at hi
  rw [hc i (by omega) q hq]
  simp

end Go.Proofs.Ytkacfjbhkgdpdaa

namespace Go.Proofs.Ytkacfjbhkgdpdaa
open Go.RowKit
set_option linter.unusedVariables false
set_option linter.unusedSimpArgs false

set_option maxHeartbeats 800000 in
theorem impl_insC (n a b : Int) (r : Bool) (hr : r = decide (a ≤ n ∧ n ≤ b)) (w : World) : Calls Try.prog 49 #[.int .i64 n, .int .i64 a, .int .i64 b] w fun e w' => e = .returned (.bool r) ∧ w' = w := by
  have H : Hid ((¬ a ≤ n → r = false) ∧ (a ≤ n → n ≤ b → r = true) ∧ (a ≤ n → ¬ n ≤ b → r = false)) := by
    unfold Hid; rw [hr]
    exact ⟨fun h => by simp [h], fun h1 h2 => by simp [h1, h2], fun h1 h2 => by simp [h1, h2]⟩
  clear hr
  by_cases h1 : a ≤ n
  · by_cases h2 : n ≤ b
    · obtain rfl := H.out.2.1 h1 h2
      go_enter Try.func49, Try.ntmps49
      go_wp2
      go_returns
      exact ⟨rfl, rfl⟩
    · obtain rfl := H.out.2.2 h1 h2
      go_enter Try.func49, Try.ntmps49
      go_wp2
      go_returns
      exact ⟨rfl, rfl⟩
  · obtain rfl := H.out.1 h1
    go_enter Try.func49, Try.ntmps49
    go_wp2
    go_returns
    exact ⟨rfl, rfl⟩

end Go.Proofs.Ytkacfjbhkgdpdaa
