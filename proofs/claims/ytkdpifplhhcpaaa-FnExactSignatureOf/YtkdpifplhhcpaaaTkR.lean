/- Proved here: a list cut off behind so many elements is read. -/
import Derived.Test.YtkdpifplhhcpaaaGen
namespace Go.Proofs.Ytkdpifplhhcpaaa
open Go.RowKit
set_option linter.unusedVariables false
set_option linter.unusedSimpArgs false

theorem rg_take {α : Type} {k : Nat} {enc : α → List Value} {w : World} {a : Option Addr} {n c c' j : Nat} {s : List α} (h : RG k enc w (.slice a n c) s) (hj : j ≤ n) : RG k enc w (.slice a j c') (s.take j) := by
  have hl := h.len
  obtain ⟨a', c2, e, h⟩ := h
  simp only [Value.slice.injEq] at e
  obtain ⟨rfl, rfl, rfl⟩ := e
  refine ⟨a, c', by rw [List.length_take, Nat.min_eq_left hj], fun hn => ?_⟩
  obtain ⟨g, o, rfl, hg, hc⟩ := h (by intro e; subst e; simp at hn)
  refine ⟨g, o, rfl, hg, fun i hi q hq => ?_⟩
  rw [List.length_take] at hi
  rw [hc i (by omega) q hq]
  simp

end Go.Proofs.Ytkdpifplhhcpaaa
