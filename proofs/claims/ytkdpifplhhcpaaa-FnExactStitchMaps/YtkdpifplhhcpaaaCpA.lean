/- Proved here: small rules for copies of lists of numbers. No condition on the program. -/
import Derived.Test.YtkdpifplhhcpaaaNlJ
import Derived.Deep.AppendLies
namespace Go.Proofs.Ytkdpifplhhcpaaa
open Go.RowKit
set_option linter.unusedVariables false
set_option linter.unusedSimpArgs false

theorem row_news {W : World} {g o n c : Nat} {s : List Int} (h : RdI W (.slice (some ⟨g, o, none⟩) n c) s) : ∀ j u, (s.map (Value.int .i64))[j]? = some u → W.cell? ((⟨g, o, none⟩ : Addr).add j) = some u := by
  intro j u hu
  have hj : j < s.length := by
    rcases Nat.lt_or_ge j s.length with h' | h'
    · exact h'
    · rw [List.getElem?_eq_none (by simpa using h')] at hu; cases hu
  obtain ⟨g', o', c', he, hg, hx⟩ := h.ri (by omega)
  injection he with he1
  injection he1 with he2
  injection he2 with he3 he4
  subst he3 he4
  rw [List.getElem?_map, List.getElem?_eq_getElem hj] at hu
  simp only [Option.map_some, Option.some.injEq] at hu
  subst hu
  rw [Addr.add_lit, hx j hj, show s.getD j 0 = s[j] from by simp [List.getD, hj]]
theorem is_lit0 (w : World) (B : Nat) (hB : B ≤ w.heap.size) : IS (w.alloc (.cells #[] 2)) B (.slice (some ⟨w.heap.size, 0, none⟩) 0 0) [] :=
  World.ownsRow_lit w #[] 0 hB (by decide) (by simp)
theorem ones_int (xs : List Int) : ∀ u ∈ xs.map (Value.int .i64), u.oneCell' = true := by
  intro u hu
  obtain ⟨x, _, rfl⟩ := List.mem_map.1 hu
  rfl
theorem own_form0 {w : World} {B T k n : Nat} {v : Value} {xs : List Value} (h : w.ownsRow B T k v (0 + n) xs) : ∃ a c, v = .slice a n c := by
  rcases h.2 with ⟨rfl, h0⟩ | ⟨g, cap, cur, rfl, _⟩
  · exact ⟨none, 0, by rw [Nat.zero_add] at h0; rw [h0]⟩
  · exact ⟨_, _, by rw [Nat.zero_add]⟩

end Go.Proofs.Ytkdpifplhhcpaaa
