/- Proved here: what an append takes of a list that is read anywhere. No condition. -/
import Derived.Test.YtecobfhlpjlpkaaGen
namespace Go.Proofs.Ytecobfhlpjlpkaa
open Go.RowKit
set_option linter.unusedVariables false
set_option linter.unusedSimpArgs false

theorem newsK {α : Type} {k : Nat} {enc : α → List Value} (hk : ∀ x, (enc x).length = k) (hk0 : 0 < k) {W : World} {a : Option Addr} {n c : Nat} {s : List α} (h : RG k enc W (.slice a n c) s) : ∀ ad, a = some ad → ∀ j u, (s.flatMap enc)[j]? = some u → W.cell? (ad.add j) = some u := by
  intro ad ha j u hu
  have hj : j < (s.flatMap enc).length := by
    rcases Nat.lt_or_ge j (s.flatMap enc).length with h' | h'
    · exact h'
    · rw [List.getElem?_eq_none h'] at hu; cases hu
  rw [fm_length hk] at hj
  have hs0 : 0 < s.length := by
    rcases Nat.eq_zero_or_pos s.length with e | e
    · rw [e] at hj; simp at hj
    · exact e
  obtain ⟨g, o, c', he, hg, hx⟩ := h.pos hs0
  injection he with he1
  rw [he1] at ha
  injection ha with ha
  subst ha
  have hm : j % k < k := Nat.mod_lt _ hk0
  have hd : j / k < s.length := Nat.div_lt_of_lt_mul (by rw [Nat.mul_comm]; exact hj)
  have hjj : j = j / k * k + j % k := by rw [Nat.mul_comm]; exact (Nat.div_add_mod j k).symm
  rw [hjj, fm_get hk s (j / k) (j % k) hd hm] at hu
  rw [Addr.add_lit, hjj, ← Nat.add_assoc, hx (j / k) hd (j % k) hm]
  exact hu
theorem ones_of {α : Type} {enc : α → List Value} (h1 : ∀ x, ∀ u ∈ enc x, u.oneCell' = true) (s : List α) : ∀ u ∈ s.flatMap enc, u.oneCell' = true := by
  intro u hu
  obtain ⟨f, _, h⟩ := List.mem_flatMap.1 hu
  exact h1 f u h

end Go.Proofs.Ytecobfhlpjlpkaa
