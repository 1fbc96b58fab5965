/- Proved here: sections read, with what a row that is nil is. No condition on the program. -/
import Derived.Test.YtceljakmjddgbabFiR
namespace Go.Proofs.Ytceljakmjddgbab
open Go.RowKit
set_option linter.unusedVariables false
set_option linter.unusedSimpArgs false

/-- A slice that can be read as a list of columns; a column that is nil has no room. -/
def RsC (w : World) (v : Value) (ls : List (List Flm)) : Prop :=
  ∃ a c, v = .slice a ls.length c ∧ (0 < ls.length → ∃ g o, a = some ⟨g, o, none⟩ ∧ g < w.heap.size ∧ ∀ j, j < ls.length → ∃ u, w.cell? ⟨g, o + j, none⟩ = some u ∧ RG 2 flC w u (ls.getD j []) ∧ ∀ m d, u = .slice none m d → m = 0 ∧ d = 0)
theorem RsC.rs {w : World} {v : Value} {ls : List (List Flm)} (h : RsC w v ls) : RsF w v ls := by
  obtain ⟨a, c, rfl, h⟩ := h
  refine ⟨a, c, rfl, fun hp => ?_⟩
  obtain ⟨g, o, rfl, hg, hx⟩ := h hp
  refine ⟨g, o, rfl, hg, fun j hj => ?_⟩
  obtain ⟨u, h1, h2, _⟩ := hx j hj
  exact ⟨u, h1, h2⟩
theorem RsC.form {w : World} {v : Value} {ls : List (List Flm)} (h : RsC w v ls) : ∃ a c, v = .slice a ls.length c := by
  obtain ⟨a, c, rfl, _⟩ := h; exact ⟨a, c, rfl⟩
theorem RsC.len {w : World} {a : Option Addr} {n c : Nat} {ls : List (List Flm)} (h : RsC w (.slice a n c) ls) : n = ls.length := by
  obtain ⟨_, _, e⟩ := h.form; injection e
theorem RsC.below {w w' : World} {v : Value} {ls : List (List Flm)} (h : RsC w v ls) (hb : Below w.heap.size w w') : RsC w' v ls := by
  obtain ⟨a, c, rfl, h⟩ := h
  refine ⟨a, c, rfl, fun hn => ?_⟩
  obtain ⟨g, o, rfl, hg, hj⟩ := h hn
  refine ⟨g, o, rfl, Nat.lt_of_lt_of_le hg hb.size, fun j hl => ?_⟩
  obtain ⟨u, h1, h2, h3⟩ := hj j hl
  exact ⟨u, (hb.cell (p := ⟨g, o + j, none⟩) hg).trans h1, h2.below hb, h3⟩
theorem RsC.at {w : World} {a : Option Addr} {n c : Nat} {ls : List (List Flm)} (h : RsC w (.slice a n c) ls) {j : Nat} (hj : j < n) :
    ∃ g o ua un uc, a = some ⟨g, o, none⟩ ∧ g < w.heap.size ∧ w.cell? ⟨g, o + j, none⟩ = some (.slice ua un uc) ∧ un = (ls.getD j []).length ∧ RG 2 flC w (.slice ua un uc) (ls.getD j []) ∧ (ua = none → un = 0 ∧ uc = 0) := by
  have hn := h.len
  obtain ⟨a', c', e, h⟩ := h
  injection e with e1 e2 e3
  subst e1
  obtain ⟨g, o, rfl, hg, hx⟩ := h (by omega)
  obtain ⟨u, h1, h2, h3⟩ := hx j (by omega)
  obtain ⟨ua, uc, rfl⟩ := h2.form
  exact ⟨g, o, ua, _, uc, rfl, hg, h1, rfl, h2, fun e => h3 _ _ (by rw [e])⟩
theorem RoF.rdc {w : World} {B : Nat} {v : Value} {ls : List (List Flm)} {vs : List Value} (h : RoF w B v ls vs) : RsC w v ls := by
  obtain ⟨a, c, rfl⟩ := h.form
  refine ⟨a, c, rfl, fun hp => ?_⟩
  obtain ⟨g, cap, e, hB, hg, hx⟩ := h.pos hp
  injection e with e1 e2 e3
  subst e1
  refine ⟨g, 0, rfl, hg, fun j hj => ⟨_, by rw [Nat.zero_add]; exact hx j hj, OG.rg flC_len (h.bx j hj), fun m d e => ?_⟩⟩
  rcases (h.bx j hj).2 with ⟨e2, _⟩ | ⟨g2, cap2, cur, e2, _⟩
  · rw [e2] at e; injection e with _ e3 e4; exact ⟨e3.symm, e4.symm⟩
  · rw [e2] at e; injection e with e3; cases e3
/-- The cells of a column, as an append wants them. -/
theorem row_newsF {W : World} {a : Option Addr} {n c : Nat} {s : List Flm} (h : RG 2 flC W (.slice a n c) s) : ∀ ad, a = some ad → ∀ j u, (s.flatMap flC)[j]? = some u → W.cell? (ad.add j) = some u := by
  intro ad ha j u hu
  have hj : j < (s.flatMap flC).length := by
    rcases Nat.lt_or_ge j (s.flatMap flC).length with h' | h'
    · exact h'
    · rw [List.getElem?_eq_none h'] at hu; cases hu
  rw [fm_length flC_len] at hj
  obtain ⟨g, o, c', he, hg, hx⟩ := h.pos (by omega)
  injection he with he1
  rw [he1] at ha
  injection ha with ha
  subst ha
  obtain ⟨k, i, rfl, hi⟩ : ∃ k i, j = k * 2 + i ∧ i < 2 := ⟨j / 2, j % 2, by omega, by omega⟩
  have hk : k < s.length := by omega
  rw [fm_get flC_len s k i hk hi] at hu
  rw [Addr.add_lit, ← Nat.add_assoc, hx k hk i hi]
  exact hu
theorem flC_ones (s : List Flm) : ∀ u ∈ s.flatMap flC, u.oneCell' = true := by
  intro u hu
  obtain ⟨f, _, h⟩ := List.mem_flatMap.1 hu
  exact flC_one f u h

end Go.Proofs.Ytceljakmjddgbab
