/- Proved here: columns of the model turned one by one. No condition on the program. -/
import Derived.Test.YtceljakmjddgbabEtM
import Derived.Test.YtceljakmjddgbabDsM
import Derived.Test.YtceljakmjddgbabLsG
import Derived.Test.YtceljakmjddgbabFsG
namespace Go.Proofs.Ytceljakmjddgbab
open Go.RowKit
set_option linter.unusedVariables false
set_option linter.unusedSimpArgs false

/-- The first j columns are turned. -/
def mpK (s : List (List Flm)) (f : List Flm → List Flm) (j : Nat) : List (List Flm) := (List.range s.length).map fun q => if q < j then f (s.getD q []) else s.getD q []
theorem mpK_len (s : List (List Flm)) (f : List Flm → List Flm) (j : Nat) : (mpK s f j).length = s.length := by simp [mpK]
theorem mpK_zero (s : List (List Flm)) (f : List Flm → List Flm) : mpK s f 0 = s := by
  apply List.ext_getElem
  · simp [mpK]
  · intro i h1 h2
    simp [mpK, h2]
theorem mpK_at (s : List (List Flm)) (f : List Flm → List Flm) {j : Nat} (h : j < s.length) : (mpK s f j).getD j [] = s.getD j [] := by simp [mpK, h]
theorem mpK_set (s : List (List Flm)) (f : List Flm → List Flm) {j : Nat} (h : j < s.length) : (mpK s f j).set j (f (s.getD j [])) = mpK s f (j + 1) := by
  apply List.ext_getElem
  · simp [mpK]
  · intro i h1 h2
    rw [List.length_set, mpK_len] at h1
    rw [List.getElem_set]
    split
    · rename_i e; subst e; simp [mpK]
    · rename_i e
      simp only [mpK, List.getElem_map, List.getElem_range]
      by_cases h3 : i < j
      · rw [if_pos h3, if_pos (by omega)]
      · rw [if_neg h3, if_neg (by omega)]
theorem mpK_same (s : List (List Flm)) (f : List Flm → List Flm) {j : Nat} (h : f (s.getD j []) = s.getD j []) : mpK s f j = mpK s f (j + 1) := by
  unfold mpK
  apply List.map_congr_left
  intro q _
  by_cases h3 : q < j
  · rw [if_pos h3, if_pos (by omega)]
  · rw [if_neg h3]
    split
    · rw [show q = j by omega, h]
    · rfl
theorem mpK_aft {s : List (List Flm)} {f : List Flm → List Flm} {lays : Nat → List Lay} (h : ∀ i, i < s.length → putA (lays i) (lays i).length = f (s.getD i [])) : mpK s f s.length = aftS lays s.length := by
  unfold mpK aftS
  apply List.map_congr_left
  intro q hq
  have hq' : q < s.length := by simpa using hq
  rw [if_pos hq', h q hq']
/-- What stripping leaves of a column. -/
def stF (m : Int) (c : List Flm) : List Flm := if 0 < c.length ∧ (fat c (c.length - 1)).m = m then c.take (c.length - 1) else c
/-- A list of the call's own, cut at its end. -/
theorem og_cut {w : World} {B g n cap k : Nat} {l : List Flm} (h : OG 76 2 flC w B (.slice (some ⟨g, 0, none⟩) n cap) l) (hk : k ≤ n) : OG 76 2 flC w B (.slice (some ⟨g, 0, none⟩) k cap) (l.take k) := by
  have hn : n = l.length := by obtain ⟨_, _, e⟩ := h.form; injection e
  have hl : (l.take k).length = k := by rw [List.length_take]; omega
  have e1 : (l.take k).flatMap flC = (l.flatMap flC).take (k * 2) := by
    apply List.ext_getElem?
    intro t
    rcases Nat.lt_or_ge t (k * 2) with ht | ht
    · obtain ⟨j, i, rfl, hi⟩ : ∃ j i, t = j * 2 + i ∧ i < 2 := ⟨t / 2, t % 2, by omega, by omega⟩
      rw [fm_get flC_len _ j i (by rw [hl]; omega) hi, List.getElem?_take_of_lt ht, fm_get flC_len l j i (by omega) hi]
      congr 1
      rw [List.getElem_take]
    · rw [List.getElem?_eq_none (by rw [fm_length flC_len, hl]; exact ht), List.getElem?_eq_none (by rw [List.length_take]; omega)]
  unfold OG
  rw [hl, e1]
  refine ⟨by rw [List.length_take, fm_length flC_len]; omega, ?_⟩
  rcases h.2 with ⟨e, h0⟩ | ⟨g', cap', cur, e, hB, hg, hn', hm, hs, ht⟩
  · cases e
  · injection e with e2 e3 e4
    injection e2 with e5
    injection e5 with e6
    subst e6 e4
    right
    refine ⟨g, cap, cur, rfl, hB, hg, by omega, hm, hs, ?_⟩
    rw [← ht, List.take_take, Nat.min_eq_left (by omega)]
theorem three_s {w : World} {k : Nat} {a b c : Value} {T : TypeId} (h : w.heap[k]? = some (.cells #[a, b, c] T)) :
    w.cell? ⟨k, 0, none⟩ = some a ∧ w.cell? ⟨k, 1, none⟩ = some b ∧ w.cell? ⟨k, 2, none⟩ = some c ∧ w.frozen? ⟨k, 0, none⟩ = false ∧ w.frozen? ⟨k, 1, none⟩ = false ∧ w.frozen? ⟨k, 2, none⟩ = false ∧ k < w.heap.size :=
  ⟨cellOf h 0 rfl, cellOf h 1 rfl, cellOf h 2 rfl, frozOf h 0, frozOf h 1, frozOf h 2, ltOf h⟩

end Go.Proofs.Ytceljakmjddgbab
