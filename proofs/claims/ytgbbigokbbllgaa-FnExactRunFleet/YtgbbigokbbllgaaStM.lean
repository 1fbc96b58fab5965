/- Proved here: a step of a fleet, vehicle by vehicle. -/
import Derived.Test.YtgbbigokbbllgaaFzM
namespace Go.Proofs.Ytgbbigokbbllgaa
open Go.RowKit
set_option linter.unusedVariables false
set_option linter.unusedSimpArgs false

/-- The zones while those that move are moved, one by one. -/
def stC (Z : Int) (s ms : List Int) (j : Nat) : List Int := rgL (fun i => if (i : Int) ∈ ms.take j then (s.getD i 0 + 1) % Z else s.getD i 0) s.length
theorem stC_len (Z : Int) (s ms : List Int) (j : Nat) : (stC Z s ms j).length = s.length := rgL_len _ _
theorem stC_at {Z : Int} {s ms : List Int} {j i : Nat} (h : i < s.length) : (stC Z s ms j).getD i 0 = if (i : Int) ∈ ms.take j then (s.getD i 0 + 1) % Z else s.getD i 0 := rgL_at _ h
theorem stC_zero (Z : Int) (s ms : List Int) : stC Z s ms 0 = s := by
  apply List.ext_getElem (stC_len _ _ _ _)
  intro i h1 h2
  rw [← gdI h1, ← gdI h2, stC_at h2]
  simp
theorem stC_step {Z : Int} {s ms : List Int} {j p : Nat} (hj : j < ms.length) (hp : ms.getD j 0 = (p : Int)) (hps : p < s.length) : stC Z s ms (j + 1) = (stC Z s ms j).set p ((s.getD p 0 + 1) % Z) := by
  apply List.ext_getElem (by rw [List.length_set, stC_len, stC_len])
  intro i h1 h2
  rw [stC_len] at h1
  rw [← gdI (by rw [stC_len]; exact h1), ← gdI (by rw [List.length_set, stC_len]; exact h1), stC_at h1]
  have htk : ms.take (j + 1) = ms.take j ++ [(p : Int)] := by
    rw [List.take_add_one, List.getElem?_eq_getElem hj, Option.toList, ← gdI hj, hp]
  rw [htk]
  by_cases e : i = p
  · subst e
    rw [if_pos (by simp)]
    simp [List.getD_eq_getElem?_getD, List.getElem?_set, stC_len, h1]
  · have : ((stC Z s ms j).set p ((s.getD p 0 + 1) % Z)).getD i 0 = (stC Z s ms j).getD i 0 := by
      simp [List.getD_eq_getElem?_getD, List.getElem?_set, show p ≠ i by omega]
    rw [this, stC_at h1]
    by_cases hm : (i : Int) ∈ ms.take j
    · rw [if_pos hm, if_pos (by simp [hm])]
    · rw [if_neg hm, if_neg]
      intro h3
      rcases List.mem_append.1 h3 with h4 | h4
      · exact hm h4
      · have := List.mem_singleton.1 h4; omega
theorem mvM_mem {Z : Int} {s t : List Int} {n i : Nat} : (i : Int) ∈ mvM Z s t n ↔ i < n ∧ mvB Z s t i = true := by
  unfold mvM
  rw [List.mem_map]
  constructor
  · rintro ⟨k, hk, e⟩
    obtain rfl : k = i := by omega
    rw [List.mem_filter, List.mem_range] at hk
    exact hk
  · intro h
    exact ⟨i, by rw [List.mem_filter, List.mem_range]; exact h, rfl⟩
theorem mvM_nat {Z : Int} {s t : List Int} {n j : Nat} (hj : j < (mvM Z s t n).length) : ∃ p : Nat, (mvM Z s t n).getD j 0 = (p : Int) ∧ p < n := by
  have hm := gdMem hj
  have hm2 := hm
  unfold mvM at hm2
  rw [List.mem_map] at hm2
  obtain ⟨k, _, e⟩ := hm2
  refine ⟨k, e.symm, ?_⟩
  have : (k : Int) ∈ mvM Z s t n := by rw [e]; exact hm
  exact (mvM_mem.1 this).1
theorem mvM_new {Z : Int} {s t : List Int} {n j : Nat} (hj : j < (mvM Z s t n).length) : (mvM Z s t n).getD j 0 ∉ (mvM Z s t n).take j := by
  have hp : (mvM Z s t n).Pairwise (· ≠ ·) := by
    unfold mvM
    rw [List.pairwise_map]
    refine List.Pairwise.imp ?_ (List.Pairwise.filter _ List.pairwise_lt_range)
    intro a b h
    omega
  intro hm
  obtain ⟨i, hi, e⟩ := List.getElem_of_mem hm
  rw [List.length_take] at hi
  rw [List.getElem_take] at e
  rw [gdI hj] at e
  exact List.pairwise_iff_getElem.1 hp i j (by omega) hj (by omega) e
theorem stC_old {Z : Int} {s ms : List Int} {j p : Nat} (hps : p < s.length) (h : (p : Int) ∉ ms.take j) : (stC Z s ms j).getD p 0 = s.getD p 0 := by rw [stC_at hps, if_neg h]
theorem stC_done (Z : Int) (s t : List Int) : stC Z s (mvM Z s t s.length) (mvM Z s t s.length).length = mvA Z s t := by
  apply List.ext_getElem (by rw [stC_len, mvA_len])
  intro i h1 h2
  rw [stC_len] at h1
  rw [← gdI (by rw [stC_len]; exact h1), ← gdI h2, stC_at h1, mvA_at h1, List.take_length]
  unfold mvX
  by_cases hm : mvB Z s t i = true
  · rw [if_pos hm, if_pos (mvM_mem.2 ⟨h1, hm⟩)]
  · rw [if_neg hm, if_neg (fun h => hm (mvM_mem.1 h).2)]

end Go.Proofs.Ytgbbigokbbllgaa
