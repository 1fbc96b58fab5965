/- Proved here: there are least times, and they are a grid; what CheckTimes answers: ctB. -/
import Derived.Test.YteoddodeppgjaaaDtN
namespace Go.Proofs.Yteoddodeppgjaaa
set_option linter.unusedVariables false
set_option linter.unusedSimpArgs false

theorem dt_ex {n W : Nat} {R : List (List Int)} (hR : ∀ i k, i < n → k < W → 0 ≤ at2 R i k) (hn : 0 < n) : ∀ (f : Nat) (S : List (List Int)), (allS W S n).toNat ≤ f → Sh n W S → ST n W R S → ∃ T, Sh n W T ∧ ST n W R T ∧ Rest n W R T := by
  intro f
  induction f with
  | zero =>
    intro S hf hS hst
    by_cases he : ∃ i k j m, i < n ∧ k < W ∧ j < n ∧ m < W ∧ Adj i k j m ∧ at2 S j m + at2 R i k < at2 S i k
    · obtain ⟨i, k, j, m, hi, hk, hj, hm, ha, hlt⟩ := he
      have hr := (RL.start (R := R) hst.nn).turn hS hi hk hj hm ha (hR i k hi hk) hlt
      have h1 := allS_lt n hr.le (hr.st rfl)
      have h2 := allS_nn n hr.nn
      omega
    · refine ⟨S, hS, hst, ⟨hst.top, fun i k j m hi hk hj hm ha => ?_⟩⟩
      apply Int.not_lt.1
      intro h
      exact he ⟨i, k, j, m, hi, hk, hj, hm, ha, h⟩
  | succ f ih =>
    intro S hf hS hst
    by_cases he : ∃ i k j m, i < n ∧ k < W ∧ j < n ∧ m < W ∧ Adj i k j m ∧ at2 S j m + at2 R i k < at2 S i k
    · obtain ⟨i, k, j, m, hi, hk, hj, hm, ha, hlt⟩ := he
      have hr := (RL.start (R := R) hst.nn).turn hS hi hk hj hm ha (hR i k hi hk) hlt
      have h1 := allS_lt n hr.le (hr.st rfl)
      have h2 := allS_nn n hr.nn
      exact ih _ (by omega) (hS.set2 _ _ _) (hst.next hr hn)
    · refine ⟨S, hS, hst, ⟨hst.top, fun i k j m hi hk hj hm ha => ?_⟩⟩
      apply Int.not_lt.1
      intro h
      exact he ⟨i, k, j, m, hi, hk, hj, hm, ha, h⟩
theorem GG.range {ls : List (List Int)} (hG : GG 1000000 ls) : ∀ i k, i < ls.length → k < (ls.getD 0 []).length → 0 ≤ at2 ls i k ∧ at2 ls i k ≤ 1000000 := fun i k hi hk => by
  have h1 := hG.at i k
  unfold at2
  omega
theorem dtL_gg {ls : List (List Int)} (h0 : gfC ls 1000000 = 0) : GG 256000000 (dtL ls) ∧ Sh ls.length (ls.getD 0 []).length (dtL ls) := by
  have hG := gfC_good h0
  have hS : Sh ls.length (ls.getD 0 []).length (List.replicate ls.length (List.replicate (ls.getD 0 []).length (0 : Int))) := by
    refine ⟨by simp, fun j hj => ?_⟩
    rw [getD_lt (by simpa using hj)]; simp
  -- the far grid, as a list
  obtain ⟨F, hF, hFa⟩ : ∃ F, Sh ls.length (ls.getD 0 []).length F ∧ ∀ i k, i < ls.length → k < (ls.getD 0 []).length → at2 F i k = if 1 ≤ i then 1152921504606846976 else at2 ls i k := by
    refine ⟨(List.range ls.length).map fun i => (List.range (ls.getD 0 []).length).map fun k => if 1 ≤ i then 1152921504606846976 else at2 ls i k, ⟨by simp, fun j hj => ?_⟩, fun i k hi hk => ?_⟩
    · rw [getD_lt (by simpa using hj)]; simp
    · unfold at2
      rw [getD_lt (show i < _ by simpa using hi)]
      rw [getD_lt (show k < _ by simpa using hk)]
      simp
  obtain ⟨T, h1, h2, h3⟩ := dt_ex (fun i k hi hk => (hG.range i k hi hk).1) hG.h0 _ F (Nat.le_refl _) hF (far_st hG.range hG.h0 hG.h1 hFa)
  rw [dtL_is h0 h1 h3 h2.lo]
  have hr0 := h1.wd 0 hG.h0
  have hl := h1.len
  have hn := hG.h1
  refine ⟨⟨by rw [hl]; exact hG.h0, by rw [hl]; exact hG.h1, by rw [hr0]; exact hG.w0, by rw [hr0]; exact hG.w1, fun r hr => ?_, fun r hr x hx => ?_⟩, h1⟩
  · obtain ⟨j, hj, rfl⟩ := List.getElem_of_mem hr
    rw [hr0, ← getD_lt (d := []) hj]
    exact h1.wd j (by omega)
  · obtain ⟨j, hj, rfl⟩ := List.getElem_of_mem hr
    obtain ⟨m, hm, rfl⟩ := List.getElem_of_mem hx
    have hjn : j < ls.length := by omega
    have hw := h1.wd j hjn
    rw [getD_lt hj] at hw
    have e : at2 T j m = T[j][m] := by
      unfold at2
      rw [getD_lt hj, getD_lt hm]
    have a1 := h2.nn j m hjn (by omega)
    have a2 := rest_bd h3 (fun i k hi hk => (hG.range i k hi hk).2) j m hjn (by omega)
    rw [e] at a1 a2
    omega
noncomputable def ctB (r t : List (List Int)) : Bool := decide (gfC r 1000000 = 0 ∧ t = dtL r)

end Go.Proofs.Yteoddodeppgjaaa
