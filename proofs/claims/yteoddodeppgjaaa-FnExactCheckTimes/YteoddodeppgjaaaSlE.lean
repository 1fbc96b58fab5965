/- Proved here: slices.Equal at numbers. -/
import Derived.Test.YteoddodeppgjaaaNlJ
namespace Go.Proofs.Yteoddodeppgjaaa
open Go.RowKit
set_option linter.unusedVariables false
set_option linter.unusedSimpArgs false

theorem getD_at {s : List Int} {j : Nat} (h : j < s.length) : s.getD j 0 = s[j] := by
  rw [List.getD_eq_getElem?_getD, List.getElem?_eq_getElem h]; rfl

set_option maxHeartbeats 1600000 in
theorem sl_equal {w : World} {va vb : Value} {p q : List Int} (hp : p.length ≤ 1048576) (hq : q.length ≤ 1048576) (ha : RdI w va p) (hb : RdI w vb q) :
    Calls Try.prog 50 #[va, vb] w fun e w' => e = .returned (.bool (decide (p = q))) ∧ Below w.heap.size w w' := by
  obtain ⟨a1, c1', rfl⟩ := ha.form
  obtain ⟨a2, c2', rfl⟩ := hb.form
  obtain ⟨n, hnn⟩ : ∃ n, n = p.length := ⟨_, rfl⟩
  obtain ⟨m, hmm⟩ : ∃ m, m = q.length := ⟨_, rfl⟩
  obtain ⟨D, hD⟩ : ∃ D, D = decide (p = q) := ⟨_, rfl⟩
  rw [← hnn] at hp ha ⊢
  rw [← hmm] at hq hb ⊢
  rw [← hD]
  have H : Hid (RdI w (.slice a1 n c1') p ∧ RdI w (.slice a2 m c2') q ∧ n = p.length ∧ m = q.length ∧ D = decide (p = q)) := ⟨ha, hb, hnn, hmm, hD⟩
  clear ha hb hnn hmm hD
  by_cases hnm : n = m
  case neg =>
    have HE : Hid (D = false) := by
      unfold Hid; rw [H.out.2.2.2.2]
      exact decide_eq_false (fun e => hnm (by rw [H.out.2.2.1, H.out.2.2.2.1, e]))
    have hi : ¬ (n : Int) = (m : Int) := by omega
    go_enter Try.func50, Try.ntmps50
    go_wp2
    go_returns
    exact ⟨by rw [HE.out]; rfl, Below.refl _ _⟩
  subst hnm
  go_enter Try.func50, Try.ntmps50
  go_wp2
  go_loopw [13] (fun i wr => ∃ j : Nat, j ≤ n ∧ i = .int .i64 j ∧ Hid (Below w.heap.size w wr ∧ ∀ k, k < j → p.getD k 0 = q.getD k 0)) (fun i _ => n - (intOf i).toNat)
  case atStart => exact ⟨0, Nat.zero_le _, rfl, Below.refl _ _, fun k hk => by omega⟩
  case round =>
    obtain ⟨j, hjn, rfl, hR⟩ := hrel
    by_cases hlt : j < n
    · have hjp : j < p.length := by rw [← H.out.2.2.1]; exact hlt
      have hjq : j < q.length := by rw [← H.out.2.2.2.1]; exact hlt
      obtain ⟨g, o, d1, he, hg, hj⟩ := (H.out.1.below hR.out.1).ri (by omega)
      simp only [Value.slice.injEq] at he
      obtain ⟨rfl, hx1, hx2⟩ := he
      obtain ⟨g', o', d2, he', hg', hj'⟩ := (H.out.2.1.below hR.out.1).ri (by omega)
      simp only [Value.slice.injEq] at he'
      obtain ⟨rfl, hx3, hx4⟩ := he'
      clear hx1 hx2 hx3 hx4
      have c0 := hj j hjp
      have e0 := hj' j hjq
      obtain ⟨x, hx⟩ : ∃ x, x = p.getD j 0 := ⟨_, rfl⟩
      obtain ⟨y, hy⟩ : ∃ y, y = q.getD j 0 := ⟨_, rfl⟩
      rw [← hx] at c0
      rw [← hy] at e0
      have HX : Hid (x = p.getD j 0 ∧ y = q.getD j 0) := ⟨hx, hy⟩
      have HR : Hid _ := hR.out
      clear hx hy hj hj' hR
      have b0 : (0 : Int) ≤ (j : Int) := by omega
      have b1 : (j : Int) < (n : Int) := by omega
      by_cases hxy : x = y
      · subst hxy
        have HP : Hid (∀ k, k < j + 1 → p.getD k 0 = q.getD k 0) := fun k hk => by
          rcases (by omega : k < j ∨ k = j) with e | rfl
          · exact HR.out.2 k e
          · rw [← HX.out.1, ← HX.out.2]
        go_wp2
        go_quiet (fail)
        go_wp2
        go_roundw
        case rel => exact ⟨j + 1, by omega, by go_num, below_drewN HR.out.1 _, HP.out⟩
        case measure => simp [intOf]; omega
      · have HE : Hid (D = false) := by
          unfold Hid; rw [H.out.2.2.2.2]
          exact decide_eq_false (fun e => hxy (by rw [HX.out.1, HX.out.2, e]))
        go_wp2
        go_quiet (fail)
        go_wp2
        go_returns
        exact ⟨by rw [HE.out]; rfl, below_drewN HR.out.1 _⟩
    · have HE : Hid (D = true) := by
        unfold Hid; rw [H.out.2.2.2.2]
        refine decide_eq_true (List.ext_getElem (by rw [← H.out.2.2.1, ← H.out.2.2.2.1]) fun k h1 h2 => ?_)
        have := hR.out.2 k (by rw [← H.out.2.2.1] at h1; omega)
        rw [getD_at h1, getD_at h2] at this
        exact this
      have HB : Hid (Below w.heap.size w wr) := hR.out.1
      clear hR
      go_wp2
      go_returns
      exact ⟨by rw [HE.out]; rfl, HB.out⟩

end Go.Proofs.Yteoddodeppgjaaa
