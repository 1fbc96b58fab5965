/- Proved here: how the laws' package finds sections marked. (And ahead of it: Proved here: how the laws' package marks sections.) (And ahead of it: Proved here: how the laws' package finds lists of lists of Film marked.) -/
import Derived.Test.YtceljakmjddgbabFiL
namespace Go.Proofs.Ytceljakmjddgbab
open Go.ChangeShapes Go.WideShapes Go.ChangeAt Go.RowKit Go.Joins Go.Deep
set_option linter.unusedVariables false
set_option linter.unusedSimpArgs false
set_option maxRecDepth 10000 in
set_option maxHeartbeats 4000000 in
theorem heldRows_isF {w : World} {B : Nat} {v : Value} {ls : List (List Flm)} {vs : List Value} (z0 : Int) (hn : SmF ls) (hz0 : 0 ≤ z0) (hz1 : z0 ≤ 1000000000) (h : RoF w B v (mkGF z0 ls ls.length) vs) :
    Calls Try.prog 82 #[v, .int .i64 z0] w fun e w' => e = .returned (.int .i64 (z0 + 2 * (totF ls ls.length : Int))) ∧ w' = w := by
  obtain ⟨a, c, hv⟩ := h.form
  rw [mkGF_len] at hv
  subst hv
  obtain ⟨m, hm⟩ : ∃ m, m = ls.length := ⟨_, rfl⟩
  rw [← hm] at h ⊢
  have H : Hid (RoF w B (.slice a m c) (mkGF z0 ls m) vs) := h
  have HM : Hid (m = ls.length ∧ SmF ls) := ⟨hm, hn⟩
  have hl : m ≤ 1048576 := by rw [hm]; exact hn.len
  clear h hm hn
  go_enter Try.func82, Try.ntmps82
  go_wp2_with (fail)
  go_loopw [1, 5] (fun q i wr => ∃ (j : Nat) (z : Int), j ≤ m ∧ i = .int .i64 j ∧ q = .int .i64 z ∧ 0 ≤ z ∧ z ≤ 2000000000 ∧ Hid (z = z0 + 2 * (totF ls j : Int) ∧ wr = w)) (fun _ i _ => m - (intOf i).toNat)
  case atStart => exact ⟨0, z0, Nat.zero_le _, rfl, rfl, hz0, by omega, by simp [totF], rfl⟩
  case round =>
    obtain ⟨j, z, hj, rfl, rfl, hz0', hz1', hR⟩ := hrel
    obtain ⟨hzj, rfl⟩ := hR.out
    have HZ : Hid (z = z0 + 2 * (totF ls j : Int)) := hzj
    clear hR hzj
    by_cases hlt : j < m
    · have hjl : j < (mkGF z0 ls m).length := by rw [mkGF_len, ← HM.out.1]; exact hlt
      obtain ⟨gr, cr, he, hgB, hgl, hjr⟩ := H.out.pos (by omega)
      simp only [Value.slice.injEq] at he
      obtain ⟨rfl, hx1, hx2⟩ := he
      clear hx1 hx2
      have r0 := hjr j hjl
      have hrw := H.out.bx j hjl
      rw [mkGF_at z0 ls hlt (by rw [← HM.out.1]; exact hlt)] at hrw
      have hbj := HM.out.2.row j
      have ht1 := HM.out.2.upto (show j + 1 ≤ ls.length by rw [← HM.out.1]; omega)
      obtain ⟨u, hu⟩ : ∃ u, u = rat vs j := ⟨_, rfl⟩
      rw [← hu] at r0 hrw
      obtain ⟨L, hL⟩ : ∃ L, L = (ls.getD j []).length := ⟨_, rfl⟩
      rw [← hL, ← HZ.out] at hrw
      have HC : Hid (Calls Try.prog 88 #[u, .int .i64 z] wr fun e w' => e = .returned (.int .i64 (z + 2 * (L : Int))) ∧ w' = wr) := held1F z (by omega) hz0' (by omega) hrw
      have HT : Hid (z + 2 * (L : Int) = z0 + 2 * (totF ls (j + 1) : Int)) := by unfold Hid; rw [HZ.out, hL]; simp only [totF]; omega
      have hLt : z + 2 * (L : Int) = z0 + 2 * (totF ls (j + 1) : Int) := HT.out
      obtain ⟨ua, uc, huf⟩ := hrw.form
      rw [marksF_length] at huf
      subst huf
      clear hjr hrw hu hL hbj
      have hz2 : 0 ≤ z + 2 * (L : Int) ∧ z + 2 * (L : Int) ≤ 2000000000 := by omega
      have hz3 : ¬ z + 2 * (L : Int) < 0 := by omega
      clear hLt ht1
      have b0 : (0 : Int) ≤ (j : Int) := by omega
      have b1 : (j : Int) < (m : Int) := by omega
      go_wp2_with (fail)
      refine HC.out.mono ?_
      rintro e w' ⟨rfl, rfl⟩
      go_wp2
      go_roundw
      case rel => exact ⟨j + 1, _, by omega, by go_num, rfl, hz2.1, hz2.2, HT.out, trivial⟩
      case measure => simp [intOf]; omega
    · have ej : m = j := by omega
      subst ej
      go_wp2
      go_returns
      exact ⟨by rw [HZ.out]; rfl, rfl⟩


end Go.Proofs.Ytceljakmjddgbab

namespace Go.Proofs.Ytceljakmjddgbab
open Go.ChangeShapes Go.WideShapes Go.ChangeAt Go.RowKit Go.Joins Go.Deep
set_option linter.unusedVariables false
set_option linter.unusedSimpArgs false

set_option maxHeartbeats 1600000 in
theorem markSection_to {w : World} {B Z : Nat} {v : Value} {ls : List (List Flm)} {vs : List Value} (z : Int) (hn : SmF ls) (hz0 : 0 ≤ z) (hz1 : z ≤ 1000000000) (h : RoF w B v ls vs) (hZ : LtF v vs ls.length Z) :
    Calls Try.prog 18 #[.agg #[v], .int .i64 z] w fun e w' => e = .returned (.int .i64 (z + 2 * (totF ls ls.length : Int))) ∧ RoF w' B v (mkGF z ls ls.length) vs ∧ Chg B Z w w' := by
  obtain ⟨a, c, e1⟩ := h.form
  obtain ⟨m, hm⟩ : ∃ m, m = ls.length := ⟨_, rfl⟩
  rw [← hm] at e1
  subst e1
  have H : Hid (RoF w B (.slice a m c) ls vs ∧ SmF ls ∧ LtF (.slice a m c) vs ls.length Z) := ⟨h, hn, hZ⟩
  clear h hm hn hZ
  go_enter Try.func18, Try.ntmps18
  go_wp2_with (fail)
  refine (markFilmSS_to z H.out.2.1 hz0 hz1 (H.out.1.below (by (repeat' (first | (with_reducible exact Below.refl _ _) | (with_reducible assumption) | (with_reducible refine Below.setCell ?_ ?_ _) | (with_reducible refine Below.alloc ?_ ?_ _) | (with_reducible refine below_drewN ?_ _) | (with_reducible refine Below.drew ?_) | (with_reducible exact Nat.le_refl _) | omega | (simp; done) | (simp; omega))))) H.out.2.2).mono ?_
  rintro e w1 ⟨rfl, hm1, hon⟩
  have HM : Hid (RoF w1 B (.slice a m c) (mkGF z ls ls.length) vs ∧ Chg B Z w w1) := ⟨hm1, Chg.trans (Chg.of_below (by (repeat' (first | (with_reducible exact Below.refl _ _) | (with_reducible assumption) | (with_reducible refine Below.setCell ?_ ?_ _) | (with_reducible refine Below.alloc ?_ ?_ _) | (with_reducible refine below_drewN ?_ _) | (with_reducible refine Below.drew ?_) | (with_reducible exact Nat.le_refl _) | omega | (simp; done) | (simp; omega))))) hon⟩
  clear hm1 hon
  go_wp2
  go_returns
  exact ⟨rfl, HM.out.1, HM.out.2⟩

end Go.Proofs.Ytceljakmjddgbab

namespace Go.Proofs.Ytceljakmjddgbab
open Go.ChangeShapes Go.WideShapes Go.ChangeAt Go.RowKit Go.Joins Go.Deep
set_option linter.unusedVariables false
set_option linter.unusedSimpArgs false

set_option maxHeartbeats 1600000 in
theorem heldSection_to {w : World} {B : Nat} {v : Value} {ls : List (List Flm)} {vs : List Value} (z : Int) (hn : SmF ls) (hz0 : 0 ≤ z) (hz1 : z ≤ 1000000000) (h : RoF w B v (mkGF z ls ls.length) vs) :
    Calls Try.prog 51 #[.agg #[v], .int .i64 z] w fun e w' => e = .returned (.int .i64 (z + 2 * (totF ls ls.length : Int))) ∧ Below w.heap.size w w' := by
  obtain ⟨a, c, e1⟩ := h.form
  rw [mkGF_len] at e1
  obtain ⟨m, hm⟩ : ∃ m, m = ls.length := ⟨_, rfl⟩
  rw [← hm] at e1
  subst e1
  obtain ⟨T, hT⟩ : ∃ T : Int, T = z + 2 * (totF ls ls.length : Int) := ⟨_, rfl⟩
  have hneg : ¬ T < 0 := by omega
  have HC : Hid (∀ W : World, Below w.heap.size w W → Calls Try.prog 82 #[.slice a m c, .int .i64 z] W fun e w' => e = .returned (.int .i64 T) ∧ w' = W) := fun W hW => by rw [hT]; exact heldRows_isF z hn hz0 hz1 (h.below hW)
  rw [← hT]
  clear h hm hn hT
  go_enter Try.func51, Try.ntmps51
  go_wp2_with (fail)
  refine (HC.out _ (by (repeat' (first | (with_reducible exact Below.refl _ _) | (with_reducible assumption) | (with_reducible refine Below.setCell ?_ ?_ _) | (with_reducible refine Below.alloc ?_ ?_ _) | (with_reducible refine below_drewN ?_ _) | (with_reducible refine Below.drew ?_) | (with_reducible exact Nat.le_refl _) | omega | (simp; done) | (simp; omega))))).mono ?_
  rintro e w1 ⟨rfl, rfl⟩
  go_wp2
  go_returns
  exact ⟨rfl, by (repeat' (first | (with_reducible exact Below.refl _ _) | (with_reducible assumption) | (with_reducible refine Below.setCell ?_ ?_ _) | (with_reducible refine Below.alloc ?_ ?_ _) | (with_reducible refine below_drewN ?_ _) | (with_reducible refine Below.drew ?_) | (with_reducible exact Nat.le_refl _) | omega | (simp; done) | (simp; omega)))⟩

end Go.Proofs.Ytceljakmjddgbab
