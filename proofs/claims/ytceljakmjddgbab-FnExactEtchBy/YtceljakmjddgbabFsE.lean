/- Proved here: sections compared, in the laws. (And ahead of it: Proved here: lists of lists of Film compared, in the laws.) (And ahead of it: Proved here: films compared, in the laws.) -/
import Derived.Test.YtceljakmjddgbabRwG
import Derived.OpenShut
import Derived.Lib.SmallJoins
import Derived.Test.YtceljakmjddgbabFiR
namespace Go.Proofs.Ytceljakmjddgbab
open Go.ChangeShapes Go.WideShapes Go.ChangeAt Go.RowKit Go.Joins Go.Deep
set_option linter.unusedVariables false
set_option linter.unusedSimpArgs false

set_option maxHeartbeats 1600000 in
theorem eqFilm_same (x : Flm) (w : World) :
    Calls Try.prog 87 #[.agg #[.int .i64 x.m, .int .i64 x.t], .agg #[.int .i64 x.m, .int .i64 x.t]] w fun e w' => e = .returned (.bool true) ∧ Below w.heap.size w w' := by
  go_enter Try.func87, Try.ntmps87
  go_wp2
  go_returns
  exact ⟨rfl, by (repeat' (first | (with_reducible exact Below.refl _ _) | (with_reducible assumption) | (with_reducible refine Below.setCell ?_ ?_ _) | (with_reducible refine Below.alloc ?_ ?_ _) | (with_reducible refine below_drewN ?_ _) | (with_reducible refine Below.drew ?_) | (with_reducible exact Nat.le_refl _) | omega | (simp; done) | (simp; omega)))⟩

set_option maxHeartbeats 1600000 in
theorem eqFilmS_same {w : World} {va vb : Value} {s : List Flm} (hn : s.length ≤ 1099511627776) (ha : RG 2 flC w va s) (hb : RG 2 flC w vb s) :
    Calls Try.prog 80 #[va, vb] w fun e w' => e = .returned (.bool true) ∧ Below w.heap.size w w' := by
  obtain ⟨a1, c1', rfl⟩ := ha.form
  obtain ⟨a2, c2', rfl⟩ := hb.form
  obtain ⟨n, hnn⟩ : ∃ n, n = s.length := ⟨_, rfl⟩
  rw [← hnn] at hn ha hb ⊢
  have H : Hid (RG 2 flC w (.slice a1 n c1') s ∧ RG 2 flC w (.slice a2 n c2') s ∧ n = s.length) := ⟨ha, hb, hnn⟩
  clear ha hb hnn
  go_enter Try.func80, Try.ntmps80
  go_wp2
  go_loopw [5] (fun i wr => ∃ j : Nat, j ≤ n ∧ i = .int .i64 j ∧ Hid (Below w.heap.size w wr)) (fun i _ => n - (intOf i).toNat)
  case atStart => exact ⟨0, Nat.zero_le _, rfl, Below.refl _ _⟩
  case round =>
    obtain ⟨j, hjn, rfl, hR⟩ := hrel
    by_cases hlt : j < n
    · have hjl : j < s.length := by rw [← H.out.2.2]; exact hlt
      obtain ⟨g, o, d1, he, hg, hj⟩ := (H.out.1.below hR.out).pos (by rw [← H.out.2.2]; omega)
      simp only [Value.slice.injEq] at he
      obtain ⟨rfl, hx1, hx2⟩ := he
      obtain ⟨g', o', d2, he', hg', hj'⟩ := (H.out.2.1.below hR.out).pos (by rw [← H.out.2.2]; omega)
      simp only [Value.slice.injEq] at he'
      obtain ⟨rfl, hx3, hx4⟩ := he'
      clear hx1 hx2 hx3 hx4
      obtain ⟨c0, c1⟩ := flC_at (hj j hjl)
      obtain ⟨e0, e1⟩ := flC_at (hj' j hjl)
      obtain ⟨x, hx⟩ : ∃ x, x = s[j] := ⟨_, rfl⟩
      rw [← hx] at c0 c1 e0 e1
      have hcall : Hid (∀ W, Calls Try.prog 87 #[.agg #[.int .i64 x.m, .int .i64 x.t], .agg #[.int .i64 x.m, .int .i64 x.t]] W fun e w' => e = .returned (.bool true) ∧ Below W.heap.size W w') := eqFilm_same x
      clear hx hj hj'
      have b0 : (0 : Int) ≤ (j : Int) := by omega
      have b1 : (j : Int) < (n : Int) := by omega
      go_wp2_with (fail)
      (refine wp_region_und (by kernel_rfl) (by kernel_rfl) (fun hund => ?_); (repeat (go_big_quiet_step (first | (go_at_call 87; with_reducible refine und_call ?_ (hcall.out _); exact Nat.le_refl _)))); with_reducible refine wpQuiet_nil ?_; clear hund; intro W1 hb1; obtain ⟨hc1, hf1⟩ := undcell hb1)
      have HB : Hid (Below w.heap.size w W1) := hR.out.trans (hb1.mono hR.out.size)
      clear hb1 hc1 hf1
      go_wp2
      go_roundw
      case rel => exact ⟨j + 1, by omega, by go_num, HB.out⟩
      case measure => simp [intOf]; omega
    · go_wp2
      go_returns
      exact ⟨rfl, hR.out⟩

end Go.Proofs.Ytceljakmjddgbab

namespace Go.Proofs.Ytceljakmjddgbab
open Go.ChangeShapes Go.WideShapes Go.ChangeAt Go.RowKit Go.Joins Go.Deep
set_option linter.unusedVariables false
set_option linter.unusedSimpArgs false


set_option maxRecDepth 10000 in
set_option maxHeartbeats 3200000 in
theorem eqFilmSS_same {w : World} {va vb : Value} {ls : List (List Flm)} (hn : SmF ls) (ha : RsF w va ls) (hb : RsF w vb ls) :
    Calls Try.prog 49 #[va, vb] w fun e w' => e = .returned (.bool true) ∧ Below w.heap.size w w' := by
  obtain ⟨a, c, rfl⟩ := ha.form
  obtain ⟨b, d, rfl⟩ := hb.form
  obtain ⟨n, hnn⟩ : ∃ n, n = ls.length := ⟨_, rfl⟩
  rw [← hnn] at ha hb ⊢
  have hn' : n ≤ 1048576 := by rw [hnn]; exact hn.len
  have H : Hid (RsF w (.slice a n c) ls ∧ RsF w (.slice b n d) ls ∧ SmF ls) := ⟨ha, hb, hn⟩
  clear ha hb hnn hn
  go_enter Try.func49, Try.ntmps49
  go_wp2_with (fail)
  go_loopw [5] (fun i wr => ∃ j : Nat, j ≤ n ∧ i = .int .i64 j ∧ Hid (Below w.heap.size w wr)) (fun i _ => n - (intOf i).toNat)
  case atStart => exact ⟨0, Nat.zero_le _, rfl, Below.refl _ _⟩
  case round =>
    obtain ⟨j, hjn, rfl, hR⟩ := hrel
    by_cases hlt : j < n
    · obtain ⟨g, o, ua, un, uc, rfl, hg, c0, hun, hrd⟩ := (H.out.1.below hR.out).at hlt
      obtain ⟨g', o', ub, um, ud, rfl, hg', c0', hun', hrd'⟩ := (H.out.2.1.below hR.out).at hlt
      have hlr := H.out.2.2.row j
      rw [← hun] at hun'
      rw [hun'] at c0' hrd'
      clear hun'
      have HC : Hid (∀ W, Below wr.heap.size wr W → Calls Try.prog 80 #[.slice ua un uc, .slice ub un ud] W fun e w' => e = .returned (.bool true) ∧ Below W.heap.size W w') := fun W hW => eqFilmS_same (by omega) (hrd.below hW) (hrd'.below hW)
      clear hrd hrd' hun hlr
      have b0 : (0 : Int) ≤ (j : Int) := by omega
      have b1 : (j : Int) < (n : Int) := by omega
      go_wp2_with (fail)
      (refine wp_region_und (by kernel_rfl) (by kernel_rfl) (fun hund => ?_); (repeat (go_big_quiet_step (first | (go_at_call 80; with_reducible refine und_call ?_ (HC.out _ (Und.below _)); exact Nat.le_refl _)))); with_reducible refine wpQuiet_nil ?_; clear hund; intro W1 hb1; obtain ⟨hc1, hf1⟩ := undcell hb1)
      have HB3 : Hid (Below w.heap.size w W1) := hR.out.trans (hb1.mono hR.out.size)
      clear hb1 hc1 hf1
      go_wp2
      go_roundw
      case rel => exact ⟨j + 1, by omega, by go_num, HB3.out⟩
      case measure => simp [intOf]; omega
    · have HB : Hid (Below w.heap.size w wr) := hR.out
      clear hR
      go_wp2
      go_returns
      exact ⟨rfl, HB.out⟩


end Go.Proofs.Ytceljakmjddgbab

namespace Go.Proofs.Ytceljakmjddgbab
open Go.ChangeShapes Go.WideShapes Go.ChangeAt Go.RowKit Go.Joins Go.Deep
set_option linter.unusedVariables false
set_option linter.unusedSimpArgs false

set_option maxHeartbeats 1600000 in
theorem eqSection_same {w : World} {va vb : Value} {s : List (List Flm)} (hn : SmF s) (ha : RsF w va s) (hb : RsF w vb s) :
    Calls Try.prog 15 #[.agg #[va], .agg #[vb]] w fun e w' => e = .returned (.bool true) ∧ Below w.heap.size w w' := by
  obtain ⟨a1, c1', rfl⟩ := ha.form
  obtain ⟨a2, c2', rfl⟩ := hb.form
  obtain ⟨n, hnn⟩ : ∃ n, n = s.length := ⟨_, rfl⟩
  rw [← hnn] at ha hb ⊢
  have H : Hid (RsF w (.slice a1 n c1') s ∧ RsF w (.slice a2 n c2') s ∧ SmF s) := ⟨ha, hb, hn⟩
  clear ha hb hn hnn
  go_enter Try.func15, Try.ntmps15
  go_wp2_with (fail)
  refine (eqFilmSS_same H.out.2.2 (H.out.1.below (by (repeat' (first | (with_reducible exact Below.refl _ _) | (with_reducible assumption) | (with_reducible refine Below.setCell ?_ ?_ _) | (with_reducible refine Below.alloc ?_ ?_ _) | (with_reducible refine below_drewN ?_ _) | (with_reducible refine Below.drew ?_) | (with_reducible exact Nat.le_refl _) | omega | (simp; done) | (simp; omega))))) (H.out.2.1.below (by (repeat' (first | (with_reducible exact Below.refl _ _) | (with_reducible assumption) | (with_reducible refine Below.setCell ?_ ?_ _) | (with_reducible refine Below.alloc ?_ ?_ _) | (with_reducible refine below_drewN ?_ _) | (with_reducible refine Below.drew ?_) | (with_reducible exact Nat.le_refl _) | omega | (simp; done) | (simp; omega)))))).mono ?_
  rintro e w1 ⟨rfl, hb1⟩
  have HB1 : Hid (Below w.heap.size w w1) := (show Below w.heap.size w _ from by (repeat' (first | (with_reducible exact Below.refl _ _) | (with_reducible assumption) | (with_reducible refine Below.setCell ?_ ?_ _) | (with_reducible refine Below.alloc ?_ ?_ _) | (with_reducible refine below_drewN ?_ _) | (with_reducible refine Below.drew ?_) | (with_reducible exact Nat.le_refl _) | omega | (simp; done) | (simp; omega)))).trans (hb1.mono (by simp; omega))
  clear hb1
  go_wp2
  go_returns
  exact ⟨rfl, HB1.out⟩

end Go.Proofs.Ytceljakmjddgbab
