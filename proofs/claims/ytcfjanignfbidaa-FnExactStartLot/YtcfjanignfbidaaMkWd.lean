/- Proved here: how the laws' package marks lists of windows. (And ahead of it: Proved here: what is held of marked lists of lots.) -/
import Derived.Test.YtcfjanignfbidaaQmM
import Derived.Test.YtcfjanignfbidaaMkI
import Derived.Test.YtcfjanignfbidaaLwS
import Derived.Test.YtcfjanignfbidaaQwB
namespace Go.Proofs.Ytcfjanignfbidaa
open Go.RowKit
set_option linter.unusedVariables false
set_option linter.unusedSimpArgs false

set_option maxRecDepth 10000 in
set_option maxHeartbeats 3200000 in
theorem heldLotS_to {w : World} {B : Nat} {vl : Value} {ns : List (Nat × Nat)} {rs : List Lr} (z : Int) (hn : ns.length ≤ 1048576) (hz : 0 ≤ z ∧ z ≤ 10000000) (hb : ∀ i (h : i < ns.length), ns[i].1 ≤ 1048576 ∧ ns[i].2 ≤ 1048576) (hzb : ∀ i, i ≤ ns.length → zS ns i ≤ 10000000) (h : LM w B vl ns z ns.length rs) :
    Calls Try.prog 77 #[vl, .int .i64 z] w fun e w' => e = .returned (.int .i64 (z + (zS ns ns.length : Int))) ∧ w' = w := by
  obtain ⟨a, c, e⟩ := (OG.rg lrC_len h.row).form
  rw [h.len] at e
  subst e
  obtain ⟨n, hnn⟩ : ∃ n, n = ns.length := ⟨_, rfl⟩
  obtain ⟨Z, hZ⟩ : ∃ Z, Z = zS ns ns.length := ⟨_, rfl⟩
  have H : Hid (LM w B (.slice a n c) ns z ns.length rs ∧ n = ns.length ∧ (∀ i (h : i < ns.length), ns[i].1 ≤ 1048576 ∧ ns[i].2 ≤ 1048576) ∧ Z = zS ns ns.length ∧ (∀ i, i ≤ ns.length → zS ns i ≤ 10000000)) := ⟨by rw [hnn]; exact h, hnn, hb, hZ, hzb⟩
  rw [← hnn] at hn ⊢
  rw [hnn, ← hZ]
  rw [← hnn]
  clear h hnn hZ hb hzb
  go_enter Try.func77, Try.ntmps77
  go_wp2
  go_loopw [1, 5] (fun q i wr => ∃ (j : Nat) (y : Nat), j ≤ n ∧ i = .int .i64 j ∧ q = .int .i64 (z + (y : Int)) ∧ y ≤ 10000000 ∧ Hid (y = zS ns j) ∧ wr = w) (fun _ i _ => n - (intOf i).toNat)
  case atStart => exact ⟨0, 0, Nat.zero_le _, rfl, by simp, by omega, rfl, rfl⟩
  case round =>
    obtain ⟨j, y, hjn, rfl, rfl, hy, hR, rfl⟩ := hrel
    by_cases hlt : j < n
    · have hjl : j < ns.length := by rw [← H.out.2.1]; exact hlt
      have hjr : j < rs.length := by rw [H.out.1.len]; exact hjl
      obtain ⟨g, o, c', he, hgl, hcell⟩ := (OG.rg lrC_len H.out.1.row).pos (by omega)
      injection he with he1 hx2 hx3
      clear hx2 hx3
      subst he1
      obtain ⟨x, hx⟩ : ∃ x, x = rs[j] := ⟨_, rfl⟩
      obtain ⟨c0, c1, c2, c3, c4⟩ := lrC_at (hcell j hjr)
      rw [← hx] at c0 c1 c2 c3 c4
      obtain ⟨n1, hn1⟩ : ∃ x, x = ns[j].1 := ⟨_, rfl⟩
      obtain ⟨n2, hn2⟩ : ∃ x, x = ns[j].2 := ⟨_, rfl⟩
      obtain ⟨hi, hp, hh⟩ := H.out.1.num j hjr hjl hjl
      obtain ⟨xw, hxw, exw⟩ := H.out.1.ws j hjr hjl
      obtain ⟨xd, hxd, exd⟩ := H.out.1.dn j hjr hjl
      have exw' := exw hjl
      have exd' := exd hjl
      subst exw' exd'
      rw [← hx, ← hR.out, ← hn1] at hxw
      rw [← hx, ← hR.out, ← hn1, ← hn2] at hxd
      rw [← hx, ← hR.out] at hi hp hh
      rw [← hn1] at hh
      have hb1 := H.out.2.2.1 j hjl
      have hbz := H.out.2.2.2.2 (j + 1) hjl
      rw [zS_at hjl, ← hn1, ← hn2, ← hR.out] at hbz
      rw [← hn1, ← hn2] at hb1
      rw [hi] at c0
      rw [hp] at c1
      obtain ⟨z2, hz2⟩ : ∃ u, u = z + (y : Int) + 1 + 1 := ⟨_, rfl⟩
      obtain ⟨z3, hz3⟩ : ∃ u, u = z2 + (n1 : Int) := ⟨_, rfl⟩
      obtain ⟨z4, hz4⟩ : ∃ u, u = z3 + 1 := ⟨_, rfl⟩
      obtain ⟨r3, hr3⟩ : ∃ u, u = z3 % 3 := ⟨_, rfl⟩
      have hq3 : z3.tmod 3 = r3 := by rw [hr3]; exact Int.tmod_eq_emod_of_nonneg (by omega)
      have hhd : x.hd = (r3 == 0) := by
        rw [hh, hr3, hz3, hz2, show z + (y : Int) + 2 + (n1 : Int) = z + (y : Int) + 1 + 1 + (n1 : Int) by omega]
        rfl
      rw [hhd] at c3
      have HA : Hid (Calls Try.prog 78 #[.slice x.wa x.wn x.wc, .int .i64 z2] wr fun e w' => e = .returned (.int .i64 z3) ∧ w' = wr) := by
        rw [hz3]
        exact heldInt64S_to z2 hb1.1 (by omega) (by omega) (by rw [show z2 = z + (y : Int) + 2 by omega]; exact hxw)
      have HD : Hid (Calls Try.prog 78 #[.slice x.da x.dn x.dc, .int .i64 z4] wr fun e w' => e = .returned (.int .i64 (z4 + (n2 : Int))) ∧ w' = wr) :=
        heldInt64S_to z4 hb1.2 (by omega) (by omega) (by rw [show z4 = z + (y : Int) + 3 + (n1 : Int) by omega]; exact hxd)
      have HN : Hid (y + (3 + n1 + n2) = zS ns (j + 1) ∧ z4 + (n2 : Int) = z + ((y + (3 + n1 + n2) : Nat) : Int)) := ⟨by rw [zS_at hjl, ← hR.out, ← hn1, ← hn2], by omega⟩
      have b0 : (0 : Int) ≤ (j : Int) := by omega
      have b1 : (j : Int) < (n : Int) := by omega
      have k1 : IntKind.i64.wrap (z + (y : Int) + 1) = z + (y : Int) + 1 := by rw [IntKind.wrap_i64]; omega
      have k2 : IntKind.i64.wrap (z + (y : Int) + 1 + 1) = z2 := by rw [IntKind.wrap_i64]; omega
      have k3 : IntKind.i64.wrap (z3 + 1) = z4 := by rw [IntKind.wrap_i64]; omega
      have k4 : ¬ z3 < 0 := by omega
      have k5 : ¬ z4 + (n2 : Int) < 0 := by omega
      clear hR hx hn1 hn2 hi hp hh hxw exw hxd exd hz2 hz3 hz4 hr3 hhd hcell hjl hjr
      go_wp2_with (fail)
      refine HA.out.mono ?_
      rintro e W2 ⟨rfl, hw2⟩
      subst W2
      go_wp2_with (fail)
      refine HD.out.mono ?_
      rintro e W2 ⟨rfl, hw2⟩
      subst W2
      go_wp2
      go_roundw
      case rel => exact ⟨j + 1, y + (3 + n1 + n2), by omega, by go_num, by rw [HN.out.2], by omega, HN.out.1, trivial⟩
      case measure => simp [intOf]; omega
    · obtain rfl : j = n := by omega
      have HD : Hid (y = Z) := by unfold Hid; rw [hR.out, H.out.2.2.2.1, ← H.out.2.1]
      clear hR
      go_wp2
      go_returns
      exact ⟨by rw [HD.out]; rfl, rfl⟩

end Go.Proofs.Ytcfjanignfbidaa

namespace Go.Proofs.Ytcfjanignfbidaa
open Go.RowKit
set_option linter.unusedVariables false
set_option linter.unusedSimpArgs false

set_option maxHeartbeats 800000 in
theorem markWindowS_zero (a : Option Addr) (c : Nat) (z : Int) (w : World) :
    Calls Try.prog 50 #[.slice a 0 c, .int .i64 z] w fun e w' => e = .returned (.int .i64 z) ∧ w' = w := by
  go_enter Try.func50, Try.ntmps50
  go_wp2
  refine wp_loop_rounds 1 ?_
  rw [rounds_succ]
  go_wp2
  go_returns
  exact ⟨rfl, rfl⟩
theorem marksWindow_step {ys : List Value} {n j : Nat} {z z0 : Int} (hl : ys.length = n * 3) (hj : j < n) (hz : z = z0 + 3 * (j : Int)) (h : ∀ t, t < j * 3 → ys[t]? = some (.int .i64 (z0 + (t : Int)))) :
    ∀ t, t < (j + 1) * 3 → ((((ys.set (j * 3) (.int .i64 (z))).set (j * 3 + 1) (.int .i64 (z + 1))).set (j * 3 + 2) (.int .i64 (z + 1 + 1))))[t]? = some (.int .i64 (z0 + (t : Int))) := by
  intro t ht
  rcases Nat.lt_or_ge t (j * 3) with h1 | h1
  · rw [List.getElem?_set_ne (by omega), List.getElem?_set_ne (by omega), List.getElem?_set_ne (by omega)]
    exact h t h1
  · rcases (by omega : t = j * 3 ∨ t = j * 3 + 1 ∨ t = j * 3 + 2) with rfl | rfl | rfl
    · rw [List.getElem?_set_ne (by omega), List.getElem?_set_ne (by omega), List.getElem?_set_self (by (try simp); omega)]
      rw [show z = z0 + (((j * 3 : Nat)) : Int) by omega]
    · rw [List.getElem?_set_ne (by omega), List.getElem?_set_self (by (try simp); omega)]
      rw [show z + 1 = z0 + (((j * 3 + 1 : Nat)) : Int) by omega]
    · rw [List.getElem?_set_self (by (try simp); omega)]
      rw [show z + 1 + 1 = z0 + (((j * 3 + 2 : Nat)) : Int) by omega]

set_option maxRecDepth 10000 in
set_option maxHeartbeats 3200000 in
theorem markWindowS_pos (g c n B : Nat) (ys : List Value) (z0 : Int) (w : World) (hn : n ≤ 1048576) (hz0 : 0 ≤ z0) (hz1 : z0 ≤ 1000000000000) (h : w.ownsRow B 99 3 (.slice (some ⟨g, 0, none⟩) n c) n ys) :
    Calls Try.prog 50 #[.slice (some ⟨g, 0, none⟩) n c, .int .i64 z0] w fun e w' => e = .returned (.int .i64 (z0 + 3 * (n : Int))) ∧ w'.ownsRow B 99 3 (.slice (some ⟨g, 0, none⟩) n c) n (mkV z0 (n * 3)) ∧ Only g w w' := by
  have H : Hid (w.ownsRow B 99 3 (.slice (some ⟨g, 0, none⟩) n c) n ys) := h
  clear h
  go_enter Try.func50, Try.ntmps50
  go_wp2
  go_loopw [1, 5] (fun q i wr => ∃ (j : Nat) (z : Int), j ≤ n ∧ i = .int .i64 j ∧ q = .int .i64 z ∧ 0 ≤ z ∧ z ≤ 1000100000000 ∧ Hid (z = z0 + 3 * (j : Int) ∧ ∃ ys : List Value, ys.length = n * 3 ∧ (∀ t, t < j * 3 → ys[t]? = some (.int .i64 (z0 + (t : Int)))) ∧ wr.ownsRow B 99 3 (.slice (some ⟨g, 0, none⟩) n c) n ys ∧ Only g w wr)) (fun _ i _ => n - (intOf i).toNat)
  case atStart => exact ⟨0, z0, Nat.zero_le _, rfl, rfl, by omega, by omega, by simp, ys, by have := H.out.1; omega, fun t ht => by omega, H.out, Only.refl _ _⟩
  case round =>
    clear H
    obtain ⟨j, z, hj, rfl, rfl, hzz0, hzz1, hR⟩ := hrel
    by_cases hlt : j < n
    · obtain ⟨hzj, ys, hyl, hyt, ho, hon⟩ := hR.out
      have HZ : Hid (z + 1 + 1 + 1 = z0 + 3 * ((j + 1 : Nat) : Int)) := by unfold Hid; omega
      have hz4 : z + 1 + 1 + 1 ≤ 1000100000000 := by omega
      have f0 := World.ownsRow.frozenAt ho (j * 3)
      have g0 : wr.cell? ⟨g, j * 3, none⟩ = some (ys.getD (j * 3) (.bool false)) := by rw [World.ownsRow.cellAt ho _ (by omega)]; simp [hyl, show j * 3 < n * 3 by omega]
      have f1 := World.ownsRow.frozenAt ho (j * 3 + 1)
      have g1 : wr.cell? ⟨g, j * 3 + 1, none⟩ = some (ys.getD (j * 3 + 1) (.bool false)) := by rw [World.ownsRow.cellAt ho _ (by omega)]; simp [hyl, show j * 3 + 1 < n * 3 by omega]
      have f2 := World.ownsRow.frozenAt ho (j * 3 + 2)
      have g2 : wr.cell? ⟨g, j * 3 + 2, none⟩ = some (ys.getD (j * 3 + 2) (.bool false)) := by rw [World.ownsRow.cellAt ho _ (by omega)]; simp [hyl, show j * 3 + 2 < n * 3 by omega]
      have R : Hid (∃ ys : List Value, ys.length = n * 3 ∧ (∀ t, t < (j + 1) * 3 → ys[t]? = some (.int .i64 (z0 + (t : Int)))) ∧ ((((wr.setCell ⟨g, j * 3, none⟩ (.int .i64 (z))).setCell ⟨g, j * 3 + 1, none⟩ (.int .i64 (z + 1))).setCell ⟨g, j * 3 + 2, none⟩ (.int .i64 (z + 1 + 1)))).ownsRow B 99 3 (.slice (some ⟨g, 0, none⟩) n c) n ys ∧ Only g w ((((wr.setCell ⟨g, j * 3, none⟩ (.int .i64 (z))).setCell ⟨g, j * 3 + 1, none⟩ (.int .i64 (z + 1))).setCell ⟨g, j * 3 + 2, none⟩ (.int .i64 (z + 1 + 1))))) :=
        ⟨_, by simpa using hyl, marksWindow_step hyl hlt hzj hyt, (World.ownsRow.stored (World.ownsRow.stored (World.ownsRow.stored ho (j * 3) (.int .i64 (z))).1 (j * 3 + 1) (.int .i64 (z + 1))).1 (j * 3 + 2) (.int .i64 (z + 1 + 1))).1, (((hon.set _ _).set _ _).set _ _)⟩
      have hgl : g < wr.heap.size := (World.ownsRow.lt ho g rfl).2
      clear ho hon hR hyl hzj hyt
      generalize ys.getD (j * 3) (.bool false) = v0 at g0
      generalize ys.getD (j * 3 + 1) (.bool false) = v1 at g1
      generalize ys.getD (j * 3 + 2) (.bool false) = v2 at g2
      have b0 : (0 : Int) ≤ (j : Int) := by omega
      have b1 : (j : Int) < (n : Int) := by omega
      go_wp2
      go_roundw
      case rel => exact ⟨j + 1, _, by omega, by go_num, rfl, by omega, hz4, HZ.out, R.out⟩
      case measure => simp [intOf]; omega
    · have HR : Hid _ := hR.out
      clear hR
      go_wp2
      go_returns
      obtain ⟨hzj, ys, hyl, hyt, ho, hon⟩ := HR.out
      obtain rfl : j = n := by omega
      refine ⟨by rw [hzj]; rfl, ?_, hon⟩
      rw [← mkV_of hyl hyt]; exact ho
theorem markWindowS_to {w : World} {B Z n : Nat} {v : Value} {ys : List Value} (z : Int) (hn : n ≤ 1048576) (hz0 : 0 ≤ z) (hz1 : z ≤ 1000000000000) (h : w.ownsRow B 99 3 v n ys) (hZ : ∀ g, v.ownBlock = some g → g < Z) :
    Calls Try.prog 50 #[v, .int .i64 z] w fun e w' => e = .returned (.int .i64 (z + 3 * (n : Int))) ∧ w'.ownsRow B 99 3 v n (mkV z (n * 3)) ∧ Chg B Z w w' := by
  rcases h.2 with ⟨rfl, rfl⟩ | ⟨g, cap, cur, rfl, hB, _⟩
  · refine (markWindowS_zero none 0 z w).mono ?_
    rintro e w' ⟨rfl, rfl⟩
    refine ⟨by simp, ?_, Chg.refl _ _ _⟩
    have e : ys = [] := List.length_eq_zero_iff.1 (by have := h.1; omega)
    rw [e] at h
    simpa [mkV] using h
  · refine (markWindowS_pos g cap n B ys z w hn hz0 hz1 h).mono ?_
    rintro e w' ⟨rfl, h1, h2⟩
    exact ⟨rfl, h1, Chg.only h2 hB (hZ g rfl)⟩

set_option maxHeartbeats 800000 in
theorem heldWindowS_zero (a : Option Addr) (c : Nat) (z : Int) (w : World) :
    Calls Try.prog 76 #[.slice a 0 c, .int .i64 z] w fun e w' => e = .returned (.int .i64 z) ∧ w' = w := by
  go_enter Try.func76, Try.ntmps76
  go_wp2
  refine wp_loop_rounds 1 ?_
  rw [rounds_succ]
  go_wp2
  go_returns
  exact ⟨rfl, rfl⟩

set_option maxHeartbeats 3200000 in
theorem heldWindowS_pos (g c n : Nat) (z0 : Int) (w : World) (hn : n ≤ 1048576) (hz0 : 0 ≤ z0) (hz1 : z0 ≤ 1000000000000) (h : ∀ t, t < n * 3 → w.cell? ⟨g, t, none⟩ = some (.int .i64 (z0 + (t : Int)))) :
    Calls Try.prog 76 #[.slice (some ⟨g, 0, none⟩) n c, .int .i64 z0] w fun e w' => e = .returned (.int .i64 (z0 + 3 * (n : Int))) ∧ w' = w := by
  have H : Hid (∀ t, t < n * 3 → w.cell? ⟨g, t, none⟩ = some (.int .i64 (z0 + (t : Int)))) := h
  clear h
  go_enter Try.func76, Try.ntmps76
  go_wp2
  go_loop [1, 5] (fun q i => ∃ (j : Nat) (z : Int), j ≤ n ∧ i = .int .i64 j ∧ q = .int .i64 z ∧ 0 ≤ z ∧ z ≤ 1000100000000 ∧ Hid (z = z0 + 3 * (j : Int))) (fun _ i => n - (intOf i).toNat)
  case atStart => exact ⟨0, z0, Nat.zero_le _, rfl, rfl, by omega, by omega, by unfold Hid; simp⟩
  case round =>
    obtain ⟨j, z, hj, rfl, rfl, hzz0, hzz1, hR⟩ := hrel
    by_cases hlt : j < n
    · have HZ : Hid (z + 1 + 1 + 1 = z0 + 3 * ((j + 1 : Nat) : Int)) := by unfold Hid; have := hR.out; omega
      have c0 := H.out (j * 3) (by omega)
      rw [show z0 + (((j * 3 : Nat)) : Int) = z by have := hR.out; omega] at c0
      have c1 := H.out (j * 3 + 1) (by omega)
      rw [show z0 + (((j * 3 + 1 : Nat)) : Int) = z + 1 by have := hR.out; omega] at c1
      have c2 := H.out (j * 3 + 2) (by omega)
      rw [show z0 + (((j * 3 + 2 : Nat)) : Int) = z + 1 + 1 by have := hR.out; omega] at c2
      have b0 : (0 : Int) ≤ (j : Int) := by omega
      have b1 : (j : Int) < (n : Int) := by omega
      have hz4 : z + 1 + 1 + 1 ≤ 1000100000000 := by have := HZ.out; omega
      clear hR
      go_wp2
      go_round
      case rel => exact ⟨j + 1, _, by omega, by go_num, rfl, by omega, hz4, HZ.out⟩
      case measure => simp [intOf]; omega
    · have e : Hid (z = z0 + 3 * (n : Int)) := by unfold Hid; rw [hR.out]; omega
      go_wp2
      go_returns
      exact ⟨by rw [← e.out]; rfl, rfl⟩
theorem heldWindowS_to {w : World} {B n : Nat} {v : Value} (z : Int) (hn : n ≤ 1048576) (hz0 : 0 ≤ z) (hz1 : z ≤ 1000000000000) (h : w.ownsRow B 99 3 v n (mkV z (n * 3))) :
    Calls Try.prog 76 #[v, .int .i64 z] w fun e w' => e = .returned (.int .i64 (z + 3 * (n : Int))) ∧ w' = w := by
  rcases h.2 with ⟨rfl, rfl⟩ | ⟨g, cap, cur, rfl, hB, _⟩
  · refine (heldWindowS_zero none 0 z w).mono ?_
    rintro e w' ⟨rfl, rfl⟩
    exact ⟨by simp, rfl⟩
  · refine heldWindowS_pos g cap n z w hn hz0 hz1 fun t ht => ?_
    rw [World.ownsRow.cellAt (w := w) (g := g) (cap := cap) h t (by omega), mkV_at ht]

end Go.Proofs.Ytcfjanignfbidaa
