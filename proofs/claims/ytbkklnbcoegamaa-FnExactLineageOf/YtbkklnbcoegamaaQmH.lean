/- Proved here: what is held of marked lists of lots. -/
import Derived.Test.YtbkklnbcoegamaaQmM
import Derived.Test.YtbkklnbcoegamaaMkI
namespace Go.Proofs.Ytbkklnbcoegamaa
open Go.RowKit
set_option linter.unusedVariables false
set_option linter.unusedSimpArgs false

set_option maxRecDepth 10000 in
set_option maxHeartbeats 3200000 in
theorem heldLotS_to {w : World} {B : Nat} {vl : Value} {ns : List (Nat × Nat)} {rs : List Lr} (z : Int) (hn : ns.length ≤ 1048576) (hz : 0 ≤ z ∧ z ≤ 10000000) (hb : ∀ i (h : i < ns.length), ns[i].1 ≤ 1048576 ∧ ns[i].2 ≤ 1048576) (hzb : ∀ i, i ≤ ns.length → zS ns i ≤ 10000000) (h : LM w B vl ns z ns.length rs) :
    Calls Try.prog 67 #[vl, .int .i64 z] w fun e w' => e = .returned (.int .i64 (z + (zS ns ns.length : Int))) ∧ w' = w := by
  obtain ⟨a, c, e⟩ := (OG.rg lrC_len h.row).form
  rw [h.len] at e
  subst e
  obtain ⟨n, hnn⟩ : ∃ n, n = ns.length := ⟨_, rfl⟩
  obtain ⟨Z, hZ⟩ : ∃ Z, Z = zS ns ns.length := ⟨_, rfl⟩
  have H : Hid (LM w B (.slice a n c) ns z ns.length rs ∧ n = ns.length ∧ (∀ i (h : i < ns.length), ns[i].1 ≤ 1048576 ∧ ns[i].2 ≤ 1048576) ∧ Z = zS ns ns.length ∧ (∀ i, i ≤ ns.length → zS ns i ≤ 10000000)) := ⟨by rw [hnn]; exact h, hnn, hb, hZ, hzb⟩
  rw [← hnn] at hn ⊢
  rw [hnn, ← hZ]
  rw [← hnn]
  clear h hnn hZ hb hzb
  go_enter Try.func67, Try.ntmps67
  go_wp2
  go_loopw [1, 5] (fun q i wr => ∃ (j : Nat) (y : Nat), j ≤ n ∧ i = .int .i64 j ∧ q = .int .i64 (z + (y : Int)) ∧ y ≤ 10000000 ∧ Hid (y = zS ns j) ∧ wr = w) (fun _ i _ => n - (intOf i).toNat)
  case atStart => exact ⟨0, 0, Nat.zero_le _, rfl, by simp, by omega, rfl, rfl⟩
  case round =>
    obtain ⟨j, y, hjn, rfl, rfl, hy, hR, rfl⟩ := hrel
    by_cases hlt : j < n
    · have hjl : j < ns.length := by rw [← H.out.2.1]; exact hlt
      have hjr : j < rs.length := by rw [H.out.1.len]; exact hjl
      obtain ⟨g, o, c', he, hgl, hcell⟩ := (OG.rg lrC_len H.out.1.row).pos (by omega)
      injection he with he1 hx2 hx3
      clear hx2 hx3
      subst he1
      obtain ⟨x, hx⟩ : ∃ x, x = rs[j] := ⟨_, rfl⟩
      obtain ⟨c0, c1, c2, c3, c4⟩ := lrC_at (hcell j hjr)
      rw [← hx] at c0 c1 c2 c3 c4
      obtain ⟨n1, hn1⟩ : ∃ x, x = ns[j].1 := ⟨_, rfl⟩
      obtain ⟨n2, hn2⟩ : ∃ x, x = ns[j].2 := ⟨_, rfl⟩
      obtain ⟨hi, hp, hh⟩ := H.out.1.num j hjr hjl hjl
      obtain ⟨xw, hxw, exw⟩ := H.out.1.ws j hjr hjl
      obtain ⟨xd, hxd, exd⟩ := H.out.1.dn j hjr hjl
      have exw' := exw hjl
      have exd' := exd hjl
      subst exw' exd'
      rw [← hx, ← hR.out, ← hn1] at hxw
      rw [← hx, ← hR.out, ← hn1, ← hn2] at hxd
      rw [← hx, ← hR.out] at hi hp hh
      rw [← hn1] at hh
      have hb1 := H.out.2.2.1 j hjl
      have hbz := H.out.2.2.2.2 (j + 1) hjl
      rw [zS_at hjl, ← hn1, ← hn2, ← hR.out] at hbz
      rw [← hn1, ← hn2] at hb1
      rw [hi] at c0
      rw [hp] at c1
      obtain ⟨z2, hz2⟩ : ∃ u, u = z + (y : Int) + 1 + 1 := ⟨_, rfl⟩
      obtain ⟨z3, hz3⟩ : ∃ u, u = z2 + (n1 : Int) := ⟨_, rfl⟩
      obtain ⟨z4, hz4⟩ : ∃ u, u = z3 + 1 := ⟨_, rfl⟩
      obtain ⟨r3, hr3⟩ : ∃ u, u = z3 % 3 := ⟨_, rfl⟩
      have hq3 : z3.tmod 3 = r3 := by rw [hr3]; exact Int.tmod_eq_emod_of_nonneg (by omega)
      have hhd : x.hd = (r3 == 0) := by
        rw [hh, hr3, hz3, hz2, show z + (y : Int) + 2 + (n1 : Int) = z + (y : Int) + 1 + 1 + (n1 : Int) by omega]
        rfl
      rw [hhd] at c3
      have HA : Hid (Calls Try.prog 56 #[.slice x.wa x.wn x.wc, .int .i64 z2] wr fun e w' => e = .returned (.int .i64 z3) ∧ w' = wr) := by
        rw [hz3]
        exact heldInt64S_to z2 hb1.1 (by omega) (by omega) (by rw [show z2 = z + (y : Int) + 2 by omega]; exact hxw)
      have HD : Hid (Calls Try.prog 56 #[.slice x.da x.dn x.dc, .int .i64 z4] wr fun e w' => e = .returned (.int .i64 (z4 + (n2 : Int))) ∧ w' = wr) :=
        heldInt64S_to z4 hb1.2 (by omega) (by omega) (by rw [show z4 = z + (y : Int) + 3 + (n1 : Int) by omega]; exact hxd)
      have HN : Hid (y + (3 + n1 + n2) = zS ns (j + 1) ∧ z4 + (n2 : Int) = z + ((y + (3 + n1 + n2) : Nat) : Int)) := ⟨by rw [zS_at hjl, ← hR.out, ← hn1, ← hn2], by omega⟩
      have b0 : (0 : Int) ≤ (j : Int) := by omega
      have b1 : (j : Int) < (n : Int) := by omega
      have k1 : IntKind.i64.wrap (z + (y : Int) + 1) = z + (y : Int) + 1 := by rw [IntKind.wrap_i64]; omega
      have k2 : IntKind.i64.wrap (z + (y : Int) + 1 + 1) = z2 := by rw [IntKind.wrap_i64]; omega
      have k3 : IntKind.i64.wrap (z3 + 1) = z4 := by rw [IntKind.wrap_i64]; omega
      have k4 : ¬ z3 < 0 := by omega
      have k5 : ¬ z4 + (n2 : Int) < 0 := by omega
      clear hR hx hn1 hn2 hi hp hh hxw exw hxd exd hz2 hz3 hz4 hr3 hhd hcell hjl hjr
      go_wp2_with (fail)
      refine HA.out.mono ?_
      rintro e W2 ⟨rfl, hw2⟩
      subst W2
      go_wp2_with (fail)
      refine HD.out.mono ?_
      rintro e W2 ⟨rfl, hw2⟩
      subst W2
      go_wp2
      go_roundw
      case rel => exact ⟨j + 1, y + (3 + n1 + n2), by omega, by go_num, by rw [HN.out.2], by omega, HN.out.1, trivial⟩
      case measure => simp [intOf]; omega
    · obtain rfl : j = n := by omega
      have HD : Hid (y = Z) := by unfold Hid; rw [hR.out, H.out.2.2.2.1, ← H.out.2.1]
      clear hR
      go_wp2
      go_returns
      exact ⟨by rw [HD.out]; rfl, rfl⟩

end Go.Proofs.Ytbkklnbcoegamaa
