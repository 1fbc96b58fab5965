/- Proved here: what is left of a die, of the model (l15Survive). -/
import Derived.Test.YtjacmneopijiaaaVkM
import Derived.Test.YtjacmneopijiaaaAddFrac
import Derived.Test.YtjacmneopijiaaaVdS
import Derived.Test.YtjacmneopijiaaaFsB
import Derived.Test.YtjacmneopijiaaaAcW
import Derived.Deep.DeepCutAuto
namespace Go.Proofs.Ytjacmneopijiaaa
open Go.RowKit
set_option linter.unusedVariables false
set_option linter.unusedSimpArgs false

set_option maxRecDepth 10000 in
set_option maxHeartbeats 25600000 in
theorem spec_worth {W : World} {dn dc cn cc : Nat} {da ca : Option Addr} {s : List Dft} {cs : List Cls} (hn : s.length ≤ 60) (hcn : cs.length ≤ 20) (hcok : ∀ c ∈ cs, Cok c) (hd : RG 4 vdC W (.slice da dn dc) s) (hc : RG 6 vcC W (.slice ca cn cc) cs) :
    Calls Try.prog 51 #[.slice da dn dc, .slice ca cn cc] W fun e w' => e = .returned (.agg #[.int .i64 (vsG cs s ⟨0, 1, 1⟩).c, .int .i64 (vsG cs s ⟨0, 1, 1⟩).n, .int .i64 (vsG cs s ⟨0, 1, 1⟩).d]) ∧ Below W.heap.size W w' := by
  obtain ⟨Q, hQ⟩ : ∃ Q, Q = vsG cs s ⟨0, 1, 1⟩ := ⟨_, rfl⟩
  rw [← hQ]
  have hdl := hd.len
  have H : Hid (RG 4 vdC W (.slice da dn dc) s ∧ RG 6 vcC W (.slice ca cn cc) cs ∧ cs.length ≤ 20 ∧ dn = s.length ∧ cn = cs.length) := ⟨hd, hc, hcn, hdl, hc.len⟩
  have HO : Hid (∀ c ∈ cs, Cok c) := hcok
  have hdn : dn ≤ 60 := by omega
  have hcn2 : cn ≤ 20 := by have := hc.len; omega
  have HQ : Hid (Q = vsG cs s ⟨0, 1, 1⟩) := hQ
  clear hQ hd hc hdl hcok hn hcn
  obtain ⟨k0, hk0⟩ : ∃ k, k = W.heap.size := ⟨_, rfl⟩
  obtain ⟨V0, hV0⟩ : ∃ V, V = W.alloc (.cells #[.int .i64 0, .int .i64 0, .int .i64 0] 57) := ⟨_, rfl⟩
  have HB0 : Hid (Below k0 W V0 ∧ V0.heap.size = k0 + 1 ∧ k0 = W.heap.size) := ⟨by rw [hV0, hk0]; (repeat' (first | (with_reducible exact Below.refl _ _) | (with_reducible assumption) | (with_reducible refine Below.setCell ?_ ?_ _) | (with_reducible refine Below.alloc ?_ ?_ _) | (with_reducible refine below_drewN ?_ _) | (with_reducible refine Below.drew ?_) | (with_reducible exact Nat.le_refl _) | omega | (simp; done) | (simp; omega))), by rw [hV0, hk0]; simp, hk0⟩
  have HQ1 : Hid (V0.heap[k0]? = some (.cells #[.int .i64 0, .int .i64 0, .int .i64 0] 57)) := by rw [hV0, hk0]; exact heap_alloc_new W _
  have HV0 : Hid (V0 = W.alloc (.cells #[.int .i64 0, .int .i64 0, .int .i64 0] 57) ∧ k0 = W.heap.size) := ⟨hV0, hk0⟩
  clear hV0 hk0
  go_enter Try.func51, Try.ntmps51
  go_wp2_with (fail)
  rw [← HV0.out.1, ← HV0.out.2]
  clear HV0
  refine (spec_int15 1 V0).mono ?_
  rintro e w1 ⟨rfl, hb1⟩
  obtain ⟨K3, hK3⟩ : ∃ k, k = w1.heap.size := ⟨_, rfl⟩
  obtain ⟨V3, hV3⟩ : ∃ V, V = w1.alloc (.cells #[.int .i64 0, .int .i64 1, .int .i64 1] 57) := ⟨_, rfl⟩
  have b3 : Below w1.heap.size w1 V3 := by rw [hV3]; (repeat' (first | (with_reducible exact Below.refl _ _) | (with_reducible assumption) | (with_reducible refine Below.setCell ?_ ?_ _) | (with_reducible refine Below.alloc ?_ ?_ _) | (with_reducible refine below_drewN ?_ _) | (with_reducible refine Below.drew ?_) | (with_reducible exact Nat.le_refl _) | omega | (simp; done) | (simp; omega)))
  have b03 : Below V0.heap.size V0 V3 := hb1.trans (b3.mono hb1.size)
  have HS3 : Hid (V3.heap[K3]? = some (.cells #[.int .i64 0, .int .i64 1, .int .i64 1] 57) ∧ V3.heap[k0]? = some (.cells #[.int .i64 0, .int .i64 0, .int .i64 0] 57) ∧ Below k0 W V3) :=
    ⟨by rw [hV3, hK3]; exact heap_alloc_new w1 _, (b03.block _ (ltOf HQ1.out)).trans HQ1.out, HB0.out.1.trans (b03.mono (by have := HB0.out.2; omega))⟩
  have HK3 : Hid (k0 + 1 ≤ K3 ∧ k0 = W.heap.size) := ⟨by rw [hK3]; have := hb1.size; have := HB0.out.2; omega, HB0.out.2.2⟩
  have HV3 : Hid (V3 = w1.alloc (.cells #[.int .i64 0, .int .i64 1, .int .i64 1] 57) ∧ K3 = w1.heap.size) := ⟨hV3, hK3⟩
  clear hV3 hK3 b3 b03 hb1 HB0 HQ1
  go_wp2
  rw [← HV3.out.1, ← HV3.out.2]
  clear HV3
  go_loopw [6] (fun i wr => ∃ (j : Nat) (xc xn xd : Int), j ≤ dn ∧ i = .int .i64 j ∧ Hid (Q = vsG cs (s.drop j) ⟨xc, xn, xd⟩ ∧ wr.heap[K3]? = some (.cells #[.int .i64 xc, .int .i64 xn, .int .i64 xd] 57) ∧ wr.heap[k0]? = some (.cells #[.int .i64 0, .int .i64 0, .int .i64 0] 57) ∧ Below k0 W wr)) (fun i _ => dn - (intOf i).toNat)
  case atStart => exact ⟨0, 0, 1, 1, Nat.zero_le _, rfl, HQ.out, HS3.out⟩
  case round =>
    clear HS3
    obtain ⟨j, xc, xn, xd, hj, rfl, hR⟩ := hrel
    have q3 := hR.out.2.1
    have q1 := hR.out.2.2.1
    have hBW : Below W.heap.size W wr := by rw [← HK3.out.2]; exact hR.out.2.2.2
    have t0 : wr.cell? ⟨K3, 0, none⟩ = some (.int .i64 xc) := cellOf q3 0 rfl
    have t1 : wr.cell? ⟨K3, 1, none⟩ = some (.int .i64 xn) := cellOf q3 1 rfl
    have t2 : wr.cell? ⟨K3, 2, none⟩ = some (.int .i64 xd) := cellOf q3 2 rfl
    have tl := ltOf q3
    by_cases hlt : j < dn
    · have hjl : j < s.length := by rw [← H.out.2.2.2.1]; exact hlt
      have b0 : (0 : Int) ≤ (j : Int) := by omega
      have b1 : (j : Int) < (dn : Int) := by omega
      by_cases hx0 : xc = 0
      case neg =>
        have hx1 : (xc == 0) = false := by simp [hx0]
        have HE : Hid (Q = ⟨xc, xn, xd⟩) := by unfold Hid; rw [hR.out.1]; exact vsG_bad _ hx0
        have HBZ : Hid (Below k0 W wr) := hR.out.2.2.2
        have z0 : wr.cell? ⟨k0, 0, none⟩ = some (.int .i64 0) := cellOf q1 0 rfl
        have z1 : wr.cell? ⟨k0, 1, none⟩ = some (.int .i64 0) := cellOf q1 1 rfl
        have z2 : wr.cell? ⟨k0, 2, none⟩ = some (.int .i64 0) := cellOf q1 2 rfl
        have zf0 := frozOf q1 0
        have zf1 := frozOf q1 1
        have zf2 := frozOf q1 2
        have zl := ltOf q1
        obtain ⟨e1, e2, e3, e4, e5, e6⟩ := set3e (a' := .int .i64 xc) (b' := .int .i64 xn) (c' := .int .i64 xd) q1
        clear q1 q3 hR hBW hx0
        go_wp2
        refine bodyPost_ret (by simp [results, Try.results51, go_sem, e1, e2, e3, e4, e5, e6, zl]; try rfl) rfl ?_
        refine ⟨by rw [HE.out], ?_⟩
        rw [← HK3.out.2]
        exact set3b HBZ.out (Nat.le_refl _)
      subst hx0
      obtain ⟨g, o, c2, he, hg, hjc⟩ := (H.out.1.below hBW).pos (by omega)
      simp only [Value.slice.injEq] at he
      obtain ⟨rfl, hx1, hx2⟩ := he
      clear hx1 hx2
      obtain ⟨c0, c1, c2', c3⟩ := vdC_at (hjc j hjl)
      obtain ⟨d, hd⟩ : ∃ d, d = s[j] := ⟨_, rfl⟩
      rw [← hd] at c0 c1 c2' c3
      have HN : Hid (Q = vsG cs (s.drop (j + 1)) (vsOne cs d ⟨0, xn, xd⟩)) := by unfold Hid; rw [hR.out.1, vsG_step hjl, hd]
      obtain ⟨R, hRR⟩ : ∃ R, R = vff d cs := ⟨_, rfl⟩
      obtain ⟨Y, hY⟩ : ∃ Y, Y = vcl d cs := ⟨_, rfl⟩
      have HYY : Hid (Y = if R < cn then (R : Int) else -1) := by unfold Hid; rw [hY, hRR, H.out.2.2.2.2]; rfl
      have HCL : Hid (Calls Try.prog 43 #[.agg #[.int .i64 d.x, .int .i64 d.y, .int .i64 d.z, .int .i64 d.k], .slice ca cn cc] wr fun e w' => e = .returned (.int .i64 Y) ∧ Below wr.heap.size wr w') := by
        rw [hY]; exact spec_cl d H.out.2.2.1 (H.out.2.1.below hBW)
      have HR : Hid (R = vff d cs) := hRR
      have HQV : Hid (wr.heap[K3]? = some (.cells #[.int .i64 0, .int .i64 xn, .int .i64 xd] 57) ∧ wr.heap[k0]? = some (.cells #[.int .i64 0, .int .i64 0, .int .i64 0] 57) ∧ Below k0 W wr) := hR.out.2
      clear hjc hd hRR hY hBW q3 q1 hR
      go_wp2_with (fail)
      refine HCL.out.mono ?_
      rintro e w2 ⟨rfl, hb2⟩
      have HQ2 : Hid (w2.heap[K3]? = some (.cells #[.int .i64 0, .int .i64 xn, .int .i64 xd] 57) ∧ w2.heap[k0]? = some (.cells #[.int .i64 0, .int .i64 0, .int .i64 0] 57) ∧ Below k0 W w2) :=
        ⟨(hb2.block _ (ltOf HQV.out.1)).trans HQV.out.1, (hb2.block _ (ltOf HQV.out.2.1)).trans HQV.out.2.1, HQV.out.2.2.trans (hb2.mono (by have := ltOf HQV.out.2.1; omega))⟩
      clear hb2 HQV HCL c0 c1 c2' c3 hg t0 t1 t2 tl
      by_cases hr : R < cn
      case neg =>
        have hY1 : Y = -1 := by rw [HYY.out, if_neg hr]
        have HM : Hid (Q = vsG cs (s.drop (j + 1)) ⟨0, xn, xd⟩) := by
          unfold Hid; rw [HN.out, vsOne_none (by have h9 := vff_le d cs; rw [← HR.out] at h9 ⊢; have := H.out.2.2.2.2; omega)]
        subst hY1
        clear HN HR HYY
        go_wp2
        go_roundw
        case rel => exact ⟨j + 1, 0, xn, xd, by omega, by go_num, HM.out, HQ2.out⟩
        case measure => simp [intOf]; omega
      have hY1 : Y = (R : Int) := by rw [HYY.out, if_pos hr]
      have hRc : R < cs.length := by rw [← H.out.2.2.2.2]; exact hr
      obtain ⟨g2, o2, cc2, he2, hg2, hjc2⟩ := (H.out.2.1.below (by rw [← HK3.out.2]; exact HQ2.out.2.2)).pos (by omega)
      simp only [Value.slice.injEq] at he2
      obtain ⟨rfl, hx3, hx4⟩ := he2
      obtain ⟨d0, d1, d2, d3, d4, d5⟩ := vcC_at (hjc2 R hRc)
      obtain ⟨kn, hkn⟩ : ∃ m, m = cs[R].q.n := ⟨_, rfl⟩
      obtain ⟨kd, hkd⟩ : ∃ m, m = cs[R].q.d := ⟨_, rfl⟩
      rw [← hkn] at d4
      rw [← hkd] at d5
      have hcok := HO.out cs[R] (List.getElem_mem _)
      obtain ⟨M, hM⟩ : ∃ M, M = muQ ⟨xn, xd⟩ ⟨kd - kn, kd⟩ := ⟨_, rfl⟩
      have HM : Hid (Q = vsG cs (s.drop (j + 1)) M) := by
        unfold Hid; rw [HN.out, vsOne_at HR.out.symm hRc, hM, hkn, hkd]; rfl
      have hkb : 0 ≤ kn ∧ kn ≤ kd ∧ kd ≤ 1000000000 := by
        have h9 := okR_pos hcok.2.2.2.2.2.1
        have h8 := hcok.2.2.2.2.2.2
        rw [← hkn, ← hkd] at h8
        rw [← hkd] at h9
        exact ⟨h8.1, h8.2, h9.2.1⟩
      have HMC : Hid (∀ X, Calls Try.prog 70 #[.agg #[.int .i64 xn, .int .i64 xd], .agg #[.int .i64 (kd - kn), .int .i64 kd]] X fun e w' => e = .returned (.agg #[.int .i64 M.c, .int .i64 M.n, .int .i64 M.d]) ∧ Below X.heap.size X w') := fun X => by
        rw [hM]; exact spec_muQ ⟨xn, xd⟩ ⟨kd - kn, kd⟩ X
      have b4 : ¬ (R : Int) < 0 := by omega
      have b2 : (0 : Int) ≤ (R : Int) := by omega
      have b3 : (R : Int) < (cn : Int) := by omega
      have wr1 : IntKind.i64.wrap (kd - kn) = kd - kn := by rw [IntKind.wrap_i64]; omega
      subst hY1
      have t1 : w2.cell? ⟨K3, 1, none⟩ = some (.int .i64 xn) := cellOf HQ2.out.1 1 rfl
      have t2 : w2.cell? ⟨K3, 2, none⟩ = some (.int .i64 xd) := cellOf HQ2.out.1 2 rfl
      have tl := ltOf HQ2.out.1
      clear hx3 hx4 hjc2 d0 d1 d2 d3 hkn hkd hcok hM HN HR HYY hr
      go_wp2_with (fail)
      obtain ⟨V7, hV7⟩ : ∃ V, V = w2.alloc (.cells #[.int .i64 kn, .int .i64 kd] 55) := ⟨_, rfl⟩
      rw [← hV7]
      have hb7 : Below w2.heap.size w2 V7 := by rw [hV7]; (repeat' (first | (with_reducible exact Below.refl _ _) | (with_reducible assumption) | (with_reducible refine Below.setCell ?_ ?_ _) | (with_reducible refine Below.alloc ?_ ?_ _) | (with_reducible refine below_drewN ?_ _) | (with_reducible refine Below.drew ?_) | (with_reducible exact Nat.le_refl _) | omega | (simp; done) | (simp; omega)))
      have HQ7 : Hid (V7.heap[K3]? = some (.cells #[.int .i64 0, .int .i64 xn, .int .i64 xd] 57) ∧ V7.heap[k0]? = some (.cells #[.int .i64 0, .int .i64 0, .int .i64 0] 57) ∧ Below k0 W V7) :=
        ⟨(hb7.block _ (ltOf HQ2.out.1)).trans HQ2.out.1, (hb7.block _ (ltOf HQ2.out.2.1)).trans HQ2.out.2.1, HQ2.out.2.2.trans (hb7.mono (by have := ltOf HQ2.out.2.1; omega))⟩
      clear hV7 hb7
      refine (HMC.out _).mono ?_
      rintro e w8 ⟨rfl, hb8⟩
      have hq8 := (hb8.block _ (ltOf HQ7.out.1)).trans HQ7.out.1
      have HQ8 : Hid (w8.heap[k0]? = some (.cells #[.int .i64 0, .int .i64 0, .int .i64 0] 57) ∧ Below k0 W w8) :=
        ⟨(hb8.block _ (ltOf HQ7.out.2.1)).trans HQ7.out.2.1, HQ7.out.2.2.trans (hb8.mono (by have := ltOf HQ7.out.2.1; omega))⟩
      obtain ⟨Mc, Mn, Md⟩ := M
      have u0 : w8.cell? ⟨K3, 0, none⟩ = some (.int .i64 0) := cellOf hq8 0 rfl
      have u1 : w8.cell? ⟨K3, 1, none⟩ = some (.int .i64 xn) := cellOf hq8 1 rfl
      have u2 : w8.cell? ⟨K3, 2, none⟩ = some (.int .i64 xd) := cellOf hq8 2 rfl
      have uf0 := frozOf hq8 0
      have uf1 := frozOf hq8 1
      have uf2 := frozOf hq8 2
      have ul := ltOf hq8
      have hk39 : k0 + 1 ≤ K3 := HK3.out.1
      have HQ9 : Hid ((((w8.setCell ⟨K3, 0, none⟩ (.int .i64 Mc)).setCell ⟨K3, 1, none⟩ (.int .i64 Mn)).setCell ⟨K3, 2, none⟩ (.int .i64 Md)).heap[K3]? = some (.cells #[.int .i64 Mc, .int .i64 Mn, .int .i64 Md] 57) ∧ (((w8.setCell ⟨K3, 0, none⟩ (.int .i64 Mc)).setCell ⟨K3, 1, none⟩ (.int .i64 Mn)).setCell ⟨K3, 2, none⟩ (.int .i64 Md)).heap[k0]? = some (.cells #[.int .i64 0, .int .i64 0, .int .i64 0] 57) ∧ Below k0 W (((w8.setCell ⟨K3, 0, none⟩ (.int .i64 Mc)).setCell ⟨K3, 1, none⟩ (.int .i64 Mn)).setCell ⟨K3, 2, none⟩ (.int .i64 Md))) :=
        ⟨vset3 hq8, (vset3_other (by omega)).trans HQ8.out.1, set3b HQ8.out.2 (by omega)⟩
      clear hb8 hq8 HQ8 HQ7 HQ2 t1 t2 tl HMC hk39 d4 d5 hg2
      go_wp2
      go_roundw
      case rel => exact ⟨j + 1, Mc, Mn, Md, by omega, by go_num, HM.out, HQ9.out⟩
      case measure => simp [intOf]; omega
    · have HE : Hid (Q = ⟨xc, xn, xd⟩) := by unfold Hid; rw [hR.out.1, List.drop_eq_nil_of_le (by rw [← H.out.2.2.2.1]; omega)]; rfl
      have HBZ : Hid (Below k0 W wr) := hR.out.2.2.2
      have z0 : wr.cell? ⟨k0, 0, none⟩ = some (.int .i64 0) := cellOf q1 0 rfl
      have z1 : wr.cell? ⟨k0, 1, none⟩ = some (.int .i64 0) := cellOf q1 1 rfl
      have z2 : wr.cell? ⟨k0, 2, none⟩ = some (.int .i64 0) := cellOf q1 2 rfl
      have zf0 := frozOf q1 0
      have zf1 := frozOf q1 1
      have zf2 := frozOf q1 2
      have zl := ltOf q1
      obtain ⟨e1, e2, e3, e4, e5, e6⟩ := set3e (a' := .int .i64 xc) (b' := .int .i64 xn) (c' := .int .i64 xd) q1
      clear q1 q3 hR hBW
      go_wp2
      refine bodyPost_ret (by simp [results, Try.results51, go_sem, e1, e2, e3, e4, e5, e6, zl]; try rfl) rfl ?_
      refine ⟨by rw [HE.out], ?_⟩
      rw [← HK3.out.2]
      exact set3b HBZ.out (Nat.le_refl _)

end Go.Proofs.Ytjacmneopijiaaa
