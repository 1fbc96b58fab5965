/- Proved here: what is left of a die, of the program (hitDie.worth). -/
import Derived.Test.YtjacmneopijiaaaVkM
import Derived.Test.YtjacmneopijiaaaAddFrac
import Derived.Test.YtjacmneopijiaaaVtI
import Derived.Test.YtjacmneopijiaaaFsB
import Derived.Deep.DeepCutAuto
namespace Go.Proofs.Ytjacmneopijiaaa
open Go.RowKit
set_option linter.unusedVariables false
set_option linter.unusedSimpArgs false

set_option maxRecDepth 10000 in
set_option maxHeartbeats 25600000 in
theorem impl_worth {W : World} {B dn dc cn cc : Nat} {da ca : Option Addr} {s : List Dft} {cs : List Cls} (hn : s.length ≤ 60) (hok : ∀ d ∈ s, Vok d) (hcn : cn ≤ 20) (hcok : ∀ c ∈ cs, Cok c) (hd : RG 4 vdC W (.slice da dn dc) s) (hc : RG 6 vcC W (.slice ca cn cc) cs) (hT : TBL W B cs cs.length) :
    Calls Try.prog 52 #[.agg #[.slice da dn dc, .slice ca cn cc, .map (some (B + 1))]] W fun e w' => e = .returned (.agg #[.int .i64 (vsG cs s ⟨0, 1, 1⟩).c, .int .i64 (vsG cs s ⟨0, 1, 1⟩).n, .int .i64 (vsG cs s ⟨0, 1, 1⟩).d]) ∧ Below W.heap.size W w' := by
  obtain ⟨Q, hQ⟩ : ∃ Q, Q = vsG cs s ⟨0, 1, 1⟩ := ⟨_, rfl⟩
  rw [← hQ]
  have hdl := hd.len
  have H : Hid (RG 4 vdC W (.slice da dn dc) s ∧ RG 6 vcC W (.slice ca cn cc) cs ∧ TBL W B cs cs.length ∧ dn = s.length ∧ cn = cs.length) := ⟨hd, hc, hT, hdl, hc.len⟩
  have HO : Hid ((∀ d ∈ s, Vok d) ∧ (∀ c ∈ cs, Cok c)) := ⟨hok, hcok⟩
  have hdn : dn ≤ 60 := by omega
  have HQ : Hid (Q = vsG cs s ⟨0, 1, 1⟩) := hQ
  clear hQ hd hc hT hdl hok hcok hn
  obtain ⟨k0, hk0⟩ : ∃ k, k = W.heap.size := ⟨_, rfl⟩
  obtain ⟨V0, hV0⟩ : ∃ V, V = (W.alloc (.cells #[.slice da dn dc, .slice ca cn cc, .map (some (B + 1))] 87)).alloc (.cells #[.int .i64 0, .int .i64 0, .int .i64 0] 57) := ⟨_, rfl⟩
  have HB0 : Hid (Below k0 W V0 ∧ V0.heap.size = k0 + 2 ∧ k0 = W.heap.size) := ⟨by rw [hV0, hk0]; (repeat' (first | (with_reducible exact Below.refl _ _) | (with_reducible assumption) | (with_reducible refine Below.setCell ?_ ?_ _) | (with_reducible refine Below.alloc ?_ ?_ _) | (with_reducible refine below_drewN ?_ _) | (with_reducible refine Below.drew ?_) | (with_reducible exact Nat.le_refl _) | omega | (simp; done) | (simp; omega))), by rw [hV0, hk0]; simp, hk0⟩
  have HQ0 : Hid (V0.heap[k0]? = some (.cells #[.slice da dn dc, .slice ca cn cc, .map (some (B + 1))] 87)) := by rw [hV0, hk0]; exact (Below.heap_alloc _ _ _ (by simp)).trans (heap_alloc_new W _)
  have HQ1 : Hid (V0.heap[k0 + 1]? = some (.cells #[.int .i64 0, .int .i64 0, .int .i64 0] 57)) := by
    unfold Hid; rw [hV0, hk0]; have := heap_alloc_new (W.alloc (.cells #[.slice da dn dc, .slice ca cn cc, .map (some (B + 1))] 87)) (.cells #[.int .i64 0, .int .i64 0, .int .i64 0] 57); simpa using this
  have HV0 : Hid (V0 = (W.alloc (.cells #[.slice da dn dc, .slice ca cn cc, .map (some (B + 1))] 87)).alloc (.cells #[.int .i64 0, .int .i64 0, .int .i64 0] 57) ∧ k0 = W.heap.size) := ⟨hV0, hk0⟩
  clear hV0 hk0
  go_enter Try.func52, Try.ntmps52
  go_wp2_with (fail)
  rw [← HV0.out.1, ← HV0.out.2]
  clear HV0
  refine (impl_whole 1 V0).mono ?_
  rintro e w1 ⟨rfl, hb1⟩
  obtain ⟨K3, hK3⟩ : ∃ k, k = w1.heap.size := ⟨_, rfl⟩
  obtain ⟨V3, hV3⟩ : ∃ V, V = w1.alloc (.cells #[.int .i64 0, .int .i64 1, .int .i64 1] 57) := ⟨_, rfl⟩
  have b3 : Below w1.heap.size w1 V3 := by rw [hV3]; (repeat' (first | (with_reducible exact Below.refl _ _) | (with_reducible assumption) | (with_reducible refine Below.setCell ?_ ?_ _) | (with_reducible refine Below.alloc ?_ ?_ _) | (with_reducible refine below_drewN ?_ _) | (with_reducible refine Below.drew ?_) | (with_reducible exact Nat.le_refl _) | omega | (simp; done) | (simp; omega)))
  have b03 : Below V0.heap.size V0 V3 := hb1.trans (b3.mono hb1.size)
  have HS3 : Hid (V3.heap[K3]? = some (.cells #[.int .i64 0, .int .i64 1, .int .i64 1] 57) ∧ V3.heap[k0]? = some (.cells #[.slice da dn dc, .slice ca cn cc, .map (some (B + 1))] 87) ∧ V3.heap[k0 + 1]? = some (.cells #[.int .i64 0, .int .i64 0, .int .i64 0] 57) ∧ Below k0 W V3) :=
    ⟨by rw [hV3, hK3]; exact heap_alloc_new w1 _, (b03.block _ (ltOf HQ0.out)).trans HQ0.out, (b03.block _ (ltOf HQ1.out)).trans HQ1.out, HB0.out.1.trans (b03.mono (by have := HB0.out.2; omega))⟩
  have HK3 : Hid (k0 + 2 ≤ K3 ∧ k0 = W.heap.size) := ⟨by rw [hK3]; have := hb1.size; have := HB0.out.2; omega, HB0.out.2.2⟩
  have HV3 : Hid (V3 = w1.alloc (.cells #[.int .i64 0, .int .i64 1, .int .i64 1] 57) ∧ K3 = w1.heap.size) := ⟨hV3, hK3⟩
  have p0 : V3.cell? ⟨k0, 0, none⟩ = some (.slice da dn dc) := cellOf HS3.out.2.1 0 rfl
  have pl : k0 < V3.heap.size := ltOf HS3.out.2.1
  have p1 : w1.cell? ⟨k0, 0, none⟩ = some (.slice da dn dc) := cellOf ((hb1.block _ (ltOf HQ0.out)).trans HQ0.out) 0 rfl
  have pl1 : k0 < w1.heap.size := ltOf ((hb1.block _ (ltOf HQ0.out)).trans HQ0.out)
  clear hV3 hK3 b3 b03 hb1 HB0 HQ0 HQ1
  simp only [whole]
  go_wp2
  rw [← HV3.out.1, ← HV3.out.2]
  clear HV3 p0 pl p1 pl1
  go_loopw [13] (fun i wr => ∃ (j : Nat) (xn xd : Int), j ≤ dn ∧ i = .int .i64 j ∧ Hid (Q = vsG cs (s.drop j) ⟨0, xn, xd⟩ ∧ wr.heap[K3]? = some (.cells #[.int .i64 0, .int .i64 xn, .int .i64 xd] 57) ∧ wr.heap[k0]? = some (.cells #[.slice da dn dc, .slice ca cn cc, .map (some (B + 1))] 87) ∧ wr.heap[k0 + 1]? = some (.cells #[.int .i64 0, .int .i64 0, .int .i64 0] 57) ∧ Below k0 W wr)) (fun i _ => dn - (intOf i).toNat)
  case atStart => exact ⟨0, 1, 1, Nat.zero_le _, rfl, HQ.out, HS3.out⟩
  case round =>
    clear HS3
    obtain ⟨j, xn, xd, hj, rfl, hR⟩ := hrel
    have q3 := hR.out.2.1
    have q0 := hR.out.2.2.1
    have q1 := hR.out.2.2.2.1
    have hBW : Below W.heap.size W wr := by rw [← HK3.out.2]; exact hR.out.2.2.2.2
    by_cases hlt : j < dn
    · have hjl : j < s.length := by rw [← H.out.2.2.2.1]; exact hlt
      obtain ⟨g, o, c2, he, hg, hjc⟩ := (H.out.1.below hBW).pos (by omega)
      simp only [Value.slice.injEq] at he
      obtain ⟨rfl, hx1, hx2⟩ := he
      clear hx1 hx2
      obtain ⟨c0, c1, c2', c3⟩ := vdC_at (hjc j hjl)
      obtain ⟨d, hd⟩ : ∃ d, d = s[j] := ⟨_, rfl⟩
      rw [← hd] at c0 c1 c2' c3
      have HN : Hid (Q = vsG cs (s.drop (j + 1)) (vsOne cs d ⟨0, xn, xd⟩)) := by unfold Hid; rw [hR.out.1, vsG_step hjl, hd]
      have hdok : Vok d := by rw [hd]; exact HO.out.1 _ (List.getElem_mem _)
      have HDK : Hid (-9223372036854775808 ≤ d.k ∧ d.k ≤ 9223372036854775807) := by have h9 := hdok.2.2.2.2.2.2; unfold Hid; omega
      obtain ⟨R, hRR⟩ : ∃ R, R = vff d cs := ⟨_, rfl⟩
      obtain ⟨V, hV⟩ : ∃ V, V = wr.alloc (.cells #[.int .i64 d.x, .int .i64 d.y, .int .i64 d.z, .int .i64 d.k] 41) := ⟨_, rfl⟩
      have bV : Below wr.heap.size wr V := by rw [hV]; (repeat' (first | (with_reducible exact Below.refl _ _) | (with_reducible assumption) | (with_reducible refine Below.setCell ?_ ?_ _) | (with_reducible refine Below.alloc ?_ ?_ _) | (with_reducible refine below_drewN ?_ _) | (with_reducible refine Below.drew ?_) | (with_reducible exact Nat.le_refl _) | omega | (simp; done) | (simp; omega)))
      have bWV : Below W.heap.size W V := hBW.trans (bV.mono hBW.size)
      have HFF : Hid (Calls Try.prog 45 #[.agg #[.slice ca cn cc, .map (some (B + 1))], .agg #[.int .i64 d.x, .int .i64 d.y, .int .i64 d.z, .int .i64 d.k]] V fun e w' => e = .returned (.int .i64 (R : Int)) ∧ Below V.heap.size V w') := by
        rw [hRR]; exact impl_ff d HDK.out hcn (H.out.2.1.below bWV) (H.out.2.2.1.below bWV)
      have HR : Hid (R = vff d cs) := hRR
      have p0 : wr.cell? ⟨k0, 0, none⟩ = some (.slice (some ⟨g, o, none⟩) dn dc) := cellOf q0 0 rfl
      have p1 : wr.cell? ⟨k0, 1, none⟩ = some (.slice ca cn cc) := cellOf q0 1 rfl
      have p2 : wr.cell? ⟨k0, 2, none⟩ = some (.map (some (B + 1))) := cellOf q0 2 rfl
      have pl := ltOf q0
      have HQV : Hid (V.heap[K3]? = some (.cells #[.int .i64 0, .int .i64 xn, .int .i64 xd] 57) ∧ V.heap[k0]? = some (.cells #[.slice (some ⟨g, o, none⟩) dn dc, .slice ca cn cc, .map (some (B + 1))] 87) ∧ V.heap[k0 + 1]? = some (.cells #[.int .i64 0, .int .i64 0, .int .i64 0] 57) ∧ Below k0 W V) :=
        ⟨(bV.block _ (ltOf q3)).trans q3, (bV.block _ (ltOf q0)).trans q0, (bV.block _ (ltOf q1)).trans q1, by rw [HK3.out.2]; exact bWV⟩
      have HV : Hid (V = wr.alloc (.cells #[.int .i64 d.x, .int .i64 d.y, .int .i64 d.z, .int .i64 d.k] 41)) := hV
      clear hjc hd hdok hRR hV bV bWV hBW q3 q0 q1 hR
      have b0 : (0 : Int) ≤ (j : Int) := by omega
      have b1 : (j : Int) < (dn : Int) := by omega
      go_wp2_with (fail)
      rw [← HV.out]
      clear HV c0 c1 c2' c3 p0 p1 p2 pl
      refine HFF.out.mono ?_
      rintro e w2 ⟨rfl, hb2⟩
      have HQ2 : Hid (w2.heap[K3]? = some (.cells #[.int .i64 0, .int .i64 xn, .int .i64 xd] 57) ∧ w2.heap[k0]? = some (.cells #[.slice (some ⟨g, o, none⟩) dn dc, .slice ca cn cc, .map (some (B + 1))] 87) ∧ w2.heap[k0 + 1]? = some (.cells #[.int .i64 0, .int .i64 0, .int .i64 0] 57) ∧ Below k0 W w2) :=
        ⟨(hb2.block _ (ltOf HQV.out.1)).trans HQV.out.1, (hb2.block _ (ltOf HQV.out.2.1)).trans HQV.out.2.1, (hb2.block _ (ltOf HQV.out.2.2.1)).trans HQV.out.2.2.1, HQV.out.2.2.2.trans (hb2.mono (by have := ltOf HQV.out.2.1; omega))⟩
      clear hb2 HQV HFF
      have q0 := HQ2.out.2.1
      have p1 : w2.cell? ⟨k0, 1, none⟩ = some (.slice ca cn cc) := cellOf q0 1 rfl
      have pl := ltOf q0
      clear q0
      by_cases hr : R = cn
      · have HM : Hid (Q = vsG cs (s.drop (j + 1)) ⟨0, xn, xd⟩) := by
          unfold Hid; rw [HN.out, vsOne_none (by rw [← HR.out, hr, H.out.2.2.2.2])]
        subst hr
        clear HN HR
        go_wp2
        go_roundw
        case rel => exact ⟨j + 1, xn, xd, by omega, by go_num, HM.out, HQ2.out⟩
        case measure => simp [intOf]; omega
      · have hRn : R < cn := by have h9 := vff_le d cs; rw [← HR.out, ← H.out.2.2.2.2] at h9; omega
        have hRc : R < cs.length := by rw [← H.out.2.2.2.2]; exact hRn
        obtain ⟨g2, o2, cc2, he2, hg2, hjc2⟩ := (H.out.2.1.below (by rw [← HK3.out.2]; exact HQ2.out.2.2.2)).pos (by omega)
        simp only [Value.slice.injEq] at he2
        obtain ⟨rfl, hx3, hx4⟩ := he2
        obtain ⟨d0, d1, d2, d3, d4, d5⟩ := vcC_at (hjc2 R hRc)
        obtain ⟨kn, hkn⟩ : ∃ m, m = cs[R].q.n := ⟨_, rfl⟩
        obtain ⟨kd, hkd⟩ : ∃ m, m = cs[R].q.d := ⟨_, rfl⟩
        rw [← hkn] at d4
        rw [← hkd] at d5
        have hcok := HO.out.2 cs[R] (List.getElem_mem _)
        obtain ⟨M, hM⟩ : ∃ M, M = muQ ⟨xn, xd⟩ ⟨kd - kn, kd⟩ := ⟨_, rfl⟩
        have HM : Hid (Q = vsG cs (s.drop (j + 1)) M) := by
          unfold Hid; rw [HN.out, vsOne_at HR.out.symm hRc, hM, hkn, hkd]; rfl
        have HWC : Hid (∀ X, Calls Try.prog 61 #[.int .i64 1] X fun e w' => e = .returned (.agg #[.int .i64 1, .int .i64 1]) ∧ Below X.heap.size X w') := fun X => impl_whole 1 X
        have HSC : Hid (∀ X, Calls Try.prog 71 #[.agg #[.int .i64 1, .int .i64 1], .agg #[.int .i64 kn, .int .i64 kd]] X fun e w' => e = .returned (.agg #[.int .i64 0, .int .i64 (kd - kn), .int .i64 kd]) ∧ Below X.heap.size X w') := fun X => by
          have h9 := impl_suQ (whole 1) ⟨kn, kd⟩ X
          rw [hkn, hkd] at h9
          rw [show (⟨cs[R].q.n, cs[R].q.d⟩ : Fr) = cs[R].q from rfl, su_one hcok.2.2.2.2.2.1 hcok.2.2.2.2.2.2.1 hcok.2.2.2.2.2.2.2] at h9
          rw [hkn, hkd]
          exact h9
        have HMC : Hid (∀ X, Calls Try.prog 72 #[.agg #[.int .i64 xn, .int .i64 xd], .agg #[.int .i64 (kd - kn), .int .i64 kd]] X fun e w' => e = .returned (.agg #[.int .i64 M.c, .int .i64 M.n, .int .i64 M.d]) ∧ Below X.heap.size X w') := fun X => by
          rw [hM]; exact impl_muQ ⟨xn, xd⟩ ⟨kd - kn, kd⟩ X
        have b8 : ((R : Int) == (cn : Int)) = false := by simp; omega
        have b2 : (0 : Int) ≤ (R : Int) := by omega
        have b3 : (R : Int) < (cn : Int) := by omega
        clear hx3 hx4 hjc2 d0 d1 d2 d3 hkn hkd hcok hM HN HR hr
        go_wp2_with (fail)
        refine wp_region_float (by kernel_rfl) (fun hS => ?_)
        refine fl_take (i := 1) (d := 28) (v := .pointer (some ⟨k0, 1, none⟩)) rfl rfl rfl (by kernel_rfl) (by kernel_rfl) (by kernel_rfl) hS ?_ ?_
        · intro w' hk; go_simp
        simp only [Act.put, List.setIfInBounds_toArray, List.set_cons_zero, List.set_cons_succ]
        refine fl_take (i := 2) (d := 29) (v := .pointer (some ⟨k0, 1, none⟩)) rfl rfl rfl (by kernel_rfl) (by kernel_rfl) (by kernel_rfl) hS ?_ ?_
        · intro w' hk; go_simp
        simp only [Act.put, List.setIfInBounds_toArray, List.set_cons_zero, List.set_cons_succ]
        refine fl_take (i := 3) (d := 30) (v := .slice (some ⟨g2, o2, none⟩) cn cc) rfl rfl rfl (by kernel_rfl) (by kernel_rfl) (by kernel_rfl) hS ?_ ?_
        · intro w' hk; go_simp
        simp only [Act.put, List.setIfInBounds_toArray, List.set_cons_zero, List.set_cons_succ]
        refine fl_take (i := 4) (d := 31) (v := .int .i64 (R : Int)) rfl rfl rfl (by kernel_rfl) (by kernel_rfl) (by kernel_rfl) hS ?_ ?_
        · intro w' hk; go_simp
        simp only [Act.put, List.setIfInBounds_toArray, List.set_cons_zero, List.set_cons_succ]
        refine fl_take (i := 5) (d := 32) (v := .pointer (some ⟨g2, o2 + R * 6, none⟩)) rfl rfl rfl (by kernel_rfl) (by kernel_rfl) (by kernel_rfl) hS ?_ ?_
        · intro w' hk; go_simp
        simp only [Act.put, List.setIfInBounds_toArray, List.set_cons_zero, List.set_cons_succ]
        refine fl_take (i := 6) (d := 33) (v := .pointer (some ⟨g2, o2 + R * 6 + 4, none⟩)) rfl rfl rfl (by kernel_rfl) (by kernel_rfl) (by kernel_rfl) hS ?_ ?_
        · intro w' hk; go_simp
        simp only [Act.put, List.setIfInBounds_toArray, List.set_cons_zero, List.set_cons_succ]
        refine fl_take (i := 7) (d := 34) (v := .agg #[.int .i64 kn, .int .i64 kd]) rfl rfl rfl (by kernel_rfl) (by kernel_rfl) (by kernel_rfl) hS ?_ ?_
        · intro w' hk; go_simp
        simp only [Act.put, List.setIfInBounds_toArray, List.set_cons_zero, List.set_cons_succ]
        refine float_pend (z := #[.int .i64 0, .int .i64 0, .int .i64 0]) (T := 57) (ja := 9) (js := 10) rfl rfl rfl rfl rfl (fun a w => by go_simp) [0, 8] _ _ _ (fun _ => False) (by kernel_rfl) (by kernel_rfl) ?_ (Nat.le_refl _) (fun _ h => h.elim) hS
        intro y0 hW0
        refine ⟨_, 27, _, _, rfl, rfl, by go_simp, (HWC.out y0).mono ?_⟩
        rintro e x0 ⟨rfl, hbx0⟩
        refine ⟨_, rfl, hbx0, ?_⟩
        simp only [Act.put, List.setIfInBounds_toArray, List.set_cons_zero, List.set_cons_succ]
        intro y1 hW1
        refine ⟨_, 35, _, _, rfl, rfl, by go_simp, (HSC.out y1).mono ?_⟩
        rintro e x1 ⟨rfl, hbx1⟩
        refine ⟨_, rfl, hbx1, ?_⟩
        simp only [Act.put, List.setIfInBounds_toArray, List.set_cons_zero, List.set_cons_succ]
        unfold Fl
        refine after_store ?_ _ _ _ #[.int .i64 0, .int .i64 (kd - kn), .int .i64 kd] (by rfl) (by rfl) (fun _ => by rfl) (fun _ => by rfl) (by simp) (by kernel_rfl) (by simp [Value.oneCell']) ?_
        · exact Nat.le_refl _
        intro K7 V7 hK hk1 hk2 hF hoth hsz hcell
        simp only [Act.put, List.setIfInBounds_toArray, List.set_cons_zero, List.set_cons_succ]
        refine NoPanic.normal ?_
        have hb7 : Below w2.heap.size w2 V7 := hK.2
        have HQ7 : Hid (V7.heap[K3]? = some (.cells #[.int .i64 0, .int .i64 xn, .int .i64 xd] 57) ∧ V7.heap[k0]? = some (.cells #[.slice (some ⟨g, o, none⟩) dn dc, .slice (some ⟨g2, o2, none⟩) cn cc, .map (some (B + 1))] 87) ∧ V7.heap[k0 + 1]? = some (.cells #[.int .i64 0, .int .i64 0, .int .i64 0] 57) ∧ Below k0 W V7) :=
          ⟨(hb7.block _ (ltOf HQ2.out.1)).trans HQ2.out.1, (hb7.block _ (ltOf HQ2.out.2.1)).trans HQ2.out.2.1, (hb7.block _ (ltOf HQ2.out.2.2.1)).trans HQ2.out.2.2.1, HQ2.out.2.2.2.trans (hb7.mono (by have := ltOf HQ2.out.2.1; omega))⟩
        have s1 : V7.cell? ⟨K7, 1, none⟩ = some (.int .i64 (kd - kn)) := hcell 1 _ rfl
        have s2 : V7.cell? ⟨K7, 2, none⟩ = some (.int .i64 kd) := hcell 2 _ rfl
        have t1 : V7.cell? ⟨K3, 1, none⟩ = some (.int .i64 xn) := cellOf HQ7.out.1 1 rfl
        have t2 : V7.cell? ⟨K3, 2, none⟩ = some (.int .i64 xd) := cellOf HQ7.out.1 2 rfl
        have tl := ltOf HQ7.out.1
        clear hb7 hK hk1 hF hoth hsz hcell hS HQ2 HWC HSC p1 pl d4 d5 hg2
        go_wp2_with (fail)
        refine (HMC.out _).mono ?_
        rintro e w8 ⟨rfl, hb8⟩
        have hq8 := (hb8.block _ (ltOf HQ7.out.1)).trans HQ7.out.1
        have HQ8 : Hid (w8.heap[k0]? = some (.cells #[.slice (some ⟨g, o, none⟩) dn dc, .slice (some ⟨g2, o2, none⟩) cn cc, .map (some (B + 1))] 87) ∧ w8.heap[k0 + 1]? = some (.cells #[.int .i64 0, .int .i64 0, .int .i64 0] 57) ∧ Below k0 W w8) :=
          ⟨(hb8.block _ (ltOf HQ7.out.2.1)).trans HQ7.out.2.1, (hb8.block _ (ltOf HQ7.out.2.2.1)).trans HQ7.out.2.2.1, HQ7.out.2.2.2.trans (hb8.mono (by have := ltOf HQ7.out.2.1; omega))⟩
        obtain ⟨Mc, Mn, Md⟩ := M
        have u0 : w8.cell? ⟨K3, 0, none⟩ = some (.int .i64 0) := cellOf hq8 0 rfl
        have u1 : w8.cell? ⟨K3, 1, none⟩ = some (.int .i64 xn) := cellOf hq8 1 rfl
        have u2 : w8.cell? ⟨K3, 2, none⟩ = some (.int .i64 xd) := cellOf hq8 2 rfl
        have uf0 := frozOf hq8 0
        have uf1 := frozOf hq8 1
        have uf2 := frozOf hq8 2
        have ul := ltOf hq8
        obtain ⟨W9, hW9⟩ : ∃ X, X = (((w8.setCell ⟨K3, 0, none⟩ (.int .i64 Mc)).setCell ⟨K3, 1, none⟩ (.int .i64 Mn)).setCell ⟨K3, 2, none⟩ (.int .i64 Md)) := ⟨_, rfl⟩
        have hk39 : k0 + 2 ≤ K3 := HK3.out.1
        have HQ9 : Hid (W9.heap[K3]? = some (.cells #[.int .i64 Mc, .int .i64 Mn, .int .i64 Md] 57) ∧ W9.heap[k0]? = some (.cells #[.slice (some ⟨g, o, none⟩) dn dc, .slice (some ⟨g2, o2, none⟩) cn cc, .map (some (B + 1))] 87) ∧ W9.heap[k0 + 1]? = some (.cells #[.int .i64 0, .int .i64 0, .int .i64 0] 57) ∧ Below k0 W W9) := by
          rw [hW9]
          exact ⟨vset3 hq8, (vset3_other (by omega)).trans HQ8.out.1, (vset3_other (by omega)).trans HQ8.out.2.1, set3b HQ8.out.2.2 (by omega)⟩
        have HW9 : Hid (W9 = (((w8.setCell ⟨K3, 0, none⟩ (.int .i64 Mc)).setCell ⟨K3, 1, none⟩ (.int .i64 Mn)).setCell ⟨K3, 2, none⟩ (.int .i64 Md))) := hW9
        clear hW9 hb8 hq8 HQ8 HQ7 s1 s2 t1 t2 tl HMC hk39 hk2
        go_upto_region 9 with fail
        rw [← HW9.out]
        clear HW9 u0 u1 u2 uf0 uf1 uf2 ul
        have y0' : W9.cell? ⟨K3, 0, none⟩ = some (.int .i64 Mc) := cellOf HQ9.out.1 0 rfl
        have y1' : W9.cell? ⟨K3, 1, none⟩ = some (.int .i64 Mn) := cellOf HQ9.out.1 1 rfl
        have y2' : W9.cell? ⟨K3, 2, none⟩ = some (.int .i64 Md) := cellOf HQ9.out.1 2 rfl
        have yl := ltOf HQ9.out.1
        by_cases hm0 : Mc = 0
        · subst hm0
          go_wp2
          go_roundw
          case rel => exact ⟨j + 1, Mn, Md, by omega, by go_num, HM.out, HQ9.out⟩
          case measure => simp [intOf]; omega
        · have hm1 : (Mc != 0) = true := by simp [hm0]
          have HE : Hid (Q = ⟨Mc, Mn, Md⟩) := by unfold Hid; rw [HM.out]; exact vsG_bad _ hm0
          have q1 := HQ9.out.2.2.1
          have z0 : W9.cell? ⟨k0 + 1, 0, none⟩ = some (.int .i64 0) := cellOf q1 0 rfl
          have z1 : W9.cell? ⟨k0 + 1, 1, none⟩ = some (.int .i64 0) := cellOf q1 1 rfl
          have z2 : W9.cell? ⟨k0 + 1, 2, none⟩ = some (.int .i64 0) := cellOf q1 2 rfl
          have zf0 := frozOf q1 0
          have zf1 := frozOf q1 1
          have zf2 := frozOf q1 2
          have zl := ltOf q1
          obtain ⟨e1, e2, e3, e4, e5, e6⟩ := set3e (a' := .int .i64 Mc) (b' := .int .i64 Mn) (c' := .int .i64 Md) q1
          clear q1 HM hm0
          go_wp2
          refine bodyPost_ret (by simp [results, Try.results52, go_sem, e1, e2, e3, e4, e5, e6, zl]; try rfl) rfl ?_
          refine ⟨by rw [HE.out], ?_⟩
          rw [← HK3.out.2]
          exact set3b HQ9.out.2.2.2 (by omega)
    · have HE : Hid (Q = ⟨0, xn, xd⟩) := by unfold Hid; rw [hR.out.1, List.drop_eq_nil_of_le (by rw [← H.out.2.2.2.1]; omega)]; rfl
      have t0 : wr.cell? ⟨K3, 0, none⟩ = some (.int .i64 0) := cellOf q3 0 rfl
      have t1 : wr.cell? ⟨K3, 1, none⟩ = some (.int .i64 xn) := cellOf q3 1 rfl
      have t2 : wr.cell? ⟨K3, 2, none⟩ = some (.int .i64 xd) := cellOf q3 2 rfl
      have tl := ltOf q3
      have z0 : wr.cell? ⟨k0 + 1, 0, none⟩ = some (.int .i64 0) := cellOf q1 0 rfl
      have z1 : wr.cell? ⟨k0 + 1, 1, none⟩ = some (.int .i64 0) := cellOf q1 1 rfl
      have z2 : wr.cell? ⟨k0 + 1, 2, none⟩ = some (.int .i64 0) := cellOf q1 2 rfl
      have zf0 := frozOf q1 0
      have zf1 := frozOf q1 1
      have zf2 := frozOf q1 2
      have zl := ltOf q1
      obtain ⟨e1, e2, e3, e4, e5, e6⟩ := set3e (a' := .int .i64 0) (b' := .int .i64 xn) (c' := .int .i64 xd) q1
      have HBZ : Hid (Below k0 W wr) := hR.out.2.2.2.2
      clear q1 q0 q3 hR hBW
      go_wp2
      refine bodyPost_ret (by simp [results, Try.results52, go_sem, e1, e2, e3, e4, e5, e6, zl]; try rfl) rfl ?_
      refine ⟨by rw [HE.out], ?_⟩
      rw [← HK3.out.2]
      exact set3b HBZ.out (by omega)

end Go.Proofs.Ytjacmneopijiaaa
