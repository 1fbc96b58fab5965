/- Proved here: YieldOf of the model. -/
import Derived.Test.YtjacmneopijiaaaVyM
import Derived.Test.YtjacmneopijiaaaVhS
import Derived.Test.YtjacmneopijiaaaVxS
import Derived.Test.YtjacmneopijiaaaFqD
import Derived.Test.YtjacmneopijiaaaAcL
import Derived.Test.YtjacmneopijiaaaVsL
import Derived.Test.YtjacmneopijiaaaVbM
import Derived.Deep.DeepCutAuto
namespace Go.Proofs.Ytjacmneopijiaaa
open Go.RowKit Go.Maps
set_option linter.unusedVariables false
set_option linter.unusedSimpArgs false

set_option maxRecDepth 10000 in
set_option maxHeartbeats 25600000 in
theorem spec_vy {W : World} {v u : Value} {s : List Dft} {cs : List Cls} (wd hg p : Int) (hn : s.length ≤ 1048576) (hm : cs.length ≤ 1048576) (h : RG 4 vdC W v s) (k : RG 6 vcC W u cs) :
    Calls Try.prog 33 #[v, u, .int .i64 wd, .int .i64 hg, .int .i64 p] W fun e w' => e = .returned (.agg #[.int .i64 (vyQ s cs wd hg p).c, .int .i64 (vyQ s cs wd hg p).n, .int .i64 (vyQ s cs wd hg p).d]) ∧ Below W.heap.size W w' := by
  obtain ⟨da, dc, rfl⟩ := h.form
  obtain ⟨ca, cc, rfl⟩ := k.form
  obtain ⟨Q, hQ⟩ : ∃ Q, Q = vyQ s cs wd hg p := ⟨_, rfl⟩
  obtain ⟨C, hC⟩ : ∃ C, C = vhC s wd hg p := ⟨_, rfl⟩
  obtain ⟨F, hF⟩ : ∃ F, F = vcF cs := ⟨_, rfl⟩
  obtain ⟨dn, hdn⟩ : ∃ n, n = s.length := ⟨_, rfl⟩
  obtain ⟨cn, hcn⟩ : ∃ n, n = cs.length := ⟨_, rfl⟩
  obtain ⟨O, hO⟩ : ∃ O, O = vhO s wd hg p := ⟨_, rfl⟩
  have HH : Hid (∀ X, Below W.heap.size W X → Calls Try.prog 54 #[.slice da dn dc, .int .i64 wd, .int .i64 hg, .int .i64 p] X fun e w' => (∃ va vn vc, e = .returned (.agg #[.int .i64 C, .slice va vn vc, .int .i64 O])) ∧ Below X.heap.size X w') := fun X hX => by
    rw [hC, hO, hdn]
    refine (spec_vh wd hg p hn (h.below hX)).mono ?_
    rintro e w9 ⟨v9, vs9, rfl, hr9, hb9⟩
    obtain ⟨va, vc, rfl⟩ := hr9.form
    exact ⟨⟨_, _, _, rfl⟩, hb9⟩
  have HF : Hid (∀ X, Below W.heap.size W X → Calls Try.prog 15 #[.slice ca cn cc] X fun e w' => e = .returned (.int .i64 F) ∧ Below X.heap.size X w') := fun X hX => by
    rw [hF, hcn]; exact spec_vcF hm (k.below hX)
  rw [← hdn] at h ⊢
  rw [← hcn] at k ⊢
  rw [← hQ]
  have H : Hid (RG 4 vdC W (.slice da dn dc) s ∧ RG 6 vcC W (.slice ca cn cc) cs ∧ C = vhC s wd hg p ∧ F = vcF cs ∧ dn = s.length ∧ cn = cs.length) := ⟨h, k, hC, hF, hdn, hcn⟩
  have HQ : Hid (Q = vyQ s cs wd hg p) := hQ
  clear h k hF hdn hcn hQ hn hm hC hO
  obtain ⟨k0, hk0⟩ : ∃ k, k = W.heap.size := ⟨_, rfl⟩
  obtain ⟨V0, hV0⟩ : ∃ V, V = W.alloc (.cells #[.int .i64 0, .int .i64 0, .int .i64 0] 57) := ⟨_, rfl⟩
  have HB0 : Hid (Below k0 W V0 ∧ V0.heap.size = k0 + 1 ∧ k0 = W.heap.size) := ⟨by rw [hV0, hk0]; (repeat' (first | (with_reducible exact Below.refl _ _) | (with_reducible assumption) | (with_reducible refine Below.setCell ?_ ?_ _) | (with_reducible refine Below.alloc ?_ ?_ _) | (with_reducible refine below_drewN ?_ _) | (with_reducible refine Below.drew ?_) | (with_reducible exact Nat.le_refl _) | omega | (simp; done) | (simp; omega))), by rw [hV0, hk0]; simp, hk0⟩
  have HQ1 : Hid (V0.heap[k0]? = some (.cells #[.int .i64 0, .int .i64 0, .int .i64 0] 57)) := by rw [hV0, hk0]; exact heap_alloc_new W _
  have HV0 : Hid (V0 = W.alloc (.cells #[.int .i64 0, .int .i64 0, .int .i64 0] 57) ∧ k0 = W.heap.size) := ⟨hV0, hk0⟩
  clear hV0 hk0
  go_enter Try.func33, Try.ntmps33
  go_wp2_with (fail)
  rw [← HV0.out.1, ← HV0.out.2]
  clear HV0
  refine (HH.out _ (by rw [← HB0.out.2.2]; exact HB0.out.1)).mono ?_
  rintro e w1 ⟨⟨ta, tn, tc, rfl⟩, hb1⟩
  obtain ⟨kh, hkh⟩ : ∃ k, k = w1.heap.size := ⟨_, rfl⟩
  obtain ⟨V1, hV1⟩ : ∃ V, V = w1.alloc (.cells #[.int .i64 C, .slice ta tn tc, .int .i64 O] 92) := ⟨_, rfl⟩
  have b1 : Below w1.heap.size w1 V1 := by rw [hV1]; (repeat' (first | (with_reducible exact Below.refl _ _) | (with_reducible assumption) | (with_reducible refine Below.setCell ?_ ?_ _) | (with_reducible refine Below.alloc ?_ ?_ _) | (with_reducible refine below_drewN ?_ _) | (with_reducible refine Below.drew ?_) | (with_reducible exact Nat.le_refl _) | omega | (simp; done) | (simp; omega)))
  have b01 : Below V0.heap.size V0 V1 := hb1.trans (b1.mono hb1.size)
  have HB1 : Hid (Below k0 W V1) := HB0.out.1.trans (b01.mono (by have := HB0.out.2; omega))
  have HQA : Hid (V1.heap[k0]? = some (.cells #[.int .i64 0, .int .i64 0, .int .i64 0] 57)) := (b01.block k0 (by have := HB0.out.2; omega)).trans HQ1.out
  have HKW : Hid (k0 = W.heap.size ∧ k0 + 1 ≤ V1.heap.size) := ⟨HB0.out.2.2, by have := b01.size; have := HB0.out.2; omega⟩
  have HKH : Hid (V1.heap[kh]? = some (.cells #[.int .i64 C, .slice ta tn tc, .int .i64 O] 92)) := by rw [hV1, hkh]; exact heap_alloc_new w1 _
  have HV1 : Hid (V1 = w1.alloc (.cells #[.int .i64 C, .slice ta tn tc, .int .i64 O] 92) ∧ kh = w1.heap.size) := ⟨hV1, hkh⟩
  clear hb1 HQ1 HB0 HH b1 b01 hV1 hkh
  go_upto_region 2 with fail
  rw [← HV1.out.1, ← HV1.out.2]
  clear HV1
  have s0 : V1.cell? ⟨kh, 0, none⟩ = some (.int .i64 C) := cellOf HKH.out 0 rfl
  have sl := ltOf HKH.out
  by_cases hc : C = 0
  case neg =>
    have hc2 : (C != 0) = true := by simp [hc]
    have HE : Hid (Q = ⟨C, 0, 0⟩) := by unfold Hid; rw [HQ.out]; unfold vyQ; rw [if_neg (by rw [← H.out.2.2.1]; exact hc), H.out.2.2.1]
    have q1 := HQA.out
    have z0 : V1.cell? ⟨k0, 0, none⟩ = some (.int .i64 0) := cellOf q1 0 rfl
    have z1 : V1.cell? ⟨k0, 1, none⟩ = some (.int .i64 0) := cellOf q1 1 rfl
    have z2 : V1.cell? ⟨k0, 2, none⟩ = some (.int .i64 0) := cellOf q1 2 rfl
    have zf0 := frozOf q1 0
    have zf1 := frozOf q1 1
    have zf2 := frozOf q1 2
    have zl := ltOf q1
    obtain ⟨e1, e2, e3, e4, e5, e6⟩ := set3e (a' := .int .i64 C) (b' := .int .i64 0) (c' := .int .i64 0) q1
    clear q1 hc
    go_wp2
    refine bodyPost_ret (by simp [results, Try.results33, go_sem, e1, e2, e3, e4, e5, e6, zl]; try rfl) rfl ?_
    refine ⟨by rw [HE.out], ?_⟩
    rw [← HKW.out.1]
    exact set3b HB1.out (Nat.le_refl _)
  obtain ⟨hf1, hwd, hhg, hp⟩ := vhC_ok (s := s) (w := wd) (h := hg) (p := p) (by rw [← H.out.2.2.1]; exact hc)
  have hdok := vdF_ok hf1
  have hhC : vhC s wd hg p = 0 := by rw [← H.out.2.2.1]; exact hc
  have hc2 : (C != 0) = false := by simp [hc]
  clear hf1
  subst hc

  go_wp2_with (fail)
  refine (HF.out _ (by rw [← HKW.out.1]; exact HB1.out)).mono ?_
  rintro e w2 ⟨rfl, hb2⟩
  have HB2 : Hid (Below k0 W w2) := HB1.out.trans (hb2.mono (by have := HKW.out.2; omega))
  have HQB : Hid (w2.heap[k0]? = some (.cells #[.int .i64 0, .int .i64 0, .int .i64 0] 57)) := (hb2.block _ (ltOf HQA.out)).trans HQA.out
  have HK2 : Hid (k0 + 1 ≤ w2.heap.size) := by have := hb2.size; have := HKW.out.2; unfold Hid; omega
  clear hb2 HQA HB1 HF s0 sl HKH
  by_cases hf : F = 0
  case neg =>
    have hf2 : (F != 0) = true := by simp [hf]
    have HE : Hid (Q = ⟨F, 0, 0⟩) := by unfold Hid; rw [HQ.out]; unfold vyQ; rw [if_pos hhC, if_neg (by rw [← H.out.2.2.2.1]; exact hf), H.out.2.2.2.1]
    have q1 := HQB.out
    have z0 : w2.cell? ⟨k0, 0, none⟩ = some (.int .i64 0) := cellOf q1 0 rfl
    have z1 : w2.cell? ⟨k0, 1, none⟩ = some (.int .i64 0) := cellOf q1 1 rfl
    have z2 : w2.cell? ⟨k0, 2, none⟩ = some (.int .i64 0) := cellOf q1 2 rfl
    have zf0 := frozOf q1 0
    have zf1 := frozOf q1 1
    have zf2 := frozOf q1 2
    have zl := ltOf q1
    obtain ⟨e1, e2, e3, e4, e5, e6⟩ := set3e (a' := .int .i64 F) (b' := .int .i64 0) (c' := .int .i64 0) q1
    clear q1 hf hhC hdok
    go_wp2
    refine bodyPost_ret (by simp [results, Try.results33, go_sem, e1, e2, e3, e4, e5, e6, zl]; try rfl) rfl ?_
    refine ⟨by rw [HE.out], ?_⟩
    rw [← HKW.out.1]
    exact set3b HB2.out (Nat.le_refl _)
  have hcok := vcF_ok (s := cs) (by rw [← H.out.2.2.2.1]; exact hf)
  have HQ2 : Hid (Q = if (vyS s cs wd hg p).c = 0 then diQ (vyS s cs wd hg p).fr (whole (wd * hg)) else ⟨(vyS s cs wd hg p).c, 0, 0⟩) := by
    unfold Hid; rw [HQ.out]; unfold vyQ; rw [if_pos hhC, if_pos (by rw [← H.out.2.2.2.1]; exact hf)]
  clear HQ hhC
  subst hf
  obtain ⟨WN, rfl⟩ : ∃ n : Nat, wd = n := ⟨wd.toNat, by omega⟩
  obtain ⟨NH, rfl⟩ : ∃ n : Nat, hg = n := ⟨hg.toNat, by omega⟩
  obtain ⟨Z, hZ⟩ : ∃ Z, Z = vyS s cs WN NH p := ⟨_, rfl⟩
  have HZ : Hid (Z = sumA (whole 0) (vyT s cs p WN NH 0) ∧ Q = if Z.c = 0 then diQ Z.fr (whole ((WN : Int) * NH)) else ⟨Z.c, 0, 0⟩) := ⟨by rw [hZ]; unfold vyS; simp, by rw [hZ]; exact HQ2.out⟩
  have hWN : 1 ≤ WN ∧ WN ≤ 20 := by omega
  have hNH : 1 ≤ NH ∧ NH ≤ 20 := by omega
  have wr9 : IntKind.i64.wrap ((WN : Int) * (NH : Int)) = (WN : Int) * (NH : Int) := by
    have h9 : WN * NH ≤ 20 * 20 := Nat.mul_le_mul hWN.2 hNH.2
    have h8 : ((WN * NH : Nat) : Int) = (WN : Int) * (NH : Int) := by simp
    rw [IntKind.wrap_i64, ← h8]; omega
  clear hZ HQ2 hwd hhg

  have HI0 : Hid (∀ X, Calls Try.prog 55 #[.int .i64 0] X fun e w' => e = .returned (.agg #[.int .i64 0, .int .i64 1]) ∧ Below X.heap.size X w') := fun X => spec_int15 0 X
  go_wp2_with (fail)
  refine (HI0.out _).mono ?_
  rintro e w3 ⟨rfl, hb3⟩
  obtain ⟨kA, hkA⟩ : ∃ k, k = w3.heap.size := ⟨_, rfl⟩
  obtain ⟨V3, hV3⟩ : ∃ V, V = w3.alloc (.cells #[.int .i64 0, .int .i64 0, .int .i64 1] 96) := ⟨_, rfl⟩
  have b3 : Below w3.heap.size w3 V3 := by rw [hV3]; (repeat' (first | (with_reducible exact Below.refl _ _) | (with_reducible assumption) | (with_reducible refine Below.setCell ?_ ?_ _) | (with_reducible refine Below.alloc ?_ ?_ _) | (with_reducible refine below_drewN ?_ _) | (with_reducible refine Below.drew ?_) | (with_reducible exact Nat.le_refl _) | omega | (simp; done) | (simp; omega)))
  have b23 : Below w2.heap.size w2 V3 := hb3.trans (b3.mono hb3.size)
  have HS3 : Hid (AC V3 kA 0 (sumA (whole 0) (vyT s cs p WN 0 0)) ∧ V3.heap[k0]? = some (.cells #[.int .i64 0, .int .i64 0, .int .i64 0] 57) ∧ Below k0 W V3) :=
    ⟨by show AC V3 kA 0 ⟨0, 0, 1⟩; exact AC.mk3 (by rw [hV3, hkA]; exact heap_alloc_new w3 _), (b23.block _ (ltOf HQB.out)).trans HQB.out, HB2.out.trans (b23.mono (by have := HK2.out; omega))⟩
  have HKA : Hid (k0 < kA) := by rw [hkA]; have := hb3.size; have := HK2.out; unfold Hid; omega
  have HV3 : Hid (V3 = w3.alloc (.cells #[.int .i64 0, .int .i64 0, .int .i64 1] 96) ∧ kA = w3.heap.size) := ⟨hV3, hkA⟩
  clear hkA hV3 b3 b23 hb3 HI0 HB2 HQB HK2
  obtain ⟨i0, hi0, hz0, hz1, hz2⟩ := info_parts info_Defect
  have hp0 : (p == 0) = false := by simp; omega
  have hp1 : ¬ p = 0 := by omega
  have hdn : dn ≤ 60 := by rw [H.out.2.2.2.2.1]; exact hdok.1
  go_wp2
  rw [← HV3.out.1, ← HV3.out.2]
  clear HV3
  go_loopw [14] (fun i wr => ∃ j : Nat, j ≤ NH ∧ i = .int .i64 j ∧ Hid (AC wr kA 0 (sumA (whole 0) (vyT s cs p WN j 0)) ∧ wr.heap[k0]? = some (.cells #[.int .i64 0, .int .i64 0, .int .i64 0] 57) ∧ Below k0 W wr)) (fun i _ => NH - (intOf i).toNat)
  case atStart => exact ⟨0, Nat.zero_le _, rfl, HS3.out⟩
  case round =>
    clear HS3
    obtain ⟨j, hj, rfl, hR⟩ := hrel
    by_cases hlt : j < NH
    · go_wp2
      go_loopw [15] (fun i wx => ∃ a : Nat, a ≤ WN ∧ i = .int .i64 a ∧ Hid (AC wx kA 0 (sumA (whole 0) (vyT s cs p WN j a)) ∧ wx.heap[k0]? = some (.cells #[.int .i64 0, .int .i64 0, .int .i64 0] 57) ∧ Below k0 W wx)) (fun i _ => WN - (intOf i).toNat)
      case atStart => exact ⟨0, Nat.zero_le _, rfl, hR.out⟩
      case round =>
        clear hR
        obtain ⟨wx, hwx⟩ : ∃ x, x = wr := ⟨_, rfl⟩
        subst hwx
        obtain ⟨a, ha, rfl, hR⟩ := hrel
        by_cases hla : a < WN
        · obtain ⟨lo, hlo⟩ : ∃ l, l = wx.heap.size := ⟨_, rfl⟩
          obtain ⟨V5, hV5⟩ : ∃ V, V = wx.alloc (.cells #[] 41) := ⟨_, rfl⟩
          have HS5 : Hid (OG 41 4 vdC V5 lo (.slice (some ⟨lo, 0, none⟩) 0 0) ((s.take 0).filter (fun d => decide (vX p d = (a : Int)) && decide (vY p d = (j : Int)))) ∧ Below lo wx V5) := by
            refine ⟨?_, by rw [hV5, hlo]; (repeat' (first | (with_reducible exact Below.refl _ _) | (with_reducible assumption) | (with_reducible refine Below.setCell ?_ ?_ _) | (with_reducible refine Below.alloc ?_ ?_ _) | (with_reducible refine below_drewN ?_ _) | (with_reducible refine Below.drew ?_) | (with_reducible exact Nat.le_refl _) | omega | (simp; done) | (simp; omega)))⟩
            rw [hV5, hlo]
            exact World.ownsRow_lit wx #[] 0 (Nat.le_refl _) (by decide) (by simp)
          have HV5 : Hid (V5 = wx.alloc (.cells #[] 41) ∧ lo = wx.heap.size) := ⟨hV5, hlo⟩
          have HLO : Hid (lo = wx.heap.size) := hlo
          have HBW : Hid (Below W.heap.size W wx) := by rw [← HKW.out.1]; exact hR.out.2.2
          clear hlo hV5
          go_wp2
          rw [← HV5.out.1, ← HV5.out.2]
          clear HV5
          go_loopw [16, 17] (fun o i wy => ∃ (t : Nat) (v : Value), t ≤ dn ∧ v = o ∧ i = .int .i64 t ∧ Hid (OG 41 4 vdC wy lo v ((s.take t).filter (fun d => decide (vX p d = (a : Int)) && decide (vY p d = (j : Int)))) ∧ Below lo wx wy)) (fun _ i _ => dn - (intOf i).toNat)
          case atStart => exact ⟨0, _, Nat.zero_le _, rfl, rfl, HS5.out⟩
          case round =>
            clear HS5
            obtain ⟨wy, hwy⟩ : ∃ x, x = wr := ⟨_, rfl⟩
            subst hwy
            obtain ⟨t, v, ht, rfl, rfl, hT⟩ := hrel
            have hBy : Below wx.heap.size wx wy := by rw [← HLO.out]; exact hT.out.2
            by_cases hlt2 : t < dn
            · have htl : t < s.length := by rw [← H.out.2.2.2.2.1]; exact hlt2
              obtain ⟨g, o, c2, he, hgx, hjc⟩ := (H.out.1.below (HBW.out.trans (hBy.mono HBW.out.size))).pos (by omega)
              simp only [Value.slice.injEq] at he
              obtain ⟨rfl, hx1, hx2⟩ := he
              clear hx1 hx2
              obtain ⟨c0, c1, c2', c3⟩ := vdC_at (hjc t htl)
              obtain ⟨d, hd⟩ : ∃ d, d = s[t] := ⟨_, rfl⟩
              rw [← hd] at c0 c1 c2' c3
              have hdk : Vok d := by rw [hd]; exact hdok.2 _ (List.getElem_mem _)
              obtain ⟨X, hX⟩ : ∃ X, X = d.x.tdiv p := ⟨_, rfl⟩
              obtain ⟨Y, hY⟩ : ∃ Y, Y = d.y.tdiv p := ⟨_, rfl⟩
              have hxw : IntKind.i64.wrap (d.x.tdiv p) = X := by rw [← hX, IntKind.wrap_i64]; have h9 := vX_bd hp.1 hdk; unfold vX at h9; rw [← hX] at h9; omega
              have hyw : IntKind.i64.wrap (d.y.tdiv p) = Y := by rw [← hY, IntKind.wrap_i64]; have h9 := vY_bd hp.1 hdk; unfold vY at h9; rw [← hY] at h9; omega
              have HF9 : Hid ((s.take (t + 1)).filter (fun d => decide (vX p d = (a : Int)) && decide (vY p d = (j : Int))) = (s.take t).filter (fun d => decide (vX p d = (a : Int)) && decide (vY p d = (j : Int))) ++ (if X = (a : Int) ∧ Y = (j : Int) then [d] else [])) := by
                unfold Hid
                rw [List.take_succ_eq_append_getElem htl, List.filter_append, ← hd]
                congr 1
                have e1 : vX p d = X := hX.symm
                have e2 : vY p d = Y := hY.symm
                by_cases h1 : X = (a : Int) <;> by_cases h2 : Y = (j : Int) <;> simp [List.filter, e1, e2, h1, h2]
              have b0 : (0 : Int) ≤ (t : Int) := by omega
              have b1 : (t : Int) < (dn : Int) := by omega
              have HTO : Hid (OG 41 4 vdC wy lo v ((s.take t).filter (fun d => decide (vX p d = (a : Int)) && decide (vY p d = (j : Int)))) ∧ Below lo wx wy) := hT.out
              clear hd hdk hjc hT hBy hX hY
              by_cases hx : X = (a : Int)
              case neg =>
                have hx1 : (X == (a : Int)) = false := by simp [hx]
                have HN : Hid (OG 41 4 vdC wy lo v ((s.take (t + 1)).filter (fun d => decide (vX p d = (a : Int)) && decide (vY p d = (j : Int)))) ∧ Below lo wx wy) := by
                  unfold Hid; rw [HF9.out, if_neg (fun h => hx h.1), List.append_nil]; exact HTO.out
                clear HF9 HTO
                go_wp2
                go_roundw
                case rel => exact ⟨t + 1, v, by omega, rfl, by go_num, HN.out⟩
                case measure => simp [intOf]; omega
              have hx1 : (X == (a : Int)) = true := by simp [hx]
              by_cases hy : Y = (j : Int)
              case neg =>
                have hy1 : (Y == (j : Int)) = false := by simp [hy]
                have HN : Hid (OG 41 4 vdC wy lo v ((s.take (t + 1)).filter (fun d => decide (vX p d = (a : Int)) && decide (vY p d = (j : Int)))) ∧ Below lo wx wy) := by
                  unfold Hid; rw [HF9.out, if_neg (fun h => hy h.2), List.append_nil]; exact HTO.out
                clear HF9 HTO
                go_wp2
                go_roundw
                case rel => exact ⟨t + 1, v, by omega, rfl, by go_num, HN.out⟩
                case measure => simp [intOf]; omega
              have hy1 : (Y == (j : Int)) = true := by simp [hy]
              obtain ⟨va, vc, rfl⟩ := (OG.rg vdC_len HTO.out.1).form
              obtain ⟨m, hm⟩ : ∃ m, m = ((s.take t).filter (fun d => decide (vX p d = (a : Int)) && decide (vY p d = (j : Int)))).length := ⟨_, rfl⟩
              have hm6 : m ≤ 60 := by
                have h9 := List.length_filter_le (fun d => decide (vX p d = (a : Int)) && decide (vY p d = (j : Int))) (s.take t)
                have h8 : (s.take t).length ≤ t := by simp; omega
                omega
              have HOW : Hid ((wy.alloc (.cells #[.int .i64 d.x, .int .i64 d.y, .int .i64 d.z, .int .i64 d.k] 41)).ownsRow lo 41 4 (.slice va m vc) m (((s.take t).filter (fun d => decide (vX p d = (a : Int)) && decide (vY p d = (j : Int)))).flatMap vdC)) := by
                have h9 := HTO.out.1
                unfold OG at h9
                rw [← hm] at h9
                exact World.ownsRow.alloc h9 _
              have HNW : Hid (∀ jj u, [.int .i64 d.x, .int .i64 d.y, .int .i64 d.z, .int .i64 d.k][jj]? = some u → (wy.alloc (.cells #[.int .i64 d.x, .int .i64 d.y, .int .i64 d.z, .int .i64 d.k] 41)).cell? ((⟨wy.heap.size, 0, none⟩ : Addr).add jj) = some u) := World.news_of_block (cs := #[.int .i64 d.x, .int .i64 d.y, .int .i64 d.z, .int .i64 d.k]) (t := 41) (fr := (0, 0)) (heap_alloc_new wy _)
              have HLL : Hid (lo ≤ (wy.alloc (.cells #[.int .i64 d.x, .int .i64 d.y, .int .i64 d.z, .int .i64 d.k] 41)).heap.size) := by have := HTO.out.2.size; have := HLO.out; unfold Hid; simp; omega
              have HPU : Hid (∀ v3 w9, w9.ownsRow lo 41 4 v3 (m + 1) (((s.take t).filter (fun d => decide (vX p d = (a : Int)) && decide (vY p d = (j : Int)))).flatMap vdC ++ [.int .i64 d.x, .int .i64 d.y, .int .i64 d.z, .int .i64 d.k]) → (wy.alloc (.cells #[.int .i64 d.x, .int .i64 d.y, .int .i64 d.z, .int .i64 d.k] 41)).grownBy w9 (Value.slice va m vc).ownBlock → OG 41 4 vdC w9 lo v3 ((s.take (t + 1)).filter (fun d => decide (vX p d = (a : Int)) && decide (vY p d = (j : Int)))) ∧ Below lo wx w9) := by
                intro v3 w9 h1 h2
                have hlw : ∀ g, (Value.slice va m vc).ownBlock = some g → lo ≤ g := fun g hg9 => (OG.lt HTO.out.1 g (by rw [← hm]; exact hg9)).1
                have b9 : Below wy.heap.size wy (wy.alloc (.cells #[.int .i64 d.x, .int .i64 d.y, .int .i64 d.z, .int .i64 d.k] 41)) := by (repeat' (first | (with_reducible exact Below.refl _ _) | (with_reducible assumption) | (with_reducible refine Below.setCell ?_ ?_ _) | (with_reducible refine Below.alloc ?_ ?_ _) | (with_reducible refine below_drewN ?_ _) | (with_reducible refine Below.drew ?_) | (with_reducible exact Nat.le_refl _) | omega | (simp; done) | (simp; omega)))
                refine ⟨?_, (HTO.out.2.trans (b9.mono (by have := HTO.out.2.size; have := HLO.out; omega))).grown h2 HLL.out hlw⟩
                rw [HF9.out, if_pos ⟨hx, hy⟩]
                unfold OG
                rw [List.length_append, ← hm, List.flatMap_append]
                exact h1
              rw [← hm]
              clear HTO hm HF9
              go_wp2_with (at_builtin; refine wpList_append_own_at _ rfl _ _ 25 rfl lo 41 i0 (.agg #[.int .i64 0, .int .i64 0, .int .i64 0, .int .i64 0]) 4 32 Try.underlying25 hi0 hz0 hz1 hz2 rfl (by decide) (.slice va m vc) m _ rfl HOW.out ⟨wy.heap.size, 0, none⟩ 1 1 [.int .i64 d.x, .int .i64 d.y, .int .i64 d.z, .int .i64 d.k] rfl rfl HNW.out (by simp [Value.oneCell']) (by unfold maxLen; omega) (by omega) HLL.out ?_; intro v3 w9 hown3 hgrow3 _ hloc3; have HDN := HPU.out v3 w9 hown3 hgrow3; have HDn : Hid (OG 41 4 vdC w9 lo v3 ((s.take (t + 1)).filter (fun d => decide (vX p d = (a : Int)) && decide (vY p d = (j : Int)))) ∧ Below lo wx w9) := HDN; clear HDN hown3 hgrow3 hloc3)
              go_roundw
              case rel => exact ⟨t + 1, v3, by omega, rfl, by go_num, HDn.out⟩
              case measure => simp [intOf]; omega
            · obtain rfl : t = dn := by omega
              have hog := hT.out.1
              have e9 : (s.take t).filter (fun d => decide (vX p d = (a : Int)) && decide (vY p d = (j : Int))) = vbL s p (pk (a : Int) (j : Int)) := by
                rw [vb_filter hp.1 hdok.2 (by omega) (by omega), H.out.2.2.2.2.1, List.take_length]
              rw [e9] at hog
              have hrg := OG.rg vdC_len hog
              obtain ⟨va, vc, rfl⟩ := hrg.form
              obtain ⟨m, hm⟩ : ∃ m, m = (vbL s p (pk (a : Int) (j : Int))).length := ⟨_, rfl⟩
              rw [← hm] at hrg ⊢
              obtain ⟨r, hr⟩ : ∃ r, r = vyD s cs p j a := ⟨_, rfl⟩
              have HWO : Hid (Calls Try.prog 51 #[.slice va m vc, .slice ca cn cc] wy fun e w' => e = .returned (.agg #[.int .i64 r.c, .int .i64 r.n, .int .i64 r.d]) ∧ Below wy.heap.size wy w') := by
                have h8 := vb_ok (s := s) (p := p) (K := pk (a : Int) (j : Int)) hdok.1 hdok.2
                rw [hr]
                exact spec_worth h8.1 hcok.1 hcok.2 hrg (H.out.2.1.below (HBW.out.trans (hBy.mono HBW.out.size)))
              have HST : Hid (AC wy kA 0 (sumA (whole 0) (vyT s cs p WN j a)) ∧ wy.heap[k0]? = some (.cells #[.int .i64 0, .int .i64 0, .int .i64 0] 57) ∧ Below k0 W wy) :=
                ⟨hR.out.1.keep (hBy.block _ hR.out.1.lt), (hBy.block _ (ltOf hR.out.2.1)).trans hR.out.2.1, hR.out.2.2.trans (hBy.mono (by have := ltOf hR.out.2.1; omega))⟩
              have HNX : Hid (adA (sumA (whole 0) (vyT s cs p WN j a)) r = sumA (whole 0) (vyT s cs p WN j (a + 1))) := by
                unfold Hid sumA
                rw [vyT_succ, List.foldl_append, hr]; rfl
              clear hog e9 hrg hm hr hT hBy hR
              go_wp2_with (fail)
              refine HWO.out.mono ?_
              rintro e w6 ⟨rfl, hb6⟩
              have HS6 : Hid (AC w6 kA 0 (sumA (whole 0) (vyT s cs p WN j a)) ∧ w6.heap[k0]? = some (.cells #[.int .i64 0, .int .i64 0, .int .i64 0] 57) ∧ Below k0 W w6) :=
                ⟨HST.out.1.keep (hb6.block _ HST.out.1.lt), (hb6.block _ (ltOf HST.out.2.1)).trans HST.out.2.1, HST.out.2.2.trans (hb6.mono (by have := ltOf HST.out.2.1; omega))⟩
              clear hb6 HST HWO
              go_wp2_with (fail)
              refine (spec_add (r := r) HS6.out.1).mono ?_
              rintro e w7 ⟨rfl, hAD⟩
              have HN : Hid (AC w7 kA 0 (sumA (whole 0) (vyT s cs p WN j (a + 1))) ∧ w7.heap[k0]? = some (.cells #[.int .i64 0, .int .i64 0, .int .i64 0] 57) ∧ Below k0 W w7) := by
                have hka := HKA.out
                refine ⟨by rw [← HNX.out]; exact hAD.ac, (hAD.chg.block k0 (ltOf HS6.out.2.1) (Or.inl hka)).trans HS6.out.2.1, HS6.out.2.2.trans (hAD.chg.below (by omega) (by have := ltOf HS6.out.2.1; omega))⟩
              clear hAD HS6 HNX
              go_wp2
              go_roundw
              case rel => exact ⟨a + 1, by omega, by go_num, HN.out⟩
              case measure => simp [intOf]; omega
        · obtain rfl : a = WN := by omega
          have HN : Hid (AC wx kA 0 (sumA (whole 0) (vyT s cs p a (j + 1) 0)) ∧ wx.heap[k0]? = some (.cells #[.int .i64 0, .int .i64 0, .int .i64 0] 57) ∧ Below k0 W wx) := by rw [← vyT_row]; exact hR.out
          clear hR
          go_wp2
          go_roundw
          case rel => exact ⟨j + 1, by omega, by go_num, HN.out⟩
          case measure => simp [intOf]; omega
    · obtain rfl : j = NH := by omega
      rw [← HZ.out.1] at hR
      obtain ⟨Zc, Zn, Zd⟩ := Z
      have HS6 : Hid (AC wr kA 0 ⟨Zc, Zn, Zd⟩ ∧ wr.heap[k0]? = some (.cells #[.int .i64 0, .int .i64 0, .int .i64 0] 57) ∧ Below k0 W wr ∧ k0 < kA) := ⟨hR.out.1, hR.out.2.1, hR.out.2.2, HKA.out⟩
      have t0 : wr.cell? ⟨kA, 0, none⟩ = some (.int .i64 Zc) := HS6.out.1.c0
      have t1 : wr.cell? ⟨kA, 1, none⟩ = some (.int .i64 Zn) := HS6.out.1.c1
      have t2 : wr.cell? ⟨kA, 2, none⟩ = some (.int .i64 Zd) := HS6.out.1.c2
      have tl := HS6.out.1.lt
      clear hR
      by_cases hu : Zc = 0
      case neg =>
        have hu2 : (Zc != 0) = true := by simp [hu]
        have HE : Hid (Q = ⟨Zc, 0, 0⟩) := by unfold Hid; rw [HZ.out.2, if_neg hu]
        have q1 := HS6.out.2.1
        have z0 : wr.cell? ⟨k0, 0, none⟩ = some (.int .i64 0) := cellOf q1 0 rfl
        have z1 : wr.cell? ⟨k0, 1, none⟩ = some (.int .i64 0) := cellOf q1 1 rfl
        have z2 : wr.cell? ⟨k0, 2, none⟩ = some (.int .i64 0) := cellOf q1 2 rfl
        have zf0 := frozOf q1 0
        have zf1 := frozOf q1 1
        have zf2 := frozOf q1 2
        have zl := ltOf q1
        obtain ⟨e1, e2, e3, e4, e5, e6⟩ := set3e (a' := .int .i64 Zc) (b' := .int .i64 0) (c' := .int .i64 0) q1
        clear q1 hu
        go_wp2
        refine bodyPost_ret (by simp [results, Try.results33, go_sem, e1, e2, e3, e4, e5, e6, zl]; try rfl) rfl ?_
        refine ⟨by rw [HE.out], ?_⟩
        rw [← HKW.out.1]
        exact set3b HS6.out.2.2.1 (Nat.le_refl _)
      have hu2 : (Zc != 0) = false := by simp [hu]
      obtain ⟨A, hA⟩ : ∃ A, A = (WN : Int) * (j : Int) := ⟨_, rfl⟩
      have HE : Hid (Q = diQ ⟨Zn, Zd⟩ (whole A)) := by
        unfold Hid; rw [HZ.out.2, if_pos hu, hA]; rfl
      rw [← hA] at wr9
      have hA2 : (WN : Int) * (j : Int) = A := hA.symm
      have HWA : Hid (∀ X, Calls Try.prog 55 #[.int .i64 A] X fun e w' => e = .returned (.agg #[.int .i64 A, .int .i64 1]) ∧ Below X.heap.size X w') := fun X => spec_int15 A X
      have HDV : Hid (∀ X, Calls Try.prog 57 #[.agg #[.int .i64 Zn, .int .i64 Zd], .agg #[.int .i64 A, .int .i64 1]] X fun e w' => e = .returned (.agg #[.int .i64 Q.c, .int .i64 Q.n, .int .i64 Q.d]) ∧ Below X.heap.size X w') := fun X => by
        rw [HE.out]; exact spec_diQ ⟨Zn, Zd⟩ (whole A) X
      subst hu
      clear HZ HE hA
      go_wp2_with (fail)
      obtain ⟨X, hX⟩ : ∃ X, X = wr.drew := ⟨_, rfl⟩
      have bX : Below wr.heap.size wr X := by rw [hX]; exact (Below.refl _ _).drew
      have hm0 : wr.drew = X := hX.symm
      have hS0 : AC X kA 0 ⟨0, Zn, Zd⟩ := HS6.out.1.keep (bX.block _ HS6.out.1.lt)
      have HX : Hid (X.heap[k0]? = some (.cells #[.int .i64 0, .int .i64 0, .int .i64 0] 57) ∧ Below k0 W X ∧ k0 < kA ∧ k0 < X.heap.size) := ⟨(bX.block _ (ltOf HS6.out.2.1)).trans HS6.out.2.1, HS6.out.2.2.1.trans (bX.mono (by have := ltOf HS6.out.2.1; omega)), HS6.out.2.2.2, by have := ltOf HS6.out.2.1; have := bX.size; omega⟩
      clear hX bX t0 t1 t2 tl HS6
      refine wp_region_holdsA (S := fun w' => AC w' kA 0 ⟨0, Zn, Zd⟩) (by kernel_rfl) (by rw [hm0]; exact hS0) (fun hS => ?_)
      rw [hm0] at hS ⊢
      clear hm0
      refine fl_takeA (i := 0) (d := 91) (v := .pointer (some ⟨kA, 1, none⟩)) rfl rfl rfl (by kernel_rfl) (by kernel_rfl) (by kernel_rfl) hS ?_ ?_
      · intro w' hk; have y0 := hk.c1; have y1 := hk.c2; have y2 := hk.lt; simp only at y0 y1; go_simp
      simp only [Act.put, List.setIfInBounds_toArray, List.set_cons_zero, List.set_cons_succ]
      refine fl_takeA (i := 1) (d := 92) (v := .agg #[.int .i64 Zn, .int .i64 Zd]) rfl rfl rfl (by kernel_rfl) (by kernel_rfl) (by kernel_rfl) hS ?_ ?_
      · intro w' hk; have y0 : _ = some (Value.int .i64 Zn) := hk.c1; have y1 : _ = some (Value.int .i64 Zd) := hk.c2; have y2 := hk.lt; go_simp
      simp only [Act.put, List.setIfInBounds_toArray, List.set_cons_zero, List.set_cons_succ]
      refine fl_takeA (i := 2) (d := 93) (v := .int .i64 (WN : Int)) rfl rfl rfl (by kernel_rfl) (by kernel_rfl) (by kernel_rfl) hS ?_ ?_
      · intro w' hk; go_simp
      simp only [Act.put, List.setIfInBounds_toArray, List.set_cons_zero, List.set_cons_succ]
      refine fl_takeA (i := 3) (d := 94) (v := .int .i64 (j : Int)) rfl rfl rfl (by kernel_rfl) (by kernel_rfl) (by kernel_rfl) hS ?_ ?_
      · intro w' hk; go_simp
      simp only [Act.put, List.setIfInBounds_toArray, List.set_cons_zero, List.set_cons_succ]
      refine fl_takeA (i := 4) (d := 95) (v := .int .i64 A) rfl rfl rfl (by kernel_rfl) (by kernel_rfl) (by kernel_rfl) hS ?_ ?_
      · intro w' hk; go_simp
      simp only [Act.put, List.setIfInBounds_toArray, List.set_cons_zero, List.set_cons_succ]
      refine wpAnyH_all (rs := [5]) (by kernel_rfl) (by simp) ?_
      intro iz hi
      obtain rfl : iz = 5 := by simpa using hi
      clear hi
      refine op_call (d := 96) rfl rfl rfl (by go_simp) ((HWA.out X).mono ?_)
      rintro e y1 ⟨rfl, hb7⟩
      have hs7 : AC y1 kA 0 ⟨0, Zn, Zd⟩ := hS0.keep (hb7.block _ hS0.lt)
      refine ⟨_, rfl, hs7, ?_⟩
      simp only [Act.put, List.setIfInBounds_toArray, List.set_cons_zero, List.set_cons_succ]
      refine wpAnyH_all (rs := [6]) (by kernel_rfl) (by simp) ?_
      intro iz hi
      obtain rfl : iz = 6 := by simpa using hi
      clear hi
      refine op_call (d := 97) rfl rfl rfl (by go_simp) ((HDV.out y1).mono ?_)
      rintro e y2 ⟨rfl, hb8⟩
      have hs8 : AC y2 kA 0 ⟨0, Zn, Zd⟩ := hs7.keep (hb8.block _ hs7.lt)
      refine ⟨_, rfl, hs8, ?_⟩
      simp only [Act.put, List.setIfInBounds_toArray, List.set_cons_zero, List.set_cons_succ]
      obtain ⟨Qc, Qn, Qd⟩ := Q
      have b78 : Below X.heap.size X y2 := hb7.trans (hb8.mono hb7.size)
      have q1 := (b78.block _ (ltOf HX.out.1)).trans HX.out.1
      have HB9 : Hid (Below k0 W y2) := HX.out.2.1.trans (b78.mono (by have := HX.out.2.2; omega))
      have hne : kA ≠ k0 := by have := HX.out.2.2.1; omega
      have z0 : y2.cell? ⟨k0, 0, none⟩ = some (.int .i64 0) := cellOf q1 0 rfl
      have z1 : y2.cell? ⟨k0, 1, none⟩ = some (.int .i64 0) := cellOf q1 1 rfl
      have z2 : y2.cell? ⟨k0, 2, none⟩ = some (.int .i64 0) := cellOf q1 2 rfl
      have zf0 := frozOf q1 0
      have zf1 := frozOf q1 1
      have zf2 := frozOf q1 2
      have zl := ltOf q1
      obtain ⟨e1, e2, e3, e4, e5, e6⟩ := set3e (a' := .int .i64 Qc) (b' := .int .i64 Qn) (c' := .int .i64 Qd) q1
      refine wpAnyH_all (rs := [7]) (by kernel_rfl) (by simp) ?_
      intro iz hi
      obtain rfl : iz = 7 := by simpa using hi
      clear hi
      refine op_skipN (w' := ((y2.setCell ⟨k0, 0, none⟩ (.int .i64 Qc)).setCell ⟨k0, 1, none⟩ (.int .i64 Qn)).setCell ⟨k0, 2, none⟩ (.int .i64 Qd)) rfl rfl (by go_simp; try rfl) ?_
      refine ⟨hs8.keep (vset3_other hne), wpAnyH_done (by kernel_rfl) (NoPanic.normal ?_) _⟩
      clear q1 hs8 hs7 hb8 hb7 b78 hS0 hS HX HWA HDV
      go_wp2
      refine bodyPost_ret (by simp [results, Try.results33, go_sem, e1, e2, e3, e4, e5, e6, zl]; try rfl) rfl ?_
      refine ⟨rfl, ?_⟩
      rw [← HKW.out.1]
      exact set3b HB9.out (Nat.le_refl _)

end Go.Proofs.Ytjacmneopijiaaa
