/- Proved here: 'the program's EvenDoses answers as the model's; it writes into no argument and keeps nothing of one; its answer owns its memory, behind another call too', without a condition. -/
import Derived.Test.YtmpbcdolikafpaaVsE
import Derived.Test.YtmpbcdolikafpaaEvS
import Derived.Test.YtmpbcdolikafpaaRowPut
import Derived.Test.YtmpbcdolikafpaaMkSh
import Derived.Test.YtmpbcdolikafpaaIHeights
import Derived.Test.YtmpbcdolikafpaaIEdges
import Derived.Test.YtmpbcdolikafpaaEvC
import Derived.Test.YtmpbcdolikafpaaRows
namespace Go.Proofs.Ytmpbcdolikafpaa
open Go.ChangeShapes Go.WideShapes Go.ChangeAt Go.RowKit Go.Joins
set_option linter.unusedVariables false
set_option linter.unusedSimpArgs false

theorem own : ownKnob Try.prog.godebug = none := by kernel_rfl
theorem laidOut : laidOutB Try.prog = true := by kernel_rfl

set_option maxRecDepth 10000 in
set_option maxHeartbeats 25600000 in
theorem law_ev6 {w : World}  {sa0 : Option Addr} {sn0 sc0 : Nat} (s0 : List Sh) (hm0 : s0.length ≤ maxLen) (hr0 : RG 5 shC w (.slice sa0 sn0 sc0) s0) (va_1 vb_1 vc_1 vd_1 vo_1 vs_1 vr_1 : Int) (n2 : Int) (n3 : Int) :
    Calls Try.prog 3 #[.slice sa0 sn0 sc0, .agg #[.int .i64 va_1, .int .i64 vb_1, .int .i64 vc_1, .int .i64 vd_1, .int .i64 vo_1, .int .i64 vs_1, .int .i64 vr_1], .int .i64 n2, .int .i64 n3] w fun e w' => e = .returned (.bool true) ∧ Below w.heap.size w w' := by
  have HM0 : Hid (sn0 ≤ maxLen) := by unfold Hid; rw [hr0.len]; exact hm0
  have HR0 : Hid (RG 5 shC w (.slice sa0 sn0 sc0) s0) := hr0
  have HE0 : Hid (sn0 = s0.length) := hr0.len
  clear hm0 hr0
  obtain ⟨BX1, hBX1⟩ : ∃ BX, BX = Obj.cells #[.int .i64 va_1, .int .i64 vb_1, .int .i64 vc_1, .int .i64 vd_1, .int .i64 vo_1, .int .i64 vs_1, .int .i64 vr_1] 26 := ⟨_, rfl⟩
  have Z0 : Hid (LS w [(w.heap.size, w.heap.size + 1, fun V : World => V.heap[w.heap.size]? = some BX1)] (w.alloc (Obj.cells #[.int .i64 va_1, .int .i64 vb_1, .int .i64 vc_1, .int .i64 vd_1, .int .i64 vo_1, .int .i64 vs_1, .int .i64 vr_1] 26))) := by
    have p0 := LS.start w
    have p1 := LS.push (V' := (w.alloc (Obj.cells #[.int .i64 va_1, .int .i64 vb_1, .int .i64 vc_1, .int .i64 vd_1, .int .i64 vo_1, .int .i64 vs_1, .int .i64 vr_1] 26))) p0 (by (repeat' (first | (with_reducible exact Below.refl _ _) | (with_reducible assumption) | (with_reducible refine Below.setCell ?_ ?_ _) | (with_reducible refine Below.alloc ?_ ?_ _) | (with_reducible refine below_drewN ?_ _) | (with_reducible refine Below.drew ?_) | (with_reducible exact Nat.le_refl _) | omega | (simp; done) | (simp; omega)))) (Ow.block (k := w.heap.size) (o := BX1) (by rw [hBX1]; have := heap_alloc_new w (Obj.cells #[.int .i64 va_1, .int .i64 vb_1, .int .i64 vc_1, .int .i64 vd_1, .int .i64 vo_1, .int .i64 vs_1, .int .i64 vr_1] 26); simpa using this)) (by simp)
    exact p1
  have TB1 : Hid (BX1 = Obj.cells #[.int .i64 va_1, .int .i64 vb_1, .int .i64 vc_1, .int .i64 vd_1, .int .i64 vo_1, .int .i64 vs_1, .int .i64 vr_1] 26) := hBX1
  clear hBX1
  go_enter Try.func3, Try.ntmps3
  go_wp2_with (fail)
  obtain ⟨W0, hW0⟩ : ∃ V, V = (w.alloc (Obj.cells #[.int .i64 va_1, .int .i64 vb_1, .int .i64 vc_1, .int .i64 vd_1, .int .i64 vo_1, .int .i64 vs_1, .int .i64 vr_1] 26)) := ⟨_, rfl⟩
  rw [← hW0] at Z0 ⊢
  clear hW0
  refine (szShotS_gen sa0 sn0 sc0 1048576 _ (by omega) (by omega) HM0.out).mono ?_
  rintro e w1 ⟨r0, rfl, hq0, hb⟩
  have Z1 : Hid (LS w [(w.heap.size, w.heap.size + 1, fun V : World => V.heap[w.heap.size]? = some BX1)] w1) := Z0.out.next hb
  clear Z0 hb
  rcases hq0 with hneg | ⟨u0, v0, tt0⟩
  · go_wp2
    go_returns
    exact ⟨rfl, Z1.out.bl⟩
  have hl0 : ¬ r0 < 0 := by omega
  have HL0 : Hid (s0.length ≤ 1048576) := by unfold Hid; rw [← HE0.out]; omega
  obtain ⟨C, hC⟩ : ∃ X, X = evC s0 ⟨⟨va_1, vb_1, vc_1, vd_1⟩, vo_1, vs_1, vr_1⟩ n2 n3 := ⟨_, rfl⟩
  obtain ⟨L, hL⟩ : ∃ X, X = evL s0 ⟨⟨va_1, vb_1, vc_1, vd_1⟩, vo_1, vs_1, vr_1⟩ n2 n3 := ⟨_, rfl⟩
  obtain ⟨ES, hES⟩ : ∃ X, X = evE s0 ⟨⟨va_1, vb_1, vc_1, vd_1⟩, vo_1, vs_1, vr_1⟩ n2 n3 := ⟨_, rfl⟩
  have HLN : Hid (L.length ≤ 1048576 ∧ ES.length ≤ 1048576) := by unfold Hid; rw [hL, hES]; exact ev_small _ _ _ _
  have HSP : Hid (∀ (W : World) (g0 : Nat), (RG 5 shC W (.slice (some ⟨g0, 0, none⟩) s0.length s0.length) s0) → Calls Try.prog 5 #[.slice (some ⟨g0, 0, none⟩) s0.length s0.length, .agg #[.int .i64 va_1, .int .i64 vb_1, .int .i64 vc_1, .int .i64 vd_1, .int .i64 vo_1, .int .i64 vs_1, .int .i64 vr_1], .int .i64 n2, .int .i64 n3] W fun e w' => ∃ (vq : Value × Value) (_ : Unit), e = .returned (.agg #[.int .i64 C, vq.1, vq.2]) ∧ OwD w' W.heap.size vq.1 vq.2 L ES ∧ Below W.heap.size W w') := fun W g0 h0 => by
    rw [hES, hL, hC]
    exact (spec_even s0 ⟨⟨va_1, vb_1, vc_1, vd_1⟩, vo_1, vs_1, vr_1⟩ n2 n3 HL0.out h0).mono (fun e w' h => by obtain ⟨sv, ev, h1, h2, h3, h4⟩ := h; exact ⟨(sv, ev), (), h1, OwD.of h2 h3, h4⟩)
  have HIM : Hid (∀ (W : World) (g0 : Nat), (RG 5 shC W (.slice (some ⟨g0, 0, none⟩) s0.length s0.length) s0) → Calls Try.prog 8 #[.slice (some ⟨g0, 0, none⟩) s0.length s0.length, .agg #[.int .i64 va_1, .int .i64 vb_1, .int .i64 vc_1, .int .i64 vd_1, .int .i64 vo_1, .int .i64 vs_1, .int .i64 vr_1], .int .i64 n2, .int .i64 n3] W fun e w' => ∃ (vq : Value × Value) (_ : Unit), e = .returned (.agg #[.int .i64 C, vq.1, vq.2]) ∧ OwD w' W.heap.size vq.1 vq.2 L ES ∧ Below W.heap.size W w') := fun W g0 h0 => by
    rw [hES, hL, hC]
    exact (impl_even impl_heights impl_edges s0 ⟨⟨va_1, vb_1, vc_1, vd_1⟩, vo_1, vs_1, vr_1⟩ n2 n3 HL0.out h0).mono (fun e w' h => by obtain ⟨sv, ev, h1, h2, h3, h4⟩ := h; exact ⟨(sv, ev), (), h1, OwD.of h2 h3, h4⟩)
  clear hC hL hES u0 v0 tt0
  have kp1 := Z1.out.get 0 rfl
  rw [TB1.out] at kp1
  have cp1_0 : w1.cell? ⟨w.heap.size, 0, none⟩ = some (.int .i64 va_1) := cellOf kp1 0 rfl
  have cp1_1 : w1.cell? ⟨w.heap.size, 1, none⟩ = some (.int .i64 vb_1) := cellOf kp1 1 rfl
  have cp1_2 : w1.cell? ⟨w.heap.size, 2, none⟩ = some (.int .i64 vc_1) := cellOf kp1 2 rfl
  have cp1_3 : w1.cell? ⟨w.heap.size, 3, none⟩ = some (.int .i64 vd_1) := cellOf kp1 3 rfl
  have cp1_4 : w1.cell? ⟨w.heap.size, 4, none⟩ = some (.int .i64 vo_1) := cellOf kp1 4 rfl
  have cp1_5 : w1.cell? ⟨w.heap.size, 5, none⟩ = some (.int .i64 vs_1) := cellOf kp1 5 rfl
  have cp1_6 : w1.cell? ⟨w.heap.size, 6, none⟩ = some (.int .i64 vr_1) := cellOf kp1 6 rfl
  have lp1 : w.heap.size < w1.heap.size := ltOf kp1
  clear kp1
  go_wp2_with (fail)
  have HWB : Below w.heap.size w w1 := Z1.out.bl
  refine wp_region_float (by kernel_rfl) (fun hS => ?_)
  refine fl_take (i := 0) (d := 22) (v := .slice sa0 sn0 sc0) rfl rfl rfl (by kernel_rfl) (by kernel_rfl) (by kernel_rfl) hS ?_ ?_
  · intro w' hk; go_simp
  simp only [Act.put, List.setIfInBounds_toArray, List.set_cons_zero, List.set_cons_succ]
  refine fl_take (i := 2) (d := 24) (v := .agg #[.int .i64 va_1, .int .i64 vb_1, .int .i64 vc_1, .int .i64 vd_1, .int .i64 vo_1, .int .i64 vs_1, .int .i64 vr_1]) rfl rfl rfl (by kernel_rfl) (by kernel_rfl) (by kernel_rfl) hS ?_ ?_
  · intro w' hk; go_simp
  simp only [Act.put, List.setIfInBounds_toArray, List.set_cons_zero, List.set_cons_succ]
  refine fl_take (i := 4) (d := 26) (v := .int .i64 n2) rfl rfl rfl (by kernel_rfl) (by kernel_rfl) (by kernel_rfl) hS ?_ ?_
  · intro w' hk; go_simp
  simp only [Act.put, List.setIfInBounds_toArray, List.set_cons_zero, List.set_cons_succ]
  refine fl_take (i := 5) (d := 27) (v := .int .i64 n3) rfl rfl rfl (by kernel_rfl) (by kernel_rfl) (by kernel_rfl) hS ?_ ?_
  · intro w' hk; go_simp
  simp only [Act.put, List.setIfInBounds_toArray, List.set_cons_zero, List.set_cons_succ]
  refine float_pend (z := #[.int .i64 0, .slice none 0 0, .slice none 0 0]) (T := 31) (ja := 7) (js := 8) rfl rfl rfl rfl rfl (fun a w => by go_simp) [1, 3, 6] _ _ _ (fun _ => False) (by kernel_rfl) (by kernel_rfl) ?_ (Nat.le_refl _) (fun _ h => h.elim) hS
  intro ya0 hW0
  have hB0 : Below w1.heap.size w1 ya0 := hS.2.trans (hW0.mono hS.2.size)
  refine ⟨_, 23, _, _, rfl, rfl, by go_simp, (toShotS_any HL0.out ((HR0.out.below HWB).below hB0)).mono ?_⟩
  rintro e qa0 ⟨ga0, rfl, ho0, hb0⟩
  have hC0 : Below w1.heap.size w1 qa0 := hB0.trans (hb0.mono hB0.size)
  refine ⟨_, rfl, hb0, ?_⟩
  simp only [Act.put, List.setIfInBounds_toArray, List.set_cons_zero, List.set_cons_succ]
  intro ya1 hW1
  have hB1 : Below w1.heap.size w1 ya1 := hC0.trans (hW1.mono hC0.size)
  refine ⟨_, 25, _, _, rfl, rfl, by go_simp, (toWriter_is va_1 vb_1 vc_1 vd_1 vo_1 vs_1 vr_1 _).mono ?_⟩
  rintro e qa1 ⟨rfl, hb1⟩
  have hC1 : Below w1.heap.size w1 qa1 := hB1.trans (hb1.mono hB1.size)
  refine ⟨_, rfl, hb1, ?_⟩
  simp only [Act.put, List.setIfInBounds_toArray, List.set_cons_zero, List.set_cons_succ]
  intro ya2 hW2
  have hB2 : Below w1.heap.size w1 ya2 := hC1.trans (hW2.mono hC1.size)
  refine ⟨_, 28, _, _, rfl, rfl, by go_simp, (HSP.out ya2 ga0 (RG.below (RG.below (RG.below ((OG.rg shC_len ho0)) hW1) hb1) hW2)).mono ?_⟩
  rintro e yea ⟨vq, vr, rfl, hrq, hbq⟩
  obtain ⟨vq1, vq2⟩ := vq
  obtain ⟨vaa, vca, he1⟩ := hrq.form1
  obtain ⟨uaa, uca, he2⟩ := hrq.form2
  simp only at he1 he2 hrq
  subst he1 he2
  refine ⟨_, rfl, hbq, ?_⟩
  simp only [Act.put, List.setIfInBounds_toArray, List.set_cons_zero, List.set_cons_succ]
  unfold Fl
  refine after_store ?_ _ _ _ #[.int .i64 C, .slice vaa L.length vca, .slice uaa ES.length uca] (by rfl) (by rfl) (fun _ => by rfl) (fun _ => by rfl) (by simp) (by kernel_rfl) (by simp [Value.oneCell']) ?_
  · exact Nat.le_refl _
  intro Ka Va hK hk1 hk2 hF hoth hsz hcell
  simp only [Act.put, List.setIfInBounds_toArray, List.set_cons_zero, List.set_cons_succ]
  refine NoPanic.normal ?_
  obtain ⟨oqa, hoq⟩ : ∃ oq, Va.heap[Ka]? = some oq := ⟨_, Array.getElem?_eq_getElem hk2⟩
  have TCa : Hid (∀ W : World, W.heap[Ka]? = some oqa → W.cell? ⟨Ka, 0, none⟩ = some (.int .i64 C) ∧ W.cell? ⟨Ka, 1, none⟩ = some (.slice vaa L.length vca) ∧ W.cell? ⟨Ka, 2, none⟩ = some (.slice uaa ES.length uca) ∧ Ka < W.heap.size) := fun W h => ⟨(cellSame hoq h 0).trans (hcell 0 _ rfl), (cellSame hoq h 1).trans (hcell 1 _ rfl), (cellSame hoq h 2).trans (hcell 2 _ rfl), ltOf h⟩
  have hRV : OwD Va w1.heap.size (.slice vaa L.length vca) (.slice uaa ES.length uca) L ES := (hrq.keep (fun q hq => by have h9 := hrq.blk hq; exact hoth q (fun e => hF (by subst e; exact Or.inr ⟨h9.1, h9.2⟩)) h9.2)).low hB2.size
  have Z2 : Hid (LS w [(w.heap.size, w.heap.size + 1, fun V : World => V.heap[w.heap.size]? = some BX1), (w1.heap.size, Va.heap.size, fun V : World => V.heap[Ka]? = some oqa ∧ OwD V w1.heap.size (.slice vaa L.length vca) (.slice uaa ES.length uca) L ES)] Va) := Z1.out.push hK.2 (Ow.and (Ow.wide (Ow.block hoq) hk1 hk2 (Nat.le_refl _)) (Ow.rD2 hRV hK.2.size (Nat.le_refl _) hRV.lt)) (Nat.le_refl _)
  clear Z1 HWB hK hk1 hk2 hF hoth hsz hcell hoq hbq hS hW0 hB0 hC0 ho0 hb0 hW1 hB1 hC1 hb1 hW2 hB2 hrq hRV cp1_0 cp1_1 cp1_2 cp1_3 cp1_4 cp1_5 cp1_6 lp1
  go_wp2_with (fail)
  refine (toShotS_any HL0.out (HR0.out.below Z2.out.bl)).mono ?_
  rintro e w2 ⟨x0, rfl, ho, hb⟩
  have HX0 : Hid (∀ g, (.slice (some ⟨x0, 0, none⟩) s0.length s0.length : Value).ownBlock = some g → g < w2.heap.size) := fun g hg => (World.ownsRow.lt ho g hg).2
  have Z3 : Hid (LS w [(w.heap.size, w.heap.size + 1, fun V : World => V.heap[w.heap.size]? = some BX1), (w1.heap.size, Va.heap.size, fun V : World => V.heap[Ka]? = some oqa ∧ OwD V w1.heap.size (.slice vaa L.length vca) (.slice uaa ES.length uca) L ES), (Va.heap.size, w2.heap.size, fun V : World => V.ownsRow Va.heap.size 48 5 (.slice (some ⟨x0, 0, none⟩) s0.length s0.length) s0.length (s0.flatMap shC))] w2) := Z2.out.push hb (Ow.rowAll ho hb) (Nat.le_refl _)
  clear Z2 hb ho
  have kp1 := Z3.out.get 0 rfl
  rw [TB1.out] at kp1
  have cp1_0 : w2.cell? ⟨w.heap.size, 0, none⟩ = some (.int .i64 va_1) := cellOf kp1 0 rfl
  have cp1_1 : w2.cell? ⟨w.heap.size, 1, none⟩ = some (.int .i64 vb_1) := cellOf kp1 1 rfl
  have cp1_2 : w2.cell? ⟨w.heap.size, 2, none⟩ = some (.int .i64 vc_1) := cellOf kp1 2 rfl
  have cp1_3 : w2.cell? ⟨w.heap.size, 3, none⟩ = some (.int .i64 vd_1) := cellOf kp1 3 rfl
  have cp1_4 : w2.cell? ⟨w.heap.size, 4, none⟩ = some (.int .i64 vo_1) := cellOf kp1 4 rfl
  have cp1_5 : w2.cell? ⟨w.heap.size, 5, none⟩ = some (.int .i64 vs_1) := cellOf kp1 5 rfl
  have cp1_6 : w2.cell? ⟨w.heap.size, 6, none⟩ = some (.int .i64 vr_1) := cellOf kp1 6 rfl
  have lp1 : w.heap.size < w2.heap.size := ltOf kp1
  clear kp1
  go_wp2_with (fail)
  clear cp1_0 cp1_1 cp1_2 cp1_3 cp1_4 cp1_5 cp1_6 lp1
  refine (toWriter_is va_1 vb_1 vc_1 vd_1 vo_1 vs_1 vr_1 _).mono ?_
  rintro e w3 ⟨rfl, hb⟩
  have Z4 : Hid (LS w [(w.heap.size, w.heap.size + 1, fun V : World => V.heap[w.heap.size]? = some BX1), (w1.heap.size, Va.heap.size, fun V : World => V.heap[Ka]? = some oqa ∧ OwD V w1.heap.size (.slice vaa L.length vca) (.slice uaa ES.length uca) L ES), (Va.heap.size, w2.heap.size, fun V : World => V.ownsRow Va.heap.size 48 5 (.slice (some ⟨x0, 0, none⟩) s0.length s0.length) s0.length (s0.flatMap shC))] w3) := Z3.out.next hb
  clear Z3 hb
  go_wp2_with (fail)
  refine (HIM.out w3 x0 (OG.rg (T := 48) (B := Va.heap.size) shC_len (show w3.ownsRow Va.heap.size 48 5 (.slice (some ⟨x0, 0, none⟩) s0.length s0.length) s0.length (s0.flatMap shC) from Z4.out.get 2 rfl))).mono ?_
  rintro e w4 ⟨vq, vr, rfl, hrq, hb⟩
  obtain ⟨vq1, vq2⟩ := vq
  obtain ⟨vag, vcg, he1⟩ := hrq.form1
  obtain ⟨uag, ucg, he2⟩ := hrq.form2
  simp only at he1 he2 hrq
  subst he1 he2
  have HXg : Hid (LtD (.slice vag L.length vcg) (.slice uag ES.length ucg) w4.heap.size) := hrq.lt
  have Z5 : Hid (LS w [(w.heap.size, w.heap.size + 1, fun V : World => V.heap[w.heap.size]? = some BX1), (w1.heap.size, Va.heap.size, fun V : World => V.heap[Ka]? = some oqa ∧ OwD V w1.heap.size (.slice vaa L.length vca) (.slice uaa ES.length uca) L ES), (Va.heap.size, w2.heap.size, fun V : World => V.ownsRow Va.heap.size 48 5 (.slice (some ⟨x0, 0, none⟩) s0.length s0.length) s0.length (s0.flatMap shC)), (w3.heap.size, w4.heap.size, fun V : World => OwD V w3.heap.size (.slice vag L.length vcg) (.slice uag ES.length ucg) L ES)] w4) := Z4.out.push hb (Ow.rAllD2 hrq hb) (Nat.le_refl _)
  clear Z4 hb hrq
  obtain ⟨cva_0, cva_1, cva_2, lva⟩ := TCa.out w4 (Z5.out.get 1 rfl).1
  have Z6 : Hid (LS w [(w.heap.size, w.heap.size + 1, fun V : World => V.heap[w.heap.size]? = some BX1), (w1.heap.size, Va.heap.size, fun V : World => V.heap[Ka]? = some oqa ∧ OwD V w1.heap.size (.slice vaa L.length vca) (.slice uaa ES.length uca) L ES), (Va.heap.size, w2.heap.size, fun V : World => V.ownsRow Va.heap.size 48 5 (.slice (some ⟨x0, 0, none⟩) s0.length s0.length) s0.length (s0.flatMap shC)), (w3.heap.size, w4.heap.size, fun V : World => OwD V w3.heap.size (.slice vag L.length vcg) (.slice uag ES.length ucg) L ES), (w4.heap.size, w4.heap.size + 1, fun V : World => V.heap[w4.heap.size]? = some (Obj.cells #[.int .i64 C, .slice vag L.length vcg, .slice uag ES.length ucg] 31))] (w4.alloc (Obj.cells #[.int .i64 C, .slice vag L.length vcg, .slice uag ES.length ucg] 31))) := Z5.out.push (by (repeat' (first | (with_reducible exact Below.refl _ _) | (with_reducible assumption) | (with_reducible refine Below.setCell ?_ ?_ _) | (with_reducible refine Below.alloc ?_ ?_ _) | (with_reducible refine below_drewN ?_ _) | (with_reducible refine Below.drew ?_) | (with_reducible exact Nat.le_refl _) | omega | (simp; done) | (simp; omega)))) (Ow.block (heap_alloc_new _ _)) (Nat.le_refl _)
  clear Z5
  go_wp2_with (fail)
  obtain ⟨Vg, hV⟩ : ∃ V, V = w4.alloc (Obj.cells #[.int .i64 C, .slice vag L.length vcg, .slice uag ES.length ucg] 31) := ⟨_, rfl⟩
  rw [← hV] at Z6 ⊢
  obtain ⟨Kg, hK⟩ : ∃ K, K = w4.heap.size := ⟨_, rfl⟩
  rw [← hK] at Z6 HXg ⊢
  clear hV hK
  clear cva_0 cva_1 cva_2 lva
  refine (eqDoseResult_to C HLN.out (OwD.rd (B := w3.heap.size) (show OwD Vg w3.heap.size (.slice vag L.length vcg) (.slice uag ES.length ucg) L ES from (Z6.out.get 3 rfl))) (OwD.rd (B := w1.heap.size) (show OwD Vg w1.heap.size (.slice vaa L.length vca) (.slice uaa ES.length uca) L ES from (Z6.out.get 1 rfl).2))).mono ?_
  rintro e w5 ⟨rfl, hb⟩
  have Z7 : Hid (LS w [(w.heap.size, w.heap.size + 1, fun V : World => V.heap[w.heap.size]? = some BX1), (w1.heap.size, Va.heap.size, fun V : World => V.heap[Ka]? = some oqa ∧ OwD V w1.heap.size (.slice vaa L.length vca) (.slice uaa ES.length uca) L ES), (Va.heap.size, w2.heap.size, fun V : World => V.ownsRow Va.heap.size 48 5 (.slice (some ⟨x0, 0, none⟩) s0.length s0.length) s0.length (s0.flatMap shC)), (w3.heap.size, Kg, fun V : World => OwD V w3.heap.size (.slice vag L.length vcg) (.slice uag ES.length ucg) L ES), (Kg, Kg + 1, fun V : World => V.heap[Kg]? = some (Obj.cells #[.int .i64 C, .slice vag L.length vcg, .slice uag ES.length ucg] 31))] w5) := Z6.out.next hb
  clear Z6 hb
  go_wp2_with (fail)
  refine (toShotS_any HL0.out (HR0.out.below Z7.out.bl)).mono ?_
  rintro e w6 ⟨e0, rfl, ho, hb⟩
  have Z8 : Hid (LS w [(w.heap.size, w.heap.size + 1, fun V : World => V.heap[w.heap.size]? = some BX1), (w1.heap.size, Va.heap.size, fun V : World => V.heap[Ka]? = some oqa ∧ OwD V w1.heap.size (.slice vaa L.length vca) (.slice uaa ES.length uca) L ES), (Va.heap.size, w2.heap.size, fun V : World => V.ownsRow Va.heap.size 48 5 (.slice (some ⟨x0, 0, none⟩) s0.length s0.length) s0.length (s0.flatMap shC)), (w3.heap.size, Kg, fun V : World => OwD V w3.heap.size (.slice vag L.length vcg) (.slice uag ES.length ucg) L ES), (Kg, Kg + 1, fun V : World => V.heap[Kg]? = some (Obj.cells #[.int .i64 C, .slice vag L.length vcg, .slice uag ES.length ucg] 31)), (w5.heap.size, w6.heap.size, fun V : World => V.ownsRow w5.heap.size 48 5 (.slice (some ⟨e0, 0, none⟩) s0.length s0.length) s0.length (s0.flatMap shC))] w6) := Z7.out.push hb (Ow.rowAll ho hb) (Nat.le_refl _)
  clear Z7 hb ho
  go_wp2_with (fail)
  refine (eqShotS_same (by have := HL0.out; omega) (OG.rg (T := 48) (B := Va.heap.size) shC_len (show w6.ownsRow Va.heap.size 48 5 (.slice (some ⟨x0, 0, none⟩) s0.length s0.length) s0.length (s0.flatMap shC) from Z8.out.get 2 rfl)) (OG.rg (T := 48) (B := w5.heap.size) shC_len (show w6.ownsRow w5.heap.size 48 5 (.slice (some ⟨e0, 0, none⟩) s0.length s0.length) s0.length (s0.flatMap shC) from Z8.out.get 5 rfl))).mono ?_
  rintro e w7 ⟨rfl, hb⟩
  have Z9 : Hid (LS w [(w.heap.size, w.heap.size + 1, fun V : World => V.heap[w.heap.size]? = some BX1), (w1.heap.size, Va.heap.size, fun V : World => V.heap[Ka]? = some oqa ∧ OwD V w1.heap.size (.slice vaa L.length vca) (.slice uaa ES.length uca) L ES), (Va.heap.size, w2.heap.size, fun V : World => V.ownsRow Va.heap.size 48 5 (.slice (some ⟨x0, 0, none⟩) s0.length s0.length) s0.length (s0.flatMap shC)), (w3.heap.size, Kg, fun V : World => OwD V w3.heap.size (.slice vag L.length vcg) (.slice uag ES.length ucg) L ES), (Kg, Kg + 1, fun V : World => V.heap[Kg]? = some (Obj.cells #[.int .i64 C, .slice vag L.length vcg, .slice uag ES.length ucg] 31)), (w5.heap.size, w6.heap.size, fun V : World => V.ownsRow w5.heap.size 48 5 (.slice (some ⟨e0, 0, none⟩) s0.length s0.length) s0.length (s0.flatMap shC))] w7) := Z8.out.next hb
  clear Z8 hb
  go_wp2_with (fail)
  refine (markShotS_to 1 HL0.out (by omega) (by omega) (show w7.ownsRow Va.heap.size 48 5 (.slice (some ⟨x0, 0, none⟩) s0.length s0.length) s0.length (s0.flatMap shC) from Z9.out.get 2 rfl) (HX0.out)).mono ?_
  rintro e w8 ⟨rfl, hm, hc⟩
  have Z10 : Hid (LS w [(w.heap.size, w.heap.size + 1, fun V : World => V.heap[w.heap.size]? = some BX1), (w1.heap.size, Va.heap.size, fun V : World => V.heap[Ka]? = some oqa ∧ OwD V w1.heap.size (.slice vaa L.length vca) (.slice uaa ES.length uca) L ES), (Va.heap.size, w2.heap.size, fun V : World => True), (w3.heap.size, Kg, fun V : World => OwD V w3.heap.size (.slice vag L.length vcg) (.slice uag ES.length ucg) L ES), (Kg, Kg + 1, fun V : World => V.heap[Kg]? = some (Obj.cells #[.int .i64 C, .slice vag L.length vcg, .slice uag ES.length ucg] 31)), (w5.heap.size, w6.heap.size, fun V : World => V.ownsRow w5.heap.size 48 5 (.slice (some ⟨e0, 0, none⟩) s0.length s0.length) s0.length (s0.flatMap shC))] w8) := Z9.out.put 2 rfl hc ((Z9.out.own 2 rfl).true hc.size)
  clear Z9 hm hc
  obtain ⟨N0, hN⟩ : ∃ N, N = 1 + 5 * (s0.length : Int) := ⟨_, rfl⟩
  rw [← hN]
  have hN0 : 0 ≤ N0 ∧ N0 ≤ 10000000 ∧ ¬ N0 < 0 := by have := HL0.out; omega
  have hN0a := hN0.2.2
  clear hN
  have kvg := Z10.out.get 4 rfl
  have cvg_0 : w8.cell? ⟨Kg, 0, none⟩ = some (.int .i64 C) := cellOf kvg 0 rfl
  have cvg_1 : w8.cell? ⟨Kg, 1, none⟩ = some (.slice vag L.length vcg) := cellOf kvg 1 rfl
  have cvg_2 : w8.cell? ⟨Kg, 2, none⟩ = some (.slice uag ES.length ucg) := cellOf kvg 2 rfl
  have lvg : Kg < w8.heap.size := ltOf kvg
  clear kvg
  obtain ⟨cva_0, cva_1, cva_2, lva⟩ := TCa.out w8 (Z10.out.get 1 rfl).1
  go_wp2_with (fail)
  clear cvg_0 cvg_1 cvg_2 lvg cva_0 cva_1 cva_2 lva
  refine (eqDoseResult_to C HLN.out (OwD.rd (B := w3.heap.size) (show OwD w8 w3.heap.size (.slice vag L.length vcg) (.slice uag ES.length ucg) L ES from (Z10.out.get 3 rfl))) (OwD.rd (B := w1.heap.size) (show OwD w8 w1.heap.size (.slice vaa L.length vca) (.slice uaa ES.length uca) L ES from (Z10.out.get 1 rfl).2))).mono ?_
  rintro e w9 ⟨rfl, hb⟩
  have Z11 : Hid (LS w [(w.heap.size, w.heap.size + 1, fun V : World => V.heap[w.heap.size]? = some BX1), (w1.heap.size, Va.heap.size, fun V : World => V.heap[Ka]? = some oqa ∧ OwD V w1.heap.size (.slice vaa L.length vca) (.slice uaa ES.length uca) L ES), (Va.heap.size, w2.heap.size, fun V : World => True), (w3.heap.size, Kg, fun V : World => OwD V w3.heap.size (.slice vag L.length vcg) (.slice uag ES.length ucg) L ES), (Kg, Kg + 1, fun V : World => V.heap[Kg]? = some (Obj.cells #[.int .i64 C, .slice vag L.length vcg, .slice uag ES.length ucg] 31)), (w5.heap.size, w6.heap.size, fun V : World => V.ownsRow w5.heap.size 48 5 (.slice (some ⟨e0, 0, none⟩) s0.length s0.length) s0.length (s0.flatMap shC))] w9) := Z10.out.next hb
  clear Z10 hb
  have kvg := Z11.out.get 4 rfl
  have cvg_0 : w9.cell? ⟨Kg, 0, none⟩ = some (.int .i64 C) := cellOf kvg 0 rfl
  have cvg_1 : w9.cell? ⟨Kg, 1, none⟩ = some (.slice vag L.length vcg) := cellOf kvg 1 rfl
  have cvg_2 : w9.cell? ⟨Kg, 2, none⟩ = some (.slice uag ES.length ucg) := cellOf kvg 2 rfl
  have lvg : Kg < w9.heap.size := ltOf kvg
  clear kvg
  go_wp2_with (fail)
  clear cvg_0 cvg_1 cvg_2 lvg
  refine (markDoseResult_to C HLN.out (show OwD w9 w3.heap.size (.slice vag L.length vcg) (.slice uag ES.length ucg) L ES from (Z11.out.get 3 rfl)) HXg.out).mono ?_
  rintro e w10 ⟨rfl, hm, hc⟩
  have Z12 : Hid (LS w [(w.heap.size, w.heap.size + 1, fun V : World => V.heap[w.heap.size]? = some BX1), (w1.heap.size, Va.heap.size, fun V : World => V.heap[Ka]? = some oqa ∧ OwD V w1.heap.size (.slice vaa L.length vca) (.slice uaa ES.length uca) L ES), (Va.heap.size, w2.heap.size, fun V : World => True), (w3.heap.size, Kg, fun V : World => MkD2 V w3.heap.size (.slice vag L.length vcg) (.slice uag ES.length ucg) L.length ES.length), (Kg, Kg + 1, fun V : World => V.heap[Kg]? = some (Obj.cells #[.int .i64 C, .slice vag L.length vcg, .slice uag ES.length ucg] 31)), (w5.heap.size, w6.heap.size, fun V : World => V.ownsRow w5.heap.size 48 5 (.slice (some ⟨e0, 0, none⟩) s0.length s0.length) s0.length (s0.flatMap shC))] w10) := Z11.out.put 3 rfl hc (Ow.mD2 hm (Z11.out.own 3 rfl).le.1 (Nat.le_trans (Z11.out.own 3 rfl).le.2 hc.size) HXg.out)
  clear Z11 hm hc
  obtain ⟨TT, hTT⟩ : ∃ TT, TT = 1 + 5 * (L.length : Int) + (ES.length : Int) := ⟨_, rfl⟩
  have hT0 : ¬ TT < 0 := by omega
  have HTT : Hid (TT = 1 + 5 * (L.length : Int) + (ES.length : Int)) := hTT
  rw [← hTT]
  clear hTT
  have kvg := Z12.out.get 4 rfl
  have cvg_0 : w10.cell? ⟨Kg, 0, none⟩ = some (.int .i64 C) := cellOf kvg 0 rfl
  have cvg_1 : w10.cell? ⟨Kg, 1, none⟩ = some (.slice vag L.length vcg) := cellOf kvg 1 rfl
  have cvg_2 : w10.cell? ⟨Kg, 2, none⟩ = some (.slice uag ES.length ucg) := cellOf kvg 2 rfl
  have lvg : Kg < w10.heap.size := ltOf kvg
  clear kvg
  go_wp2_with (fail)
  clear cvg_0 cvg_1 cvg_2 lvg
  refine (heldDoseResult_to C HLN.out (show MkD2 w10 w3.heap.size (.slice vag L.length vcg) (.slice uag ES.length ucg) L.length ES.length from Z12.out.get 3 rfl)).mono ?_
  rintro e w11 ⟨rfl, hb⟩
  have Z13 : Hid (LS w [(w.heap.size, w.heap.size + 1, fun V : World => V.heap[w.heap.size]? = some BX1), (w1.heap.size, Va.heap.size, fun V : World => V.heap[Ka]? = some oqa ∧ OwD V w1.heap.size (.slice vaa L.length vca) (.slice uaa ES.length uca) L ES), (Va.heap.size, w2.heap.size, fun V : World => True), (w3.heap.size, Kg, fun V : World => MkD2 V w3.heap.size (.slice vag L.length vcg) (.slice uag ES.length ucg) L.length ES.length), (Kg, Kg + 1, fun V : World => V.heap[Kg]? = some (Obj.cells #[.int .i64 C, .slice vag L.length vcg, .slice uag ES.length ucg] 31)), (w5.heap.size, w6.heap.size, fun V : World => V.ownsRow w5.heap.size 48 5 (.slice (some ⟨e0, 0, none⟩) s0.length s0.length) s0.length (s0.flatMap shC))] w11) := Z12.out.next hb
  clear Z12 hb
  rw [← HTT.out]
  have kp1 := Z13.out.get 0 rfl
  rw [TB1.out] at kp1
  have cp1_0 : w11.cell? ⟨w.heap.size, 0, none⟩ = some (.int .i64 va_1) := cellOf kp1 0 rfl
  have cp1_1 : w11.cell? ⟨w.heap.size, 1, none⟩ = some (.int .i64 vb_1) := cellOf kp1 1 rfl
  have cp1_2 : w11.cell? ⟨w.heap.size, 2, none⟩ = some (.int .i64 vc_1) := cellOf kp1 2 rfl
  have cp1_3 : w11.cell? ⟨w.heap.size, 3, none⟩ = some (.int .i64 vd_1) := cellOf kp1 3 rfl
  have cp1_4 : w11.cell? ⟨w.heap.size, 4, none⟩ = some (.int .i64 vo_1) := cellOf kp1 4 rfl
  have cp1_5 : w11.cell? ⟨w.heap.size, 5, none⟩ = some (.int .i64 vs_1) := cellOf kp1 5 rfl
  have cp1_6 : w11.cell? ⟨w.heap.size, 6, none⟩ = some (.int .i64 vr_1) := cellOf kp1 6 rfl
  have lp1 : w.heap.size < w11.heap.size := ltOf kp1
  clear kp1
  go_wp2_with (fail)
  have HWB : Below w.heap.size w w11 := Z13.out.bl
  refine wp_region_float (by kernel_rfl) (fun hS => ?_)
  refine fl_take (i := 0) (d := 68) (v := .slice sa0 sn0 sc0) rfl rfl rfl (by kernel_rfl) (by kernel_rfl) (by kernel_rfl) hS ?_ ?_
  · intro w' hk; go_simp
  simp only [Act.put, List.setIfInBounds_toArray, List.set_cons_zero, List.set_cons_succ]
  refine fl_take (i := 2) (d := 70) (v := .agg #[.int .i64 va_1, .int .i64 vb_1, .int .i64 vc_1, .int .i64 vd_1, .int .i64 vo_1, .int .i64 vs_1, .int .i64 vr_1]) rfl rfl rfl (by kernel_rfl) (by kernel_rfl) (by kernel_rfl) hS ?_ ?_
  · intro w' hk; go_simp
  simp only [Act.put, List.setIfInBounds_toArray, List.set_cons_zero, List.set_cons_succ]
  refine fl_take (i := 4) (d := 72) (v := .int .i64 n2) rfl rfl rfl (by kernel_rfl) (by kernel_rfl) (by kernel_rfl) hS ?_ ?_
  · intro w' hk; go_simp
  simp only [Act.put, List.setIfInBounds_toArray, List.set_cons_zero, List.set_cons_succ]
  refine fl_take (i := 5) (d := 73) (v := .int .i64 n3) rfl rfl rfl (by kernel_rfl) (by kernel_rfl) (by kernel_rfl) hS ?_ ?_
  · intro w' hk; go_simp
  simp only [Act.put, List.setIfInBounds_toArray, List.set_cons_zero, List.set_cons_succ]
  refine float_pend (z := #[.int .i64 0, .slice none 0 0, .slice none 0 0]) (T := 31) (ja := 7) (js := 8) rfl rfl rfl rfl rfl (fun a w => by go_simp) [1, 3, 6] _ _ _ (fun _ => False) (by kernel_rfl) (by kernel_rfl) ?_ (Nat.le_refl _) (fun _ h => h.elim) hS
  intro yh0 hW0
  have hB0 : Below w11.heap.size w11 yh0 := hS.2.trans (hW0.mono hS.2.size)
  refine ⟨_, 69, _, _, rfl, rfl, by go_simp, (toShotS_any HL0.out ((HR0.out.below HWB).below hB0)).mono ?_⟩
  rintro e qh0 ⟨gh0, rfl, ho0, hb0⟩
  have hC0 : Below w11.heap.size w11 qh0 := hB0.trans (hb0.mono hB0.size)
  refine ⟨_, rfl, hb0, ?_⟩
  simp only [Act.put, List.setIfInBounds_toArray, List.set_cons_zero, List.set_cons_succ]
  intro yh1 hW1
  have hB1 : Below w11.heap.size w11 yh1 := hC0.trans (hW1.mono hC0.size)
  refine ⟨_, 71, _, _, rfl, rfl, by go_simp, (toWriter_is va_1 vb_1 vc_1 vd_1 vo_1 vs_1 vr_1 _).mono ?_⟩
  rintro e qh1 ⟨rfl, hb1⟩
  have hC1 : Below w11.heap.size w11 qh1 := hB1.trans (hb1.mono hB1.size)
  refine ⟨_, rfl, hb1, ?_⟩
  simp only [Act.put, List.setIfInBounds_toArray, List.set_cons_zero, List.set_cons_succ]
  intro yh2 hW2
  have hB2 : Below w11.heap.size w11 yh2 := hC1.trans (hW2.mono hC1.size)
  refine ⟨_, 74, _, _, rfl, rfl, by go_simp, (HIM.out yh2 gh0 (RG.below (RG.below (RG.below ((OG.rg shC_len ho0)) hW1) hb1) hW2)).mono ?_⟩
  rintro e yeh ⟨vq, vr, rfl, hrq, hbq⟩
  obtain ⟨vq1, vq2⟩ := vq
  obtain ⟨vah, vch, he1⟩ := hrq.form1
  obtain ⟨uah, uch, he2⟩ := hrq.form2
  simp only at he1 he2 hrq
  subst he1 he2
  refine ⟨_, rfl, hbq, ?_⟩
  simp only [Act.put, List.setIfInBounds_toArray, List.set_cons_zero, List.set_cons_succ]
  unfold Fl
  refine after_store ?_ _ _ _ #[.int .i64 C, .slice vah L.length vch, .slice uah ES.length uch] (by rfl) (by rfl) (fun _ => by rfl) (fun _ => by rfl) (by simp) (by kernel_rfl) (by simp [Value.oneCell']) ?_
  · exact Nat.le_refl _
  intro Kh Vh hK hk1 hk2 hF hoth hsz hcell
  simp only [Act.put, List.setIfInBounds_toArray, List.set_cons_zero, List.set_cons_succ]
  refine NoPanic.normal ?_
  obtain ⟨oqh, hoq⟩ : ∃ oq, Vh.heap[Kh]? = some oq := ⟨_, Array.getElem?_eq_getElem hk2⟩
  have TCh : Hid (∀ W : World, W.heap[Kh]? = some oqh → W.cell? ⟨Kh, 0, none⟩ = some (.int .i64 C) ∧ W.cell? ⟨Kh, 1, none⟩ = some (.slice vah L.length vch) ∧ W.cell? ⟨Kh, 2, none⟩ = some (.slice uah ES.length uch) ∧ Kh < W.heap.size) := fun W h => ⟨(cellSame hoq h 0).trans (hcell 0 _ rfl), (cellSame hoq h 1).trans (hcell 1 _ rfl), (cellSame hoq h 2).trans (hcell 2 _ rfl), ltOf h⟩
  have hRV : OwD Vh w11.heap.size (.slice vah L.length vch) (.slice uah ES.length uch) L ES := (hrq.keep (fun q hq => by have h9 := hrq.blk hq; exact hoth q (fun e => hF (by subst e; exact Or.inr ⟨h9.1, h9.2⟩)) h9.2)).low hB2.size
  have Z14 : Hid (LS w [(w.heap.size, w.heap.size + 1, fun V : World => V.heap[w.heap.size]? = some BX1), (w1.heap.size, Va.heap.size, fun V : World => V.heap[Ka]? = some oqa ∧ OwD V w1.heap.size (.slice vaa L.length vca) (.slice uaa ES.length uca) L ES), (Va.heap.size, w2.heap.size, fun V : World => True), (w3.heap.size, Kg, fun V : World => MkD2 V w3.heap.size (.slice vag L.length vcg) (.slice uag ES.length ucg) L.length ES.length), (Kg, Kg + 1, fun V : World => V.heap[Kg]? = some (Obj.cells #[.int .i64 C, .slice vag L.length vcg, .slice uag ES.length ucg] 31)), (w5.heap.size, w6.heap.size, fun V : World => V.ownsRow w5.heap.size 48 5 (.slice (some ⟨e0, 0, none⟩) s0.length s0.length) s0.length (s0.flatMap shC)), (w11.heap.size, Vh.heap.size, fun V : World => V.heap[Kh]? = some oqh ∧ OwD V w11.heap.size (.slice vah L.length vch) (.slice uah ES.length uch) L ES)] Vh) := Z13.out.push hK.2 (Ow.and (Ow.wide (Ow.block hoq) hk1 hk2 (Nat.le_refl _)) (Ow.rD2 hRV hK.2.size (Nat.le_refl _) hRV.lt)) (Nat.le_refl _)
  clear Z13 HWB hK hk1 hk2 hF hoth hsz hcell hoq hbq hS hW0 hB0 hC0 ho0 hb0 hW1 hB1 hC1 hb1 hW2 hB2 hrq hRV cp1_0 cp1_1 cp1_2 cp1_3 cp1_4 cp1_5 cp1_6 lp1
  obtain ⟨cvh_0, cvh_1, cvh_2, lvh⟩ := TCh.out Vh (Z14.out.get 6 rfl).1
  obtain ⟨cva_0, cva_1, cva_2, lva⟩ := TCa.out Vh (Z14.out.get 1 rfl).1
  go_wp2_with (fail)
  clear cvh_0 cvh_1 cvh_2 lvh cva_0 cva_1 cva_2 lva
  refine (eqDoseResult_to C HLN.out (OwD.rd (B := w11.heap.size) (show OwD Vh w11.heap.size (.slice vah L.length vch) (.slice uah ES.length uch) L ES from (Z14.out.get 6 rfl).2)) (OwD.rd (B := w1.heap.size) (show OwD Vh w1.heap.size (.slice vaa L.length vca) (.slice uaa ES.length uca) L ES from (Z14.out.get 1 rfl).2))).mono ?_
  rintro e w12 ⟨rfl, hb⟩
  have Z15 : Hid (LS w [(w.heap.size, w.heap.size + 1, fun V : World => V.heap[w.heap.size]? = some BX1), (w1.heap.size, Va.heap.size, fun V : World => V.heap[Ka]? = some oqa ∧ OwD V w1.heap.size (.slice vaa L.length vca) (.slice uaa ES.length uca) L ES), (Va.heap.size, w2.heap.size, fun V : World => True), (w3.heap.size, Kg, fun V : World => MkD2 V w3.heap.size (.slice vag L.length vcg) (.slice uag ES.length ucg) L.length ES.length), (Kg, Kg + 1, fun V : World => V.heap[Kg]? = some (Obj.cells #[.int .i64 C, .slice vag L.length vcg, .slice uag ES.length ucg] 31)), (w5.heap.size, w6.heap.size, fun V : World => V.ownsRow w5.heap.size 48 5 (.slice (some ⟨e0, 0, none⟩) s0.length s0.length) s0.length (s0.flatMap shC)), (w11.heap.size, Vh.heap.size, fun V : World => V.heap[Kh]? = some oqh ∧ OwD V w11.heap.size (.slice vah L.length vch) (.slice uah ES.length uch) L ES)] w12) := Z14.out.next hb
  clear Z14 hb
  have kvg := Z15.out.get 4 rfl
  have cvg_0 : w12.cell? ⟨Kg, 0, none⟩ = some (.int .i64 C) := cellOf kvg 0 rfl
  have cvg_1 : w12.cell? ⟨Kg, 1, none⟩ = some (.slice vag L.length vcg) := cellOf kvg 1 rfl
  have cvg_2 : w12.cell? ⟨Kg, 2, none⟩ = some (.slice uag ES.length ucg) := cellOf kvg 2 rfl
  have lvg : Kg < w12.heap.size := ltOf kvg
  clear kvg
  go_wp2_with (fail)
  clear cvg_0 cvg_1 cvg_2 lvg
  refine (heldDoseResult_to C HLN.out (show MkD2 w12 w3.heap.size (.slice vag L.length vcg) (.slice uag ES.length ucg) L.length ES.length from Z15.out.get 3 rfl)).mono ?_
  rintro e w13 ⟨rfl, hb⟩
  have Z16 : Hid (LS w [(w.heap.size, w.heap.size + 1, fun V : World => V.heap[w.heap.size]? = some BX1), (w1.heap.size, Va.heap.size, fun V : World => V.heap[Ka]? = some oqa ∧ OwD V w1.heap.size (.slice vaa L.length vca) (.slice uaa ES.length uca) L ES), (Va.heap.size, w2.heap.size, fun V : World => True), (w3.heap.size, Kg, fun V : World => MkD2 V w3.heap.size (.slice vag L.length vcg) (.slice uag ES.length ucg) L.length ES.length), (Kg, Kg + 1, fun V : World => V.heap[Kg]? = some (Obj.cells #[.int .i64 C, .slice vag L.length vcg, .slice uag ES.length ucg] 31)), (w5.heap.size, w6.heap.size, fun V : World => V.ownsRow w5.heap.size 48 5 (.slice (some ⟨e0, 0, none⟩) s0.length s0.length) s0.length (s0.flatMap shC)), (w11.heap.size, Vh.heap.size, fun V : World => V.heap[Kh]? = some oqh ∧ OwD V w11.heap.size (.slice vah L.length vch) (.slice uah ES.length uch) L ES)] w13) := Z15.out.next hb
  clear Z15 hb
  rw [← HTT.out]
  go_wp2
  go_returns
  exact ⟨rfl, Z16.out.bl⟩

set_option maxRecDepth 100000 in
theorem ev6_lifted (os : Os) (started : os.Started) (H : Type) (enc : TypeId × Value → H) :
    ReturnsInHanded {} Try.checked os 3 .any (Rows.fnExactEvenDosesSpec.pre6 enc Try.prog Try.f3 Rows.fnExactEvenDosesRow.domain false) (Rows.fnExactEvenDosesSpec.post enc Try.prog Try.f3 false true false false) := by
  refine returnsInHanded_of_change (C := Try.checked) own started (by kernel_rfl) Try.func3
    (ChangeSpec.witness6 (enc := enc) (C := Try.checked) false ⟨#[], #[.slice none 0 0, .agg #[.int .i64 0, .int .i64 0, .int .i64 0, .int .i64 0, .int .i64 0, .int .i64 0, .int .i64 0], .int .i64 0, .int .i64 0], []⟩ 8 (by kernel_rfl) (by kernel_rfl) (by kernel_rfl) (by kernel_rfl)) ?_
  intro W base args ds gs before hval0 hW hcnd _
  have hval : ∀ (j : Nat) t v, Try.f3.params[j]? = some t → args[j]? = some v → Value.okWide Try.prog W .any base t v := hval0
  have hW' := hW
  obtain ⟨p, q, hA0, hV, rfl, hfz, hnd⟩ := hW
  have hA : DataW.TrodAll enc Try.prog W 0 (fun _ => true) true Try.f3.params.toList args.toList ds p := hA0
  rw [Try.params3] at hA hval
  obtain ⟨v0, vs0, d0, ds0, p0, q0, hargs, rfl, rfl, h0, r0⟩ := trodAll_cons hA
  obtain ⟨v1, vs1, d1, ds1, p1, q1, rfl, rfl, rfl, h1, r1⟩ := trodAll_cons r0
  obtain ⟨v2, vs2, d2, ds2, p2, q2, rfl, rfl, rfl, h2, r2⟩ := trodAll_cons r1
  obtain ⟨v3, vs3, d3, ds3, p3, q3, rfl, rfl, rfl, h3, r3⟩ := trodAll_cons r2
  obtain ⟨rfl, rfl, rfl⟩ := trodAll_nil r3
  obtain rfl : args = #[v0, v1, v2, v3] := by cases args; simp_all
  obtain ⟨rfl, rfl⟩ := trodVars_none hV
  have k0 := h0
  have lt0 : ∀ x ∈ p0, x.block < W.heap.size := by obtain ⟨m, hm⟩ := k0; exact DataW.trod_lt m _ _ _ hm
  obtain ⟨sa0, sn0, sc0, s0, rfl, rb0, sl0⟩ := shots_open (hval 0 22 v0 rfl rfl) h0
  have k1 := h1
  have lt1 : ∀ x ∈ p1, x.block < W.heap.size := by obtain ⟨m, hm⟩ := k1; exact DataW.trod_lt m _ _ _ hm
  obtain ⟨x1, rfl⟩ := writer_open (hval 1 26 v1 rfl rfl) h1
  obtain ⟨n2, rfl, rfl, rfl, wn2⟩ := open_int Try.underlying2 (hval 2 2 v2 rfl rfl) h2
  obtain ⟨n3, rfl, rfl, rfl, wn3⟩ := open_int Try.underlying2 (hval 3 2 v3 rfl rfl) h3
  clear hA0 hval0
  refine (law_ev6 s0 sl0 rb0 x1.f.x0 x1.f.y0 x1.f.x1 x1.f.y1 x1.o x1.s x1.r n2 n3).mono fun e W' ⟨he, hg⟩ => ?_
  subst he
  exact ⟨_, rfl, _, _, _, [], _, [], hW', trodAll_mk1 (shut_bool Try.underlying4 _), (trodAll_cons_mk (Below.trod laidOut (by kernel_rfl) (of_decide_eq_true (by kernel_rfl)) k0 hg lt0) (trodAll_cons_mk (Below.trod laidOut (by kernel_rfl) (of_decide_eq_true (by kernel_rfl)) k1 hg lt1) (trodAll_cons_mk (shut_int Try.underlying2 wn2) (trodAll_cons_mk (shut_int Try.underlying2 wn3) trodAll_mk0)))), rfl, hg.frame _, fun h => by cases h⟩

theorem ev6_over : Rows.fnExactEvenDosesRow.holds Try.pinned (OpenSpec.ofChange Rows.fnExactEvenDosesSpec) :=
  OpenClaim.holds_of_wide 3 Try.f3 rfl rfl rfl rfl rfl rfl rfl ⟨rfl, rfl, rfl, rfl, rfl⟩ rfl rfl rfl rfl rfl (by kernel_rfl) Try.func3 (by kernel_rfl)
    (of_decide_eq_true (by kernel_rfl)) (by unfold Func.isWrapper; first | (rw [if_pos (by decide +kernel)]; kernel_rfl) | (rw [if_neg (by decide +kernel)]; exact ⟨rfl, rfl⟩))
    (fun os started H enc _ => ev6_lifted os started H enc)

theorem ev6_proved : Rows.FnExactEvenDosesSaid :=
  ev6_over
#print axioms ev6_proved

end Go.Proofs.Ytmpbcdolikafpaa
