/- Proved here: 'the program's DoseError answers as the model's; it writes into no argument', without a condition. -/
import Derived.Test.YtmdijanohjkeeaaDeJ
import Derived.Test.YtmdijanohjkeeaaSeT
import Derived.Test.YtmdijanohjkeeaaShO
import Derived.Test.YtmdijanohjkeeaaIHeights
import Derived.Test.YtmdijanohjkeeaaMkSI
import Derived.Test.YtmdijanohjkeeaaBbX
import Derived.Test.YtmdijanohjkeeaaRows
namespace Go.Proofs.Ytmdijanohjkeeaa
open Go.ChangeShapes Go.WideShapes Go.ChangeAt Go.RowKit Go.Joins
set_option linter.unusedVariables false
set_option linter.unusedSimpArgs false

theorem own : ownKnob Try.prog.godebug = none := by kernel_rfl
theorem laidOut : laidOutB Try.prog = true := by kernel_rfl

set_option maxRecDepth 10000 in
set_option maxHeartbeats 25600000 in
theorem law_de6 {w : World} {sa0 : Option Addr} {sn0 sc0 : Nat} (s0 : List Sh) (hm0 : s0.length ≤ maxLen) (hr0 : RG 5 shC w (.slice sa0 sn0 sc0) s0) (va_1 vb_1 vc_1 vd_1 vo_1 vs_1 vr_1 : Int) (n2 : Int) :
    Calls Try.prog 3 #[.slice sa0 sn0 sc0, .agg #[.int .i64 va_1, .int .i64 vb_1, .int .i64 vc_1, .int .i64 vd_1, .int .i64 vo_1, .int .i64 vs_1, .int .i64 vr_1], .int .i64 n2] w fun e w' => e = .returned (.bool true) ∧ Below w.heap.size w w' := by
  have HM0 : Hid (sn0 ≤ maxLen) := by unfold Hid; rw [hr0.len]; exact hm0
  have HR0 : Hid (RG 5 shC w (.slice sa0 sn0 sc0) s0) := hr0
  have HE0 : Hid (sn0 = s0.length) := hr0.len
  clear hm0 hr0
  obtain ⟨BX1, hBX1⟩ : ∃ BX, BX = Obj.cells #[.int .i64 va_1, .int .i64 vb_1, .int .i64 vc_1, .int .i64 vd_1, .int .i64 vo_1, .int .i64 vs_1, .int .i64 vr_1] 26 := ⟨_, rfl⟩
  have Z0 : Hid (LS w [(w.heap.size, w.heap.size + 1, fun V : World => V.heap[w.heap.size]? = some BX1)] (w.alloc (Obj.cells #[.int .i64 va_1, .int .i64 vb_1, .int .i64 vc_1, .int .i64 vd_1, .int .i64 vo_1, .int .i64 vs_1, .int .i64 vr_1] 26))) := by
    have p0 := LS.start w
    have p1 := LS.push (V' := (w.alloc (Obj.cells #[.int .i64 va_1, .int .i64 vb_1, .int .i64 vc_1, .int .i64 vd_1, .int .i64 vo_1, .int .i64 vs_1, .int .i64 vr_1] 26))) p0 (by (repeat' (first | (with_reducible exact Below.refl _ _) | (with_reducible assumption) | (with_reducible refine Below.setCell ?_ ?_ _) | (with_reducible refine Below.alloc ?_ ?_ _) | (with_reducible refine below_drewN ?_ _) | (with_reducible refine Below.drew ?_) | (with_reducible exact Nat.le_refl _) | omega | (simp; done) | (simp; omega)))) (Ow.block (k := w.heap.size) (o := BX1) (by rw [hBX1]; have := heap_alloc_new w (Obj.cells #[.int .i64 va_1, .int .i64 vb_1, .int .i64 vc_1, .int .i64 vd_1, .int .i64 vo_1, .int .i64 vs_1, .int .i64 vr_1] 26); simpa using this)) (by simp)
    exact p1
  have TB1 : Hid (BX1 = Obj.cells #[.int .i64 va_1, .int .i64 vb_1, .int .i64 vc_1, .int .i64 vd_1, .int .i64 vo_1, .int .i64 vs_1, .int .i64 vr_1] 26) := hBX1
  clear hBX1
  go_enter Try.func3, Try.ntmps3
  go_wp2_with (fail)
  obtain ⟨W0, hW0⟩ : ∃ V, V = (w.alloc (Obj.cells #[.int .i64 va_1, .int .i64 vb_1, .int .i64 vc_1, .int .i64 vd_1, .int .i64 vo_1, .int .i64 vs_1, .int .i64 vr_1] 26)) := ⟨_, rfl⟩
  rw [← hW0] at Z0 ⊢
  clear hW0
  refine (szShotS_gen sa0 sn0 sc0 1048576 _ (by omega) (by omega) HM0.out).mono ?_
  rintro e w1 ⟨r0, rfl, hq0, hb⟩
  have Z1 : Hid (LS w [(w.heap.size, w.heap.size + 1, fun V : World => V.heap[w.heap.size]? = some BX1)] w1) := Z0.out.next hb
  clear Z0 hb
  rcases hq0 with hneg | ⟨u0, v0, tt0⟩
  · go_wp2
    go_returns
    exact ⟨rfl, Z1.out.bl⟩
  have hl0 : ¬ r0 < 0 := by omega
  have HL0 : Hid (s0.length ≤ 1048576) := by unfold Hid; rw [← HE0.out]; omega
  obtain ⟨C0, hC0⟩ : ∃ X, X = weF s0 ⟨⟨va_1, vb_1, vc_1, vd_1⟩, vo_1, vs_1, vr_1⟩ n2 := ⟨_, rfl⟩
  obtain ⟨C1, hC1⟩ : ∃ X, X = dsV s0 ⟨⟨va_1, vb_1, vc_1, vd_1⟩, vo_1, vs_1, vr_1⟩ n2 := ⟨_, rfl⟩
  have HSP : Hid (∀ (W : World) (g0 : Nat), (RG 5 shC W (.slice (some ⟨g0, 0, none⟩) s0.length s0.length) s0) → Calls Try.prog 6 #[.slice (some ⟨g0, 0, none⟩) s0.length s0.length, .agg #[.int .i64 va_1, .int .i64 vb_1, .int .i64 vc_1, .int .i64 vd_1, .int .i64 vo_1, .int .i64 vs_1, .int .i64 vr_1], .int .i64 n2] W fun e w' => e = .returned (.agg #[.int .i64 C0, .int .i64 C1]) ∧ Below W.heap.size W w') := fun W g0 h0 => by
    rw [hC1, hC0]
    exact spec_ds s0 ⟨⟨va_1, vb_1, vc_1, vd_1⟩, vo_1, vs_1, vr_1⟩ n2 HL0.out h0
  have HIM : Hid (∀ (W : World) (g0 : Nat), (RG 5 shC W (.slice (some ⟨g0, 0, none⟩) s0.length s0.length) s0) → Calls Try.prog 9 #[.slice (some ⟨g0, 0, none⟩) s0.length s0.length, .agg #[.int .i64 va_1, .int .i64 vb_1, .int .i64 vc_1, .int .i64 vd_1, .int .i64 vo_1, .int .i64 vs_1, .int .i64 vr_1], .int .i64 n2] W fun e w' => e = .returned (.agg #[.int .i64 C0, .int .i64 C1]) ∧ Below W.heap.size W w') := fun W g0 h0 => by
    rw [hC1, hC0]
    exact impl_de impl_heights impl_edges s0 ⟨⟨va_1, vb_1, vc_1, vd_1⟩, vo_1, vs_1, vr_1⟩ n2 HL0.out h0
  clear hC0 hC1 u0 v0 tt0
  have kp1 := Z1.out.get 0 rfl
  rw [TB1.out] at kp1
  have cp1_0 : w1.cell? ⟨w.heap.size, 0, none⟩ = some (.int .i64 va_1) := cellOf kp1 0 rfl
  have cp1_1 : w1.cell? ⟨w.heap.size, 1, none⟩ = some (.int .i64 vb_1) := cellOf kp1 1 rfl
  have cp1_2 : w1.cell? ⟨w.heap.size, 2, none⟩ = some (.int .i64 vc_1) := cellOf kp1 2 rfl
  have cp1_3 : w1.cell? ⟨w.heap.size, 3, none⟩ = some (.int .i64 vd_1) := cellOf kp1 3 rfl
  have cp1_4 : w1.cell? ⟨w.heap.size, 4, none⟩ = some (.int .i64 vo_1) := cellOf kp1 4 rfl
  have cp1_5 : w1.cell? ⟨w.heap.size, 5, none⟩ = some (.int .i64 vs_1) := cellOf kp1 5 rfl
  have cp1_6 : w1.cell? ⟨w.heap.size, 6, none⟩ = some (.int .i64 vr_1) := cellOf kp1 6 rfl
  have lp1 : w.heap.size < w1.heap.size := ltOf kp1
  clear kp1
  go_wp2_with (fail)
  have HWB : Below w.heap.size w w1 := Z1.out.bl
  refine wp_region_float (by kernel_rfl) (fun hS => ?_)
  refine fl_take (i := 0) (d := 16) (v := .slice sa0 sn0 sc0) rfl rfl rfl (by kernel_rfl) (by kernel_rfl) (by kernel_rfl) hS ?_ ?_
  · intro w' hk; go_simp
  simp only [Act.put, List.setIfInBounds_toArray, List.set_cons_zero, List.set_cons_succ]
  refine fl_take (i := 2) (d := 18) (v := .agg #[.int .i64 va_1, .int .i64 vb_1, .int .i64 vc_1, .int .i64 vd_1, .int .i64 vo_1, .int .i64 vs_1, .int .i64 vr_1]) rfl rfl rfl (by kernel_rfl) (by kernel_rfl) (by kernel_rfl) hS ?_ ?_
  · intro w' hk; go_simp
  simp only [Act.put, List.setIfInBounds_toArray, List.set_cons_zero, List.set_cons_succ]
  refine fl_take (i := 4) (d := 20) (v := .int .i64 n2) rfl rfl rfl (by kernel_rfl) (by kernel_rfl) (by kernel_rfl) hS ?_ ?_
  · intro w' hk; go_simp
  simp only [Act.put, List.setIfInBounds_toArray, List.set_cons_zero, List.set_cons_succ]
  refine float_pend (z := #[.int .i64 0, .int .i64 0]) (T := 29) (ja := 6) (js := 7) rfl rfl rfl rfl rfl (fun a w => by go_simp) [1, 3, 5] _ _ _ (fun _ => False) (by kernel_rfl) (by kernel_rfl) ?_ (Nat.le_refl _) (fun _ h => h.elim) hS
  intro ya0 hW0
  have hB0 : Below w1.heap.size w1 ya0 := hS.2.trans (hW0.mono hS.2.size)
  refine ⟨_, 17, _, _, rfl, rfl, by go_simp, (toShotS_any HL0.out ((HR0.out.below HWB).below hB0)).mono ?_⟩
  rintro e qa0 ⟨ga0, rfl, ho0, hb0⟩
  have hC0 : Below w1.heap.size w1 qa0 := hB0.trans (hb0.mono hB0.size)
  refine ⟨_, rfl, hb0, ?_⟩
  simp only [Act.put, List.setIfInBounds_toArray, List.set_cons_zero, List.set_cons_succ]
  intro ya1 hW1
  have hB1 : Below w1.heap.size w1 ya1 := hC0.trans (hW1.mono hC0.size)
  refine ⟨_, 19, _, _, rfl, rfl, by go_simp, (toWriter_is va_1 vb_1 vc_1 vd_1 vo_1 vs_1 vr_1 _).mono ?_⟩
  rintro e qa1 ⟨rfl, hb1⟩
  have hC1 : Below w1.heap.size w1 qa1 := hB1.trans (hb1.mono hB1.size)
  refine ⟨_, rfl, hb1, ?_⟩
  simp only [Act.put, List.setIfInBounds_toArray, List.set_cons_zero, List.set_cons_succ]
  intro ya2 hW2
  have hB2 : Below w1.heap.size w1 ya2 := hC1.trans (hW2.mono hC1.size)
  refine ⟨_, 21, _, _, rfl, rfl, by go_simp, (HSP.out ya2 ga0 (RG.below (RG.below (RG.below ((OG.rg shC_len ho0)) hW1) hb1) hW2)).mono ?_⟩
  rintro e yea ⟨rfl, hbq⟩
  refine ⟨_, rfl, hbq, ?_⟩
  simp only [Act.put, List.setIfInBounds_toArray, List.set_cons_zero, List.set_cons_succ]
  unfold Fl
  refine after_store ?_ _ _ _ #[.int .i64 C0, .int .i64 C1] (by rfl) (by rfl) (fun _ => by rfl) (fun _ => by rfl) (by simp) (by kernel_rfl) (by simp [Value.oneCell']) ?_
  · exact Nat.le_refl _
  intro Ka Va hK hk1 hk2 hF hoth hsz hcell
  simp only [Act.put, List.setIfInBounds_toArray, List.set_cons_zero, List.set_cons_succ]
  refine NoPanic.normal ?_
  obtain ⟨oqa, hoq⟩ : ∃ oq, Va.heap[Ka]? = some oq := ⟨_, Array.getElem?_eq_getElem hk2⟩
  have TCa : Hid (∀ W : World, W.heap[Ka]? = some oqa → W.cell? ⟨Ka, 0, none⟩ = some (.int .i64 C0) ∧ W.cell? ⟨Ka, 1, none⟩ = some (.int .i64 C1) ∧ Ka < W.heap.size) := fun W h => ⟨(cellSame hoq h 0).trans (hcell 0 _ rfl), (cellSame hoq h 1).trans (hcell 1 _ rfl), ltOf h⟩
  have Z2 : Hid (LS w [(w.heap.size, w.heap.size + 1, fun V : World => V.heap[w.heap.size]? = some BX1), (w1.heap.size, Va.heap.size, fun V : World => V.heap[Ka]? = some oqa)] Va) := Z1.out.push hK.2 (Ow.wide (Ow.block hoq) hk1 hk2 (Nat.le_refl _)) (Nat.le_refl _)
  clear Z1 HWB hK hk1 hk2 hF hoth hsz hcell hoq hbq hS hW0 hB0 hC0 ho0 hb0 hW1 hB1 hC1 hb1 hW2 hB2 cp1_0 cp1_1 cp1_2 cp1_3 cp1_4 cp1_5 cp1_6 lp1
  go_wp2_with (fail)
  refine (toShotS_any HL0.out (HR0.out.below Z2.out.bl)).mono ?_
  rintro e w2 ⟨x0, rfl, ho, hb⟩
  have Z3 : Hid (LS w [(w.heap.size, w.heap.size + 1, fun V : World => V.heap[w.heap.size]? = some BX1), (w1.heap.size, Va.heap.size, fun V : World => V.heap[Ka]? = some oqa), (Va.heap.size, w2.heap.size, fun V : World => V.ownsRow Va.heap.size 52 5 (.slice (some ⟨x0, 0, none⟩) s0.length s0.length) s0.length (s0.flatMap shC))] w2) := Z2.out.push hb (Ow.rowAll ho hb) (Nat.le_refl _)
  clear Z2 hb ho
  have kp1 := Z3.out.get 0 rfl
  rw [TB1.out] at kp1
  have cp1_0 : w2.cell? ⟨w.heap.size, 0, none⟩ = some (.int .i64 va_1) := cellOf kp1 0 rfl
  have cp1_1 : w2.cell? ⟨w.heap.size, 1, none⟩ = some (.int .i64 vb_1) := cellOf kp1 1 rfl
  have cp1_2 : w2.cell? ⟨w.heap.size, 2, none⟩ = some (.int .i64 vc_1) := cellOf kp1 2 rfl
  have cp1_3 : w2.cell? ⟨w.heap.size, 3, none⟩ = some (.int .i64 vd_1) := cellOf kp1 3 rfl
  have cp1_4 : w2.cell? ⟨w.heap.size, 4, none⟩ = some (.int .i64 vo_1) := cellOf kp1 4 rfl
  have cp1_5 : w2.cell? ⟨w.heap.size, 5, none⟩ = some (.int .i64 vs_1) := cellOf kp1 5 rfl
  have cp1_6 : w2.cell? ⟨w.heap.size, 6, none⟩ = some (.int .i64 vr_1) := cellOf kp1 6 rfl
  have lp1 : w.heap.size < w2.heap.size := ltOf kp1
  clear kp1
  go_wp2_with (fail)
  clear cp1_0 cp1_1 cp1_2 cp1_3 cp1_4 cp1_5 cp1_6 lp1
  refine (toWriter_is va_1 vb_1 vc_1 vd_1 vo_1 vs_1 vr_1 _).mono ?_
  rintro e w3 ⟨rfl, hb⟩
  have Z4 : Hid (LS w [(w.heap.size, w.heap.size + 1, fun V : World => V.heap[w.heap.size]? = some BX1), (w1.heap.size, Va.heap.size, fun V : World => V.heap[Ka]? = some oqa), (Va.heap.size, w2.heap.size, fun V : World => V.ownsRow Va.heap.size 52 5 (.slice (some ⟨x0, 0, none⟩) s0.length s0.length) s0.length (s0.flatMap shC))] w3) := Z3.out.next hb
  clear Z3 hb
  go_wp2_with (fail)
  refine (HIM.out w3 x0 (OG.rg (T := 52) (B := Va.heap.size) shC_len (show w3.ownsRow Va.heap.size 52 5 (.slice (some ⟨x0, 0, none⟩) s0.length s0.length) s0.length (s0.flatMap shC) from Z4.out.get 2 rfl))).mono ?_
  rintro e w4 ⟨rfl, hb⟩
  have Z5 : Hid (LS w [(w.heap.size, w.heap.size + 1, fun V : World => V.heap[w.heap.size]? = some BX1), (w1.heap.size, Va.heap.size, fun V : World => V.heap[Ka]? = some oqa), (Va.heap.size, w2.heap.size, fun V : World => V.ownsRow Va.heap.size 52 5 (.slice (some ⟨x0, 0, none⟩) s0.length s0.length) s0.length (s0.flatMap shC))] w4) := Z4.out.next hb
  clear Z4 hb
  obtain ⟨cva_0, cva_1, lva⟩ := TCa.out w4 (Z5.out.get 1 rfl)
  have Z6 : Hid (LS w [(w.heap.size, w.heap.size + 1, fun V : World => V.heap[w.heap.size]? = some BX1), (w1.heap.size, Va.heap.size, fun V : World => V.heap[Ka]? = some oqa), (Va.heap.size, w2.heap.size, fun V : World => V.ownsRow Va.heap.size 52 5 (.slice (some ⟨x0, 0, none⟩) s0.length s0.length) s0.length (s0.flatMap shC)), (w4.heap.size, w4.heap.size + 1, fun V : World => V.heap[w4.heap.size]? = some (Obj.cells #[.int .i64 C0, .int .i64 C1] 29))] (w4.alloc (Obj.cells #[.int .i64 C0, .int .i64 C1] 29))) := Z5.out.push (by (repeat' (first | (with_reducible exact Below.refl _ _) | (with_reducible assumption) | (with_reducible refine Below.setCell ?_ ?_ _) | (with_reducible refine Below.alloc ?_ ?_ _) | (with_reducible refine below_drewN ?_ _) | (with_reducible refine Below.drew ?_) | (with_reducible exact Nat.le_refl _) | omega | (simp; done) | (simp; omega)))) (Ow.block (heap_alloc_new _ _)) (Nat.le_refl _)
  clear Z5
  go_wp2_with (fail)
  obtain ⟨Vg, hV⟩ : ∃ V, V = w4.alloc (Obj.cells #[.int .i64 C0, .int .i64 C1] 29) := ⟨_, rfl⟩
  rw [← hV] at Z6 ⊢
  obtain ⟨Kg, hK⟩ : ∃ K, K = w4.heap.size := ⟨_, rfl⟩
  rw [← hK] at Z6  ⊢
  clear hV hK
  clear cva_0 cva_1 lva
  refine (eqShapeInt_to C0 C1 _).mono ?_
  rintro e w5 ⟨rfl, hb⟩
  have Z7 : Hid (LS w [(w.heap.size, w.heap.size + 1, fun V : World => V.heap[w.heap.size]? = some BX1), (w1.heap.size, Va.heap.size, fun V : World => V.heap[Ka]? = some oqa), (Va.heap.size, w2.heap.size, fun V : World => V.ownsRow Va.heap.size 52 5 (.slice (some ⟨x0, 0, none⟩) s0.length s0.length) s0.length (s0.flatMap shC)), (Kg, Kg + 1, fun V : World => V.heap[Kg]? = some (Obj.cells #[.int .i64 C0, .int .i64 C1] 29))] w5) := Z6.out.next hb
  clear Z6 hb
  go_wp2_with (fail)
  refine (toShotS_any HL0.out (HR0.out.below Z7.out.bl)).mono ?_
  rintro e w6 ⟨e0, rfl, ho, hb⟩
  have Z8 : Hid (LS w [(w.heap.size, w.heap.size + 1, fun V : World => V.heap[w.heap.size]? = some BX1), (w1.heap.size, Va.heap.size, fun V : World => V.heap[Ka]? = some oqa), (Va.heap.size, w2.heap.size, fun V : World => V.ownsRow Va.heap.size 52 5 (.slice (some ⟨x0, 0, none⟩) s0.length s0.length) s0.length (s0.flatMap shC)), (Kg, Kg + 1, fun V : World => V.heap[Kg]? = some (Obj.cells #[.int .i64 C0, .int .i64 C1] 29)), (w5.heap.size, w6.heap.size, fun V : World => V.ownsRow w5.heap.size 52 5 (.slice (some ⟨e0, 0, none⟩) s0.length s0.length) s0.length (s0.flatMap shC))] w6) := Z7.out.push hb (Ow.rowAll ho hb) (Nat.le_refl _)
  clear Z7 hb ho
  go_wp2_with (fail)
  refine (eqShotS_same (by have := HL0.out; omega) (OG.rg (T := 52) (B := Va.heap.size) shC_len (show w6.ownsRow Va.heap.size 52 5 (.slice (some ⟨x0, 0, none⟩) s0.length s0.length) s0.length (s0.flatMap shC) from Z8.out.get 2 rfl)) (OG.rg (T := 52) (B := w5.heap.size) shC_len (show w6.ownsRow w5.heap.size 52 5 (.slice (some ⟨e0, 0, none⟩) s0.length s0.length) s0.length (s0.flatMap shC) from Z8.out.get 4 rfl))).mono ?_
  rintro e w7 ⟨rfl, hb⟩
  have Z9 : Hid (LS w [(w.heap.size, w.heap.size + 1, fun V : World => V.heap[w.heap.size]? = some BX1), (w1.heap.size, Va.heap.size, fun V : World => V.heap[Ka]? = some oqa), (Va.heap.size, w2.heap.size, fun V : World => V.ownsRow Va.heap.size 52 5 (.slice (some ⟨x0, 0, none⟩) s0.length s0.length) s0.length (s0.flatMap shC)), (Kg, Kg + 1, fun V : World => V.heap[Kg]? = some (Obj.cells #[.int .i64 C0, .int .i64 C1] 29)), (w5.heap.size, w6.heap.size, fun V : World => V.ownsRow w5.heap.size 52 5 (.slice (some ⟨e0, 0, none⟩) s0.length s0.length) s0.length (s0.flatMap shC))] w7) := Z8.out.next hb
  clear Z8 hb
  go_wp2
  go_returns
  exact ⟨rfl, Z9.out.bl⟩

set_option maxRecDepth 100000 in
theorem de6_lifted (os : Os) (started : os.Started) (H : Type) (enc : TypeId × Value → H) :
    ReturnsInHanded {} Try.checked os 3 .any (Rows.fnExactDoseErrorSpec.pre6 enc Try.prog Try.f3 Rows.fnExactDoseErrorRow.domain false) (Rows.fnExactDoseErrorSpec.post enc Try.prog Try.f3 false true false false) := by
  refine returnsInHanded_of_change (C := Try.checked) own started (by kernel_rfl) Try.func3
    (ChangeSpec.witness6 (enc := enc) (C := Try.checked) false ⟨#[], #[.slice none 0 0, .agg #[.int .i64 0, .int .i64 0, .int .i64 0, .int .i64 0, .int .i64 0, .int .i64 0, .int .i64 0], .int .i64 0], []⟩ 8 (by kernel_rfl) (by kernel_rfl) (by kernel_rfl) (by kernel_rfl)) ?_
  intro W base args ds gs before hval0 hW hcnd _
  have hval : ∀ (j : Nat) t v, Try.f3.params[j]? = some t → args[j]? = some v → Value.okWide Try.prog W .any base t v := hval0
  have hW' := hW
  obtain ⟨p, q, hA0, hV, rfl, hfz, hnd⟩ := hW
  have hA : DataW.TrodAll enc Try.prog W 0 (fun _ => true) true Try.f3.params.toList args.toList ds p := hA0
  rw [Try.params3] at hA hval
  obtain ⟨v0, vs0, d0, ds0, p0, q0, hargs, rfl, rfl, h0, r0⟩ := trodAll_cons hA
  obtain ⟨v1, vs1, d1, ds1, p1, q1, rfl, rfl, rfl, h1, r1⟩ := trodAll_cons r0
  obtain ⟨v2, vs2, d2, ds2, p2, q2, rfl, rfl, rfl, h2, r2⟩ := trodAll_cons r1
  obtain ⟨rfl, rfl, rfl⟩ := trodAll_nil r2
  obtain rfl : args = #[v0, v1, v2] := by cases args; simp_all
  obtain ⟨rfl, rfl⟩ := trodVars_none hV
  have k0 := h0
  have lt0 : ∀ x ∈ p0, x.block < W.heap.size := by obtain ⟨m, hm⟩ := k0; exact DataW.trod_lt m _ _ _ hm
  obtain ⟨sa0, sn0, sc0, s0, rfl, rb0, sl0⟩ := shots_open (hval 0 22 v0 rfl rfl) h0
  have k1 := h1
  have lt1 : ∀ x ∈ p1, x.block < W.heap.size := by obtain ⟨m, hm⟩ := k1; exact DataW.trod_lt m _ _ _ hm
  obtain ⟨x1, rfl⟩ := writer_open (hval 1 26 v1 rfl rfl) h1
  obtain ⟨n2, rfl, rfl, rfl, wn2⟩ := open_int Try.underlying2 (hval 2 2 v2 rfl rfl) h2
  clear hA0 hval0
  refine (law_de6 s0 sl0 rb0 x1.f.x0 x1.f.y0 x1.f.x1 x1.f.y1 x1.o x1.s x1.r n2).mono fun e W' ⟨he, hg⟩ => ?_
  subst he
  exact ⟨_, rfl, _, _, _, [], _, [], hW', trodAll_mk1 (shut_bool Try.underlying4 _), (trodAll_cons_mk (Below.trod laidOut (by kernel_rfl) (of_decide_eq_true (by kernel_rfl)) k0 hg lt0) (trodAll_cons_mk (Below.trod laidOut (by kernel_rfl) (of_decide_eq_true (by kernel_rfl)) k1 hg lt1) (trodAll_cons_mk (shut_int Try.underlying2 wn2) trodAll_mk0))), rfl, hg.frame _, fun h => by cases h⟩

theorem de6_over : Rows.fnExactDoseErrorRow.holds Try.pinned (OpenSpec.ofChange Rows.fnExactDoseErrorSpec) :=
  OpenClaim.holds_of_wide 3 Try.f3 rfl rfl rfl rfl rfl rfl rfl ⟨rfl, rfl, rfl, rfl, rfl⟩ rfl rfl rfl rfl rfl (by kernel_rfl) Try.func3 (by kernel_rfl)
    (of_decide_eq_true (by kernel_rfl)) (by unfold Func.isWrapper; first | (rw [if_pos (by decide +kernel)]; kernel_rfl) | (rw [if_neg (by decide +kernel)]; exact ⟨rfl, rfl⟩))
    (fun os started H enc _ => de6_lifted os started H enc)

theorem de6_proved : Rows.FnExactDoseErrorSaid :=
  de6_over
#print axioms de6_proved

end Go.Proofs.Ytmdijanohjkeeaa
