/- Proved here: 'the program's RunMarch answers as the model's; it writes into no argument', without a condition. -/
import Derived.Test.YtbjdalcbdbphkaaRmK
import Derived.Test.YtbjdalcbdbphkaaRmR
import Derived.Test.YtbjdalcbdbphkaaRmZ
import Derived.Test.YtbjdalcbdbphkaaMeO
import Derived.Test.YtbjdalcbdbphkaaLwS
import Derived.Test.YtbjdalcbdbphkaaRows
namespace Go.Proofs.Ytbjdalcbdbphkaa
open Go.ChangeShapes Go.WideShapes Go.ChangeAt Go.RowKit Go.Joins
set_option linter.unusedVariables false
set_option linter.unusedSimpArgs false

theorem own : ownKnob Try.prog.godebug = none := by kernel_rfl
theorem laidOut : laidOutB Try.prog = true := by kernel_rfl

set_option maxRecDepth 10000 in
set_option maxHeartbeats 25600000 in
theorem law_rm23 {w : World}  {sa0 : Option Addr} {sn0 sc0 : Nat} (s0 : List Elm) (hm0 : sn0 ≤ maxLen ∧ ∀ j (h : j < s0.length), okE s0[j]) (hr0 : REl w (.slice sa0 sn0 sc0) s0) (n1 : Int) (da_2 db_2 dc_2 dd_2 : Int) :
    Calls Try.prog 3 #[.slice sa0 sn0 sc0, .int .i64 n1, .agg #[.int .i64 da_2, .int .i64 db_2, .int .i64 dc_2, .int .i64 dd_2]] w fun e w' => e = .returned (.bool true) ∧ Below w.heap.size w w' := by
  have HM0 : Hid (sn0 ≤ maxLen ∧ ∀ j (h : j < s0.length), okE s0[j]) := hm0
  have HR0 : Hid (REl w (.slice sa0 sn0 sc0) s0) := hr0
  have HE0 : Hid (sn0 = s0.length) := hr0.len
  clear hm0 hr0
  obtain ⟨BX2, hBX2⟩ : ∃ BX, BX = Obj.cells #[.int .i64 da_2, .int .i64 db_2, .int .i64 dc_2, .int .i64 dd_2] 24 := ⟨_, rfl⟩
  have Z0 : Hid (LS w [(w.heap.size, w.heap.size + 1, fun V : World => V.heap[w.heap.size]? = some BX2)] (w.alloc (Obj.cells #[.int .i64 da_2, .int .i64 db_2, .int .i64 dc_2, .int .i64 dd_2] 24))) := by
    have p0 := LS.start w
    have p1 := LS.push (V' := (w.alloc (Obj.cells #[.int .i64 da_2, .int .i64 db_2, .int .i64 dc_2, .int .i64 dd_2] 24))) p0 (by (repeat' (first | (with_reducible exact Below.refl _ _) | (with_reducible assumption) | (with_reducible refine Below.setCell ?_ ?_ _) | (with_reducible refine Below.alloc ?_ ?_ _) | (with_reducible refine below_drewN ?_ _) | (with_reducible refine Below.drew ?_) | (with_reducible exact Nat.le_refl _) | omega | (simp; done) | (simp; omega)))) (Ow.block (k := w.heap.size) (o := BX2) (by rw [hBX2]; have := heap_alloc_new w (Obj.cells #[.int .i64 da_2, .int .i64 db_2, .int .i64 dc_2, .int .i64 dd_2] 24); simpa using this)) (by simp)
    exact p1
  have TB2 : Hid (BX2 = Obj.cells #[.int .i64 da_2, .int .i64 db_2, .int .i64 dc_2, .int .i64 dd_2] 24) := hBX2
  clear hBX2
  go_enter Try.func3, Try.ntmps3
  go_wp2_with (fail)
  obtain ⟨W0, hW0⟩ : ∃ V, V = (w.alloc (Obj.cells #[.int .i64 da_2, .int .i64 db_2, .int .i64 dc_2, .int .i64 dd_2] 24)) := ⟨_, rfl⟩
  rw [← hW0] at Z0 ⊢
  clear hW0
  refine (szElementS_gen sa0 sn0 sc0 1048576 s0 _ (by omega) (by omega) HM0.out.1 (HR0.out.below Z0.out.bl) HM0.out.2).mono ?_
  rintro e w1 ⟨r0, rfl, hq0, hb⟩
  have Z1 : Hid (LS w [(w.heap.size, w.heap.size + 1, fun V : World => V.heap[w.heap.size]? = some BX2)] w1) := Z0.out.next hb
  clear Z0 hb
  rcases hq0 with hneg | ⟨u0, v0, tt0⟩
  · go_wp2
    go_returns
    exact ⟨rfl, Z1.out.bl⟩
  have hl0 : ¬ r0 < 0 := by omega
  have HL0 : Hid (s0.length ≤ 1048576 ∧ ∀ j (h : j < s0.length), smE 1048576 s0[j]) := ⟨by rw [← HE0.out]; have h9 := tt0.1; omega, tt0.2⟩
  obtain ⟨C0, hC0⟩ : ∃ X, X = rmC s0 n1 da_2 db_2 dc_2 dd_2 := ⟨_, rfl⟩
  obtain ⟨C1, hC1⟩ : ∃ X, X = mrF (rmR s0 n1 da_2 db_2 dc_2 dd_2) := ⟨_, rfl⟩
  obtain ⟨C2, hC2⟩ : ∃ X, X = mrS (rmR s0 n1 da_2 db_2 dc_2 dd_2) := ⟨_, rfl⟩
  obtain ⟨C3, hC3⟩ : ∃ X, X = mrC (rmR s0 n1 da_2 db_2 dc_2 dd_2) := ⟨_, rfl⟩
  have HSP : Hid (∀ (W : World) (g0 : Nat × List Erd), (REl W (.slice (some ⟨g0.1, 0, none⟩) s0.length s0.length) s0) → Calls Try.prog 9 #[.slice (some ⟨g0.1, 0, none⟩) s0.length s0.length, .int .i64 n1, .agg #[.int .i64 da_2, .int .i64 db_2, .int .i64 dc_2, .int .i64 dd_2]] W fun e w' => e = .returned (.agg #[.int .i64 C0, .bool C1, .int .i64 C2, .int .i64 C3]) ∧ Below W.heap.size W w') := fun W g0 h0 => by
    rw [hC3, hC2, hC1, hC0]
    exact spec_rm n1 da_2 db_2 dc_2 dd_2 HL0.out h0
  have HIM : Hid (∀ (W : World) (g0 : Nat × List Erd), (REl W (.slice (some ⟨g0.1, 0, none⟩) s0.length s0.length) s0) → Calls Try.prog 12 #[.slice (some ⟨g0.1, 0, none⟩) s0.length s0.length, .int .i64 n1, .agg #[.int .i64 da_2, .int .i64 db_2, .int .i64 dc_2, .int .i64 dd_2]] W fun e w' => e = .returned (.agg #[.int .i64 C0, .bool C1, .int .i64 C2, .int .i64 C3]) ∧ Below W.heap.size W w') := fun W g0 h0 => by
    rw [hC3, hC2, hC1, hC0]
    exact impl_rm n1 da_2 db_2 dc_2 dd_2 HL0.out h0
  clear hC0 hC1 hC2 hC3 u0 v0 tt0
  have kp2 := Z1.out.get 0 rfl
  rw [TB2.out] at kp2
  have cp2_0 : w1.cell? ⟨w.heap.size, 0, none⟩ = some (.int .i64 da_2) := cellOf kp2 0 rfl
  have cp2_1 : w1.cell? ⟨w.heap.size, 1, none⟩ = some (.int .i64 db_2) := cellOf kp2 1 rfl
  have cp2_2 : w1.cell? ⟨w.heap.size, 2, none⟩ = some (.int .i64 dc_2) := cellOf kp2 2 rfl
  have cp2_3 : w1.cell? ⟨w.heap.size, 3, none⟩ = some (.int .i64 dd_2) := cellOf kp2 3 rfl
  have lp2 : w.heap.size < w1.heap.size := ltOf kp2
  clear kp2
  go_wp2_with (fail)
  have HWB : Below w.heap.size w w1 := Z1.out.bl
  refine wp_region_float (by kernel_rfl) (fun hS => ?_)
  refine fl_take (i := 0) (d := 16) (v := .slice sa0 sn0 sc0) rfl rfl rfl (by kernel_rfl) (by kernel_rfl) (by kernel_rfl) hS ?_ ?_
  · intro w' hk; go_simp
  simp only [Act.put, List.setIfInBounds_toArray, List.set_cons_zero, List.set_cons_succ]
  refine fl_take (i := 2) (d := 18) (v := .int .i64 n1) rfl rfl rfl (by kernel_rfl) (by kernel_rfl) (by kernel_rfl) hS ?_ ?_
  · intro w' hk; go_simp
  simp only [Act.put, List.setIfInBounds_toArray, List.set_cons_zero, List.set_cons_succ]
  refine fl_take (i := 3) (d := 19) (v := .agg #[.int .i64 da_2, .int .i64 db_2, .int .i64 dc_2, .int .i64 dd_2]) rfl rfl rfl (by kernel_rfl) (by kernel_rfl) (by kernel_rfl) hS ?_ ?_
  · intro w' hk; go_simp
  simp only [Act.put, List.setIfInBounds_toArray, List.set_cons_zero, List.set_cons_succ]
  refine float_pend (z := #[.int .i64 0, .bool false, .int .i64 0, .int .i64 0]) (T := 27) (ja := 6) (js := 7) rfl rfl rfl rfl rfl (fun a w => by go_simp) [1, 4, 5] _ _ _ (fun _ => False) (by kernel_rfl) (by kernel_rfl) ?_ (Nat.le_refl _) (fun _ h => h.elim) hS
  intro ya0 hW0
  have hB0 : Below w1.heap.size w1 ya0 := hS.2.trans (hW0.mono hS.2.size)
  refine ⟨_, 17, _, _, rfl, rfl, by go_simp, (toElementS_pr HL0.out ((HR0.out.below HWB).below hB0)).mono ?_⟩
  rintro e qa0 ⟨ga0, rfl, ho0, hb0⟩
  have hC0 : Below w1.heap.size w1 qa0 := hB0.trans (hb0.mono hB0.size)
  refine ⟨_, rfl, hb0, ?_⟩
  simp only [Act.put, List.setIfInBounds_toArray, List.set_cons_zero, List.set_cons_succ]
  intro ya1 hW1
  have hB1 : Below w1.heap.size w1 ya1 := hC0.trans (hW1.mono hC0.size)
  refine ⟨_, 20, _, _, rfl, rfl, by go_simp, (toMemFault_is da_2 db_2 dc_2 dd_2 _).mono ?_⟩
  rintro e qa1 ⟨rfl, hb1⟩
  have hC1 : Below w1.heap.size w1 qa1 := hB1.trans (hb1.mono hB1.size)
  refine ⟨_, rfl, hb1, ?_⟩
  simp only [Act.put, List.setIfInBounds_toArray, List.set_cons_zero, List.set_cons_succ]
  intro ya2 hW2
  have hB2 : Below w1.heap.size w1 ya2 := hC1.trans (hW2.mono hC1.size)
  refine ⟨_, 21, _, _, rfl, rfl, by go_simp, (HSP.out ya2 ga0 (REl.below (REl.below (REl.below (ho0.rd) hW1) hb1) hW2)).mono ?_⟩
  rintro e yea ⟨rfl, hbq⟩
  refine ⟨_, rfl, hbq, ?_⟩
  simp only [Act.put, List.setIfInBounds_toArray, List.set_cons_zero, List.set_cons_succ]
  unfold Fl
  refine after_store ?_ _ _ _ #[.int .i64 C0, .bool C1, .int .i64 C2, .int .i64 C3] (by rfl) (by rfl) (fun _ => by rfl) (fun _ => by rfl) (by simp) (by kernel_rfl) (by simp [Value.oneCell']) ?_
  · exact Nat.le_refl _
  intro Ka Va hK hk1 hk2 hF hoth hsz hcell
  simp only [Act.put, List.setIfInBounds_toArray, List.set_cons_zero, List.set_cons_succ]
  refine NoPanic.normal ?_
  obtain ⟨oqa, hoq⟩ : ∃ oq, Va.heap[Ka]? = some oq := ⟨_, Array.getElem?_eq_getElem hk2⟩
  have TCa : Hid (∀ W : World, W.heap[Ka]? = some oqa → W.cell? ⟨Ka, 0, none⟩ = some (.int .i64 C0) ∧ W.cell? ⟨Ka, 1, none⟩ = some (.bool C1) ∧ W.cell? ⟨Ka, 2, none⟩ = some (.int .i64 C2) ∧ W.cell? ⟨Ka, 3, none⟩ = some (.int .i64 C3) ∧ Ka < W.heap.size) := fun W h => ⟨(cellSame hoq h 0).trans (hcell 0 _ rfl), (cellSame hoq h 1).trans (hcell 1 _ rfl), (cellSame hoq h 2).trans (hcell 2 _ rfl), (cellSame hoq h 3).trans (hcell 3 _ rfl), ltOf h⟩
  have Z2 : Hid (LS w [(w.heap.size, w.heap.size + 1, fun V : World => V.heap[w.heap.size]? = some BX2), (w1.heap.size, Va.heap.size, fun V : World => V.heap[Ka]? = some oqa)] Va) := Z1.out.push hK.2 (Ow.wide (Ow.block hoq) hk1 hk2 (Nat.le_refl _)) (Nat.le_refl _)
  clear Z1 HWB hK hk1 hk2 hF hoth hsz hcell hoq hbq hS hW0 hB0 hC0 ho0 hb0 hW1 hB1 hC1 hb1 hW2 hB2 cp2_0 cp2_1 cp2_2 cp2_3 lp2
  go_wp2_with (fail)
  refine (toElementS_pr HL0.out (HR0.out.below Z2.out.bl)).mono ?_
  rintro e w2 ⟨x0, rfl, ho, hb⟩
  have Z3 : Hid (LS w [(w.heap.size, w.heap.size + 1, fun V : World => V.heap[w.heap.size]? = some BX2), (w1.heap.size, Va.heap.size, fun V : World => V.heap[Ka]? = some oqa), (Va.heap.size, w2.heap.size, fun V : World => OElB V Va.heap.size (.slice (some ⟨x0.1, 0, none⟩) s0.length s0.length) s0 x0.2)] w2) := Z2.out.push hb (Ow.elAll ho hb) (Nat.le_refl _)
  clear Z2 hb ho
  have kp2 := Z3.out.get 0 rfl
  rw [TB2.out] at kp2
  have cp2_0 : w2.cell? ⟨w.heap.size, 0, none⟩ = some (.int .i64 da_2) := cellOf kp2 0 rfl
  have cp2_1 : w2.cell? ⟨w.heap.size, 1, none⟩ = some (.int .i64 db_2) := cellOf kp2 1 rfl
  have cp2_2 : w2.cell? ⟨w.heap.size, 2, none⟩ = some (.int .i64 dc_2) := cellOf kp2 2 rfl
  have cp2_3 : w2.cell? ⟨w.heap.size, 3, none⟩ = some (.int .i64 dd_2) := cellOf kp2 3 rfl
  have lp2 : w.heap.size < w2.heap.size := ltOf kp2
  clear kp2
  go_wp2_with (fail)
  clear cp2_0 cp2_1 cp2_2 cp2_3 lp2
  refine (toMemFault_is da_2 db_2 dc_2 dd_2 _).mono ?_
  rintro e w3 ⟨rfl, hb⟩
  have Z4 : Hid (LS w [(w.heap.size, w.heap.size + 1, fun V : World => V.heap[w.heap.size]? = some BX2), (w1.heap.size, Va.heap.size, fun V : World => V.heap[Ka]? = some oqa), (Va.heap.size, w2.heap.size, fun V : World => OElB V Va.heap.size (.slice (some ⟨x0.1, 0, none⟩) s0.length s0.length) s0 x0.2)] w3) := Z3.out.next hb
  clear Z3 hb
  go_wp2_with (fail)
  refine (HIM.out w3 x0 (OElB.rd (show OElB w3 Va.heap.size (.slice (some ⟨x0.1, 0, none⟩) s0.length s0.length) s0 x0.2 from Z4.out.get 2 rfl))).mono ?_
  rintro e w4 ⟨rfl, hb⟩
  have Z5 : Hid (LS w [(w.heap.size, w.heap.size + 1, fun V : World => V.heap[w.heap.size]? = some BX2), (w1.heap.size, Va.heap.size, fun V : World => V.heap[Ka]? = some oqa), (Va.heap.size, w2.heap.size, fun V : World => OElB V Va.heap.size (.slice (some ⟨x0.1, 0, none⟩) s0.length s0.length) s0 x0.2)] w4) := Z4.out.next hb
  clear Z4 hb
  obtain ⟨cva_0, cva_1, cva_2, cva_3, lva⟩ := TCa.out w4 (Z5.out.get 1 rfl)
  have Z6 : Hid (LS w [(w.heap.size, w.heap.size + 1, fun V : World => V.heap[w.heap.size]? = some BX2), (w1.heap.size, Va.heap.size, fun V : World => V.heap[Ka]? = some oqa), (Va.heap.size, w2.heap.size, fun V : World => OElB V Va.heap.size (.slice (some ⟨x0.1, 0, none⟩) s0.length s0.length) s0 x0.2), (w4.heap.size, w4.heap.size + 1, fun V : World => V.heap[w4.heap.size]? = some (Obj.cells #[.int .i64 C0, .bool C1, .int .i64 C2, .int .i64 C3] 27))] (w4.alloc (Obj.cells #[.int .i64 C0, .bool C1, .int .i64 C2, .int .i64 C3] 27))) := Z5.out.push (by (repeat' (first | (with_reducible exact Below.refl _ _) | (with_reducible assumption) | (with_reducible refine Below.setCell ?_ ?_ _) | (with_reducible refine Below.alloc ?_ ?_ _) | (with_reducible refine below_drewN ?_ _) | (with_reducible refine Below.drew ?_) | (with_reducible exact Nat.le_refl _) | omega | (simp; done) | (simp; omega)))) (Ow.block (heap_alloc_new _ _)) (Nat.le_refl _)
  clear Z5
  go_wp2_with (fail)
  obtain ⟨Vg, hV⟩ : ∃ V, V = w4.alloc (Obj.cells #[.int .i64 C0, .bool C1, .int .i64 C2, .int .i64 C3] 27) := ⟨_, rfl⟩
  rw [← hV] at Z6 ⊢
  obtain ⟨Kg, hK⟩ : ∃ K, K = w4.heap.size := ⟨_, rfl⟩
  rw [← hK] at Z6  ⊢
  clear hV hK
  clear cva_0 cva_1 cva_2 cva_3 lva
  refine (eqMarchResult_to C0 C1 C2 C3 _).mono ?_
  rintro e w5 ⟨rfl, hb⟩
  have Z7 : Hid (LS w [(w.heap.size, w.heap.size + 1, fun V : World => V.heap[w.heap.size]? = some BX2), (w1.heap.size, Va.heap.size, fun V : World => V.heap[Ka]? = some oqa), (Va.heap.size, w2.heap.size, fun V : World => OElB V Va.heap.size (.slice (some ⟨x0.1, 0, none⟩) s0.length s0.length) s0 x0.2), (Kg, Kg + 1, fun V : World => V.heap[Kg]? = some (Obj.cells #[.int .i64 C0, .bool C1, .int .i64 C2, .int .i64 C3] 27))] w5) := Z6.out.next hb
  clear Z6 hb
  go_wp2_with (fail)
  refine (toElementS_pr HL0.out (HR0.out.below Z7.out.bl)).mono ?_
  rintro e w6 ⟨e0, rfl, ho, hb⟩
  have Z8 : Hid (LS w [(w.heap.size, w.heap.size + 1, fun V : World => V.heap[w.heap.size]? = some BX2), (w1.heap.size, Va.heap.size, fun V : World => V.heap[Ka]? = some oqa), (Va.heap.size, w2.heap.size, fun V : World => OElB V Va.heap.size (.slice (some ⟨x0.1, 0, none⟩) s0.length s0.length) s0 x0.2), (Kg, Kg + 1, fun V : World => V.heap[Kg]? = some (Obj.cells #[.int .i64 C0, .bool C1, .int .i64 C2, .int .i64 C3] 27)), (w5.heap.size, w6.heap.size, fun V : World => OElB V w5.heap.size (.slice (some ⟨e0.1, 0, none⟩) s0.length s0.length) s0 e0.2)] w6) := Z7.out.push hb (Ow.elAll ho hb) (Nat.le_refl _)
  clear Z7 hb ho
  go_wp2_with (fail)
  refine (eqElementS_same (by have := HL0.out.1; omega) HL0.out.2 (OElB.rd (show OElB w6 Va.heap.size (.slice (some ⟨x0.1, 0, none⟩) s0.length s0.length) s0 x0.2 from Z8.out.get 2 rfl)) (OElB.rd (show OElB w6 w5.heap.size (.slice (some ⟨e0.1, 0, none⟩) s0.length s0.length) s0 e0.2 from Z8.out.get 4 rfl))).mono ?_
  rintro e w7 ⟨rfl, hb⟩
  have Z9 : Hid (LS w [(w.heap.size, w.heap.size + 1, fun V : World => V.heap[w.heap.size]? = some BX2), (w1.heap.size, Va.heap.size, fun V : World => V.heap[Ka]? = some oqa), (Va.heap.size, w2.heap.size, fun V : World => OElB V Va.heap.size (.slice (some ⟨x0.1, 0, none⟩) s0.length s0.length) s0 x0.2), (Kg, Kg + 1, fun V : World => V.heap[Kg]? = some (Obj.cells #[.int .i64 C0, .bool C1, .int .i64 C2, .int .i64 C3] 27)), (w5.heap.size, w6.heap.size, fun V : World => OElB V w5.heap.size (.slice (some ⟨e0.1, 0, none⟩) s0.length s0.length) s0 e0.2)] w7) := Z8.out.next hb
  clear Z8 hb
  go_wp2
  go_returns
  exact ⟨rfl, Z9.out.bl⟩

set_option maxRecDepth 100000 in
theorem rm23_lifted (os : Os) (started : os.Started) (H : Type) (enc : TypeId × Value → H) :
    ReturnsInHanded {} Try.checked os 3 .any (Rows.fnExactRunMarchSpec.pre6 enc Try.prog Try.f3 Rows.fnExactRunMarchRow.domain false) (Rows.fnExactRunMarchSpec.post enc Try.prog Try.f3 false true false false) := by
  refine returnsInHanded_of_change (C := Try.checked) own started (by kernel_rfl) Try.func3
    (ChangeSpec.witness6 (enc := enc) (C := Try.checked) false ⟨#[], #[.slice none 0 0, .int .i64 0, .agg #[.int .i64 0, .int .i64 0, .int .i64 0, .int .i64 0]], []⟩ 8 (by kernel_rfl) (by kernel_rfl) (by kernel_rfl) (by kernel_rfl)) ?_
  intro W base args ds gs before hval0 hW hcnd _
  have hval : ∀ (j : Nat) t v, Try.f3.params[j]? = some t → args[j]? = some v → Value.okWide Try.prog W .any base t v := hval0
  have hW' := hW
  obtain ⟨p, q, hA0, hV, rfl, hfz, hnd⟩ := hW
  have hA : DataW.TrodAll enc Try.prog W 0 (fun _ => true) true Try.f3.params.toList args.toList ds p := hA0
  rw [Try.params3] at hA hval
  obtain ⟨v0, vs0, d0, ds0, p0, q0, hargs, rfl, rfl, h0, r0⟩ := trodAll_cons hA
  obtain ⟨v1, vs1, d1, ds1, p1, q1, rfl, rfl, rfl, h1, r1⟩ := trodAll_cons r0
  obtain ⟨v2, vs2, d2, ds2, p2, q2, rfl, rfl, rfl, h2, r2⟩ := trodAll_cons r1
  obtain ⟨rfl, rfl, rfl⟩ := trodAll_nil r2
  obtain rfl : args = #[v0, v1, v2] := by cases args; simp_all
  obtain ⟨rfl, rfl⟩ := trodVars_none hV
  have k0 := h0
  have lt0 : ∀ x ∈ p0, x.block < W.heap.size := by obtain ⟨m, hm⟩ := k0; exact DataW.trod_lt m _ _ _ hm
  obtain ⟨sa0, sn0, sc0, s0, rfl, rb0, sl0⟩ := elements_open (hval 0 22 v0 rfl rfl) h0
  obtain ⟨n1, rfl, rfl, rfl, wn1⟩ := open_int Try.underlying2 (hval 1 2 v1 rfl rfl) h1
  have k2 := h2
  have lt2 : ∀ x ∈ p2, x.block < W.heap.size := by obtain ⟨m, hm⟩ := k2; exact DataW.trod_lt m _ _ _ hm
  obtain ⟨da2, db2, dc2, dd2, rfl⟩ := memfault_open (hval 2 24 v2 rfl rfl) h2
  clear hA0 hval0
  refine (law_rm23 s0 sl0 rb0 n1 da2 db2 dc2 dd2).mono fun e W' ⟨he, hg⟩ => ?_
  subst he
  exact ⟨_, rfl, _, _, _, [], _, [], hW', trodAll_mk1 (shut_bool Try.underlying4 _), (trodAll_cons_mk (Below.trod laidOut (by kernel_rfl) (of_decide_eq_true (by kernel_rfl)) k0 hg lt0) (trodAll_cons_mk (shut_int Try.underlying2 wn1) (trodAll_cons_mk (Below.trod laidOut (by kernel_rfl) (of_decide_eq_true (by kernel_rfl)) k2 hg lt2) trodAll_mk0))), rfl, hg.frame _, fun h => by cases h⟩

theorem rm23_over : Rows.fnExactRunMarchRow.holds Try.pinned (OpenSpec.ofChange Rows.fnExactRunMarchSpec) :=
  OpenClaim.holds_of_wide 3 Try.f3 rfl rfl rfl rfl rfl rfl rfl ⟨rfl, rfl, rfl, rfl, rfl⟩ rfl rfl rfl rfl rfl (by kernel_rfl) Try.func3 (by kernel_rfl)
    (of_decide_eq_true (by kernel_rfl)) (by unfold Func.isWrapper; first | (rw [if_pos (by decide +kernel)]; kernel_rfl) | (rw [if_neg (by decide +kernel)]; exact ⟨rfl, rfl⟩))
    (fun os started H enc _ => rm23_lifted os started H enc)

theorem rm23_proved : Rows.FnExactRunMarchSaid :=
  rm23_over
#print axioms rm23_proved

end Go.Proofs.Ytbjdalcbdbphkaa
