/- Proved here: 'the program's StitchMaps answers as the model's; it writes into no argument and keeps nothing of one; its answer owns its memory, behind another call too', without a condition. -/
import Derived.Test.YtkdpifplhhcpaaaStK
import Derived.Test.YtkdpifplhhcpaaaStT
import Derived.Test.YtkdpifplhhcpaaaStR
import Derived.Test.YtkdpifplhhcpaaaLwS
import Derived.Test.YtkdpifplhhcpaaaRows
namespace Go.Proofs.Ytkdpifplhhcpaaa
open Go.ChangeShapes Go.WideShapes Go.ChangeAt Go.RowKit Go.Joins
set_option linter.unusedVariables false
set_option linter.unusedSimpArgs false

theorem own : ownKnob Try.prog.godebug = none := by kernel_rfl
theorem laidOut : laidOutB Try.prog = true := by kernel_rfl

set_option maxRecDepth 10000 in
set_option maxHeartbeats 25600000 in
theorem law_sm23 {w : World}  {sa0 : Option Addr} {sn0 sc0 : Nat} (s0 : List (List Int)) (hm0 : sn0 ≤ maxLen ∧ ∀ j, (s0.getD j []).length ≤ maxLen) (hr0 : RdR w (.slice sa0 sn0 sc0) s0) {sa1 : Option Addr} {sn1 sc1 : Nat} (s1 : List (List Int)) (hm1 : sn1 ≤ maxLen ∧ ∀ j, (s1.getD j []).length ≤ maxLen) (hr1 : RdR w (.slice sa1 sn1 sc1) s1) :
    Calls Try.prog 8 #[.slice sa0 sn0 sc0, .slice sa1 sn1 sc1] w fun e w' => e = .returned (.bool true) ∧ Below w.heap.size w w' := by
  have HM0 : Hid (sn0 ≤ maxLen ∧ ∀ j, (s0.getD j []).length ≤ maxLen) := hm0
  have HR0 : Hid (RdR w (.slice sa0 sn0 sc0) s0) := hr0
  have HE0 : Hid (sn0 = s0.length) := hr0.len
  have HM1 : Hid (sn1 ≤ maxLen ∧ ∀ j, (s1.getD j []).length ≤ maxLen) := hm1
  have HR1 : Hid (RdR w (.slice sa1 sn1 sc1) s1) := hr1
  have HE1 : Hid (sn1 = s1.length) := hr1.len
  clear hm0 hr0 hm1 hr1
  have Z0 : Hid (LS w [] w) := LS.start w
  go_enter Try.func8, Try.ntmps8
  go_wp2_with (fail)
  refine (szInt64SS_gen s0 sa0 sn0 sc0 1048576 _ (by omega) (by omega) HM0.out.1 (HR0.out.below Z0.out.bl) HM0.out.2).mono ?_
  rintro e w1 ⟨r0, rfl, hq0, hb⟩
  have Z1 : Hid (LS w [] w1) := Z0.out.next hb
  clear Z0 hb
  rcases hq0 with hneg | ⟨u0, v0, tt0⟩
  · go_wp2
    go_returns
    exact ⟨rfl, Z1.out.bl⟩
  have hl0 : ¬ r0 < 0 := by omega
  have HL0 : Hid (SmR s0) := tt0
  go_wp2_with (fail)
  refine (szInt64SS_gen s1 sa1 sn1 sc1 r0 _ (by omega) (by omega) HM1.out.1 (HR1.out.below Z1.out.bl) HM1.out.2).mono ?_
  rintro e w2 ⟨r1, rfl, hq1, hb⟩
  have Z2 : Hid (LS w [] w2) := Z1.out.next hb
  clear Z1 hb
  rcases hq1 with hneg | ⟨u1, v1, tt1⟩
  · go_wp2
    go_returns
    exact ⟨rfl, Z2.out.bl⟩
  have hl1 : ¬ r1 < 0 := by omega
  have HL1 : Hid (SmR s1) := tt1
  obtain ⟨C, hC⟩ : ∃ X, X = stC s0 s1 := ⟨_, rfl⟩
  obtain ⟨L, hL⟩ : ∃ X, X = stL s0 s1 := ⟨_, rfl⟩
  have HLN : Hid (SmR L) := by unfold Hid; rw [hL]; exact stL_sm _ _
  have HSP : Hid (∀ (W : World) (g0 : Nat × List Value) (g1 : Nat × List Value), (RdR W (.slice (some ⟨g0.1, 0, none⟩) s0.length s0.length) s0) → (RdR W (.slice (some ⟨g1.1, 0, none⟩) s1.length s1.length) s1) → Calls Try.prog 33 #[.slice (some ⟨g0.1, 0, none⟩) s0.length s0.length, .slice (some ⟨g1.1, 0, none⟩) s1.length s1.length] W fun e w' => ∃ v vs, e = .returned (.agg #[.int .i64 C, v]) ∧ RI w' W.heap.size v L vs ∧ Below W.heap.size W w') := fun W g0 g1 h0 h1 => by
    rw [hL, hC]
    exact spec_st HL0.out h0 HL1.out h1
  have HIM : Hid (∀ (W : World) (g0 : Nat × List Value) (g1 : Nat × List Value), (RdR W (.slice (some ⟨g0.1, 0, none⟩) s0.length s0.length) s0) → (RdR W (.slice (some ⟨g1.1, 0, none⟩) s1.length s1.length) s1) → Calls Try.prog 35 #[.slice (some ⟨g0.1, 0, none⟩) s0.length s0.length, .slice (some ⟨g1.1, 0, none⟩) s1.length s1.length] W fun e w' => ∃ v vs, e = .returned (.agg #[.int .i64 C, v]) ∧ RI w' W.heap.size v L vs ∧ Below W.heap.size W w') := fun W g0 g1 h0 h1 => by
    rw [hL, hC]
    exact impl_st HL0.out h0 HL1.out h1
  clear hC hL u0 v0 tt0 u1 v1 tt1
  go_wp2_with (fail)
  refine (toInt64SS_any HL0.out (HR0.out.below Z2.out.bl)).mono ?_
  rintro e w3 ⟨ga0, rfl, ho, hb⟩
  have Z3 : Hid (LS w [(w2.heap.size, w3.heap.size, fun V : World => RI V w2.heap.size (.slice (some ⟨ga0.1, 0, none⟩) s0.length s0.length) s0 ga0.2)] w3) := Z2.out.push hb (Ow.riAll ho hb) (Nat.le_refl _)
  clear Z2 hb ho
  go_wp2_with (fail)
  refine (toInt64SS_any HL1.out (HR1.out.below Z3.out.bl)).mono ?_
  rintro e w4 ⟨ga1, rfl, ho, hb⟩
  have Z4 : Hid (LS w [(w2.heap.size, w3.heap.size, fun V : World => RI V w2.heap.size (.slice (some ⟨ga0.1, 0, none⟩) s0.length s0.length) s0 ga0.2), (w3.heap.size, w4.heap.size, fun V : World => RI V w3.heap.size (.slice (some ⟨ga1.1, 0, none⟩) s1.length s1.length) s1 ga1.2)] w4) := Z3.out.push hb (Ow.riAll ho hb) (Nat.le_refl _)
  clear Z3 hb ho
  go_wp2_with (fail)
  refine (HSP.out w4 ga0 ga1 (RI.rd (show RI w4 w2.heap.size (.slice (some ⟨ga0.1, 0, none⟩) s0.length s0.length) s0 ga0.2 from Z4.out.get 0 rfl)) (RI.rd (show RI w4 w3.heap.size (.slice (some ⟨ga1.1, 0, none⟩) s1.length s1.length) s1 ga1.2 from Z4.out.get 1 rfl))).mono ?_
  rintro e w5 ⟨vq, vr, rfl, hrq, hb⟩
  obtain ⟨vaa, vca, rfl⟩ := hrq.form
  obtain ⟨vsa, rfl⟩ : ∃ x, x = vr := ⟨_, rfl⟩
  have Z5 : Hid (LS w [(w2.heap.size, w3.heap.size, fun V : World => RI V w2.heap.size (.slice (some ⟨ga0.1, 0, none⟩) s0.length s0.length) s0 ga0.2), (w3.heap.size, w4.heap.size, fun V : World => RI V w3.heap.size (.slice (some ⟨ga1.1, 0, none⟩) s1.length s1.length) s1 ga1.2), (w4.heap.size, w5.heap.size, fun V : World => RI V w4.heap.size (.slice vaa L.length vca) L vsa)] w5) := Z4.out.push hb (Ow.riAll hrq hb) (Nat.le_refl _)
  clear Z4 hb hrq
  have Z6 : Hid (LS w [(w2.heap.size, w3.heap.size, fun V : World => RI V w2.heap.size (.slice (some ⟨ga0.1, 0, none⟩) s0.length s0.length) s0 ga0.2), (w3.heap.size, w4.heap.size, fun V : World => RI V w3.heap.size (.slice (some ⟨ga1.1, 0, none⟩) s1.length s1.length) s1 ga1.2), (w4.heap.size, w5.heap.size, fun V : World => RI V w4.heap.size (.slice vaa L.length vca) L vsa), (w5.heap.size, w5.heap.size + 1, fun V : World => V.heap[w5.heap.size]? = some (Obj.cells #[.int .i64 C, .slice vaa L.length vca] 55))] (w5.alloc (Obj.cells #[.int .i64 C, .slice vaa L.length vca] 55))) := Z5.out.push (by (repeat' (first | (with_reducible exact Below.refl _ _) | (with_reducible assumption) | (with_reducible refine Below.setCell ?_ ?_ _) | (with_reducible refine Below.alloc ?_ ?_ _) | (with_reducible refine below_drewN ?_ _) | (with_reducible refine Below.drew ?_) | (with_reducible exact Nat.le_refl _) | omega | (simp; done) | (simp; omega)))) (Ow.block (heap_alloc_new _ _)) (Nat.le_refl _)
  clear Z5
  go_wp2_with (fail)
  obtain ⟨Va, hV⟩ : ∃ V, V = w5.alloc (Obj.cells #[.int .i64 C, .slice vaa L.length vca] 55) := ⟨_, rfl⟩
  rw [← hV] at Z6 ⊢
  obtain ⟨Ka, hK⟩ : ∃ K, K = w5.heap.size := ⟨_, rfl⟩
  rw [← hK] at Z6  ⊢
  clear hV hK
  refine (toInt64SS_any HL0.out (HR0.out.below Z6.out.bl)).mono ?_
  rintro e w6 ⟨x0, rfl, ho, hb⟩
  have HX0 : Hid (LtR (.slice (some ⟨x0.1, 0, none⟩) s0.length s0.length) x0.2 s0.length w6.heap.size) := ho.lt
  have Z7 : Hid (LS w [(w2.heap.size, w3.heap.size, fun V : World => RI V w2.heap.size (.slice (some ⟨ga0.1, 0, none⟩) s0.length s0.length) s0 ga0.2), (w3.heap.size, w4.heap.size, fun V : World => RI V w3.heap.size (.slice (some ⟨ga1.1, 0, none⟩) s1.length s1.length) s1 ga1.2), (w4.heap.size, Ka, fun V : World => RI V w4.heap.size (.slice vaa L.length vca) L vsa), (Ka, Ka + 1, fun V : World => V.heap[Ka]? = some (Obj.cells #[.int .i64 C, .slice vaa L.length vca] 55)), (Va.heap.size, w6.heap.size, fun V : World => RI V Va.heap.size (.slice (some ⟨x0.1, 0, none⟩) s0.length s0.length) s0 x0.2)] w6) := Z6.out.push hb (Ow.riAll ho hb) (Nat.le_refl _)
  clear Z6 hb ho
  go_wp2_with (fail)
  refine (toInt64SS_any HL1.out (HR1.out.below Z7.out.bl)).mono ?_
  rintro e w7 ⟨x1, rfl, ho, hb⟩
  have HX1 : Hid (LtR (.slice (some ⟨x1.1, 0, none⟩) s1.length s1.length) x1.2 s1.length w7.heap.size) := ho.lt
  have Z8 : Hid (LS w [(w2.heap.size, w3.heap.size, fun V : World => RI V w2.heap.size (.slice (some ⟨ga0.1, 0, none⟩) s0.length s0.length) s0 ga0.2), (w3.heap.size, w4.heap.size, fun V : World => RI V w3.heap.size (.slice (some ⟨ga1.1, 0, none⟩) s1.length s1.length) s1 ga1.2), (w4.heap.size, Ka, fun V : World => RI V w4.heap.size (.slice vaa L.length vca) L vsa), (Ka, Ka + 1, fun V : World => V.heap[Ka]? = some (Obj.cells #[.int .i64 C, .slice vaa L.length vca] 55)), (Va.heap.size, w6.heap.size, fun V : World => RI V Va.heap.size (.slice (some ⟨x0.1, 0, none⟩) s0.length s0.length) s0 x0.2), (w6.heap.size, w7.heap.size, fun V : World => RI V w6.heap.size (.slice (some ⟨x1.1, 0, none⟩) s1.length s1.length) s1 x1.2)] w7) := Z7.out.push hb (Ow.riAll ho hb) (Nat.le_refl _)
  clear Z7 hb ho
  go_wp2_with (fail)
  refine (HIM.out w7 x0 x1 (RI.rd (show RI w7 Va.heap.size (.slice (some ⟨x0.1, 0, none⟩) s0.length s0.length) s0 x0.2 from Z8.out.get 4 rfl)) (RI.rd (show RI w7 w6.heap.size (.slice (some ⟨x1.1, 0, none⟩) s1.length s1.length) s1 x1.2 from Z8.out.get 5 rfl))).mono ?_
  rintro e w8 ⟨vq, vr, rfl, hrq, hb⟩
  obtain ⟨vag, vcg, rfl⟩ := hrq.form
  obtain ⟨vsg, rfl⟩ : ∃ x, x = vr := ⟨_, rfl⟩
  have HXg : Hid (LtR (.slice vag L.length vcg) vsg L.length w8.heap.size) := hrq.lt
  have Z9 : Hid (LS w [(w2.heap.size, w3.heap.size, fun V : World => RI V w2.heap.size (.slice (some ⟨ga0.1, 0, none⟩) s0.length s0.length) s0 ga0.2), (w3.heap.size, w4.heap.size, fun V : World => RI V w3.heap.size (.slice (some ⟨ga1.1, 0, none⟩) s1.length s1.length) s1 ga1.2), (w4.heap.size, Ka, fun V : World => RI V w4.heap.size (.slice vaa L.length vca) L vsa), (Ka, Ka + 1, fun V : World => V.heap[Ka]? = some (Obj.cells #[.int .i64 C, .slice vaa L.length vca] 55)), (Va.heap.size, w6.heap.size, fun V : World => RI V Va.heap.size (.slice (some ⟨x0.1, 0, none⟩) s0.length s0.length) s0 x0.2), (w6.heap.size, w7.heap.size, fun V : World => RI V w6.heap.size (.slice (some ⟨x1.1, 0, none⟩) s1.length s1.length) s1 x1.2), (w7.heap.size, w8.heap.size, fun V : World => RI V w7.heap.size (.slice vag L.length vcg) L vsg)] w8) := Z8.out.push hb (Ow.riAll hrq hb) (Nat.le_refl _)
  clear Z8 hb hrq
  have kva := Z9.out.get 3 rfl
  have cva_0 : w8.cell? ⟨Ka, 0, none⟩ = some (.int .i64 C) := cellOf kva 0 rfl
  have cva_1 : w8.cell? ⟨Ka, 1, none⟩ = some (.slice vaa L.length vca) := cellOf kva 1 rfl
  have lva : Ka < w8.heap.size := ltOf kva
  clear kva
  have Z10 : Hid (LS w [(w2.heap.size, w3.heap.size, fun V : World => RI V w2.heap.size (.slice (some ⟨ga0.1, 0, none⟩) s0.length s0.length) s0 ga0.2), (w3.heap.size, w4.heap.size, fun V : World => RI V w3.heap.size (.slice (some ⟨ga1.1, 0, none⟩) s1.length s1.length) s1 ga1.2), (w4.heap.size, Ka, fun V : World => RI V w4.heap.size (.slice vaa L.length vca) L vsa), (Ka, Ka + 1, fun V : World => V.heap[Ka]? = some (Obj.cells #[.int .i64 C, .slice vaa L.length vca] 55)), (Va.heap.size, w6.heap.size, fun V : World => RI V Va.heap.size (.slice (some ⟨x0.1, 0, none⟩) s0.length s0.length) s0 x0.2), (w6.heap.size, w7.heap.size, fun V : World => RI V w6.heap.size (.slice (some ⟨x1.1, 0, none⟩) s1.length s1.length) s1 x1.2), (w7.heap.size, w8.heap.size, fun V : World => RI V w7.heap.size (.slice vag L.length vcg) L vsg), (w8.heap.size, w8.heap.size + 1, fun V : World => V.heap[w8.heap.size]? = some (Obj.cells #[.int .i64 C, .slice vag L.length vcg] 55))] (w8.alloc (Obj.cells #[.int .i64 C, .slice vag L.length vcg] 55))) := Z9.out.push (by (repeat' (first | (with_reducible exact Below.refl _ _) | (with_reducible assumption) | (with_reducible refine Below.setCell ?_ ?_ _) | (with_reducible refine Below.alloc ?_ ?_ _) | (with_reducible refine below_drewN ?_ _) | (with_reducible refine Below.drew ?_) | (with_reducible exact Nat.le_refl _) | omega | (simp; done) | (simp; omega)))) (Ow.block (heap_alloc_new _ _)) (Nat.le_refl _)
  clear Z9
  go_wp2_with (fail)
  obtain ⟨Vg, hV⟩ : ∃ V, V = w8.alloc (Obj.cells #[.int .i64 C, .slice vag L.length vcg] 55) := ⟨_, rfl⟩
  rw [← hV] at Z10 ⊢
  obtain ⟨Kg, hK⟩ : ∃ K, K = w8.heap.size := ⟨_, rfl⟩
  rw [← hK] at Z10 HXg ⊢
  clear hV hK
  clear cva_0 cva_1 lva
  refine (eqMapResult_to C HLN.out (RI.rd (B := w7.heap.size) (show RI Vg w7.heap.size (.slice vag L.length vcg) L vsg from (Z10.out.get 6 rfl))) (RI.rd (B := w4.heap.size) (show RI Vg w4.heap.size (.slice vaa L.length vca) L vsa from (Z10.out.get 2 rfl)))).mono ?_
  rintro e w9 ⟨rfl, hb⟩
  have Z11 : Hid (LS w [(w2.heap.size, w3.heap.size, fun V : World => RI V w2.heap.size (.slice (some ⟨ga0.1, 0, none⟩) s0.length s0.length) s0 ga0.2), (w3.heap.size, w4.heap.size, fun V : World => RI V w3.heap.size (.slice (some ⟨ga1.1, 0, none⟩) s1.length s1.length) s1 ga1.2), (w4.heap.size, Ka, fun V : World => RI V w4.heap.size (.slice vaa L.length vca) L vsa), (Ka, Ka + 1, fun V : World => V.heap[Ka]? = some (Obj.cells #[.int .i64 C, .slice vaa L.length vca] 55)), (Va.heap.size, w6.heap.size, fun V : World => RI V Va.heap.size (.slice (some ⟨x0.1, 0, none⟩) s0.length s0.length) s0 x0.2), (w6.heap.size, w7.heap.size, fun V : World => RI V w6.heap.size (.slice (some ⟨x1.1, 0, none⟩) s1.length s1.length) s1 x1.2), (w7.heap.size, Kg, fun V : World => RI V w7.heap.size (.slice vag L.length vcg) L vsg), (Kg, Kg + 1, fun V : World => V.heap[Kg]? = some (Obj.cells #[.int .i64 C, .slice vag L.length vcg] 55))] w9) := Z10.out.next hb
  clear Z10 hb
  go_wp2_with (fail)
  refine (toInt64SS_any HL0.out (HR0.out.below Z11.out.bl)).mono ?_
  rintro e w10 ⟨e0, rfl, ho, hb⟩
  have Z12 : Hid (LS w [(w2.heap.size, w3.heap.size, fun V : World => RI V w2.heap.size (.slice (some ⟨ga0.1, 0, none⟩) s0.length s0.length) s0 ga0.2), (w3.heap.size, w4.heap.size, fun V : World => RI V w3.heap.size (.slice (some ⟨ga1.1, 0, none⟩) s1.length s1.length) s1 ga1.2), (w4.heap.size, Ka, fun V : World => RI V w4.heap.size (.slice vaa L.length vca) L vsa), (Ka, Ka + 1, fun V : World => V.heap[Ka]? = some (Obj.cells #[.int .i64 C, .slice vaa L.length vca] 55)), (Va.heap.size, w6.heap.size, fun V : World => RI V Va.heap.size (.slice (some ⟨x0.1, 0, none⟩) s0.length s0.length) s0 x0.2), (w6.heap.size, w7.heap.size, fun V : World => RI V w6.heap.size (.slice (some ⟨x1.1, 0, none⟩) s1.length s1.length) s1 x1.2), (w7.heap.size, Kg, fun V : World => RI V w7.heap.size (.slice vag L.length vcg) L vsg), (Kg, Kg + 1, fun V : World => V.heap[Kg]? = some (Obj.cells #[.int .i64 C, .slice vag L.length vcg] 55)), (w9.heap.size, w10.heap.size, fun V : World => RI V w9.heap.size (.slice (some ⟨e0.1, 0, none⟩) s0.length s0.length) s0 e0.2)] w10) := Z11.out.push hb (Ow.riAll ho hb) (Nat.le_refl _)
  clear Z11 hb ho
  go_wp2_with (fail)
  refine (eqInt64SS_same HL0.out (RI.rd (show RI w10 Va.heap.size (.slice (some ⟨x0.1, 0, none⟩) s0.length s0.length) s0 x0.2 from Z12.out.get 4 rfl)) (RI.rd (show RI w10 w9.heap.size (.slice (some ⟨e0.1, 0, none⟩) s0.length s0.length) s0 e0.2 from Z12.out.get 8 rfl))).mono ?_
  rintro e w11 ⟨rfl, hb⟩
  have Z13 : Hid (LS w [(w2.heap.size, w3.heap.size, fun V : World => RI V w2.heap.size (.slice (some ⟨ga0.1, 0, none⟩) s0.length s0.length) s0 ga0.2), (w3.heap.size, w4.heap.size, fun V : World => RI V w3.heap.size (.slice (some ⟨ga1.1, 0, none⟩) s1.length s1.length) s1 ga1.2), (w4.heap.size, Ka, fun V : World => RI V w4.heap.size (.slice vaa L.length vca) L vsa), (Ka, Ka + 1, fun V : World => V.heap[Ka]? = some (Obj.cells #[.int .i64 C, .slice vaa L.length vca] 55)), (Va.heap.size, w6.heap.size, fun V : World => RI V Va.heap.size (.slice (some ⟨x0.1, 0, none⟩) s0.length s0.length) s0 x0.2), (w6.heap.size, w7.heap.size, fun V : World => RI V w6.heap.size (.slice (some ⟨x1.1, 0, none⟩) s1.length s1.length) s1 x1.2), (w7.heap.size, Kg, fun V : World => RI V w7.heap.size (.slice vag L.length vcg) L vsg), (Kg, Kg + 1, fun V : World => V.heap[Kg]? = some (Obj.cells #[.int .i64 C, .slice vag L.length vcg] 55)), (w9.heap.size, w10.heap.size, fun V : World => RI V w9.heap.size (.slice (some ⟨e0.1, 0, none⟩) s0.length s0.length) s0 e0.2)] w11) := Z12.out.next hb
  clear Z12 hb
  go_wp2_with (fail)
  refine (toInt64SS_any HL1.out (HR1.out.below Z13.out.bl)).mono ?_
  rintro e w12 ⟨e1, rfl, ho, hb⟩
  have Z14 : Hid (LS w [(w2.heap.size, w3.heap.size, fun V : World => RI V w2.heap.size (.slice (some ⟨ga0.1, 0, none⟩) s0.length s0.length) s0 ga0.2), (w3.heap.size, w4.heap.size, fun V : World => RI V w3.heap.size (.slice (some ⟨ga1.1, 0, none⟩) s1.length s1.length) s1 ga1.2), (w4.heap.size, Ka, fun V : World => RI V w4.heap.size (.slice vaa L.length vca) L vsa), (Ka, Ka + 1, fun V : World => V.heap[Ka]? = some (Obj.cells #[.int .i64 C, .slice vaa L.length vca] 55)), (Va.heap.size, w6.heap.size, fun V : World => RI V Va.heap.size (.slice (some ⟨x0.1, 0, none⟩) s0.length s0.length) s0 x0.2), (w6.heap.size, w7.heap.size, fun V : World => RI V w6.heap.size (.slice (some ⟨x1.1, 0, none⟩) s1.length s1.length) s1 x1.2), (w7.heap.size, Kg, fun V : World => RI V w7.heap.size (.slice vag L.length vcg) L vsg), (Kg, Kg + 1, fun V : World => V.heap[Kg]? = some (Obj.cells #[.int .i64 C, .slice vag L.length vcg] 55)), (w9.heap.size, w10.heap.size, fun V : World => RI V w9.heap.size (.slice (some ⟨e0.1, 0, none⟩) s0.length s0.length) s0 e0.2), (w11.heap.size, w12.heap.size, fun V : World => RI V w11.heap.size (.slice (some ⟨e1.1, 0, none⟩) s1.length s1.length) s1 e1.2)] w12) := Z13.out.push hb (Ow.riAll ho hb) (Nat.le_refl _)
  clear Z13 hb ho
  go_wp2_with (fail)
  refine (eqInt64SS_same HL1.out (RI.rd (show RI w12 w6.heap.size (.slice (some ⟨x1.1, 0, none⟩) s1.length s1.length) s1 x1.2 from Z14.out.get 5 rfl)) (RI.rd (show RI w12 w11.heap.size (.slice (some ⟨e1.1, 0, none⟩) s1.length s1.length) s1 e1.2 from Z14.out.get 9 rfl))).mono ?_
  rintro e w13 ⟨rfl, hb⟩
  have Z15 : Hid (LS w [(w2.heap.size, w3.heap.size, fun V : World => RI V w2.heap.size (.slice (some ⟨ga0.1, 0, none⟩) s0.length s0.length) s0 ga0.2), (w3.heap.size, w4.heap.size, fun V : World => RI V w3.heap.size (.slice (some ⟨ga1.1, 0, none⟩) s1.length s1.length) s1 ga1.2), (w4.heap.size, Ka, fun V : World => RI V w4.heap.size (.slice vaa L.length vca) L vsa), (Ka, Ka + 1, fun V : World => V.heap[Ka]? = some (Obj.cells #[.int .i64 C, .slice vaa L.length vca] 55)), (Va.heap.size, w6.heap.size, fun V : World => RI V Va.heap.size (.slice (some ⟨x0.1, 0, none⟩) s0.length s0.length) s0 x0.2), (w6.heap.size, w7.heap.size, fun V : World => RI V w6.heap.size (.slice (some ⟨x1.1, 0, none⟩) s1.length s1.length) s1 x1.2), (w7.heap.size, Kg, fun V : World => RI V w7.heap.size (.slice vag L.length vcg) L vsg), (Kg, Kg + 1, fun V : World => V.heap[Kg]? = some (Obj.cells #[.int .i64 C, .slice vag L.length vcg] 55)), (w9.heap.size, w10.heap.size, fun V : World => RI V w9.heap.size (.slice (some ⟨e0.1, 0, none⟩) s0.length s0.length) s0 e0.2), (w11.heap.size, w12.heap.size, fun V : World => RI V w11.heap.size (.slice (some ⟨e1.1, 0, none⟩) s1.length s1.length) s1 e1.2)] w13) := Z14.out.next hb
  clear Z14 hb
  go_wp2_with (fail)
  refine (markInt64SS_to 1 HL0.out (by omega) (by omega) (show RI w13 Va.heap.size (.slice (some ⟨x0.1, 0, none⟩) s0.length s0.length) s0 x0.2 from Z15.out.get 4 rfl) (HX0.out)).mono ?_
  rintro e w14 ⟨rfl, hm, hc⟩
  have Z16 : Hid (LS w [(w2.heap.size, w3.heap.size, fun V : World => RI V w2.heap.size (.slice (some ⟨ga0.1, 0, none⟩) s0.length s0.length) s0 ga0.2), (w3.heap.size, w4.heap.size, fun V : World => RI V w3.heap.size (.slice (some ⟨ga1.1, 0, none⟩) s1.length s1.length) s1 ga1.2), (w4.heap.size, Ka, fun V : World => RI V w4.heap.size (.slice vaa L.length vca) L vsa), (Ka, Ka + 1, fun V : World => V.heap[Ka]? = some (Obj.cells #[.int .i64 C, .slice vaa L.length vca] 55)), (Va.heap.size, w6.heap.size, fun V : World => True), (w6.heap.size, w7.heap.size, fun V : World => RI V w6.heap.size (.slice (some ⟨x1.1, 0, none⟩) s1.length s1.length) s1 x1.2), (w7.heap.size, Kg, fun V : World => RI V w7.heap.size (.slice vag L.length vcg) L vsg), (Kg, Kg + 1, fun V : World => V.heap[Kg]? = some (Obj.cells #[.int .i64 C, .slice vag L.length vcg] 55)), (w9.heap.size, w10.heap.size, fun V : World => RI V w9.heap.size (.slice (some ⟨e0.1, 0, none⟩) s0.length s0.length) s0 e0.2), (w11.heap.size, w12.heap.size, fun V : World => RI V w11.heap.size (.slice (some ⟨e1.1, 0, none⟩) s1.length s1.length) s1 e1.2)] w14) := Z15.out.put 4 rfl hc ((Z15.out.own 4 rfl).true hc.size)
  clear Z15 hm hc
  obtain ⟨N0, hN⟩ : ∃ N, N = 1 + (totR s0 s0.length : Int) := ⟨_, rfl⟩
  rw [← hN]
  have hN0 : 0 ≤ N0 ∧ N0 ≤ 10000000 ∧ ¬ N0 < 0 := by have := HL0.out.tot; omega
  have hN0a := hN0.2.2
  clear hN
  go_wp2_with (fail)
  refine (markInt64SS_to N0 HL1.out hN0.1 (by omega) (show RI w14 w6.heap.size (.slice (some ⟨x1.1, 0, none⟩) s1.length s1.length) s1 x1.2 from Z16.out.get 5 rfl) (HX1.out)).mono ?_
  rintro e w15 ⟨rfl, hm, hc⟩
  have Z17 : Hid (LS w [(w2.heap.size, w3.heap.size, fun V : World => RI V w2.heap.size (.slice (some ⟨ga0.1, 0, none⟩) s0.length s0.length) s0 ga0.2), (w3.heap.size, w4.heap.size, fun V : World => RI V w3.heap.size (.slice (some ⟨ga1.1, 0, none⟩) s1.length s1.length) s1 ga1.2), (w4.heap.size, Ka, fun V : World => RI V w4.heap.size (.slice vaa L.length vca) L vsa), (Ka, Ka + 1, fun V : World => V.heap[Ka]? = some (Obj.cells #[.int .i64 C, .slice vaa L.length vca] 55)), (Va.heap.size, w6.heap.size, fun V : World => True), (w6.heap.size, w7.heap.size, fun V : World => True), (w7.heap.size, Kg, fun V : World => RI V w7.heap.size (.slice vag L.length vcg) L vsg), (Kg, Kg + 1, fun V : World => V.heap[Kg]? = some (Obj.cells #[.int .i64 C, .slice vag L.length vcg] 55)), (w9.heap.size, w10.heap.size, fun V : World => RI V w9.heap.size (.slice (some ⟨e0.1, 0, none⟩) s0.length s0.length) s0 e0.2), (w11.heap.size, w12.heap.size, fun V : World => RI V w11.heap.size (.slice (some ⟨e1.1, 0, none⟩) s1.length s1.length) s1 e1.2)] w15) := Z16.out.put 5 rfl hc ((Z16.out.own 5 rfl).true hc.size)
  clear Z16 hm hc
  obtain ⟨N1, hN⟩ : ∃ N, N = N0 + (totR s1 s1.length : Int) := ⟨_, rfl⟩
  rw [← hN]
  have hN1 : 0 ≤ N1 ∧ N1 ≤ 20000000 ∧ ¬ N1 < 0 := by have := HL1.out.tot; omega
  have hN1a := hN1.2.2
  clear hN
  have kvg := Z17.out.get 7 rfl
  have cvg_0 : w15.cell? ⟨Kg, 0, none⟩ = some (.int .i64 C) := cellOf kvg 0 rfl
  have cvg_1 : w15.cell? ⟨Kg, 1, none⟩ = some (.slice vag L.length vcg) := cellOf kvg 1 rfl
  have lvg : Kg < w15.heap.size := ltOf kvg
  clear kvg
  have kva := Z17.out.get 3 rfl
  have cva_0 : w15.cell? ⟨Ka, 0, none⟩ = some (.int .i64 C) := cellOf kva 0 rfl
  have cva_1 : w15.cell? ⟨Ka, 1, none⟩ = some (.slice vaa L.length vca) := cellOf kva 1 rfl
  have lva : Ka < w15.heap.size := ltOf kva
  clear kva
  go_wp2_with (fail)
  clear cvg_0 cvg_1 lvg cva_0 cva_1 lva
  refine (eqMapResult_to C HLN.out (RI.rd (B := w7.heap.size) (show RI w15 w7.heap.size (.slice vag L.length vcg) L vsg from (Z17.out.get 6 rfl))) (RI.rd (B := w4.heap.size) (show RI w15 w4.heap.size (.slice vaa L.length vca) L vsa from (Z17.out.get 2 rfl)))).mono ?_
  rintro e w16 ⟨rfl, hb⟩
  have Z18 : Hid (LS w [(w2.heap.size, w3.heap.size, fun V : World => RI V w2.heap.size (.slice (some ⟨ga0.1, 0, none⟩) s0.length s0.length) s0 ga0.2), (w3.heap.size, w4.heap.size, fun V : World => RI V w3.heap.size (.slice (some ⟨ga1.1, 0, none⟩) s1.length s1.length) s1 ga1.2), (w4.heap.size, Ka, fun V : World => RI V w4.heap.size (.slice vaa L.length vca) L vsa), (Ka, Ka + 1, fun V : World => V.heap[Ka]? = some (Obj.cells #[.int .i64 C, .slice vaa L.length vca] 55)), (Va.heap.size, w6.heap.size, fun V : World => True), (w6.heap.size, w7.heap.size, fun V : World => True), (w7.heap.size, Kg, fun V : World => RI V w7.heap.size (.slice vag L.length vcg) L vsg), (Kg, Kg + 1, fun V : World => V.heap[Kg]? = some (Obj.cells #[.int .i64 C, .slice vag L.length vcg] 55)), (w9.heap.size, w10.heap.size, fun V : World => RI V w9.heap.size (.slice (some ⟨e0.1, 0, none⟩) s0.length s0.length) s0 e0.2), (w11.heap.size, w12.heap.size, fun V : World => RI V w11.heap.size (.slice (some ⟨e1.1, 0, none⟩) s1.length s1.length) s1 e1.2)] w16) := Z17.out.next hb
  clear Z17 hb
  have kvg := Z18.out.get 7 rfl
  have cvg_0 : w16.cell? ⟨Kg, 0, none⟩ = some (.int .i64 C) := cellOf kvg 0 rfl
  have cvg_1 : w16.cell? ⟨Kg, 1, none⟩ = some (.slice vag L.length vcg) := cellOf kvg 1 rfl
  have lvg : Kg < w16.heap.size := ltOf kvg
  clear kvg
  go_wp2_with (fail)
  clear cvg_0 cvg_1 lvg
  refine (markMapResult_to C 1 HLN.out (by omega) (by omega) (show RI w16 w7.heap.size (.slice vag L.length vcg) L vsg from (Z18.out.get 6 rfl)) HXg.out).mono ?_
  rintro e w17 ⟨rfl, hm, hc⟩
  have Z19 : Hid (LS w [(w2.heap.size, w3.heap.size, fun V : World => RI V w2.heap.size (.slice (some ⟨ga0.1, 0, none⟩) s0.length s0.length) s0 ga0.2), (w3.heap.size, w4.heap.size, fun V : World => RI V w3.heap.size (.slice (some ⟨ga1.1, 0, none⟩) s1.length s1.length) s1 ga1.2), (w4.heap.size, Ka, fun V : World => RI V w4.heap.size (.slice vaa L.length vca) L vsa), (Ka, Ka + 1, fun V : World => V.heap[Ka]? = some (Obj.cells #[.int .i64 C, .slice vaa L.length vca] 55)), (Va.heap.size, w6.heap.size, fun V : World => True), (w6.heap.size, w7.heap.size, fun V : World => True), (w7.heap.size, Kg, fun V : World => RI V w7.heap.size (.slice vag L.length vcg) (mkG 1 L L.length) vsg), (Kg, Kg + 1, fun V : World => V.heap[Kg]? = some (Obj.cells #[.int .i64 C, .slice vag L.length vcg] 55)), (w9.heap.size, w10.heap.size, fun V : World => RI V w9.heap.size (.slice (some ⟨e0.1, 0, none⟩) s0.length s0.length) s0 e0.2), (w11.heap.size, w12.heap.size, fun V : World => RI V w11.heap.size (.slice (some ⟨e1.1, 0, none⟩) s1.length s1.length) s1 e1.2)] w17) := Z18.out.put 6 rfl hc (Ow.ri hm (Z18.out.own 6 rfl).le.1 (Nat.le_trans (Z18.out.own 6 rfl).le.2 hc.size) (by rw [mkG_len]; exact HXg.out))
  clear Z18 hm hc
  obtain ⟨TT, hTT⟩ : ∃ TT, TT = 1 + (totR L L.length : Int) := ⟨_, rfl⟩
  have hT0 : ¬ TT < 0 := by omega
  have HTT : Hid (TT = 1 + (totR L L.length : Int)) := hTT
  rw [← hTT]
  clear hTT
  have kvg := Z19.out.get 7 rfl
  have cvg_0 : w17.cell? ⟨Kg, 0, none⟩ = some (.int .i64 C) := cellOf kvg 0 rfl
  have cvg_1 : w17.cell? ⟨Kg, 1, none⟩ = some (.slice vag L.length vcg) := cellOf kvg 1 rfl
  have lvg : Kg < w17.heap.size := ltOf kvg
  clear kvg
  go_wp2_with (fail)
  clear cvg_0 cvg_1 lvg
  refine (heldMapResult_to C 1 HLN.out (by omega) (by omega) (show RI w17 w7.heap.size (.slice vag L.length vcg) (mkG 1 L L.length) vsg from Z19.out.get 6 rfl)).mono ?_
  rintro e w18 ⟨rfl, hb⟩
  have Z20 : Hid (LS w [(w2.heap.size, w3.heap.size, fun V : World => RI V w2.heap.size (.slice (some ⟨ga0.1, 0, none⟩) s0.length s0.length) s0 ga0.2), (w3.heap.size, w4.heap.size, fun V : World => RI V w3.heap.size (.slice (some ⟨ga1.1, 0, none⟩) s1.length s1.length) s1 ga1.2), (w4.heap.size, Ka, fun V : World => RI V w4.heap.size (.slice vaa L.length vca) L vsa), (Ka, Ka + 1, fun V : World => V.heap[Ka]? = some (Obj.cells #[.int .i64 C, .slice vaa L.length vca] 55)), (Va.heap.size, w6.heap.size, fun V : World => True), (w6.heap.size, w7.heap.size, fun V : World => True), (w7.heap.size, Kg, fun V : World => RI V w7.heap.size (.slice vag L.length vcg) (mkG 1 L L.length) vsg), (Kg, Kg + 1, fun V : World => V.heap[Kg]? = some (Obj.cells #[.int .i64 C, .slice vag L.length vcg] 55)), (w9.heap.size, w10.heap.size, fun V : World => RI V w9.heap.size (.slice (some ⟨e0.1, 0, none⟩) s0.length s0.length) s0 e0.2), (w11.heap.size, w12.heap.size, fun V : World => RI V w11.heap.size (.slice (some ⟨e1.1, 0, none⟩) s1.length s1.length) s1 e1.2)] w18) := Z19.out.next hb
  clear Z19 hb
  rw [← HTT.out]
  go_wp2_with (fail)
  refine (toInt64SS_any HL0.out (HR0.out.below Z20.out.bl)).mono ?_
  rintro e w19 ⟨gh0, rfl, ho, hb⟩
  have Z21 : Hid (LS w [(w2.heap.size, w3.heap.size, fun V : World => RI V w2.heap.size (.slice (some ⟨ga0.1, 0, none⟩) s0.length s0.length) s0 ga0.2), (w3.heap.size, w4.heap.size, fun V : World => RI V w3.heap.size (.slice (some ⟨ga1.1, 0, none⟩) s1.length s1.length) s1 ga1.2), (w4.heap.size, Ka, fun V : World => RI V w4.heap.size (.slice vaa L.length vca) L vsa), (Ka, Ka + 1, fun V : World => V.heap[Ka]? = some (Obj.cells #[.int .i64 C, .slice vaa L.length vca] 55)), (Va.heap.size, w6.heap.size, fun V : World => True), (w6.heap.size, w7.heap.size, fun V : World => True), (w7.heap.size, Kg, fun V : World => RI V w7.heap.size (.slice vag L.length vcg) (mkG 1 L L.length) vsg), (Kg, Kg + 1, fun V : World => V.heap[Kg]? = some (Obj.cells #[.int .i64 C, .slice vag L.length vcg] 55)), (w9.heap.size, w10.heap.size, fun V : World => RI V w9.heap.size (.slice (some ⟨e0.1, 0, none⟩) s0.length s0.length) s0 e0.2), (w11.heap.size, w12.heap.size, fun V : World => RI V w11.heap.size (.slice (some ⟨e1.1, 0, none⟩) s1.length s1.length) s1 e1.2), (w18.heap.size, w19.heap.size, fun V : World => RI V w18.heap.size (.slice (some ⟨gh0.1, 0, none⟩) s0.length s0.length) s0 gh0.2)] w19) := Z20.out.push hb (Ow.riAll ho hb) (Nat.le_refl _)
  clear Z20 hb ho
  go_wp2_with (fail)
  refine (toInt64SS_any HL1.out (HR1.out.below Z21.out.bl)).mono ?_
  rintro e w20 ⟨gh1, rfl, ho, hb⟩
  have Z22 : Hid (LS w [(w2.heap.size, w3.heap.size, fun V : World => RI V w2.heap.size (.slice (some ⟨ga0.1, 0, none⟩) s0.length s0.length) s0 ga0.2), (w3.heap.size, w4.heap.size, fun V : World => RI V w3.heap.size (.slice (some ⟨ga1.1, 0, none⟩) s1.length s1.length) s1 ga1.2), (w4.heap.size, Ka, fun V : World => RI V w4.heap.size (.slice vaa L.length vca) L vsa), (Ka, Ka + 1, fun V : World => V.heap[Ka]? = some (Obj.cells #[.int .i64 C, .slice vaa L.length vca] 55)), (Va.heap.size, w6.heap.size, fun V : World => True), (w6.heap.size, w7.heap.size, fun V : World => True), (w7.heap.size, Kg, fun V : World => RI V w7.heap.size (.slice vag L.length vcg) (mkG 1 L L.length) vsg), (Kg, Kg + 1, fun V : World => V.heap[Kg]? = some (Obj.cells #[.int .i64 C, .slice vag L.length vcg] 55)), (w9.heap.size, w10.heap.size, fun V : World => RI V w9.heap.size (.slice (some ⟨e0.1, 0, none⟩) s0.length s0.length) s0 e0.2), (w11.heap.size, w12.heap.size, fun V : World => RI V w11.heap.size (.slice (some ⟨e1.1, 0, none⟩) s1.length s1.length) s1 e1.2), (w18.heap.size, w19.heap.size, fun V : World => RI V w18.heap.size (.slice (some ⟨gh0.1, 0, none⟩) s0.length s0.length) s0 gh0.2), (w19.heap.size, w20.heap.size, fun V : World => RI V w19.heap.size (.slice (some ⟨gh1.1, 0, none⟩) s1.length s1.length) s1 gh1.2)] w20) := Z21.out.push hb (Ow.riAll ho hb) (Nat.le_refl _)
  clear Z21 hb ho
  go_wp2_with (fail)
  refine (HIM.out w20 gh0 gh1 (RI.rd (show RI w20 w18.heap.size (.slice (some ⟨gh0.1, 0, none⟩) s0.length s0.length) s0 gh0.2 from Z22.out.get 10 rfl)) (RI.rd (show RI w20 w19.heap.size (.slice (some ⟨gh1.1, 0, none⟩) s1.length s1.length) s1 gh1.2 from Z22.out.get 11 rfl))).mono ?_
  rintro e w21 ⟨vq, vr, rfl, hrq, hb⟩
  obtain ⟨vah, vch, rfl⟩ := hrq.form
  obtain ⟨vsh, rfl⟩ : ∃ x, x = vr := ⟨_, rfl⟩
  have Z23 : Hid (LS w [(w2.heap.size, w3.heap.size, fun V : World => RI V w2.heap.size (.slice (some ⟨ga0.1, 0, none⟩) s0.length s0.length) s0 ga0.2), (w3.heap.size, w4.heap.size, fun V : World => RI V w3.heap.size (.slice (some ⟨ga1.1, 0, none⟩) s1.length s1.length) s1 ga1.2), (w4.heap.size, Ka, fun V : World => RI V w4.heap.size (.slice vaa L.length vca) L vsa), (Ka, Ka + 1, fun V : World => V.heap[Ka]? = some (Obj.cells #[.int .i64 C, .slice vaa L.length vca] 55)), (Va.heap.size, w6.heap.size, fun V : World => True), (w6.heap.size, w7.heap.size, fun V : World => True), (w7.heap.size, Kg, fun V : World => RI V w7.heap.size (.slice vag L.length vcg) (mkG 1 L L.length) vsg), (Kg, Kg + 1, fun V : World => V.heap[Kg]? = some (Obj.cells #[.int .i64 C, .slice vag L.length vcg] 55)), (w9.heap.size, w10.heap.size, fun V : World => RI V w9.heap.size (.slice (some ⟨e0.1, 0, none⟩) s0.length s0.length) s0 e0.2), (w11.heap.size, w12.heap.size, fun V : World => RI V w11.heap.size (.slice (some ⟨e1.1, 0, none⟩) s1.length s1.length) s1 e1.2), (w18.heap.size, w19.heap.size, fun V : World => RI V w18.heap.size (.slice (some ⟨gh0.1, 0, none⟩) s0.length s0.length) s0 gh0.2), (w19.heap.size, w20.heap.size, fun V : World => RI V w19.heap.size (.slice (some ⟨gh1.1, 0, none⟩) s1.length s1.length) s1 gh1.2), (w20.heap.size, w21.heap.size, fun V : World => RI V w20.heap.size (.slice vah L.length vch) L vsh)] w21) := Z22.out.push hb (Ow.riAll hrq hb) (Nat.le_refl _)
  clear Z22 hb hrq
  have kva := Z23.out.get 3 rfl
  have cva_0 : w21.cell? ⟨Ka, 0, none⟩ = some (.int .i64 C) := cellOf kva 0 rfl
  have cva_1 : w21.cell? ⟨Ka, 1, none⟩ = some (.slice vaa L.length vca) := cellOf kva 1 rfl
  have lva : Ka < w21.heap.size := ltOf kva
  clear kva
  have Z24 : Hid (LS w [(w2.heap.size, w3.heap.size, fun V : World => RI V w2.heap.size (.slice (some ⟨ga0.1, 0, none⟩) s0.length s0.length) s0 ga0.2), (w3.heap.size, w4.heap.size, fun V : World => RI V w3.heap.size (.slice (some ⟨ga1.1, 0, none⟩) s1.length s1.length) s1 ga1.2), (w4.heap.size, Ka, fun V : World => RI V w4.heap.size (.slice vaa L.length vca) L vsa), (Ka, Ka + 1, fun V : World => V.heap[Ka]? = some (Obj.cells #[.int .i64 C, .slice vaa L.length vca] 55)), (Va.heap.size, w6.heap.size, fun V : World => True), (w6.heap.size, w7.heap.size, fun V : World => True), (w7.heap.size, Kg, fun V : World => RI V w7.heap.size (.slice vag L.length vcg) (mkG 1 L L.length) vsg), (Kg, Kg + 1, fun V : World => V.heap[Kg]? = some (Obj.cells #[.int .i64 C, .slice vag L.length vcg] 55)), (w9.heap.size, w10.heap.size, fun V : World => RI V w9.heap.size (.slice (some ⟨e0.1, 0, none⟩) s0.length s0.length) s0 e0.2), (w11.heap.size, w12.heap.size, fun V : World => RI V w11.heap.size (.slice (some ⟨e1.1, 0, none⟩) s1.length s1.length) s1 e1.2), (w18.heap.size, w19.heap.size, fun V : World => RI V w18.heap.size (.slice (some ⟨gh0.1, 0, none⟩) s0.length s0.length) s0 gh0.2), (w19.heap.size, w20.heap.size, fun V : World => RI V w19.heap.size (.slice (some ⟨gh1.1, 0, none⟩) s1.length s1.length) s1 gh1.2), (w20.heap.size, w21.heap.size, fun V : World => RI V w20.heap.size (.slice vah L.length vch) L vsh), (w21.heap.size, w21.heap.size + 1, fun V : World => V.heap[w21.heap.size]? = some (Obj.cells #[.int .i64 C, .slice vah L.length vch] 55))] (w21.alloc (Obj.cells #[.int .i64 C, .slice vah L.length vch] 55))) := Z23.out.push (by (repeat' (first | (with_reducible exact Below.refl _ _) | (with_reducible assumption) | (with_reducible refine Below.setCell ?_ ?_ _) | (with_reducible refine Below.alloc ?_ ?_ _) | (with_reducible refine below_drewN ?_ _) | (with_reducible refine Below.drew ?_) | (with_reducible exact Nat.le_refl _) | omega | (simp; done) | (simp; omega)))) (Ow.block (heap_alloc_new _ _)) (Nat.le_refl _)
  clear Z23
  go_wp2_with (fail)
  obtain ⟨Vh, hV⟩ : ∃ V, V = w21.alloc (Obj.cells #[.int .i64 C, .slice vah L.length vch] 55) := ⟨_, rfl⟩
  rw [← hV] at Z24 ⊢
  obtain ⟨Kh, hK⟩ : ∃ K, K = w21.heap.size := ⟨_, rfl⟩
  rw [← hK] at Z24  ⊢
  clear hV hK
  clear cva_0 cva_1 lva
  refine (eqMapResult_to C HLN.out (RI.rd (B := w20.heap.size) (show RI Vh w20.heap.size (.slice vah L.length vch) L vsh from (Z24.out.get 12 rfl))) (RI.rd (B := w4.heap.size) (show RI Vh w4.heap.size (.slice vaa L.length vca) L vsa from (Z24.out.get 2 rfl)))).mono ?_
  rintro e w22 ⟨rfl, hb⟩
  have Z25 : Hid (LS w [(w2.heap.size, w3.heap.size, fun V : World => RI V w2.heap.size (.slice (some ⟨ga0.1, 0, none⟩) s0.length s0.length) s0 ga0.2), (w3.heap.size, w4.heap.size, fun V : World => RI V w3.heap.size (.slice (some ⟨ga1.1, 0, none⟩) s1.length s1.length) s1 ga1.2), (w4.heap.size, Ka, fun V : World => RI V w4.heap.size (.slice vaa L.length vca) L vsa), (Ka, Ka + 1, fun V : World => V.heap[Ka]? = some (Obj.cells #[.int .i64 C, .slice vaa L.length vca] 55)), (Va.heap.size, w6.heap.size, fun V : World => True), (w6.heap.size, w7.heap.size, fun V : World => True), (w7.heap.size, Kg, fun V : World => RI V w7.heap.size (.slice vag L.length vcg) (mkG 1 L L.length) vsg), (Kg, Kg + 1, fun V : World => V.heap[Kg]? = some (Obj.cells #[.int .i64 C, .slice vag L.length vcg] 55)), (w9.heap.size, w10.heap.size, fun V : World => RI V w9.heap.size (.slice (some ⟨e0.1, 0, none⟩) s0.length s0.length) s0 e0.2), (w11.heap.size, w12.heap.size, fun V : World => RI V w11.heap.size (.slice (some ⟨e1.1, 0, none⟩) s1.length s1.length) s1 e1.2), (w18.heap.size, w19.heap.size, fun V : World => RI V w18.heap.size (.slice (some ⟨gh0.1, 0, none⟩) s0.length s0.length) s0 gh0.2), (w19.heap.size, w20.heap.size, fun V : World => RI V w19.heap.size (.slice (some ⟨gh1.1, 0, none⟩) s1.length s1.length) s1 gh1.2), (w20.heap.size, Kh, fun V : World => RI V w20.heap.size (.slice vah L.length vch) L vsh), (Kh, Kh + 1, fun V : World => V.heap[Kh]? = some (Obj.cells #[.int .i64 C, .slice vah L.length vch] 55))] w22) := Z24.out.next hb
  clear Z24 hb
  have kvg := Z25.out.get 7 rfl
  have cvg_0 : w22.cell? ⟨Kg, 0, none⟩ = some (.int .i64 C) := cellOf kvg 0 rfl
  have cvg_1 : w22.cell? ⟨Kg, 1, none⟩ = some (.slice vag L.length vcg) := cellOf kvg 1 rfl
  have lvg : Kg < w22.heap.size := ltOf kvg
  clear kvg
  go_wp2_with (fail)
  clear cvg_0 cvg_1 lvg
  refine (heldMapResult_to C 1 HLN.out (by omega) (by omega) (show RI w22 w7.heap.size (.slice vag L.length vcg) (mkG 1 L L.length) vsg from Z25.out.get 6 rfl)).mono ?_
  rintro e w23 ⟨rfl, hb⟩
  have Z26 : Hid (LS w [(w2.heap.size, w3.heap.size, fun V : World => RI V w2.heap.size (.slice (some ⟨ga0.1, 0, none⟩) s0.length s0.length) s0 ga0.2), (w3.heap.size, w4.heap.size, fun V : World => RI V w3.heap.size (.slice (some ⟨ga1.1, 0, none⟩) s1.length s1.length) s1 ga1.2), (w4.heap.size, Ka, fun V : World => RI V w4.heap.size (.slice vaa L.length vca) L vsa), (Ka, Ka + 1, fun V : World => V.heap[Ka]? = some (Obj.cells #[.int .i64 C, .slice vaa L.length vca] 55)), (Va.heap.size, w6.heap.size, fun V : World => True), (w6.heap.size, w7.heap.size, fun V : World => True), (w7.heap.size, Kg, fun V : World => RI V w7.heap.size (.slice vag L.length vcg) (mkG 1 L L.length) vsg), (Kg, Kg + 1, fun V : World => V.heap[Kg]? = some (Obj.cells #[.int .i64 C, .slice vag L.length vcg] 55)), (w9.heap.size, w10.heap.size, fun V : World => RI V w9.heap.size (.slice (some ⟨e0.1, 0, none⟩) s0.length s0.length) s0 e0.2), (w11.heap.size, w12.heap.size, fun V : World => RI V w11.heap.size (.slice (some ⟨e1.1, 0, none⟩) s1.length s1.length) s1 e1.2), (w18.heap.size, w19.heap.size, fun V : World => RI V w18.heap.size (.slice (some ⟨gh0.1, 0, none⟩) s0.length s0.length) s0 gh0.2), (w19.heap.size, w20.heap.size, fun V : World => RI V w19.heap.size (.slice (some ⟨gh1.1, 0, none⟩) s1.length s1.length) s1 gh1.2), (w20.heap.size, Kh, fun V : World => RI V w20.heap.size (.slice vah L.length vch) L vsh), (Kh, Kh + 1, fun V : World => V.heap[Kh]? = some (Obj.cells #[.int .i64 C, .slice vah L.length vch] 55))] w23) := Z25.out.next hb
  clear Z25 hb
  rw [← HTT.out]
  go_wp2
  go_returns
  exact ⟨rfl, Z26.out.bl⟩

set_option maxRecDepth 100000 in
theorem sm23_lifted (os : Os) (started : os.Started) (H : Type) (enc : TypeId × Value → H) :
    ReturnsInHanded {} Try.checked os 8 .any (Rows.fnExactStitchMapsSpec.pre6 enc Try.prog Try.f8 Rows.fnExactStitchMapsRow.domain false) (Rows.fnExactStitchMapsSpec.post enc Try.prog Try.f8 false true false false) := by
  refine returnsInHanded_of_change (C := Try.checked) own started (by kernel_rfl) Try.func8
    (ChangeSpec.witness6 (enc := enc) (C := Try.checked) false ⟨#[], #[.slice none 0 0, .slice none 0 0], []⟩ 8 (by kernel_rfl) (by kernel_rfl) (by kernel_rfl) (by kernel_rfl)) ?_
  intro W base args ds gs before hval0 hW hcnd _
  have hval : ∀ (j : Nat) t v, Try.f8.params[j]? = some t → args[j]? = some v → Value.okWide Try.prog W .any base t v := hval0
  have hW' := hW
  obtain ⟨p, q, hA0, hV, rfl, hfz, hnd⟩ := hW
  have hA : DataW.TrodAll enc Try.prog W 0 (fun _ => true) true Try.f8.params.toList args.toList ds p := hA0
  rw [Try.params8] at hA hval
  obtain ⟨v0, vs0, d0, ds0, p0, q0, hargs, rfl, rfl, h0, r0⟩ := trodAll_cons hA
  obtain ⟨v1, vs1, d1, ds1, p1, q1, rfl, rfl, rfl, h1, r1⟩ := trodAll_cons r0
  obtain ⟨rfl, rfl, rfl⟩ := trodAll_nil r1
  obtain rfl : args = #[v0, v1] := by cases args; simp_all
  obtain ⟨rfl, rfl⟩ := trodVars_none hV
  have k0 := h0
  have lt0 : ∀ x ∈ p0, x.block < W.heap.size := by obtain ⟨m, hm⟩ := k0; exact DataW.trod_lt m _ _ _ hm
  obtain ⟨sa0, sn0, sc0, s0, rfl, rb0, sl0⟩ := rows_open (hval 0 52 v0 rfl rfl) h0
  have k1 := h1
  have lt1 : ∀ x ∈ p1, x.block < W.heap.size := by obtain ⟨m, hm⟩ := k1; exact DataW.trod_lt m _ _ _ hm
  obtain ⟨sa1, sn1, sc1, s1, rfl, rb1, sl1⟩ := rows_open (hval 1 52 v1 rfl rfl) h1
  clear hA0 hval0
  refine (law_sm23 s0 sl0 rb0 s1 sl1 rb1).mono fun e W' ⟨he, hg⟩ => ?_
  subst he
  exact ⟨_, rfl, _, _, _, [], _, [], hW', trodAll_mk1 (shut_bool Try.underlying4 _), (trodAll_cons_mk (Below.trod laidOut (by kernel_rfl) (of_decide_eq_true (by kernel_rfl)) k0 hg lt0) (trodAll_cons_mk (Below.trod laidOut (by kernel_rfl) (of_decide_eq_true (by kernel_rfl)) k1 hg lt1) trodAll_mk0)), rfl, hg.frame _, fun h => by cases h⟩

theorem sm23_over : Rows.fnExactStitchMapsRow.holds Try.pinned (OpenSpec.ofChange Rows.fnExactStitchMapsSpec) :=
  OpenClaim.holds_of_wide 8 Try.f8 rfl rfl rfl rfl rfl rfl rfl ⟨rfl, rfl, rfl, rfl, rfl⟩ rfl rfl rfl rfl rfl (by kernel_rfl) Try.func8 (by kernel_rfl)
    (of_decide_eq_true (by kernel_rfl)) (by unfold Func.isWrapper; first | (rw [if_pos (by decide +kernel)]; kernel_rfl) | (rw [if_neg (by decide +kernel)]; exact ⟨rfl, rfl⟩))
    (fun os started H enc _ => sm23_lifted os started H enc)

theorem sm23_proved : Rows.FnExactStitchMapsSaid :=
  sm23_over
#print axioms sm23_proved

end Go.Proofs.Ytkdpifplhhcpaaa
