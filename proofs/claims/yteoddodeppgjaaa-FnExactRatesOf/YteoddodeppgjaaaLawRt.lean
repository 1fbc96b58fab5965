/- Proved here: 'the program's RatesOf answers as the model's; it writes into no argument and keeps nothing of one; its answer owns its memory, behind another call too', without a condition. -/
import Derived.Test.YteoddodeppgjaaaRtI
import Derived.Test.YteoddodeppgjaaaRtS
import Derived.Test.YteoddodeppgjaaaGrR
import Derived.Test.YteoddodeppgjaaaMkI
import Derived.Test.YteoddodeppgjaaaLwS
import Derived.Test.YteoddodeppgjaaaRows
namespace Go.Proofs.Yteoddodeppgjaaa
open Go.ChangeShapes Go.WideShapes Go.ChangeAt Go.RowKit Go.Joins
set_option linter.unusedVariables false
set_option linter.unusedSimpArgs false

theorem own : ownKnob Try.prog.godebug = none := by kernel_rfl
theorem laidOut : laidOutB Try.prog = true := by kernel_rfl

set_option maxRecDepth 10000 in
set_option maxHeartbeats 25600000 in
theorem law_rt9 {w : World} {sa0 : Option Addr} {sn0 sc0 : Nat} (s0 : List (List Int)) (hm0 : sn0 ≤ maxLen ∧ ∀ j, (s0.getD j []).length ≤ maxLen) (hr0 : RdR w (.slice sa0 sn0 sc0) s0) {sa1 : Option Addr} {sn1 sc1 : Nat} (s1 : List Int) (hm1 : s1.length ≤ maxLen) (hr1 : RdI w (.slice sa1 sn1 sc1) s1) :
    Calls Try.prog 6 #[.slice sa0 sn0 sc0, .slice sa1 sn1 sc1] w fun e w' => e = .returned (.bool true) ∧ Below w.heap.size w w' := by
  have HM0 : Hid (sn0 ≤ maxLen ∧ ∀ j, (s0.getD j []).length ≤ maxLen) := hm0
  have HR0 : Hid (RdR w (.slice sa0 sn0 sc0) s0) := hr0
  have HE0 : Hid (sn0 = s0.length) := hr0.len
  have HM1 : Hid (sn1 ≤ maxLen) := by unfold Hid; rw [hr1.len]; exact hm1
  have HR1 : Hid (RdI w (.slice sa1 sn1 sc1) s1) := hr1
  have HE1 : Hid (sn1 = s1.length) := hr1.len
  clear hm0 hr0 hm1 hr1
  have Z0 : Hid (LS w [] w) := LS.start w
  go_enter Try.func6, Try.ntmps6
  by_cases hf1 : (1048576 : Int) < (sn1 : Int)
  · go_wp2
    go_returns
    exact ⟨rfl, Below.refl _ _⟩
  have HL1 : Hid (s1.length ≤ 1048576) := by unfold Hid; rw [← HE1.out]; omega
  go_wp2_with (fail)
  refine (szInt64SS_gen s0 sa0 sn0 sc0 1048576 _ (by omega) (by omega) HM0.out.1 (HR0.out.below Z0.out.bl) HM0.out.2).mono ?_
  rintro e w1 ⟨r0, rfl, hq0, hb⟩
  have Z1 : Hid (LS w [] w1) := Z0.out.next hb
  clear Z0 hb
  rcases hq0 with hneg | ⟨u0, v0, tt0⟩
  · go_wp2
    go_returns
    exact ⟨rfl, Z1.out.bl⟩
  have hl0 : ¬ r0 < 0 := by omega
  have HL0 : Hid (SmR s0) := tt0
  obtain ⟨C, hC⟩ : ∃ X, X = rtC s0 s1 := ⟨_, rfl⟩
  obtain ⟨L, hL⟩ : ∃ X, X = rtL s0 s1 := ⟨_, rfl⟩
  have HLN : Hid (SmR L) := by unfold Hid; rw [hL]; exact rtL_sm _ _ HL0.out
  have HSP : Hid (∀ (W : World) (g0 : Nat × List Value) (g1 : Nat), (RdR W (.slice (some ⟨g0.1, 0, none⟩) s0.length s0.length) s0) → (RdI W (.slice (some ⟨g1, 0, none⟩) s1.length s1.length) s1) → Calls Try.prog 23 #[.slice (some ⟨g0.1, 0, none⟩) s0.length s0.length, .slice (some ⟨g1, 0, none⟩) s1.length s1.length] W fun e w' => ∃ v vs, e = .returned (.agg #[.int .i64 C, v]) ∧ RI w' W.heap.size v L vs ∧ Below W.heap.size W w') := fun W g0 g1 h0 h1 => by
    rw [hL, hC]
    exact spec_rt HL0.out HL1.out h0 h1
  have HIM : Hid (∀ (W : World) (g0 : Nat × List Value) (g1 : Nat), (RdR W (.slice (some ⟨g0.1, 0, none⟩) s0.length s0.length) s0) → (RdI W (.slice (some ⟨g1, 0, none⟩) s1.length s1.length) s1) → Calls Try.prog 25 #[.slice (some ⟨g0.1, 0, none⟩) s0.length s0.length, .slice (some ⟨g1, 0, none⟩) s1.length s1.length] W fun e w' => ∃ v vs, e = .returned (.agg #[.int .i64 C, v]) ∧ RI w' W.heap.size v L vs ∧ Below W.heap.size W w') := fun W g0 g1 h0 h1 => by
    rw [hL, hC]
    exact impl_rt HL0.out HL1.out h0 h1
  clear hC hL u0 v0 tt0
  go_wp2_with (fail)
  refine (toInt64SS_any HL0.out (HR0.out.below Z1.out.bl)).mono ?_
  rintro e w2 ⟨ga0, rfl, ho, hb⟩
  have Z2 : Hid (LS w [(w1.heap.size, w2.heap.size, fun V : World => RI V w1.heap.size (.slice (some ⟨ga0.1, 0, none⟩) s0.length s0.length) s0 ga0.2)] w2) := Z1.out.push hb (Ow.riAll ho hb) (Nat.le_refl _)
  clear Z1 hb ho
  go_wp2_with (fail)
  refine (toInt64S_any HL1.out (HR1.out.below Z2.out.bl)).mono ?_
  rintro e w3 ⟨ga1, rfl, ho, hb⟩
  have Z3 : Hid (LS w [(w1.heap.size, w2.heap.size, fun V : World => RI V w1.heap.size (.slice (some ⟨ga0.1, 0, none⟩) s0.length s0.length) s0 ga0.2), (w2.heap.size, w3.heap.size, fun V : World => V.ownsRow w2.heap.size 2 1 (.slice (some ⟨ga1, 0, none⟩) s1.length s1.length) s1.length (s1.map (Value.int .i64)))] w3) := Z2.out.push hb (Ow.rowAll ho hb) (Nat.le_refl _)
  clear Z2 hb ho
  go_wp2_with (fail)
  refine (HSP.out w3 ga0 ga1 (RI.rd (show RI w3 w1.heap.size (.slice (some ⟨ga0.1, 0, none⟩) s0.length s0.length) s0 ga0.2 from Z3.out.get 0 rfl)) (IS.rg (B := w2.heap.size) (show w3.ownsRow w2.heap.size 2 1 (.slice (some ⟨ga1, 0, none⟩) s1.length s1.length) s1.length (s1.map (Value.int .i64)) from Z3.out.get 1 rfl))).mono ?_
  rintro e w4 ⟨vq, vr, rfl, hrq, hb⟩
  obtain ⟨vaa, vca, rfl⟩ := hrq.form
  obtain ⟨vsa, rfl⟩ : ∃ x, x = vr := ⟨_, rfl⟩
  have Z4 : Hid (LS w [(w1.heap.size, w2.heap.size, fun V : World => RI V w1.heap.size (.slice (some ⟨ga0.1, 0, none⟩) s0.length s0.length) s0 ga0.2), (w2.heap.size, w3.heap.size, fun V : World => V.ownsRow w2.heap.size 2 1 (.slice (some ⟨ga1, 0, none⟩) s1.length s1.length) s1.length (s1.map (Value.int .i64))), (w3.heap.size, w4.heap.size, fun V : World => RI V w3.heap.size (.slice vaa L.length vca) L vsa)] w4) := Z3.out.push hb (Ow.riAll hrq hb) (Nat.le_refl _)
  clear Z3 hb hrq
  have Z5 : Hid (LS w [(w1.heap.size, w2.heap.size, fun V : World => RI V w1.heap.size (.slice (some ⟨ga0.1, 0, none⟩) s0.length s0.length) s0 ga0.2), (w2.heap.size, w3.heap.size, fun V : World => V.ownsRow w2.heap.size 2 1 (.slice (some ⟨ga1, 0, none⟩) s1.length s1.length) s1.length (s1.map (Value.int .i64))), (w3.heap.size, w4.heap.size, fun V : World => RI V w3.heap.size (.slice vaa L.length vca) L vsa), (w4.heap.size, w4.heap.size + 1, fun V : World => V.heap[w4.heap.size]? = some (Obj.cells #[.int .i64 C, .slice vaa L.length vca] 33))] (w4.alloc (Obj.cells #[.int .i64 C, .slice vaa L.length vca] 33))) := Z4.out.push (by (repeat' (first | (with_reducible exact Below.refl _ _) | (with_reducible assumption) | (with_reducible refine Below.setCell ?_ ?_ _) | (with_reducible refine Below.alloc ?_ ?_ _) | (with_reducible refine below_drewN ?_ _) | (with_reducible refine Below.drew ?_) | (with_reducible exact Nat.le_refl _) | omega | (simp; done) | (simp; omega)))) (Ow.block (heap_alloc_new _ _)) (Nat.le_refl _)
  clear Z4
  go_wp2_with (fail)
  obtain ⟨Va, hV⟩ : ∃ V, V = w4.alloc (Obj.cells #[.int .i64 C, .slice vaa L.length vca] 33) := ⟨_, rfl⟩
  rw [← hV] at Z5 ⊢
  obtain ⟨Ka, hK⟩ : ∃ K, K = w4.heap.size := ⟨_, rfl⟩
  rw [← hK] at Z5  ⊢
  clear hV hK
  refine (toInt64SS_any HL0.out (HR0.out.below Z5.out.bl)).mono ?_
  rintro e w5 ⟨x0, rfl, ho, hb⟩
  have HX0 : Hid (LtR (.slice (some ⟨x0.1, 0, none⟩) s0.length s0.length) x0.2 s0.length w5.heap.size) := ho.lt
  have Z6 : Hid (LS w [(w1.heap.size, w2.heap.size, fun V : World => RI V w1.heap.size (.slice (some ⟨ga0.1, 0, none⟩) s0.length s0.length) s0 ga0.2), (w2.heap.size, w3.heap.size, fun V : World => V.ownsRow w2.heap.size 2 1 (.slice (some ⟨ga1, 0, none⟩) s1.length s1.length) s1.length (s1.map (Value.int .i64))), (w3.heap.size, Ka, fun V : World => RI V w3.heap.size (.slice vaa L.length vca) L vsa), (Ka, Ka + 1, fun V : World => V.heap[Ka]? = some (Obj.cells #[.int .i64 C, .slice vaa L.length vca] 33)), (Va.heap.size, w5.heap.size, fun V : World => RI V Va.heap.size (.slice (some ⟨x0.1, 0, none⟩) s0.length s0.length) s0 x0.2)] w5) := Z5.out.push hb (Ow.riAll ho hb) (Nat.le_refl _)
  clear Z5 hb ho
  go_wp2_with (fail)
  refine (toInt64S_any HL1.out (HR1.out.below Z6.out.bl)).mono ?_
  rintro e w6 ⟨x1, rfl, ho, hb⟩
  have HX1 : Hid (∀ g, (.slice (some ⟨x1, 0, none⟩) s1.length s1.length : Value).ownBlock = some g → g < w6.heap.size) := fun g hg => (World.ownsRow.lt ho g hg).2
  have Z7 : Hid (LS w [(w1.heap.size, w2.heap.size, fun V : World => RI V w1.heap.size (.slice (some ⟨ga0.1, 0, none⟩) s0.length s0.length) s0 ga0.2), (w2.heap.size, w3.heap.size, fun V : World => V.ownsRow w2.heap.size 2 1 (.slice (some ⟨ga1, 0, none⟩) s1.length s1.length) s1.length (s1.map (Value.int .i64))), (w3.heap.size, Ka, fun V : World => RI V w3.heap.size (.slice vaa L.length vca) L vsa), (Ka, Ka + 1, fun V : World => V.heap[Ka]? = some (Obj.cells #[.int .i64 C, .slice vaa L.length vca] 33)), (Va.heap.size, w5.heap.size, fun V : World => RI V Va.heap.size (.slice (some ⟨x0.1, 0, none⟩) s0.length s0.length) s0 x0.2), (w5.heap.size, w6.heap.size, fun V : World => V.ownsRow w5.heap.size 2 1 (.slice (some ⟨x1, 0, none⟩) s1.length s1.length) s1.length (s1.map (Value.int .i64)))] w6) := Z6.out.push hb (Ow.rowAll ho hb) (Nat.le_refl _)
  clear Z6 hb ho
  go_wp2_with (fail)
  refine (HIM.out w6 x0 x1 (RI.rd (show RI w6 Va.heap.size (.slice (some ⟨x0.1, 0, none⟩) s0.length s0.length) s0 x0.2 from Z7.out.get 4 rfl)) (IS.rg (B := w5.heap.size) (show w6.ownsRow w5.heap.size 2 1 (.slice (some ⟨x1, 0, none⟩) s1.length s1.length) s1.length (s1.map (Value.int .i64)) from Z7.out.get 5 rfl))).mono ?_
  rintro e w7 ⟨vq, vr, rfl, hrq, hb⟩
  obtain ⟨vag, vcg, rfl⟩ := hrq.form
  obtain ⟨vsg, rfl⟩ : ∃ x, x = vr := ⟨_, rfl⟩
  have HXg : Hid (LtR (.slice vag L.length vcg) vsg L.length w7.heap.size) := hrq.lt
  have Z8 : Hid (LS w [(w1.heap.size, w2.heap.size, fun V : World => RI V w1.heap.size (.slice (some ⟨ga0.1, 0, none⟩) s0.length s0.length) s0 ga0.2), (w2.heap.size, w3.heap.size, fun V : World => V.ownsRow w2.heap.size 2 1 (.slice (some ⟨ga1, 0, none⟩) s1.length s1.length) s1.length (s1.map (Value.int .i64))), (w3.heap.size, Ka, fun V : World => RI V w3.heap.size (.slice vaa L.length vca) L vsa), (Ka, Ka + 1, fun V : World => V.heap[Ka]? = some (Obj.cells #[.int .i64 C, .slice vaa L.length vca] 33)), (Va.heap.size, w5.heap.size, fun V : World => RI V Va.heap.size (.slice (some ⟨x0.1, 0, none⟩) s0.length s0.length) s0 x0.2), (w5.heap.size, w6.heap.size, fun V : World => V.ownsRow w5.heap.size 2 1 (.slice (some ⟨x1, 0, none⟩) s1.length s1.length) s1.length (s1.map (Value.int .i64))), (w6.heap.size, w7.heap.size, fun V : World => RI V w6.heap.size (.slice vag L.length vcg) L vsg)] w7) := Z7.out.push hb (Ow.riAll hrq hb) (Nat.le_refl _)
  clear Z7 hb hrq
  have kva := Z8.out.get 3 rfl
  have cva_0 : w7.cell? ⟨Ka, 0, none⟩ = some (.int .i64 C) := cellOf kva 0 rfl
  have cva_1 : w7.cell? ⟨Ka, 1, none⟩ = some (.slice vaa L.length vca) := cellOf kva 1 rfl
  have lva : Ka < w7.heap.size := ltOf kva
  clear kva
  have Z9 : Hid (LS w [(w1.heap.size, w2.heap.size, fun V : World => RI V w1.heap.size (.slice (some ⟨ga0.1, 0, none⟩) s0.length s0.length) s0 ga0.2), (w2.heap.size, w3.heap.size, fun V : World => V.ownsRow w2.heap.size 2 1 (.slice (some ⟨ga1, 0, none⟩) s1.length s1.length) s1.length (s1.map (Value.int .i64))), (w3.heap.size, Ka, fun V : World => RI V w3.heap.size (.slice vaa L.length vca) L vsa), (Ka, Ka + 1, fun V : World => V.heap[Ka]? = some (Obj.cells #[.int .i64 C, .slice vaa L.length vca] 33)), (Va.heap.size, w5.heap.size, fun V : World => RI V Va.heap.size (.slice (some ⟨x0.1, 0, none⟩) s0.length s0.length) s0 x0.2), (w5.heap.size, w6.heap.size, fun V : World => V.ownsRow w5.heap.size 2 1 (.slice (some ⟨x1, 0, none⟩) s1.length s1.length) s1.length (s1.map (Value.int .i64))), (w6.heap.size, w7.heap.size, fun V : World => RI V w6.heap.size (.slice vag L.length vcg) L vsg), (w7.heap.size, w7.heap.size + 1, fun V : World => V.heap[w7.heap.size]? = some (Obj.cells #[.int .i64 C, .slice vag L.length vcg] 33))] (w7.alloc (Obj.cells #[.int .i64 C, .slice vag L.length vcg] 33))) := Z8.out.push (by (repeat' (first | (with_reducible exact Below.refl _ _) | (with_reducible assumption) | (with_reducible refine Below.setCell ?_ ?_ _) | (with_reducible refine Below.alloc ?_ ?_ _) | (with_reducible refine below_drewN ?_ _) | (with_reducible refine Below.drew ?_) | (with_reducible exact Nat.le_refl _) | omega | (simp; done) | (simp; omega)))) (Ow.block (heap_alloc_new _ _)) (Nat.le_refl _)
  clear Z8
  go_wp2_with (fail)
  obtain ⟨Vg, hV⟩ : ∃ V, V = w7.alloc (Obj.cells #[.int .i64 C, .slice vag L.length vcg] 33) := ⟨_, rfl⟩
  rw [← hV] at Z9 ⊢
  obtain ⟨Kg, hK⟩ : ∃ K, K = w7.heap.size := ⟨_, rfl⟩
  rw [← hK] at Z9 HXg ⊢
  clear hV hK
  clear cva_0 cva_1 lva
  refine (eqRowsResult_to C HLN.out (RI.rd (B := w6.heap.size) (show RI Vg w6.heap.size (.slice vag L.length vcg) L vsg from (Z9.out.get 6 rfl))) (RI.rd (B := w3.heap.size) (show RI Vg w3.heap.size (.slice vaa L.length vca) L vsa from (Z9.out.get 2 rfl)))).mono ?_
  rintro e w8 ⟨rfl, hb⟩
  have Z10 : Hid (LS w [(w1.heap.size, w2.heap.size, fun V : World => RI V w1.heap.size (.slice (some ⟨ga0.1, 0, none⟩) s0.length s0.length) s0 ga0.2), (w2.heap.size, w3.heap.size, fun V : World => V.ownsRow w2.heap.size 2 1 (.slice (some ⟨ga1, 0, none⟩) s1.length s1.length) s1.length (s1.map (Value.int .i64))), (w3.heap.size, Ka, fun V : World => RI V w3.heap.size (.slice vaa L.length vca) L vsa), (Ka, Ka + 1, fun V : World => V.heap[Ka]? = some (Obj.cells #[.int .i64 C, .slice vaa L.length vca] 33)), (Va.heap.size, w5.heap.size, fun V : World => RI V Va.heap.size (.slice (some ⟨x0.1, 0, none⟩) s0.length s0.length) s0 x0.2), (w5.heap.size, w6.heap.size, fun V : World => V.ownsRow w5.heap.size 2 1 (.slice (some ⟨x1, 0, none⟩) s1.length s1.length) s1.length (s1.map (Value.int .i64))), (w6.heap.size, Kg, fun V : World => RI V w6.heap.size (.slice vag L.length vcg) L vsg), (Kg, Kg + 1, fun V : World => V.heap[Kg]? = some (Obj.cells #[.int .i64 C, .slice vag L.length vcg] 33))] w8) := Z9.out.next hb
  clear Z9 hb
  go_wp2_with (fail)
  refine (toInt64SS_any HL0.out (HR0.out.below Z10.out.bl)).mono ?_
  rintro e w9 ⟨e0, rfl, ho, hb⟩
  have Z11 : Hid (LS w [(w1.heap.size, w2.heap.size, fun V : World => RI V w1.heap.size (.slice (some ⟨ga0.1, 0, none⟩) s0.length s0.length) s0 ga0.2), (w2.heap.size, w3.heap.size, fun V : World => V.ownsRow w2.heap.size 2 1 (.slice (some ⟨ga1, 0, none⟩) s1.length s1.length) s1.length (s1.map (Value.int .i64))), (w3.heap.size, Ka, fun V : World => RI V w3.heap.size (.slice vaa L.length vca) L vsa), (Ka, Ka + 1, fun V : World => V.heap[Ka]? = some (Obj.cells #[.int .i64 C, .slice vaa L.length vca] 33)), (Va.heap.size, w5.heap.size, fun V : World => RI V Va.heap.size (.slice (some ⟨x0.1, 0, none⟩) s0.length s0.length) s0 x0.2), (w5.heap.size, w6.heap.size, fun V : World => V.ownsRow w5.heap.size 2 1 (.slice (some ⟨x1, 0, none⟩) s1.length s1.length) s1.length (s1.map (Value.int .i64))), (w6.heap.size, Kg, fun V : World => RI V w6.heap.size (.slice vag L.length vcg) L vsg), (Kg, Kg + 1, fun V : World => V.heap[Kg]? = some (Obj.cells #[.int .i64 C, .slice vag L.length vcg] 33)), (w8.heap.size, w9.heap.size, fun V : World => RI V w8.heap.size (.slice (some ⟨e0.1, 0, none⟩) s0.length s0.length) s0 e0.2)] w9) := Z10.out.push hb (Ow.riAll ho hb) (Nat.le_refl _)
  clear Z10 hb ho
  go_wp2_with (fail)
  refine (eqInt64SS_same HL0.out (RI.rd (show RI w9 Va.heap.size (.slice (some ⟨x0.1, 0, none⟩) s0.length s0.length) s0 x0.2 from Z11.out.get 4 rfl)) (RI.rd (show RI w9 w8.heap.size (.slice (some ⟨e0.1, 0, none⟩) s0.length s0.length) s0 e0.2 from Z11.out.get 8 rfl))).mono ?_
  rintro e w10 ⟨rfl, hb⟩
  have Z12 : Hid (LS w [(w1.heap.size, w2.heap.size, fun V : World => RI V w1.heap.size (.slice (some ⟨ga0.1, 0, none⟩) s0.length s0.length) s0 ga0.2), (w2.heap.size, w3.heap.size, fun V : World => V.ownsRow w2.heap.size 2 1 (.slice (some ⟨ga1, 0, none⟩) s1.length s1.length) s1.length (s1.map (Value.int .i64))), (w3.heap.size, Ka, fun V : World => RI V w3.heap.size (.slice vaa L.length vca) L vsa), (Ka, Ka + 1, fun V : World => V.heap[Ka]? = some (Obj.cells #[.int .i64 C, .slice vaa L.length vca] 33)), (Va.heap.size, w5.heap.size, fun V : World => RI V Va.heap.size (.slice (some ⟨x0.1, 0, none⟩) s0.length s0.length) s0 x0.2), (w5.heap.size, w6.heap.size, fun V : World => V.ownsRow w5.heap.size 2 1 (.slice (some ⟨x1, 0, none⟩) s1.length s1.length) s1.length (s1.map (Value.int .i64))), (w6.heap.size, Kg, fun V : World => RI V w6.heap.size (.slice vag L.length vcg) L vsg), (Kg, Kg + 1, fun V : World => V.heap[Kg]? = some (Obj.cells #[.int .i64 C, .slice vag L.length vcg] 33)), (w8.heap.size, w9.heap.size, fun V : World => RI V w8.heap.size (.slice (some ⟨e0.1, 0, none⟩) s0.length s0.length) s0 e0.2)] w10) := Z11.out.next hb
  clear Z11 hb
  go_wp2_with (fail)
  refine (toInt64S_any HL1.out (HR1.out.below Z12.out.bl)).mono ?_
  rintro e w11 ⟨e1, rfl, ho, hb⟩
  have Z13 : Hid (LS w [(w1.heap.size, w2.heap.size, fun V : World => RI V w1.heap.size (.slice (some ⟨ga0.1, 0, none⟩) s0.length s0.length) s0 ga0.2), (w2.heap.size, w3.heap.size, fun V : World => V.ownsRow w2.heap.size 2 1 (.slice (some ⟨ga1, 0, none⟩) s1.length s1.length) s1.length (s1.map (Value.int .i64))), (w3.heap.size, Ka, fun V : World => RI V w3.heap.size (.slice vaa L.length vca) L vsa), (Ka, Ka + 1, fun V : World => V.heap[Ka]? = some (Obj.cells #[.int .i64 C, .slice vaa L.length vca] 33)), (Va.heap.size, w5.heap.size, fun V : World => RI V Va.heap.size (.slice (some ⟨x0.1, 0, none⟩) s0.length s0.length) s0 x0.2), (w5.heap.size, w6.heap.size, fun V : World => V.ownsRow w5.heap.size 2 1 (.slice (some ⟨x1, 0, none⟩) s1.length s1.length) s1.length (s1.map (Value.int .i64))), (w6.heap.size, Kg, fun V : World => RI V w6.heap.size (.slice vag L.length vcg) L vsg), (Kg, Kg + 1, fun V : World => V.heap[Kg]? = some (Obj.cells #[.int .i64 C, .slice vag L.length vcg] 33)), (w8.heap.size, w9.heap.size, fun V : World => RI V w8.heap.size (.slice (some ⟨e0.1, 0, none⟩) s0.length s0.length) s0 e0.2), (w10.heap.size, w11.heap.size, fun V : World => V.ownsRow w10.heap.size 2 1 (.slice (some ⟨e1, 0, none⟩) s1.length s1.length) s1.length (s1.map (Value.int .i64)))] w11) := Z12.out.push hb (Ow.rowAll ho hb) (Nat.le_refl _)
  clear Z12 hb ho
  go_wp2_with (fail)
  refine (eqInt64S_same (by have := HL1.out; omega) (IS.rg (B := w5.heap.size) (show w11.ownsRow w5.heap.size 2 1 (.slice (some ⟨x1, 0, none⟩) s1.length s1.length) s1.length (s1.map (Value.int .i64)) from Z13.out.get 5 rfl)) (IS.rg (B := w10.heap.size) (show w11.ownsRow w10.heap.size 2 1 (.slice (some ⟨e1, 0, none⟩) s1.length s1.length) s1.length (s1.map (Value.int .i64)) from Z13.out.get 9 rfl))).mono ?_
  rintro e w12 ⟨rfl, hb⟩
  have Z14 : Hid (LS w [(w1.heap.size, w2.heap.size, fun V : World => RI V w1.heap.size (.slice (some ⟨ga0.1, 0, none⟩) s0.length s0.length) s0 ga0.2), (w2.heap.size, w3.heap.size, fun V : World => V.ownsRow w2.heap.size 2 1 (.slice (some ⟨ga1, 0, none⟩) s1.length s1.length) s1.length (s1.map (Value.int .i64))), (w3.heap.size, Ka, fun V : World => RI V w3.heap.size (.slice vaa L.length vca) L vsa), (Ka, Ka + 1, fun V : World => V.heap[Ka]? = some (Obj.cells #[.int .i64 C, .slice vaa L.length vca] 33)), (Va.heap.size, w5.heap.size, fun V : World => RI V Va.heap.size (.slice (some ⟨x0.1, 0, none⟩) s0.length s0.length) s0 x0.2), (w5.heap.size, w6.heap.size, fun V : World => V.ownsRow w5.heap.size 2 1 (.slice (some ⟨x1, 0, none⟩) s1.length s1.length) s1.length (s1.map (Value.int .i64))), (w6.heap.size, Kg, fun V : World => RI V w6.heap.size (.slice vag L.length vcg) L vsg), (Kg, Kg + 1, fun V : World => V.heap[Kg]? = some (Obj.cells #[.int .i64 C, .slice vag L.length vcg] 33)), (w8.heap.size, w9.heap.size, fun V : World => RI V w8.heap.size (.slice (some ⟨e0.1, 0, none⟩) s0.length s0.length) s0 e0.2), (w10.heap.size, w11.heap.size, fun V : World => V.ownsRow w10.heap.size 2 1 (.slice (some ⟨e1, 0, none⟩) s1.length s1.length) s1.length (s1.map (Value.int .i64)))] w12) := Z13.out.next hb
  clear Z13 hb
  go_wp2_with (fail)
  refine (markInt64SS_to 1 HL0.out (by omega) (by omega) (show RI w12 Va.heap.size (.slice (some ⟨x0.1, 0, none⟩) s0.length s0.length) s0 x0.2 from Z14.out.get 4 rfl) (HX0.out)).mono ?_
  rintro e w13 ⟨rfl, hm, hc⟩
  have Z15 : Hid (LS w [(w1.heap.size, w2.heap.size, fun V : World => RI V w1.heap.size (.slice (some ⟨ga0.1, 0, none⟩) s0.length s0.length) s0 ga0.2), (w2.heap.size, w3.heap.size, fun V : World => V.ownsRow w2.heap.size 2 1 (.slice (some ⟨ga1, 0, none⟩) s1.length s1.length) s1.length (s1.map (Value.int .i64))), (w3.heap.size, Ka, fun V : World => RI V w3.heap.size (.slice vaa L.length vca) L vsa), (Ka, Ka + 1, fun V : World => V.heap[Ka]? = some (Obj.cells #[.int .i64 C, .slice vaa L.length vca] 33)), (Va.heap.size, w5.heap.size, fun V : World => True), (w5.heap.size, w6.heap.size, fun V : World => V.ownsRow w5.heap.size 2 1 (.slice (some ⟨x1, 0, none⟩) s1.length s1.length) s1.length (s1.map (Value.int .i64))), (w6.heap.size, Kg, fun V : World => RI V w6.heap.size (.slice vag L.length vcg) L vsg), (Kg, Kg + 1, fun V : World => V.heap[Kg]? = some (Obj.cells #[.int .i64 C, .slice vag L.length vcg] 33)), (w8.heap.size, w9.heap.size, fun V : World => RI V w8.heap.size (.slice (some ⟨e0.1, 0, none⟩) s0.length s0.length) s0 e0.2), (w10.heap.size, w11.heap.size, fun V : World => V.ownsRow w10.heap.size 2 1 (.slice (some ⟨e1, 0, none⟩) s1.length s1.length) s1.length (s1.map (Value.int .i64)))] w13) := Z14.out.put 4 rfl hc ((Z14.out.own 4 rfl).true hc.size)
  clear Z14 hm hc
  obtain ⟨N0, hN⟩ : ∃ N, N = 1 + (totR s0 s0.length : Int) := ⟨_, rfl⟩
  rw [← hN]
  have hN0 : 0 ≤ N0 ∧ N0 ≤ 10000000 ∧ ¬ N0 < 0 := by have := HL0.out.tot; omega
  have hN0a := hN0.2.2
  clear hN
  go_wp2_with (fail)
  refine (markInt64S_to N0 HL1.out hN0.1 (by omega) (show w13.ownsRow w5.heap.size 2 1 (.slice (some ⟨x1, 0, none⟩) s1.length s1.length) s1.length (s1.map (Value.int .i64)) from Z15.out.get 5 rfl) (HX1.out)).mono ?_
  rintro e w14 ⟨rfl, hm, hc⟩
  have Z16 : Hid (LS w [(w1.heap.size, w2.heap.size, fun V : World => RI V w1.heap.size (.slice (some ⟨ga0.1, 0, none⟩) s0.length s0.length) s0 ga0.2), (w2.heap.size, w3.heap.size, fun V : World => V.ownsRow w2.heap.size 2 1 (.slice (some ⟨ga1, 0, none⟩) s1.length s1.length) s1.length (s1.map (Value.int .i64))), (w3.heap.size, Ka, fun V : World => RI V w3.heap.size (.slice vaa L.length vca) L vsa), (Ka, Ka + 1, fun V : World => V.heap[Ka]? = some (Obj.cells #[.int .i64 C, .slice vaa L.length vca] 33)), (Va.heap.size, w5.heap.size, fun V : World => True), (w5.heap.size, w6.heap.size, fun V : World => True), (w6.heap.size, Kg, fun V : World => RI V w6.heap.size (.slice vag L.length vcg) L vsg), (Kg, Kg + 1, fun V : World => V.heap[Kg]? = some (Obj.cells #[.int .i64 C, .slice vag L.length vcg] 33)), (w8.heap.size, w9.heap.size, fun V : World => RI V w8.heap.size (.slice (some ⟨e0.1, 0, none⟩) s0.length s0.length) s0 e0.2), (w10.heap.size, w11.heap.size, fun V : World => V.ownsRow w10.heap.size 2 1 (.slice (some ⟨e1, 0, none⟩) s1.length s1.length) s1.length (s1.map (Value.int .i64)))] w14) := Z15.out.put 5 rfl hc ((Z15.out.own 5 rfl).true hc.size)
  clear Z15 hm hc
  obtain ⟨N1, hN⟩ : ∃ N, N = N0 + (s1.length : Int) := ⟨_, rfl⟩
  rw [← hN]
  have hN1 : 0 ≤ N1 ∧ N1 ≤ 20000000 ∧ ¬ N1 < 0 := by have := HL1.out; omega
  have hN1a := hN1.2.2
  clear hN
  have kvg := Z16.out.get 7 rfl
  have cvg_0 : w14.cell? ⟨Kg, 0, none⟩ = some (.int .i64 C) := cellOf kvg 0 rfl
  have cvg_1 : w14.cell? ⟨Kg, 1, none⟩ = some (.slice vag L.length vcg) := cellOf kvg 1 rfl
  have lvg : Kg < w14.heap.size := ltOf kvg
  clear kvg
  have kva := Z16.out.get 3 rfl
  have cva_0 : w14.cell? ⟨Ka, 0, none⟩ = some (.int .i64 C) := cellOf kva 0 rfl
  have cva_1 : w14.cell? ⟨Ka, 1, none⟩ = some (.slice vaa L.length vca) := cellOf kva 1 rfl
  have lva : Ka < w14.heap.size := ltOf kva
  clear kva
  go_wp2_with (fail)
  clear cvg_0 cvg_1 lvg cva_0 cva_1 lva
  refine (eqRowsResult_to C HLN.out (RI.rd (B := w6.heap.size) (show RI w14 w6.heap.size (.slice vag L.length vcg) L vsg from (Z16.out.get 6 rfl))) (RI.rd (B := w3.heap.size) (show RI w14 w3.heap.size (.slice vaa L.length vca) L vsa from (Z16.out.get 2 rfl)))).mono ?_
  rintro e w15 ⟨rfl, hb⟩
  have Z17 : Hid (LS w [(w1.heap.size, w2.heap.size, fun V : World => RI V w1.heap.size (.slice (some ⟨ga0.1, 0, none⟩) s0.length s0.length) s0 ga0.2), (w2.heap.size, w3.heap.size, fun V : World => V.ownsRow w2.heap.size 2 1 (.slice (some ⟨ga1, 0, none⟩) s1.length s1.length) s1.length (s1.map (Value.int .i64))), (w3.heap.size, Ka, fun V : World => RI V w3.heap.size (.slice vaa L.length vca) L vsa), (Ka, Ka + 1, fun V : World => V.heap[Ka]? = some (Obj.cells #[.int .i64 C, .slice vaa L.length vca] 33)), (Va.heap.size, w5.heap.size, fun V : World => True), (w5.heap.size, w6.heap.size, fun V : World => True), (w6.heap.size, Kg, fun V : World => RI V w6.heap.size (.slice vag L.length vcg) L vsg), (Kg, Kg + 1, fun V : World => V.heap[Kg]? = some (Obj.cells #[.int .i64 C, .slice vag L.length vcg] 33)), (w8.heap.size, w9.heap.size, fun V : World => RI V w8.heap.size (.slice (some ⟨e0.1, 0, none⟩) s0.length s0.length) s0 e0.2), (w10.heap.size, w11.heap.size, fun V : World => V.ownsRow w10.heap.size 2 1 (.slice (some ⟨e1, 0, none⟩) s1.length s1.length) s1.length (s1.map (Value.int .i64)))] w15) := Z16.out.next hb
  clear Z16 hb
  have kvg := Z17.out.get 7 rfl
  have cvg_0 : w15.cell? ⟨Kg, 0, none⟩ = some (.int .i64 C) := cellOf kvg 0 rfl
  have cvg_1 : w15.cell? ⟨Kg, 1, none⟩ = some (.slice vag L.length vcg) := cellOf kvg 1 rfl
  have lvg : Kg < w15.heap.size := ltOf kvg
  clear kvg
  go_wp2_with (fail)
  clear cvg_0 cvg_1 lvg
  refine (markRowsResult_to C 1 HLN.out (by omega) (by omega) (show RI w15 w6.heap.size (.slice vag L.length vcg) L vsg from (Z17.out.get 6 rfl)) HXg.out).mono ?_
  rintro e w16 ⟨rfl, hm, hc⟩
  have Z18 : Hid (LS w [(w1.heap.size, w2.heap.size, fun V : World => RI V w1.heap.size (.slice (some ⟨ga0.1, 0, none⟩) s0.length s0.length) s0 ga0.2), (w2.heap.size, w3.heap.size, fun V : World => V.ownsRow w2.heap.size 2 1 (.slice (some ⟨ga1, 0, none⟩) s1.length s1.length) s1.length (s1.map (Value.int .i64))), (w3.heap.size, Ka, fun V : World => RI V w3.heap.size (.slice vaa L.length vca) L vsa), (Ka, Ka + 1, fun V : World => V.heap[Ka]? = some (Obj.cells #[.int .i64 C, .slice vaa L.length vca] 33)), (Va.heap.size, w5.heap.size, fun V : World => True), (w5.heap.size, w6.heap.size, fun V : World => True), (w6.heap.size, Kg, fun V : World => RI V w6.heap.size (.slice vag L.length vcg) (mkG 1 L L.length) vsg), (Kg, Kg + 1, fun V : World => V.heap[Kg]? = some (Obj.cells #[.int .i64 C, .slice vag L.length vcg] 33)), (w8.heap.size, w9.heap.size, fun V : World => RI V w8.heap.size (.slice (some ⟨e0.1, 0, none⟩) s0.length s0.length) s0 e0.2), (w10.heap.size, w11.heap.size, fun V : World => V.ownsRow w10.heap.size 2 1 (.slice (some ⟨e1, 0, none⟩) s1.length s1.length) s1.length (s1.map (Value.int .i64)))] w16) := Z17.out.put 6 rfl hc (Ow.ri hm (Z17.out.own 6 rfl).le.1 (Nat.le_trans (Z17.out.own 6 rfl).le.2 hc.size) (by rw [mkG_len]; exact HXg.out))
  clear Z17 hm hc
  obtain ⟨TT, hTT⟩ : ∃ TT, TT = 1 + (totR L L.length : Int) := ⟨_, rfl⟩
  have hT0 : ¬ TT < 0 := by omega
  have HTT : Hid (TT = 1 + (totR L L.length : Int)) := hTT
  rw [← hTT]
  clear hTT
  have kvg := Z18.out.get 7 rfl
  have cvg_0 : w16.cell? ⟨Kg, 0, none⟩ = some (.int .i64 C) := cellOf kvg 0 rfl
  have cvg_1 : w16.cell? ⟨Kg, 1, none⟩ = some (.slice vag L.length vcg) := cellOf kvg 1 rfl
  have lvg : Kg < w16.heap.size := ltOf kvg
  clear kvg
  go_wp2_with (fail)
  clear cvg_0 cvg_1 lvg
  refine (heldRowsResult_to C 1 HLN.out (by omega) (by omega) (show RI w16 w6.heap.size (.slice vag L.length vcg) (mkG 1 L L.length) vsg from Z18.out.get 6 rfl)).mono ?_
  rintro e w17 ⟨rfl, hb⟩
  have Z19 : Hid (LS w [(w1.heap.size, w2.heap.size, fun V : World => RI V w1.heap.size (.slice (some ⟨ga0.1, 0, none⟩) s0.length s0.length) s0 ga0.2), (w2.heap.size, w3.heap.size, fun V : World => V.ownsRow w2.heap.size 2 1 (.slice (some ⟨ga1, 0, none⟩) s1.length s1.length) s1.length (s1.map (Value.int .i64))), (w3.heap.size, Ka, fun V : World => RI V w3.heap.size (.slice vaa L.length vca) L vsa), (Ka, Ka + 1, fun V : World => V.heap[Ka]? = some (Obj.cells #[.int .i64 C, .slice vaa L.length vca] 33)), (Va.heap.size, w5.heap.size, fun V : World => True), (w5.heap.size, w6.heap.size, fun V : World => True), (w6.heap.size, Kg, fun V : World => RI V w6.heap.size (.slice vag L.length vcg) (mkG 1 L L.length) vsg), (Kg, Kg + 1, fun V : World => V.heap[Kg]? = some (Obj.cells #[.int .i64 C, .slice vag L.length vcg] 33)), (w8.heap.size, w9.heap.size, fun V : World => RI V w8.heap.size (.slice (some ⟨e0.1, 0, none⟩) s0.length s0.length) s0 e0.2), (w10.heap.size, w11.heap.size, fun V : World => V.ownsRow w10.heap.size 2 1 (.slice (some ⟨e1, 0, none⟩) s1.length s1.length) s1.length (s1.map (Value.int .i64)))] w17) := Z18.out.next hb
  clear Z18 hb
  rw [← HTT.out]
  go_wp2_with (fail)
  refine (toInt64SS_any HL0.out (HR0.out.below Z19.out.bl)).mono ?_
  rintro e w18 ⟨gh0, rfl, ho, hb⟩
  have Z20 : Hid (LS w [(w1.heap.size, w2.heap.size, fun V : World => RI V w1.heap.size (.slice (some ⟨ga0.1, 0, none⟩) s0.length s0.length) s0 ga0.2), (w2.heap.size, w3.heap.size, fun V : World => V.ownsRow w2.heap.size 2 1 (.slice (some ⟨ga1, 0, none⟩) s1.length s1.length) s1.length (s1.map (Value.int .i64))), (w3.heap.size, Ka, fun V : World => RI V w3.heap.size (.slice vaa L.length vca) L vsa), (Ka, Ka + 1, fun V : World => V.heap[Ka]? = some (Obj.cells #[.int .i64 C, .slice vaa L.length vca] 33)), (Va.heap.size, w5.heap.size, fun V : World => True), (w5.heap.size, w6.heap.size, fun V : World => True), (w6.heap.size, Kg, fun V : World => RI V w6.heap.size (.slice vag L.length vcg) (mkG 1 L L.length) vsg), (Kg, Kg + 1, fun V : World => V.heap[Kg]? = some (Obj.cells #[.int .i64 C, .slice vag L.length vcg] 33)), (w8.heap.size, w9.heap.size, fun V : World => RI V w8.heap.size (.slice (some ⟨e0.1, 0, none⟩) s0.length s0.length) s0 e0.2), (w10.heap.size, w11.heap.size, fun V : World => V.ownsRow w10.heap.size 2 1 (.slice (some ⟨e1, 0, none⟩) s1.length s1.length) s1.length (s1.map (Value.int .i64))), (w17.heap.size, w18.heap.size, fun V : World => RI V w17.heap.size (.slice (some ⟨gh0.1, 0, none⟩) s0.length s0.length) s0 gh0.2)] w18) := Z19.out.push hb (Ow.riAll ho hb) (Nat.le_refl _)
  clear Z19 hb ho
  go_wp2_with (fail)
  refine (toInt64S_any HL1.out (HR1.out.below Z20.out.bl)).mono ?_
  rintro e w19 ⟨gh1, rfl, ho, hb⟩
  have Z21 : Hid (LS w [(w1.heap.size, w2.heap.size, fun V : World => RI V w1.heap.size (.slice (some ⟨ga0.1, 0, none⟩) s0.length s0.length) s0 ga0.2), (w2.heap.size, w3.heap.size, fun V : World => V.ownsRow w2.heap.size 2 1 (.slice (some ⟨ga1, 0, none⟩) s1.length s1.length) s1.length (s1.map (Value.int .i64))), (w3.heap.size, Ka, fun V : World => RI V w3.heap.size (.slice vaa L.length vca) L vsa), (Ka, Ka + 1, fun V : World => V.heap[Ka]? = some (Obj.cells #[.int .i64 C, .slice vaa L.length vca] 33)), (Va.heap.size, w5.heap.size, fun V : World => True), (w5.heap.size, w6.heap.size, fun V : World => True), (w6.heap.size, Kg, fun V : World => RI V w6.heap.size (.slice vag L.length vcg) (mkG 1 L L.length) vsg), (Kg, Kg + 1, fun V : World => V.heap[Kg]? = some (Obj.cells #[.int .i64 C, .slice vag L.length vcg] 33)), (w8.heap.size, w9.heap.size, fun V : World => RI V w8.heap.size (.slice (some ⟨e0.1, 0, none⟩) s0.length s0.length) s0 e0.2), (w10.heap.size, w11.heap.size, fun V : World => V.ownsRow w10.heap.size 2 1 (.slice (some ⟨e1, 0, none⟩) s1.length s1.length) s1.length (s1.map (Value.int .i64))), (w17.heap.size, w18.heap.size, fun V : World => RI V w17.heap.size (.slice (some ⟨gh0.1, 0, none⟩) s0.length s0.length) s0 gh0.2), (w18.heap.size, w19.heap.size, fun V : World => V.ownsRow w18.heap.size 2 1 (.slice (some ⟨gh1, 0, none⟩) s1.length s1.length) s1.length (s1.map (Value.int .i64)))] w19) := Z20.out.push hb (Ow.rowAll ho hb) (Nat.le_refl _)
  clear Z20 hb ho
  go_wp2_with (fail)
  refine (HIM.out w19 gh0 gh1 (RI.rd (show RI w19 w17.heap.size (.slice (some ⟨gh0.1, 0, none⟩) s0.length s0.length) s0 gh0.2 from Z21.out.get 10 rfl)) (IS.rg (B := w18.heap.size) (show w19.ownsRow w18.heap.size 2 1 (.slice (some ⟨gh1, 0, none⟩) s1.length s1.length) s1.length (s1.map (Value.int .i64)) from Z21.out.get 11 rfl))).mono ?_
  rintro e w20 ⟨vq, vr, rfl, hrq, hb⟩
  obtain ⟨vah, vch, rfl⟩ := hrq.form
  obtain ⟨vsh, rfl⟩ : ∃ x, x = vr := ⟨_, rfl⟩
  have Z22 : Hid (LS w [(w1.heap.size, w2.heap.size, fun V : World => RI V w1.heap.size (.slice (some ⟨ga0.1, 0, none⟩) s0.length s0.length) s0 ga0.2), (w2.heap.size, w3.heap.size, fun V : World => V.ownsRow w2.heap.size 2 1 (.slice (some ⟨ga1, 0, none⟩) s1.length s1.length) s1.length (s1.map (Value.int .i64))), (w3.heap.size, Ka, fun V : World => RI V w3.heap.size (.slice vaa L.length vca) L vsa), (Ka, Ka + 1, fun V : World => V.heap[Ka]? = some (Obj.cells #[.int .i64 C, .slice vaa L.length vca] 33)), (Va.heap.size, w5.heap.size, fun V : World => True), (w5.heap.size, w6.heap.size, fun V : World => True), (w6.heap.size, Kg, fun V : World => RI V w6.heap.size (.slice vag L.length vcg) (mkG 1 L L.length) vsg), (Kg, Kg + 1, fun V : World => V.heap[Kg]? = some (Obj.cells #[.int .i64 C, .slice vag L.length vcg] 33)), (w8.heap.size, w9.heap.size, fun V : World => RI V w8.heap.size (.slice (some ⟨e0.1, 0, none⟩) s0.length s0.length) s0 e0.2), (w10.heap.size, w11.heap.size, fun V : World => V.ownsRow w10.heap.size 2 1 (.slice (some ⟨e1, 0, none⟩) s1.length s1.length) s1.length (s1.map (Value.int .i64))), (w17.heap.size, w18.heap.size, fun V : World => RI V w17.heap.size (.slice (some ⟨gh0.1, 0, none⟩) s0.length s0.length) s0 gh0.2), (w18.heap.size, w19.heap.size, fun V : World => V.ownsRow w18.heap.size 2 1 (.slice (some ⟨gh1, 0, none⟩) s1.length s1.length) s1.length (s1.map (Value.int .i64))), (w19.heap.size, w20.heap.size, fun V : World => RI V w19.heap.size (.slice vah L.length vch) L vsh)] w20) := Z21.out.push hb (Ow.riAll hrq hb) (Nat.le_refl _)
  clear Z21 hb hrq
  have kva := Z22.out.get 3 rfl
  have cva_0 : w20.cell? ⟨Ka, 0, none⟩ = some (.int .i64 C) := cellOf kva 0 rfl
  have cva_1 : w20.cell? ⟨Ka, 1, none⟩ = some (.slice vaa L.length vca) := cellOf kva 1 rfl
  have lva : Ka < w20.heap.size := ltOf kva
  clear kva
  have Z23 : Hid (LS w [(w1.heap.size, w2.heap.size, fun V : World => RI V w1.heap.size (.slice (some ⟨ga0.1, 0, none⟩) s0.length s0.length) s0 ga0.2), (w2.heap.size, w3.heap.size, fun V : World => V.ownsRow w2.heap.size 2 1 (.slice (some ⟨ga1, 0, none⟩) s1.length s1.length) s1.length (s1.map (Value.int .i64))), (w3.heap.size, Ka, fun V : World => RI V w3.heap.size (.slice vaa L.length vca) L vsa), (Ka, Ka + 1, fun V : World => V.heap[Ka]? = some (Obj.cells #[.int .i64 C, .slice vaa L.length vca] 33)), (Va.heap.size, w5.heap.size, fun V : World => True), (w5.heap.size, w6.heap.size, fun V : World => True), (w6.heap.size, Kg, fun V : World => RI V w6.heap.size (.slice vag L.length vcg) (mkG 1 L L.length) vsg), (Kg, Kg + 1, fun V : World => V.heap[Kg]? = some (Obj.cells #[.int .i64 C, .slice vag L.length vcg] 33)), (w8.heap.size, w9.heap.size, fun V : World => RI V w8.heap.size (.slice (some ⟨e0.1, 0, none⟩) s0.length s0.length) s0 e0.2), (w10.heap.size, w11.heap.size, fun V : World => V.ownsRow w10.heap.size 2 1 (.slice (some ⟨e1, 0, none⟩) s1.length s1.length) s1.length (s1.map (Value.int .i64))), (w17.heap.size, w18.heap.size, fun V : World => RI V w17.heap.size (.slice (some ⟨gh0.1, 0, none⟩) s0.length s0.length) s0 gh0.2), (w18.heap.size, w19.heap.size, fun V : World => V.ownsRow w18.heap.size 2 1 (.slice (some ⟨gh1, 0, none⟩) s1.length s1.length) s1.length (s1.map (Value.int .i64))), (w19.heap.size, w20.heap.size, fun V : World => RI V w19.heap.size (.slice vah L.length vch) L vsh), (w20.heap.size, w20.heap.size + 1, fun V : World => V.heap[w20.heap.size]? = some (Obj.cells #[.int .i64 C, .slice vah L.length vch] 33))] (w20.alloc (Obj.cells #[.int .i64 C, .slice vah L.length vch] 33))) := Z22.out.push (by (repeat' (first | (with_reducible exact Below.refl _ _) | (with_reducible assumption) | (with_reducible refine Below.setCell ?_ ?_ _) | (with_reducible refine Below.alloc ?_ ?_ _) | (with_reducible refine below_drewN ?_ _) | (with_reducible refine Below.drew ?_) | (with_reducible exact Nat.le_refl _) | omega | (simp; done) | (simp; omega)))) (Ow.block (heap_alloc_new _ _)) (Nat.le_refl _)
  clear Z22
  go_wp2_with (fail)
  obtain ⟨Vh, hV⟩ : ∃ V, V = w20.alloc (Obj.cells #[.int .i64 C, .slice vah L.length vch] 33) := ⟨_, rfl⟩
  rw [← hV] at Z23 ⊢
  obtain ⟨Kh, hK⟩ : ∃ K, K = w20.heap.size := ⟨_, rfl⟩
  rw [← hK] at Z23  ⊢
  clear hV hK
  clear cva_0 cva_1 lva
  refine (eqRowsResult_to C HLN.out (RI.rd (B := w19.heap.size) (show RI Vh w19.heap.size (.slice vah L.length vch) L vsh from (Z23.out.get 12 rfl))) (RI.rd (B := w3.heap.size) (show RI Vh w3.heap.size (.slice vaa L.length vca) L vsa from (Z23.out.get 2 rfl)))).mono ?_
  rintro e w21 ⟨rfl, hb⟩
  have Z24 : Hid (LS w [(w1.heap.size, w2.heap.size, fun V : World => RI V w1.heap.size (.slice (some ⟨ga0.1, 0, none⟩) s0.length s0.length) s0 ga0.2), (w2.heap.size, w3.heap.size, fun V : World => V.ownsRow w2.heap.size 2 1 (.slice (some ⟨ga1, 0, none⟩) s1.length s1.length) s1.length (s1.map (Value.int .i64))), (w3.heap.size, Ka, fun V : World => RI V w3.heap.size (.slice vaa L.length vca) L vsa), (Ka, Ka + 1, fun V : World => V.heap[Ka]? = some (Obj.cells #[.int .i64 C, .slice vaa L.length vca] 33)), (Va.heap.size, w5.heap.size, fun V : World => True), (w5.heap.size, w6.heap.size, fun V : World => True), (w6.heap.size, Kg, fun V : World => RI V w6.heap.size (.slice vag L.length vcg) (mkG 1 L L.length) vsg), (Kg, Kg + 1, fun V : World => V.heap[Kg]? = some (Obj.cells #[.int .i64 C, .slice vag L.length vcg] 33)), (w8.heap.size, w9.heap.size, fun V : World => RI V w8.heap.size (.slice (some ⟨e0.1, 0, none⟩) s0.length s0.length) s0 e0.2), (w10.heap.size, w11.heap.size, fun V : World => V.ownsRow w10.heap.size 2 1 (.slice (some ⟨e1, 0, none⟩) s1.length s1.length) s1.length (s1.map (Value.int .i64))), (w17.heap.size, w18.heap.size, fun V : World => RI V w17.heap.size (.slice (some ⟨gh0.1, 0, none⟩) s0.length s0.length) s0 gh0.2), (w18.heap.size, w19.heap.size, fun V : World => V.ownsRow w18.heap.size 2 1 (.slice (some ⟨gh1, 0, none⟩) s1.length s1.length) s1.length (s1.map (Value.int .i64))), (w19.heap.size, Kh, fun V : World => RI V w19.heap.size (.slice vah L.length vch) L vsh), (Kh, Kh + 1, fun V : World => V.heap[Kh]? = some (Obj.cells #[.int .i64 C, .slice vah L.length vch] 33))] w21) := Z23.out.next hb
  clear Z23 hb
  have kvg := Z24.out.get 7 rfl
  have cvg_0 : w21.cell? ⟨Kg, 0, none⟩ = some (.int .i64 C) := cellOf kvg 0 rfl
  have cvg_1 : w21.cell? ⟨Kg, 1, none⟩ = some (.slice vag L.length vcg) := cellOf kvg 1 rfl
  have lvg : Kg < w21.heap.size := ltOf kvg
  clear kvg
  go_wp2_with (fail)
  clear cvg_0 cvg_1 lvg
  refine (heldRowsResult_to C 1 HLN.out (by omega) (by omega) (show RI w21 w6.heap.size (.slice vag L.length vcg) (mkG 1 L L.length) vsg from Z24.out.get 6 rfl)).mono ?_
  rintro e w22 ⟨rfl, hb⟩
  have Z25 : Hid (LS w [(w1.heap.size, w2.heap.size, fun V : World => RI V w1.heap.size (.slice (some ⟨ga0.1, 0, none⟩) s0.length s0.length) s0 ga0.2), (w2.heap.size, w3.heap.size, fun V : World => V.ownsRow w2.heap.size 2 1 (.slice (some ⟨ga1, 0, none⟩) s1.length s1.length) s1.length (s1.map (Value.int .i64))), (w3.heap.size, Ka, fun V : World => RI V w3.heap.size (.slice vaa L.length vca) L vsa), (Ka, Ka + 1, fun V : World => V.heap[Ka]? = some (Obj.cells #[.int .i64 C, .slice vaa L.length vca] 33)), (Va.heap.size, w5.heap.size, fun V : World => True), (w5.heap.size, w6.heap.size, fun V : World => True), (w6.heap.size, Kg, fun V : World => RI V w6.heap.size (.slice vag L.length vcg) (mkG 1 L L.length) vsg), (Kg, Kg + 1, fun V : World => V.heap[Kg]? = some (Obj.cells #[.int .i64 C, .slice vag L.length vcg] 33)), (w8.heap.size, w9.heap.size, fun V : World => RI V w8.heap.size (.slice (some ⟨e0.1, 0, none⟩) s0.length s0.length) s0 e0.2), (w10.heap.size, w11.heap.size, fun V : World => V.ownsRow w10.heap.size 2 1 (.slice (some ⟨e1, 0, none⟩) s1.length s1.length) s1.length (s1.map (Value.int .i64))), (w17.heap.size, w18.heap.size, fun V : World => RI V w17.heap.size (.slice (some ⟨gh0.1, 0, none⟩) s0.length s0.length) s0 gh0.2), (w18.heap.size, w19.heap.size, fun V : World => V.ownsRow w18.heap.size 2 1 (.slice (some ⟨gh1, 0, none⟩) s1.length s1.length) s1.length (s1.map (Value.int .i64))), (w19.heap.size, Kh, fun V : World => RI V w19.heap.size (.slice vah L.length vch) L vsh), (Kh, Kh + 1, fun V : World => V.heap[Kh]? = some (Obj.cells #[.int .i64 C, .slice vah L.length vch] 33))] w22) := Z24.out.next hb
  clear Z24 hb
  rw [← HTT.out]
  go_wp2
  go_returns
  exact ⟨rfl, Z25.out.bl⟩

set_option maxRecDepth 100000 in
theorem rt9_lifted (os : Os) (started : os.Started) (H : Type) (enc : TypeId × Value → H) :
    ReturnsInHanded {} Try.checked os 6 .any (Rows.fnExactRatesOfSpec.pre6 enc Try.prog Try.f6 Rows.fnExactRatesOfRow.domain false) (Rows.fnExactRatesOfSpec.post enc Try.prog Try.f6 false true false false) := by
  refine returnsInHanded_of_change (C := Try.checked) own started (by kernel_rfl) Try.func6
    (ChangeSpec.witness6 (enc := enc) (C := Try.checked) false ⟨#[], #[.slice none 0 0, .slice none 0 0], []⟩ 8 (by kernel_rfl) (by kernel_rfl) (by kernel_rfl) (by kernel_rfl)) ?_
  intro W base args ds gs before hval0 hW hcnd _
  have hval : ∀ (j : Nat) t v, Try.f6.params[j]? = some t → args[j]? = some v → Value.okWide Try.prog W .any base t v := hval0
  have hW' := hW
  obtain ⟨p, q, hA0, hV, rfl, hfz, hnd⟩ := hW
  have hA : DataW.TrodAll enc Try.prog W 0 (fun _ => true) true Try.f6.params.toList args.toList ds p := hA0
  rw [Try.params6] at hA hval
  obtain ⟨v0, vs0, d0, ds0, p0, q0, hargs, rfl, rfl, h0, r0⟩ := trodAll_cons hA
  obtain ⟨v1, vs1, d1, ds1, p1, q1, rfl, rfl, rfl, h1, r1⟩ := trodAll_cons r0
  obtain ⟨rfl, rfl, rfl⟩ := trodAll_nil r1
  obtain rfl : args = #[v0, v1] := by cases args; simp_all
  obtain ⟨rfl, rfl⟩ := trodVars_none hV
  have k0 := h0
  have lt0 : ∀ x ∈ p0, x.block < W.heap.size := by obtain ⟨m, hm⟩ := k0; exact DataW.trod_lt m _ _ _ hm
  obtain ⟨sa0, sn0, sc0, s0, rfl, rb0, sl0⟩ := rows_open (hval 0 22 v0 rfl rfl) h0
  have k1 := h1
  have lt1 : ∀ x ∈ p1, x.block < W.heap.size := by obtain ⟨m, hm⟩ := k1; exact DataW.trod_lt m _ _ _ hm
  obtain ⟨sa1, sn1, sc1, s1, rfl, ri1, sl1⟩ := ints_open (hval 1 38 v1 rfl rfl) h1
  clear hA0 hval0
  refine (law_rt9 s0 sl0 rb0 s1 sl1 ri1).mono fun e W' ⟨he, hg⟩ => ?_
  subst he
  exact ⟨_, rfl, _, _, _, [], _, [], hW', trodAll_mk1 (shut_bool Try.underlying4 _), (trodAll_cons_mk (Below.trod laidOut (by kernel_rfl) (of_decide_eq_true (by kernel_rfl)) k0 hg lt0) (trodAll_cons_mk (Below.trod laidOut (by kernel_rfl) (of_decide_eq_true (by kernel_rfl)) k1 hg lt1) trodAll_mk0)), rfl, hg.frame _, fun h => by cases h⟩

theorem rt9_over : Rows.fnExactRatesOfRow.holds Try.pinned (OpenSpec.ofChange Rows.fnExactRatesOfSpec) :=
  OpenClaim.holds_of_wide 6 Try.f6 rfl rfl rfl rfl rfl rfl rfl ⟨rfl, rfl, rfl, rfl, rfl⟩ rfl rfl rfl rfl rfl (by kernel_rfl) Try.func6 (by kernel_rfl)
    (of_decide_eq_true (by kernel_rfl)) (by unfold Func.isWrapper; first | (rw [if_pos (by decide +kernel)]; kernel_rfl) | (rw [if_neg (by decide +kernel)]; exact ⟨rfl, rfl⟩))
    (fun os started H enc _ => rt9_lifted os started H enc)

theorem rt9_proved : Rows.FnExactRatesOfSaid :=
  rt9_over
#print axioms rt9_proved

end Go.Proofs.Yteoddodeppgjaaa
