/- Proved here: 'the program's RunLoop answers as the model's; it writes into no argument and keeps nothing of one; its answer owns its memory, behind another call too', without a condition. -/
import Derived.Test.YtiipepddlbgodaaRuI
import Derived.Test.YtiipepddlbgodaaRuS
import Derived.Test.YtiipepddlbgodaaLrB
import Derived.Test.YtiipepddlbgodaaLpO
import Derived.Test.YtiipepddlbgodaaNlW
import Derived.Test.YtiipepddlbgodaaNlQ
import Derived.Test.YtiipepddlbgodaaMkI
import Derived.Test.YtiipepddlbgodaaLwS
import Derived.Test.YtiipepddlbgodaaRows
namespace Go.Proofs.Ytiipepddlbgodaa
open Go.ChangeShapes Go.WideShapes Go.ChangeAt Go.RowKit Go.Joins
set_option linter.unusedVariables false
set_option linter.unusedSimpArgs false

theorem own : ownKnob Try.prog.godebug = none := by kernel_rfl
theorem laidOut : laidOutB Try.prog = true := by kernel_rfl

set_option maxRecDepth 10000 in
set_option maxHeartbeats 25600000 in
theorem law_ru16 {w : World} (da_0 db_0 dc_0 dd_0 : Int) {sa1 : Option Addr} {sn1 sc1 : Nat} (s1 : List Int) (hm1 : s1.length ≤ maxLen) (hr1 : RdI w (.slice sa1 sn1 sc1) s1) :
    Calls Try.prog 7 #[.agg #[.int .i64 da_0, .int .i64 db_0, .int .i64 dc_0, .int .i64 dd_0], .slice sa1 sn1 sc1] w fun e w' => e = .returned (.bool true) ∧ Below w.heap.size w w' := by
  have HM1 : Hid (sn1 ≤ maxLen) := by unfold Hid; rw [hr1.len]; exact hm1
  have HR1 : Hid (RdI w (.slice sa1 sn1 sc1) s1) := hr1
  have HE1 : Hid (sn1 = s1.length) := hr1.len
  clear hm1 hr1
  obtain ⟨BX0, hBX0⟩ : ∃ BX, BX = Obj.cells #[.int .i64 da_0, .int .i64 db_0, .int .i64 dc_0, .int .i64 dd_0] 42 := ⟨_, rfl⟩
  have Z0 : Hid (LS w [(w.heap.size, w.heap.size + 1, fun V : World => V.heap[w.heap.size]? = some BX0)] (w.alloc (Obj.cells #[.int .i64 da_0, .int .i64 db_0, .int .i64 dc_0, .int .i64 dd_0] 42))) := by
    have p0 := LS.start w
    have p1 := LS.push (V' := (w.alloc (Obj.cells #[.int .i64 da_0, .int .i64 db_0, .int .i64 dc_0, .int .i64 dd_0] 42))) p0 (by (repeat' (first | (with_reducible exact Below.refl _ _) | (with_reducible assumption) | (with_reducible refine Below.setCell ?_ ?_ _) | (with_reducible refine Below.alloc ?_ ?_ _) | (with_reducible refine below_drewN ?_ _) | (with_reducible refine Below.drew ?_) | (with_reducible exact Nat.le_refl _) | omega | (simp; done) | (simp; omega)))) (Ow.block (k := w.heap.size) (o := BX0) (by rw [hBX0]; have := heap_alloc_new w (Obj.cells #[.int .i64 da_0, .int .i64 db_0, .int .i64 dc_0, .int .i64 dd_0] 42); simpa using this)) (by simp)
    exact p1
  have TB0 : Hid (BX0 = Obj.cells #[.int .i64 da_0, .int .i64 db_0, .int .i64 dc_0, .int .i64 dd_0] 42) := hBX0
  clear hBX0
  go_enter Try.func7, Try.ntmps7
  by_cases hf1 : (1048576 : Int) < (sn1 : Int)
  · go_wp2
    go_returns
    exact ⟨rfl, by (repeat' (first | (with_reducible exact Below.refl _ _) | (with_reducible assumption) | (with_reducible refine Below.setCell ?_ ?_ _) | (with_reducible refine Below.alloc ?_ ?_ _) | (with_reducible refine below_drewN ?_ _) | (with_reducible refine Below.drew ?_) | (with_reducible exact Nat.le_refl _) | omega | (simp; done) | (simp; omega)))⟩
  have HL1 : Hid (s1.length ≤ 1048576) := by unfold Hid; rw [← HE1.out]; omega
  obtain ⟨C, hC⟩ : ∃ X, X = ruC da_0 db_0 dc_0 dd_0 s1 := ⟨_, rfl⟩
  obtain ⟨L, hL⟩ : ∃ X, X = ruI da_0 db_0 dc_0 dd_0 s1 := ⟨_, rfl⟩
  obtain ⟨ES, hES⟩ : ∃ X, X = ruE da_0 db_0 dc_0 dd_0 s1 := ⟨_, rfl⟩
  have HLN : Hid (L.length ≤ 1048576 ∧ ES.length ≤ 1048576) := by unfold Hid; rw [hL, hES]; exact ⟨Nat.le_trans (ru_len da_0 db_0 dc_0 dd_0 s1).1 (by decide), Nat.le_trans (ru_len da_0 db_0 dc_0 dd_0 s1).2 (by decide)⟩
  have HSP : Hid (∀ (W : World) (g1 : Nat), (RdI W (.slice (some ⟨g1, 0, none⟩) s1.length s1.length) s1) → Calls Try.prog 27 #[.agg #[.int .i64 da_0, .int .i64 db_0, .int .i64 dc_0, .int .i64 dd_0], .slice (some ⟨g1, 0, none⟩) s1.length s1.length] W fun e w' => ∃ (vq : Value × Value) (_ : Unit), e = .returned (.agg #[.int .i64 C, vq.1, vq.2]) ∧ OwL w' W.heap.size vq.1 vq.2 L ES ∧ Below W.heap.size W w') := fun W g1 h1 => by
    rw [hES, hL, hC]
    exact spec_ru da_0 db_0 dc_0 dd_0 HL1.out h1
  have HIM : Hid (∀ (W : World) (g1 : Nat), (RdI W (.slice (some ⟨g1, 0, none⟩) s1.length s1.length) s1) → Calls Try.prog 28 #[.agg #[.int .i64 da_0, .int .i64 db_0, .int .i64 dc_0, .int .i64 dd_0], .slice (some ⟨g1, 0, none⟩) s1.length s1.length] W fun e w' => ∃ (vq : Value × Value) (_ : Unit), e = .returned (.agg #[.int .i64 C, vq.1, vq.2]) ∧ OwL w' W.heap.size vq.1 vq.2 L ES ∧ Below W.heap.size W w') := fun W g1 h1 => by
    rw [hES, hL, hC]
    exact impl_ru da_0 db_0 dc_0 dd_0 HL1.out h1
  clear hC hL hES 
  have kp0 := Z0.out.get 0 rfl
  rw [TB0.out] at kp0
  have cp0_0 : (w.alloc (Obj.cells #[.int .i64 da_0, .int .i64 db_0, .int .i64 dc_0, .int .i64 dd_0] 42)).cell? ⟨w.heap.size, 0, none⟩ = some (.int .i64 da_0) := cellOf kp0 0 rfl
  have cp0_1 : (w.alloc (Obj.cells #[.int .i64 da_0, .int .i64 db_0, .int .i64 dc_0, .int .i64 dd_0] 42)).cell? ⟨w.heap.size, 1, none⟩ = some (.int .i64 db_0) := cellOf kp0 1 rfl
  have cp0_2 : (w.alloc (Obj.cells #[.int .i64 da_0, .int .i64 db_0, .int .i64 dc_0, .int .i64 dd_0] 42)).cell? ⟨w.heap.size, 2, none⟩ = some (.int .i64 dc_0) := cellOf kp0 2 rfl
  have cp0_3 : (w.alloc (Obj.cells #[.int .i64 da_0, .int .i64 db_0, .int .i64 dc_0, .int .i64 dd_0] 42)).cell? ⟨w.heap.size, 3, none⟩ = some (.int .i64 dd_0) := cellOf kp0 3 rfl
  have lp0 : w.heap.size < (w.alloc (Obj.cells #[.int .i64 da_0, .int .i64 db_0, .int .i64 dc_0, .int .i64 dd_0] 42)).heap.size := ltOf kp0
  clear kp0
  go_wp2_with (fail)
  clear cp0_0 cp0_1 cp0_2 cp0_3 lp0
  refine (toLoop_is da_0 db_0 dc_0 dd_0 _).mono ?_
  rintro e w1 ⟨rfl, hb⟩
  have Z1 : Hid (LS w [(w.heap.size, w.heap.size + 1, fun V : World => V.heap[w.heap.size]? = some BX0)] w1) := Z0.out.next hb
  clear Z0 hb
  go_wp2_with (fail)
  refine (toInt64S_any HL1.out (HR1.out.below Z1.out.bl)).mono ?_
  rintro e w2 ⟨ga1, rfl, ho, hb⟩
  have Z2 : Hid (LS w [(w.heap.size, w.heap.size + 1, fun V : World => V.heap[w.heap.size]? = some BX0), (w1.heap.size, w2.heap.size, fun V : World => V.ownsRow w1.heap.size 2 1 (.slice (some ⟨ga1, 0, none⟩) s1.length s1.length) s1.length (s1.map (Value.int .i64)))] w2) := Z1.out.push hb (Ow.rowAll ho hb) (Nat.le_refl _)
  clear Z1 hb ho
  go_wp2_with (fail)
  refine (HSP.out w2 ga1 (IS.rg (B := w1.heap.size) (show w2.ownsRow w1.heap.size 2 1 (.slice (some ⟨ga1, 0, none⟩) s1.length s1.length) s1.length (s1.map (Value.int .i64)) from Z2.out.get 1 rfl))).mono ?_
  rintro e w3 ⟨vq, vr, rfl, hrq, hb⟩
  obtain ⟨vq1, vq2⟩ := vq
  obtain ⟨vaa, vca, he1⟩ := hrq.form1
  obtain ⟨uaa, uca, he2⟩ := hrq.form2
  simp only at he1 he2 hrq
  subst he1 he2
  have Z3 : Hid (LS w [(w.heap.size, w.heap.size + 1, fun V : World => V.heap[w.heap.size]? = some BX0), (w1.heap.size, w2.heap.size, fun V : World => V.ownsRow w1.heap.size 2 1 (.slice (some ⟨ga1, 0, none⟩) s1.length s1.length) s1.length (s1.map (Value.int .i64))), (w2.heap.size, w3.heap.size, fun V : World => OwL V w2.heap.size (.slice vaa L.length vca) (.slice uaa ES.length uca) L ES)] w3) := Z2.out.push hb (Ow.rAllL2 hrq hb) (Nat.le_refl _)
  clear Z2 hb hrq
  have Z4 : Hid (LS w [(w.heap.size, w.heap.size + 1, fun V : World => V.heap[w.heap.size]? = some BX0), (w1.heap.size, w2.heap.size, fun V : World => V.ownsRow w1.heap.size 2 1 (.slice (some ⟨ga1, 0, none⟩) s1.length s1.length) s1.length (s1.map (Value.int .i64))), (w2.heap.size, w3.heap.size, fun V : World => OwL V w2.heap.size (.slice vaa L.length vca) (.slice uaa ES.length uca) L ES), (w3.heap.size, w3.heap.size + 1, fun V : World => V.heap[w3.heap.size]? = some (Obj.cells #[.int .i64 C, .slice vaa L.length vca, .slice uaa ES.length uca] 48))] (w3.alloc (Obj.cells #[.int .i64 C, .slice vaa L.length vca, .slice uaa ES.length uca] 48))) := Z3.out.push (by (repeat' (first | (with_reducible exact Below.refl _ _) | (with_reducible assumption) | (with_reducible refine Below.setCell ?_ ?_ _) | (with_reducible refine Below.alloc ?_ ?_ _) | (with_reducible refine below_drewN ?_ _) | (with_reducible refine Below.drew ?_) | (with_reducible exact Nat.le_refl _) | omega | (simp; done) | (simp; omega)))) (Ow.block (heap_alloc_new _ _)) (Nat.le_refl _)
  clear Z3
  go_wp2_with (fail)
  obtain ⟨Va, hV⟩ : ∃ V, V = w3.alloc (Obj.cells #[.int .i64 C, .slice vaa L.length vca, .slice uaa ES.length uca] 48) := ⟨_, rfl⟩
  rw [← hV] at Z4 ⊢
  obtain ⟨Ka, hK⟩ : ∃ K, K = w3.heap.size := ⟨_, rfl⟩
  rw [← hK] at Z4  ⊢
  clear hV hK
  refine (toInt64S_any HL1.out (HR1.out.below Z4.out.bl)).mono ?_
  rintro e w4 ⟨x1, rfl, ho, hb⟩
  have HX1 : Hid (∀ g, (.slice (some ⟨x1, 0, none⟩) s1.length s1.length : Value).ownBlock = some g → g < w4.heap.size) := fun g hg => (World.ownsRow.lt ho g hg).2
  have Z5 : Hid (LS w [(w.heap.size, w.heap.size + 1, fun V : World => V.heap[w.heap.size]? = some BX0), (w1.heap.size, w2.heap.size, fun V : World => V.ownsRow w1.heap.size 2 1 (.slice (some ⟨ga1, 0, none⟩) s1.length s1.length) s1.length (s1.map (Value.int .i64))), (w2.heap.size, Ka, fun V : World => OwL V w2.heap.size (.slice vaa L.length vca) (.slice uaa ES.length uca) L ES), (Ka, Ka + 1, fun V : World => V.heap[Ka]? = some (Obj.cells #[.int .i64 C, .slice vaa L.length vca, .slice uaa ES.length uca] 48)), (Va.heap.size, w4.heap.size, fun V : World => V.ownsRow Va.heap.size 2 1 (.slice (some ⟨x1, 0, none⟩) s1.length s1.length) s1.length (s1.map (Value.int .i64)))] w4) := Z4.out.push hb (Ow.rowAll ho hb) (Nat.le_refl _)
  clear Z4 hb ho
  have kp0 := Z5.out.get 0 rfl
  rw [TB0.out] at kp0
  have cp0_0 : w4.cell? ⟨w.heap.size, 0, none⟩ = some (.int .i64 da_0) := cellOf kp0 0 rfl
  have cp0_1 : w4.cell? ⟨w.heap.size, 1, none⟩ = some (.int .i64 db_0) := cellOf kp0 1 rfl
  have cp0_2 : w4.cell? ⟨w.heap.size, 2, none⟩ = some (.int .i64 dc_0) := cellOf kp0 2 rfl
  have cp0_3 : w4.cell? ⟨w.heap.size, 3, none⟩ = some (.int .i64 dd_0) := cellOf kp0 3 rfl
  have lp0 : w.heap.size < w4.heap.size := ltOf kp0
  clear kp0
  go_wp2_with (fail)
  clear cp0_0 cp0_1 cp0_2 cp0_3 lp0
  refine (toLoop_is da_0 db_0 dc_0 dd_0 _).mono ?_
  rintro e w5 ⟨rfl, hb⟩
  have Z6 : Hid (LS w [(w.heap.size, w.heap.size + 1, fun V : World => V.heap[w.heap.size]? = some BX0), (w1.heap.size, w2.heap.size, fun V : World => V.ownsRow w1.heap.size 2 1 (.slice (some ⟨ga1, 0, none⟩) s1.length s1.length) s1.length (s1.map (Value.int .i64))), (w2.heap.size, Ka, fun V : World => OwL V w2.heap.size (.slice vaa L.length vca) (.slice uaa ES.length uca) L ES), (Ka, Ka + 1, fun V : World => V.heap[Ka]? = some (Obj.cells #[.int .i64 C, .slice vaa L.length vca, .slice uaa ES.length uca] 48)), (Va.heap.size, w4.heap.size, fun V : World => V.ownsRow Va.heap.size 2 1 (.slice (some ⟨x1, 0, none⟩) s1.length s1.length) s1.length (s1.map (Value.int .i64)))] w5) := Z5.out.next hb
  clear Z5 hb
  go_wp2_with (fail)
  refine (HIM.out w5 x1 (IS.rg (B := Va.heap.size) (show w5.ownsRow Va.heap.size 2 1 (.slice (some ⟨x1, 0, none⟩) s1.length s1.length) s1.length (s1.map (Value.int .i64)) from Z6.out.get 4 rfl))).mono ?_
  rintro e w6 ⟨vq, vr, rfl, hrq, hb⟩
  obtain ⟨vq1, vq2⟩ := vq
  obtain ⟨vag, vcg, he1⟩ := hrq.form1
  obtain ⟨uag, ucg, he2⟩ := hrq.form2
  simp only at he1 he2 hrq
  subst he1 he2
  have HXg : Hid (LtL (.slice vag L.length vcg) (.slice uag ES.length ucg) w6.heap.size) := hrq.lt
  have Z7 : Hid (LS w [(w.heap.size, w.heap.size + 1, fun V : World => V.heap[w.heap.size]? = some BX0), (w1.heap.size, w2.heap.size, fun V : World => V.ownsRow w1.heap.size 2 1 (.slice (some ⟨ga1, 0, none⟩) s1.length s1.length) s1.length (s1.map (Value.int .i64))), (w2.heap.size, Ka, fun V : World => OwL V w2.heap.size (.slice vaa L.length vca) (.slice uaa ES.length uca) L ES), (Ka, Ka + 1, fun V : World => V.heap[Ka]? = some (Obj.cells #[.int .i64 C, .slice vaa L.length vca, .slice uaa ES.length uca] 48)), (Va.heap.size, w4.heap.size, fun V : World => V.ownsRow Va.heap.size 2 1 (.slice (some ⟨x1, 0, none⟩) s1.length s1.length) s1.length (s1.map (Value.int .i64))), (w5.heap.size, w6.heap.size, fun V : World => OwL V w5.heap.size (.slice vag L.length vcg) (.slice uag ES.length ucg) L ES)] w6) := Z6.out.push hb (Ow.rAllL2 hrq hb) (Nat.le_refl _)
  clear Z6 hb hrq
  have kva := Z7.out.get 3 rfl
  have cva_0 : w6.cell? ⟨Ka, 0, none⟩ = some (.int .i64 C) := cellOf kva 0 rfl
  have cva_1 : w6.cell? ⟨Ka, 1, none⟩ = some (.slice vaa L.length vca) := cellOf kva 1 rfl
  have cva_2 : w6.cell? ⟨Ka, 2, none⟩ = some (.slice uaa ES.length uca) := cellOf kva 2 rfl
  have lva : Ka < w6.heap.size := ltOf kva
  clear kva
  have Z8 : Hid (LS w [(w.heap.size, w.heap.size + 1, fun V : World => V.heap[w.heap.size]? = some BX0), (w1.heap.size, w2.heap.size, fun V : World => V.ownsRow w1.heap.size 2 1 (.slice (some ⟨ga1, 0, none⟩) s1.length s1.length) s1.length (s1.map (Value.int .i64))), (w2.heap.size, Ka, fun V : World => OwL V w2.heap.size (.slice vaa L.length vca) (.slice uaa ES.length uca) L ES), (Ka, Ka + 1, fun V : World => V.heap[Ka]? = some (Obj.cells #[.int .i64 C, .slice vaa L.length vca, .slice uaa ES.length uca] 48)), (Va.heap.size, w4.heap.size, fun V : World => V.ownsRow Va.heap.size 2 1 (.slice (some ⟨x1, 0, none⟩) s1.length s1.length) s1.length (s1.map (Value.int .i64))), (w5.heap.size, w6.heap.size, fun V : World => OwL V w5.heap.size (.slice vag L.length vcg) (.slice uag ES.length ucg) L ES), (w6.heap.size, w6.heap.size + 1, fun V : World => V.heap[w6.heap.size]? = some (Obj.cells #[.int .i64 C, .slice vag L.length vcg, .slice uag ES.length ucg] 48))] (w6.alloc (Obj.cells #[.int .i64 C, .slice vag L.length vcg, .slice uag ES.length ucg] 48))) := Z7.out.push (by (repeat' (first | (with_reducible exact Below.refl _ _) | (with_reducible assumption) | (with_reducible refine Below.setCell ?_ ?_ _) | (with_reducible refine Below.alloc ?_ ?_ _) | (with_reducible refine below_drewN ?_ _) | (with_reducible refine Below.drew ?_) | (with_reducible exact Nat.le_refl _) | omega | (simp; done) | (simp; omega)))) (Ow.block (heap_alloc_new _ _)) (Nat.le_refl _)
  clear Z7
  go_wp2_with (fail)
  obtain ⟨Vg, hV⟩ : ∃ V, V = w6.alloc (Obj.cells #[.int .i64 C, .slice vag L.length vcg, .slice uag ES.length ucg] 48) := ⟨_, rfl⟩
  rw [← hV] at Z8 ⊢
  obtain ⟨Kg, hK⟩ : ∃ K, K = w6.heap.size := ⟨_, rfl⟩
  rw [← hK] at Z8 HXg ⊢
  clear hV hK
  clear cva_0 cva_1 cva_2 lva
  refine (eqLoopResult_to C HLN.out (OwL.rd (B := w5.heap.size) (show OwL Vg w5.heap.size (.slice vag L.length vcg) (.slice uag ES.length ucg) L ES from (Z8.out.get 5 rfl))) (OwL.rd (B := w2.heap.size) (show OwL Vg w2.heap.size (.slice vaa L.length vca) (.slice uaa ES.length uca) L ES from (Z8.out.get 2 rfl)))).mono ?_
  rintro e w7 ⟨rfl, hb⟩
  have Z9 : Hid (LS w [(w.heap.size, w.heap.size + 1, fun V : World => V.heap[w.heap.size]? = some BX0), (w1.heap.size, w2.heap.size, fun V : World => V.ownsRow w1.heap.size 2 1 (.slice (some ⟨ga1, 0, none⟩) s1.length s1.length) s1.length (s1.map (Value.int .i64))), (w2.heap.size, Ka, fun V : World => OwL V w2.heap.size (.slice vaa L.length vca) (.slice uaa ES.length uca) L ES), (Ka, Ka + 1, fun V : World => V.heap[Ka]? = some (Obj.cells #[.int .i64 C, .slice vaa L.length vca, .slice uaa ES.length uca] 48)), (Va.heap.size, w4.heap.size, fun V : World => V.ownsRow Va.heap.size 2 1 (.slice (some ⟨x1, 0, none⟩) s1.length s1.length) s1.length (s1.map (Value.int .i64))), (w5.heap.size, Kg, fun V : World => OwL V w5.heap.size (.slice vag L.length vcg) (.slice uag ES.length ucg) L ES), (Kg, Kg + 1, fun V : World => V.heap[Kg]? = some (Obj.cells #[.int .i64 C, .slice vag L.length vcg, .slice uag ES.length ucg] 48))] w7) := Z8.out.next hb
  clear Z8 hb
  go_wp2_with (fail)
  refine (toInt64S_any HL1.out (HR1.out.below Z9.out.bl)).mono ?_
  rintro e w8 ⟨e1, rfl, ho, hb⟩
  have Z10 : Hid (LS w [(w.heap.size, w.heap.size + 1, fun V : World => V.heap[w.heap.size]? = some BX0), (w1.heap.size, w2.heap.size, fun V : World => V.ownsRow w1.heap.size 2 1 (.slice (some ⟨ga1, 0, none⟩) s1.length s1.length) s1.length (s1.map (Value.int .i64))), (w2.heap.size, Ka, fun V : World => OwL V w2.heap.size (.slice vaa L.length vca) (.slice uaa ES.length uca) L ES), (Ka, Ka + 1, fun V : World => V.heap[Ka]? = some (Obj.cells #[.int .i64 C, .slice vaa L.length vca, .slice uaa ES.length uca] 48)), (Va.heap.size, w4.heap.size, fun V : World => V.ownsRow Va.heap.size 2 1 (.slice (some ⟨x1, 0, none⟩) s1.length s1.length) s1.length (s1.map (Value.int .i64))), (w5.heap.size, Kg, fun V : World => OwL V w5.heap.size (.slice vag L.length vcg) (.slice uag ES.length ucg) L ES), (Kg, Kg + 1, fun V : World => V.heap[Kg]? = some (Obj.cells #[.int .i64 C, .slice vag L.length vcg, .slice uag ES.length ucg] 48)), (w7.heap.size, w8.heap.size, fun V : World => V.ownsRow w7.heap.size 2 1 (.slice (some ⟨e1, 0, none⟩) s1.length s1.length) s1.length (s1.map (Value.int .i64)))] w8) := Z9.out.push hb (Ow.rowAll ho hb) (Nat.le_refl _)
  clear Z9 hb ho
  go_wp2_with (fail)
  refine (eqInt64S_same (by have := HL1.out; omega) (IS.rg (B := Va.heap.size) (show w8.ownsRow Va.heap.size 2 1 (.slice (some ⟨x1, 0, none⟩) s1.length s1.length) s1.length (s1.map (Value.int .i64)) from Z10.out.get 4 rfl)) (IS.rg (B := w7.heap.size) (show w8.ownsRow w7.heap.size 2 1 (.slice (some ⟨e1, 0, none⟩) s1.length s1.length) s1.length (s1.map (Value.int .i64)) from Z10.out.get 7 rfl))).mono ?_
  rintro e w9 ⟨rfl, hb⟩
  have Z11 : Hid (LS w [(w.heap.size, w.heap.size + 1, fun V : World => V.heap[w.heap.size]? = some BX0), (w1.heap.size, w2.heap.size, fun V : World => V.ownsRow w1.heap.size 2 1 (.slice (some ⟨ga1, 0, none⟩) s1.length s1.length) s1.length (s1.map (Value.int .i64))), (w2.heap.size, Ka, fun V : World => OwL V w2.heap.size (.slice vaa L.length vca) (.slice uaa ES.length uca) L ES), (Ka, Ka + 1, fun V : World => V.heap[Ka]? = some (Obj.cells #[.int .i64 C, .slice vaa L.length vca, .slice uaa ES.length uca] 48)), (Va.heap.size, w4.heap.size, fun V : World => V.ownsRow Va.heap.size 2 1 (.slice (some ⟨x1, 0, none⟩) s1.length s1.length) s1.length (s1.map (Value.int .i64))), (w5.heap.size, Kg, fun V : World => OwL V w5.heap.size (.slice vag L.length vcg) (.slice uag ES.length ucg) L ES), (Kg, Kg + 1, fun V : World => V.heap[Kg]? = some (Obj.cells #[.int .i64 C, .slice vag L.length vcg, .slice uag ES.length ucg] 48)), (w7.heap.size, w8.heap.size, fun V : World => V.ownsRow w7.heap.size 2 1 (.slice (some ⟨e1, 0, none⟩) s1.length s1.length) s1.length (s1.map (Value.int .i64)))] w9) := Z10.out.next hb
  clear Z10 hb
  go_wp2_with (fail)
  refine (markInt64S_to 1 HL1.out (by omega) (by omega) (show w9.ownsRow Va.heap.size 2 1 (.slice (some ⟨x1, 0, none⟩) s1.length s1.length) s1.length (s1.map (Value.int .i64)) from Z11.out.get 4 rfl) (HX1.out)).mono ?_
  rintro e w10 ⟨rfl, hm, hc⟩
  have Z12 : Hid (LS w [(w.heap.size, w.heap.size + 1, fun V : World => V.heap[w.heap.size]? = some BX0), (w1.heap.size, w2.heap.size, fun V : World => V.ownsRow w1.heap.size 2 1 (.slice (some ⟨ga1, 0, none⟩) s1.length s1.length) s1.length (s1.map (Value.int .i64))), (w2.heap.size, Ka, fun V : World => OwL V w2.heap.size (.slice vaa L.length vca) (.slice uaa ES.length uca) L ES), (Ka, Ka + 1, fun V : World => V.heap[Ka]? = some (Obj.cells #[.int .i64 C, .slice vaa L.length vca, .slice uaa ES.length uca] 48)), (Va.heap.size, w4.heap.size, fun V : World => True), (w5.heap.size, Kg, fun V : World => OwL V w5.heap.size (.slice vag L.length vcg) (.slice uag ES.length ucg) L ES), (Kg, Kg + 1, fun V : World => V.heap[Kg]? = some (Obj.cells #[.int .i64 C, .slice vag L.length vcg, .slice uag ES.length ucg] 48)), (w7.heap.size, w8.heap.size, fun V : World => V.ownsRow w7.heap.size 2 1 (.slice (some ⟨e1, 0, none⟩) s1.length s1.length) s1.length (s1.map (Value.int .i64)))] w10) := Z11.out.put 4 rfl hc ((Z11.out.own 4 rfl).true hc.size)
  clear Z11 hm hc
  obtain ⟨N1, hN⟩ : ∃ N, N = 1 + (s1.length : Int) := ⟨_, rfl⟩
  rw [← hN]
  have hN1 : 0 ≤ N1 ∧ N1 ≤ 10000000 ∧ ¬ N1 < 0 := by have := HL1.out; omega
  have hN1a := hN1.2.2
  clear hN
  have kvg := Z12.out.get 6 rfl
  have cvg_0 : w10.cell? ⟨Kg, 0, none⟩ = some (.int .i64 C) := cellOf kvg 0 rfl
  have cvg_1 : w10.cell? ⟨Kg, 1, none⟩ = some (.slice vag L.length vcg) := cellOf kvg 1 rfl
  have cvg_2 : w10.cell? ⟨Kg, 2, none⟩ = some (.slice uag ES.length ucg) := cellOf kvg 2 rfl
  have lvg : Kg < w10.heap.size := ltOf kvg
  clear kvg
  have kva := Z12.out.get 3 rfl
  have cva_0 : w10.cell? ⟨Ka, 0, none⟩ = some (.int .i64 C) := cellOf kva 0 rfl
  have cva_1 : w10.cell? ⟨Ka, 1, none⟩ = some (.slice vaa L.length vca) := cellOf kva 1 rfl
  have cva_2 : w10.cell? ⟨Ka, 2, none⟩ = some (.slice uaa ES.length uca) := cellOf kva 2 rfl
  have lva : Ka < w10.heap.size := ltOf kva
  clear kva
  go_wp2_with (fail)
  clear cvg_0 cvg_1 cvg_2 lvg cva_0 cva_1 cva_2 lva
  refine (eqLoopResult_to C HLN.out (OwL.rd (B := w5.heap.size) (show OwL w10 w5.heap.size (.slice vag L.length vcg) (.slice uag ES.length ucg) L ES from (Z12.out.get 5 rfl))) (OwL.rd (B := w2.heap.size) (show OwL w10 w2.heap.size (.slice vaa L.length vca) (.slice uaa ES.length uca) L ES from (Z12.out.get 2 rfl)))).mono ?_
  rintro e w11 ⟨rfl, hb⟩
  have Z13 : Hid (LS w [(w.heap.size, w.heap.size + 1, fun V : World => V.heap[w.heap.size]? = some BX0), (w1.heap.size, w2.heap.size, fun V : World => V.ownsRow w1.heap.size 2 1 (.slice (some ⟨ga1, 0, none⟩) s1.length s1.length) s1.length (s1.map (Value.int .i64))), (w2.heap.size, Ka, fun V : World => OwL V w2.heap.size (.slice vaa L.length vca) (.slice uaa ES.length uca) L ES), (Ka, Ka + 1, fun V : World => V.heap[Ka]? = some (Obj.cells #[.int .i64 C, .slice vaa L.length vca, .slice uaa ES.length uca] 48)), (Va.heap.size, w4.heap.size, fun V : World => True), (w5.heap.size, Kg, fun V : World => OwL V w5.heap.size (.slice vag L.length vcg) (.slice uag ES.length ucg) L ES), (Kg, Kg + 1, fun V : World => V.heap[Kg]? = some (Obj.cells #[.int .i64 C, .slice vag L.length vcg, .slice uag ES.length ucg] 48)), (w7.heap.size, w8.heap.size, fun V : World => V.ownsRow w7.heap.size 2 1 (.slice (some ⟨e1, 0, none⟩) s1.length s1.length) s1.length (s1.map (Value.int .i64)))] w11) := Z12.out.next hb
  clear Z12 hb
  have kvg := Z13.out.get 6 rfl
  have cvg_0 : w11.cell? ⟨Kg, 0, none⟩ = some (.int .i64 C) := cellOf kvg 0 rfl
  have cvg_1 : w11.cell? ⟨Kg, 1, none⟩ = some (.slice vag L.length vcg) := cellOf kvg 1 rfl
  have cvg_2 : w11.cell? ⟨Kg, 2, none⟩ = some (.slice uag ES.length ucg) := cellOf kvg 2 rfl
  have lvg : Kg < w11.heap.size := ltOf kvg
  clear kvg
  go_wp2_with (fail)
  clear cvg_0 cvg_1 cvg_2 lvg
  refine (markLoopResult_to C HLN.out (show OwL w11 w5.heap.size (.slice vag L.length vcg) (.slice uag ES.length ucg) L ES from (Z13.out.get 5 rfl)) HXg.out).mono ?_
  rintro e w12 ⟨rfl, hm, hc⟩
  have Z14 : Hid (LS w [(w.heap.size, w.heap.size + 1, fun V : World => V.heap[w.heap.size]? = some BX0), (w1.heap.size, w2.heap.size, fun V : World => V.ownsRow w1.heap.size 2 1 (.slice (some ⟨ga1, 0, none⟩) s1.length s1.length) s1.length (s1.map (Value.int .i64))), (w2.heap.size, Ka, fun V : World => OwL V w2.heap.size (.slice vaa L.length vca) (.slice uaa ES.length uca) L ES), (Ka, Ka + 1, fun V : World => V.heap[Ka]? = some (Obj.cells #[.int .i64 C, .slice vaa L.length vca, .slice uaa ES.length uca] 48)), (Va.heap.size, w4.heap.size, fun V : World => True), (w5.heap.size, Kg, fun V : World => MkL2 V w5.heap.size (.slice vag L.length vcg) (.slice uag ES.length ucg) L.length ES.length), (Kg, Kg + 1, fun V : World => V.heap[Kg]? = some (Obj.cells #[.int .i64 C, .slice vag L.length vcg, .slice uag ES.length ucg] 48)), (w7.heap.size, w8.heap.size, fun V : World => V.ownsRow w7.heap.size 2 1 (.slice (some ⟨e1, 0, none⟩) s1.length s1.length) s1.length (s1.map (Value.int .i64)))] w12) := Z13.out.put 5 rfl hc (Ow.mL2 hm (Z13.out.own 5 rfl).le.1 (Nat.le_trans (Z13.out.own 5 rfl).le.2 hc.size) HXg.out)
  clear Z13 hm hc
  obtain ⟨TT, hTT⟩ : ∃ TT, TT = 1 + (L.length : Int) + (ES.length : Int) := ⟨_, rfl⟩
  have hT0 : ¬ TT < 0 := by omega
  have HTT : Hid (TT = 1 + (L.length : Int) + (ES.length : Int)) := hTT
  rw [← hTT]
  clear hTT
  have kvg := Z14.out.get 6 rfl
  have cvg_0 : w12.cell? ⟨Kg, 0, none⟩ = some (.int .i64 C) := cellOf kvg 0 rfl
  have cvg_1 : w12.cell? ⟨Kg, 1, none⟩ = some (.slice vag L.length vcg) := cellOf kvg 1 rfl
  have cvg_2 : w12.cell? ⟨Kg, 2, none⟩ = some (.slice uag ES.length ucg) := cellOf kvg 2 rfl
  have lvg : Kg < w12.heap.size := ltOf kvg
  clear kvg
  go_wp2_with (fail)
  clear cvg_0 cvg_1 cvg_2 lvg
  refine (heldLoopResult_to C HLN.out (show MkL2 w12 w5.heap.size (.slice vag L.length vcg) (.slice uag ES.length ucg) L.length ES.length from Z14.out.get 5 rfl)).mono ?_
  rintro e w13 ⟨rfl, hb⟩
  have Z15 : Hid (LS w [(w.heap.size, w.heap.size + 1, fun V : World => V.heap[w.heap.size]? = some BX0), (w1.heap.size, w2.heap.size, fun V : World => V.ownsRow w1.heap.size 2 1 (.slice (some ⟨ga1, 0, none⟩) s1.length s1.length) s1.length (s1.map (Value.int .i64))), (w2.heap.size, Ka, fun V : World => OwL V w2.heap.size (.slice vaa L.length vca) (.slice uaa ES.length uca) L ES), (Ka, Ka + 1, fun V : World => V.heap[Ka]? = some (Obj.cells #[.int .i64 C, .slice vaa L.length vca, .slice uaa ES.length uca] 48)), (Va.heap.size, w4.heap.size, fun V : World => True), (w5.heap.size, Kg, fun V : World => MkL2 V w5.heap.size (.slice vag L.length vcg) (.slice uag ES.length ucg) L.length ES.length), (Kg, Kg + 1, fun V : World => V.heap[Kg]? = some (Obj.cells #[.int .i64 C, .slice vag L.length vcg, .slice uag ES.length ucg] 48)), (w7.heap.size, w8.heap.size, fun V : World => V.ownsRow w7.heap.size 2 1 (.slice (some ⟨e1, 0, none⟩) s1.length s1.length) s1.length (s1.map (Value.int .i64)))] w13) := Z14.out.next hb
  clear Z14 hb
  rw [← HTT.out]
  have kp0 := Z15.out.get 0 rfl
  rw [TB0.out] at kp0
  have cp0_0 : w13.cell? ⟨w.heap.size, 0, none⟩ = some (.int .i64 da_0) := cellOf kp0 0 rfl
  have cp0_1 : w13.cell? ⟨w.heap.size, 1, none⟩ = some (.int .i64 db_0) := cellOf kp0 1 rfl
  have cp0_2 : w13.cell? ⟨w.heap.size, 2, none⟩ = some (.int .i64 dc_0) := cellOf kp0 2 rfl
  have cp0_3 : w13.cell? ⟨w.heap.size, 3, none⟩ = some (.int .i64 dd_0) := cellOf kp0 3 rfl
  have lp0 : w.heap.size < w13.heap.size := ltOf kp0
  clear kp0
  go_wp2_with (fail)
  clear cp0_0 cp0_1 cp0_2 cp0_3 lp0
  refine (toLoop_is da_0 db_0 dc_0 dd_0 _).mono ?_
  rintro e w14 ⟨rfl, hb⟩
  have Z16 : Hid (LS w [(w.heap.size, w.heap.size + 1, fun V : World => V.heap[w.heap.size]? = some BX0), (w1.heap.size, w2.heap.size, fun V : World => V.ownsRow w1.heap.size 2 1 (.slice (some ⟨ga1, 0, none⟩) s1.length s1.length) s1.length (s1.map (Value.int .i64))), (w2.heap.size, Ka, fun V : World => OwL V w2.heap.size (.slice vaa L.length vca) (.slice uaa ES.length uca) L ES), (Ka, Ka + 1, fun V : World => V.heap[Ka]? = some (Obj.cells #[.int .i64 C, .slice vaa L.length vca, .slice uaa ES.length uca] 48)), (Va.heap.size, w4.heap.size, fun V : World => True), (w5.heap.size, Kg, fun V : World => MkL2 V w5.heap.size (.slice vag L.length vcg) (.slice uag ES.length ucg) L.length ES.length), (Kg, Kg + 1, fun V : World => V.heap[Kg]? = some (Obj.cells #[.int .i64 C, .slice vag L.length vcg, .slice uag ES.length ucg] 48)), (w7.heap.size, w8.heap.size, fun V : World => V.ownsRow w7.heap.size 2 1 (.slice (some ⟨e1, 0, none⟩) s1.length s1.length) s1.length (s1.map (Value.int .i64)))] w14) := Z15.out.next hb
  clear Z15 hb
  go_wp2_with (fail)
  refine (toInt64S_any HL1.out (HR1.out.below Z16.out.bl)).mono ?_
  rintro e w15 ⟨gh1, rfl, ho, hb⟩
  have Z17 : Hid (LS w [(w.heap.size, w.heap.size + 1, fun V : World => V.heap[w.heap.size]? = some BX0), (w1.heap.size, w2.heap.size, fun V : World => V.ownsRow w1.heap.size 2 1 (.slice (some ⟨ga1, 0, none⟩) s1.length s1.length) s1.length (s1.map (Value.int .i64))), (w2.heap.size, Ka, fun V : World => OwL V w2.heap.size (.slice vaa L.length vca) (.slice uaa ES.length uca) L ES), (Ka, Ka + 1, fun V : World => V.heap[Ka]? = some (Obj.cells #[.int .i64 C, .slice vaa L.length vca, .slice uaa ES.length uca] 48)), (Va.heap.size, w4.heap.size, fun V : World => True), (w5.heap.size, Kg, fun V : World => MkL2 V w5.heap.size (.slice vag L.length vcg) (.slice uag ES.length ucg) L.length ES.length), (Kg, Kg + 1, fun V : World => V.heap[Kg]? = some (Obj.cells #[.int .i64 C, .slice vag L.length vcg, .slice uag ES.length ucg] 48)), (w7.heap.size, w8.heap.size, fun V : World => V.ownsRow w7.heap.size 2 1 (.slice (some ⟨e1, 0, none⟩) s1.length s1.length) s1.length (s1.map (Value.int .i64))), (w14.heap.size, w15.heap.size, fun V : World => V.ownsRow w14.heap.size 2 1 (.slice (some ⟨gh1, 0, none⟩) s1.length s1.length) s1.length (s1.map (Value.int .i64)))] w15) := Z16.out.push hb (Ow.rowAll ho hb) (Nat.le_refl _)
  clear Z16 hb ho
  go_wp2_with (fail)
  refine (HIM.out w15 gh1 (IS.rg (B := w14.heap.size) (show w15.ownsRow w14.heap.size 2 1 (.slice (some ⟨gh1, 0, none⟩) s1.length s1.length) s1.length (s1.map (Value.int .i64)) from Z17.out.get 8 rfl))).mono ?_
  rintro e w16 ⟨vq, vr, rfl, hrq, hb⟩
  obtain ⟨vq1, vq2⟩ := vq
  obtain ⟨vah, vch, he1⟩ := hrq.form1
  obtain ⟨uah, uch, he2⟩ := hrq.form2
  simp only at he1 he2 hrq
  subst he1 he2
  have Z18 : Hid (LS w [(w.heap.size, w.heap.size + 1, fun V : World => V.heap[w.heap.size]? = some BX0), (w1.heap.size, w2.heap.size, fun V : World => V.ownsRow w1.heap.size 2 1 (.slice (some ⟨ga1, 0, none⟩) s1.length s1.length) s1.length (s1.map (Value.int .i64))), (w2.heap.size, Ka, fun V : World => OwL V w2.heap.size (.slice vaa L.length vca) (.slice uaa ES.length uca) L ES), (Ka, Ka + 1, fun V : World => V.heap[Ka]? = some (Obj.cells #[.int .i64 C, .slice vaa L.length vca, .slice uaa ES.length uca] 48)), (Va.heap.size, w4.heap.size, fun V : World => True), (w5.heap.size, Kg, fun V : World => MkL2 V w5.heap.size (.slice vag L.length vcg) (.slice uag ES.length ucg) L.length ES.length), (Kg, Kg + 1, fun V : World => V.heap[Kg]? = some (Obj.cells #[.int .i64 C, .slice vag L.length vcg, .slice uag ES.length ucg] 48)), (w7.heap.size, w8.heap.size, fun V : World => V.ownsRow w7.heap.size 2 1 (.slice (some ⟨e1, 0, none⟩) s1.length s1.length) s1.length (s1.map (Value.int .i64))), (w14.heap.size, w15.heap.size, fun V : World => V.ownsRow w14.heap.size 2 1 (.slice (some ⟨gh1, 0, none⟩) s1.length s1.length) s1.length (s1.map (Value.int .i64))), (w15.heap.size, w16.heap.size, fun V : World => OwL V w15.heap.size (.slice vah L.length vch) (.slice uah ES.length uch) L ES)] w16) := Z17.out.push hb (Ow.rAllL2 hrq hb) (Nat.le_refl _)
  clear Z17 hb hrq
  have kva := Z18.out.get 3 rfl
  have cva_0 : w16.cell? ⟨Ka, 0, none⟩ = some (.int .i64 C) := cellOf kva 0 rfl
  have cva_1 : w16.cell? ⟨Ka, 1, none⟩ = some (.slice vaa L.length vca) := cellOf kva 1 rfl
  have cva_2 : w16.cell? ⟨Ka, 2, none⟩ = some (.slice uaa ES.length uca) := cellOf kva 2 rfl
  have lva : Ka < w16.heap.size := ltOf kva
  clear kva
  have Z19 : Hid (LS w [(w.heap.size, w.heap.size + 1, fun V : World => V.heap[w.heap.size]? = some BX0), (w1.heap.size, w2.heap.size, fun V : World => V.ownsRow w1.heap.size 2 1 (.slice (some ⟨ga1, 0, none⟩) s1.length s1.length) s1.length (s1.map (Value.int .i64))), (w2.heap.size, Ka, fun V : World => OwL V w2.heap.size (.slice vaa L.length vca) (.slice uaa ES.length uca) L ES), (Ka, Ka + 1, fun V : World => V.heap[Ka]? = some (Obj.cells #[.int .i64 C, .slice vaa L.length vca, .slice uaa ES.length uca] 48)), (Va.heap.size, w4.heap.size, fun V : World => True), (w5.heap.size, Kg, fun V : World => MkL2 V w5.heap.size (.slice vag L.length vcg) (.slice uag ES.length ucg) L.length ES.length), (Kg, Kg + 1, fun V : World => V.heap[Kg]? = some (Obj.cells #[.int .i64 C, .slice vag L.length vcg, .slice uag ES.length ucg] 48)), (w7.heap.size, w8.heap.size, fun V : World => V.ownsRow w7.heap.size 2 1 (.slice (some ⟨e1, 0, none⟩) s1.length s1.length) s1.length (s1.map (Value.int .i64))), (w14.heap.size, w15.heap.size, fun V : World => V.ownsRow w14.heap.size 2 1 (.slice (some ⟨gh1, 0, none⟩) s1.length s1.length) s1.length (s1.map (Value.int .i64))), (w15.heap.size, w16.heap.size, fun V : World => OwL V w15.heap.size (.slice vah L.length vch) (.slice uah ES.length uch) L ES), (w16.heap.size, w16.heap.size + 1, fun V : World => V.heap[w16.heap.size]? = some (Obj.cells #[.int .i64 C, .slice vah L.length vch, .slice uah ES.length uch] 48))] (w16.alloc (Obj.cells #[.int .i64 C, .slice vah L.length vch, .slice uah ES.length uch] 48))) := Z18.out.push (by (repeat' (first | (with_reducible exact Below.refl _ _) | (with_reducible assumption) | (with_reducible refine Below.setCell ?_ ?_ _) | (with_reducible refine Below.alloc ?_ ?_ _) | (with_reducible refine below_drewN ?_ _) | (with_reducible refine Below.drew ?_) | (with_reducible exact Nat.le_refl _) | omega | (simp; done) | (simp; omega)))) (Ow.block (heap_alloc_new _ _)) (Nat.le_refl _)
  clear Z18
  go_wp2_with (fail)
  obtain ⟨Vh, hV⟩ : ∃ V, V = w16.alloc (Obj.cells #[.int .i64 C, .slice vah L.length vch, .slice uah ES.length uch] 48) := ⟨_, rfl⟩
  rw [← hV] at Z19 ⊢
  obtain ⟨Kh, hK⟩ : ∃ K, K = w16.heap.size := ⟨_, rfl⟩
  rw [← hK] at Z19  ⊢
  clear hV hK
  clear cva_0 cva_1 cva_2 lva
  refine (eqLoopResult_to C HLN.out (OwL.rd (B := w15.heap.size) (show OwL Vh w15.heap.size (.slice vah L.length vch) (.slice uah ES.length uch) L ES from (Z19.out.get 9 rfl))) (OwL.rd (B := w2.heap.size) (show OwL Vh w2.heap.size (.slice vaa L.length vca) (.slice uaa ES.length uca) L ES from (Z19.out.get 2 rfl)))).mono ?_
  rintro e w17 ⟨rfl, hb⟩
  have Z20 : Hid (LS w [(w.heap.size, w.heap.size + 1, fun V : World => V.heap[w.heap.size]? = some BX0), (w1.heap.size, w2.heap.size, fun V : World => V.ownsRow w1.heap.size 2 1 (.slice (some ⟨ga1, 0, none⟩) s1.length s1.length) s1.length (s1.map (Value.int .i64))), (w2.heap.size, Ka, fun V : World => OwL V w2.heap.size (.slice vaa L.length vca) (.slice uaa ES.length uca) L ES), (Ka, Ka + 1, fun V : World => V.heap[Ka]? = some (Obj.cells #[.int .i64 C, .slice vaa L.length vca, .slice uaa ES.length uca] 48)), (Va.heap.size, w4.heap.size, fun V : World => True), (w5.heap.size, Kg, fun V : World => MkL2 V w5.heap.size (.slice vag L.length vcg) (.slice uag ES.length ucg) L.length ES.length), (Kg, Kg + 1, fun V : World => V.heap[Kg]? = some (Obj.cells #[.int .i64 C, .slice vag L.length vcg, .slice uag ES.length ucg] 48)), (w7.heap.size, w8.heap.size, fun V : World => V.ownsRow w7.heap.size 2 1 (.slice (some ⟨e1, 0, none⟩) s1.length s1.length) s1.length (s1.map (Value.int .i64))), (w14.heap.size, w15.heap.size, fun V : World => V.ownsRow w14.heap.size 2 1 (.slice (some ⟨gh1, 0, none⟩) s1.length s1.length) s1.length (s1.map (Value.int .i64))), (w15.heap.size, Kh, fun V : World => OwL V w15.heap.size (.slice vah L.length vch) (.slice uah ES.length uch) L ES), (Kh, Kh + 1, fun V : World => V.heap[Kh]? = some (Obj.cells #[.int .i64 C, .slice vah L.length vch, .slice uah ES.length uch] 48))] w17) := Z19.out.next hb
  clear Z19 hb
  have kvg := Z20.out.get 6 rfl
  have cvg_0 : w17.cell? ⟨Kg, 0, none⟩ = some (.int .i64 C) := cellOf kvg 0 rfl
  have cvg_1 : w17.cell? ⟨Kg, 1, none⟩ = some (.slice vag L.length vcg) := cellOf kvg 1 rfl
  have cvg_2 : w17.cell? ⟨Kg, 2, none⟩ = some (.slice uag ES.length ucg) := cellOf kvg 2 rfl
  have lvg : Kg < w17.heap.size := ltOf kvg
  clear kvg
  go_wp2_with (fail)
  clear cvg_0 cvg_1 cvg_2 lvg
  refine (heldLoopResult_to C HLN.out (show MkL2 w17 w5.heap.size (.slice vag L.length vcg) (.slice uag ES.length ucg) L.length ES.length from Z20.out.get 5 rfl)).mono ?_
  rintro e w18 ⟨rfl, hb⟩
  have Z21 : Hid (LS w [(w.heap.size, w.heap.size + 1, fun V : World => V.heap[w.heap.size]? = some BX0), (w1.heap.size, w2.heap.size, fun V : World => V.ownsRow w1.heap.size 2 1 (.slice (some ⟨ga1, 0, none⟩) s1.length s1.length) s1.length (s1.map (Value.int .i64))), (w2.heap.size, Ka, fun V : World => OwL V w2.heap.size (.slice vaa L.length vca) (.slice uaa ES.length uca) L ES), (Ka, Ka + 1, fun V : World => V.heap[Ka]? = some (Obj.cells #[.int .i64 C, .slice vaa L.length vca, .slice uaa ES.length uca] 48)), (Va.heap.size, w4.heap.size, fun V : World => True), (w5.heap.size, Kg, fun V : World => MkL2 V w5.heap.size (.slice vag L.length vcg) (.slice uag ES.length ucg) L.length ES.length), (Kg, Kg + 1, fun V : World => V.heap[Kg]? = some (Obj.cells #[.int .i64 C, .slice vag L.length vcg, .slice uag ES.length ucg] 48)), (w7.heap.size, w8.heap.size, fun V : World => V.ownsRow w7.heap.size 2 1 (.slice (some ⟨e1, 0, none⟩) s1.length s1.length) s1.length (s1.map (Value.int .i64))), (w14.heap.size, w15.heap.size, fun V : World => V.ownsRow w14.heap.size 2 1 (.slice (some ⟨gh1, 0, none⟩) s1.length s1.length) s1.length (s1.map (Value.int .i64))), (w15.heap.size, Kh, fun V : World => OwL V w15.heap.size (.slice vah L.length vch) (.slice uah ES.length uch) L ES), (Kh, Kh + 1, fun V : World => V.heap[Kh]? = some (Obj.cells #[.int .i64 C, .slice vah L.length vch, .slice uah ES.length uch] 48))] w18) := Z20.out.next hb
  clear Z20 hb
  rw [← HTT.out]
  go_wp2
  go_returns
  exact ⟨rfl, Z21.out.bl⟩

set_option maxRecDepth 100000 in
theorem ru16_lifted (os : Os) (started : os.Started) (H : Type) (enc : TypeId × Value → H) :
    ReturnsInHanded {} Try.checked os 7 .any (Rows.fnExactRunLoopSpec.pre6 enc Try.prog Try.f7 Rows.fnExactRunLoopRow.domain false) (Rows.fnExactRunLoopSpec.post enc Try.prog Try.f7 false true false false) := by
  refine returnsInHanded_of_change (C := Try.checked) own started (by kernel_rfl) Try.func7
    (ChangeSpec.witness6 (enc := enc) (C := Try.checked) false ⟨#[], #[.agg #[.int .i64 0, .int .i64 0, .int .i64 0, .int .i64 0], .slice none 0 0], []⟩ 8 (by kernel_rfl) (by kernel_rfl) (by kernel_rfl) (by kernel_rfl)) ?_
  intro W base args ds gs before hval0 hW hcnd _
  have hval : ∀ (j : Nat) t v, Try.f7.params[j]? = some t → args[j]? = some v → Value.okWide Try.prog W .any base t v := hval0
  have hW' := hW
  obtain ⟨p, q, hA0, hV, rfl, hfz, hnd⟩ := hW
  have hA : DataW.TrodAll enc Try.prog W 0 (fun _ => true) true Try.f7.params.toList args.toList ds p := hA0
  rw [Try.params7] at hA hval
  obtain ⟨v0, vs0, d0, ds0, p0, q0, hargs, rfl, rfl, h0, r0⟩ := trodAll_cons hA
  obtain ⟨v1, vs1, d1, ds1, p1, q1, rfl, rfl, rfl, h1, r1⟩ := trodAll_cons r0
  obtain ⟨rfl, rfl, rfl⟩ := trodAll_nil r1
  obtain rfl : args = #[v0, v1] := by cases args; simp_all
  obtain ⟨rfl, rfl⟩ := trodVars_none hV
  have k0 := h0
  have lt0 : ∀ x ∈ p0, x.block < W.heap.size := by obtain ⟨m, hm⟩ := k0; exact DataW.trod_lt m _ _ _ hm
  obtain ⟨da0, db0, dc0, dd0, rfl⟩ := loop_open (hval 0 42 v0 rfl rfl) h0
  have k1 := h1
  have lt1 : ∀ x ∈ p1, x.block < W.heap.size := by obtain ⟨m, hm⟩ := k1; exact DataW.trod_lt m _ _ _ hm
  obtain ⟨sa1, sn1, sc1, s1, rfl, ri1, sl1⟩ := ints_open (hval 1 22 v1 rfl rfl) h1
  clear hA0 hval0
  refine (law_ru16 da0 db0 dc0 dd0 s1 sl1 ri1).mono fun e W' ⟨he, hg⟩ => ?_
  subst he
  exact ⟨_, rfl, _, _, _, [], _, [], hW', trodAll_mk1 (shut_bool Try.underlying4 _), (trodAll_cons_mk (Below.trod laidOut (by kernel_rfl) (of_decide_eq_true (by kernel_rfl)) k0 hg lt0) (trodAll_cons_mk (Below.trod laidOut (by kernel_rfl) (of_decide_eq_true (by kernel_rfl)) k1 hg lt1) trodAll_mk0)), rfl, hg.frame _, fun h => by cases h⟩

theorem ru16_over : Rows.fnExactRunLoopRow.holds Try.pinned (OpenSpec.ofChange Rows.fnExactRunLoopSpec) :=
  OpenClaim.holds_of_wide 7 Try.f7 rfl rfl rfl rfl rfl rfl rfl ⟨rfl, rfl, rfl, rfl, rfl⟩ rfl rfl rfl rfl rfl (by kernel_rfl) Try.func7 (by kernel_rfl)
    (of_decide_eq_true (by kernel_rfl)) (by unfold Func.isWrapper; first | (rw [if_pos (by decide +kernel)]; kernel_rfl) | (rw [if_neg (by decide +kernel)]; exact ⟨rfl, rfl⟩))
    (fun os started H enc _ => ru16_lifted os started H enc)

theorem ru16_proved : Rows.FnExactRunLoopSaid :=
  ru16_over
#print axioms ru16_proved

end Go.Proofs.Ytiipepddlbgodaa
