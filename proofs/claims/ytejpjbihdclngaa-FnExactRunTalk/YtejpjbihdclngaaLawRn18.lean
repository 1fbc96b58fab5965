/- Proved here: 'the program's RunTalk answers as the model's; it writes into no argument and keeps nothing of one; its answer owns its memory, behind another call too', without a condition. -/
import Derived.Test.YtejpjbihdclngaaTrunI
import Derived.Test.YtejpjbihdclngaaTrunS
import Derived.Test.YtejpjbihdclngaaTrunR
import Derived.Test.YtejpjbihdclngaaNlW
import Derived.Test.YtejpjbihdclngaaNlQ
import Derived.Test.YtejpjbihdclngaaMkI
import Derived.Test.YtejpjbihdclngaaLwS
import Derived.Test.YtejpjbihdclngaaRows
namespace Go.Proofs.Ytejpjbihdclngaa
open Go.ChangeShapes Go.WideShapes Go.ChangeAt Go.RowKit Go.Joins
set_option linter.unusedVariables false
set_option linter.unusedSimpArgs false

theorem own : ownKnob Try.prog.godebug = none := by kernel_rfl
theorem laidOut : laidOutB Try.prog = true := by kernel_rfl

set_option maxRecDepth 10000 in
set_option maxHeartbeats 25600000 in
theorem law_rn18 {w : World}  {sa0 : Option Addr} {sn0 sc0 : Nat} (s0 : List Int) (hm0 : s0.length ≤ maxLen) (hr0 : RdI w (.slice sa0 sn0 sc0) s0) :
    Calls Try.prog 8 #[.slice sa0 sn0 sc0] w fun e w' => e = .returned (.bool true) ∧ Below w.heap.size w w' := by
  have HM0 : Hid (sn0 ≤ maxLen) := by unfold Hid; rw [hr0.len]; exact hm0
  have HR0 : Hid (RdI w (.slice sa0 sn0 sc0) s0) := hr0
  have HE0 : Hid (sn0 = s0.length) := hr0.len
  clear hm0 hr0
  have Z0 : Hid (LS w [] w) := LS.start w
  go_enter Try.func8, Try.ntmps8
  by_cases hf0 : (1048576 : Int) < (sn0 : Int)
  · go_wp2
    go_returns
    exact ⟨rfl, Below.refl _ _⟩
  have HL0 : Hid (s0.length ≤ 1048576) := by unfold Hid; rw [← HE0.out]; omega
  obtain ⟨C, hC⟩ : ∃ X, X = rnC s0 := ⟨_, rfl⟩
  obtain ⟨L, hL⟩ : ∃ X, X = rnL s0 := ⟨_, rfl⟩
  obtain ⟨CP, hCP⟩ : ∃ X, X = (rnK s0).p := ⟨_, rfl⟩
  obtain ⟨CT, hCT⟩ : ∃ X, X = (rnK s0).t := ⟨_, rfl⟩
  obtain ⟨CW, hCW⟩ : ∃ X, X = (rnK s0).w := ⟨_, rfl⟩
  have HLN : Hid (L.length ≤ 1048576) := by unfold Hid; rw [hL]; exact rnL_len s0
  have HSP : Hid (∀ (W : World) (g0 : Nat), (RdI W (.slice (some ⟨g0, 0, none⟩) s0.length s0.length) s0) → Calls Try.prog 12 #[.slice (some ⟨g0, 0, none⟩) s0.length s0.length] W fun e w' => ∃ (v : Value) (_ : Unit), e = .returned (.agg #[.int .i64 C, .int .i64 CP, .int .i64 CT, .int .i64 CW, v]) ∧ IS w' W.heap.size v L ∧ Below W.heap.size W w') := fun W g0 h0 => by
    rw [hCW, hCT, hCP, hL, hC]
    exact spec_rn HL0.out h0
  have HIM : Hid (∀ (W : World) (g0 : Nat), (RdI W (.slice (some ⟨g0, 0, none⟩) s0.length s0.length) s0) → Calls Try.prog 11 #[.slice (some ⟨g0, 0, none⟩) s0.length s0.length] W fun e w' => ∃ (v : Value) (_ : Unit), e = .returned (.agg #[.int .i64 C, .int .i64 CP, .int .i64 CT, .int .i64 CW, v]) ∧ IS w' W.heap.size v L ∧ Below W.heap.size W w') := fun W g0 h0 => by
    rw [hCW, hCT, hCP, hL, hC]
    exact impl_rn HL0.out h0
  clear hC hL hCP hCT hCW 
  go_wp2_with (fail)
  refine (toInt64S_any HL0.out (HR0.out.below Z0.out.bl)).mono ?_
  rintro e w1 ⟨ga0, rfl, ho, hb⟩
  have Z1 : Hid (LS w [(w.heap.size, w1.heap.size, fun V : World => V.ownsRow w.heap.size 2 1 (.slice (some ⟨ga0, 0, none⟩) s0.length s0.length) s0.length (s0.map (Value.int .i64)))] w1) := Z0.out.push hb (Ow.rowAll ho hb) (Nat.le_refl _)
  clear Z0 hb ho
  go_wp2_with (fail)
  refine (HSP.out w1 ga0 (IS.rg (B := w.heap.size) (show w1.ownsRow w.heap.size 2 1 (.slice (some ⟨ga0, 0, none⟩) s0.length s0.length) s0.length (s0.map (Value.int .i64)) from Z1.out.get 0 rfl))).mono ?_
  rintro e w2 ⟨vq, vr, rfl, hrq, hb⟩
  obtain ⟨vaa, vca, rfl⟩ := hrq.form
  have Z2 : Hid (LS w [(w.heap.size, w1.heap.size, fun V : World => V.ownsRow w.heap.size 2 1 (.slice (some ⟨ga0, 0, none⟩) s0.length s0.length) s0.length (s0.map (Value.int .i64))), (w1.heap.size, w2.heap.size, fun V : World => IS V w1.heap.size (.slice vaa L.length vca) L)] w2) := Z1.out.push hb (Ow.rowAll hrq hb) (Nat.le_refl _)
  clear Z1 hb hrq
  have Z3 : Hid (LS w [(w.heap.size, w1.heap.size, fun V : World => V.ownsRow w.heap.size 2 1 (.slice (some ⟨ga0, 0, none⟩) s0.length s0.length) s0.length (s0.map (Value.int .i64))), (w1.heap.size, w2.heap.size, fun V : World => IS V w1.heap.size (.slice vaa L.length vca) L), (w2.heap.size, w2.heap.size + 1, fun V : World => V.heap[w2.heap.size]? = some (Obj.cells #[.int .i64 C, .int .i64 CP, .int .i64 CT, .int .i64 CW, .slice vaa L.length vca] 29))] (w2.alloc (Obj.cells #[.int .i64 C, .int .i64 CP, .int .i64 CT, .int .i64 CW, .slice vaa L.length vca] 29))) := Z2.out.push (by (repeat' (first | (with_reducible exact Below.refl _ _) | (with_reducible assumption) | (with_reducible refine Below.setCell ?_ ?_ _) | (with_reducible refine Below.alloc ?_ ?_ _) | (with_reducible refine below_drewN ?_ _) | (with_reducible refine Below.drew ?_) | (with_reducible exact Nat.le_refl _) | omega | (simp; done) | (simp; omega)))) (Ow.block (heap_alloc_new _ _)) (Nat.le_refl _)
  clear Z2
  go_wp2_with (fail)
  obtain ⟨Va, hV⟩ : ∃ V, V = w2.alloc (Obj.cells #[.int .i64 C, .int .i64 CP, .int .i64 CT, .int .i64 CW, .slice vaa L.length vca] 29) := ⟨_, rfl⟩
  rw [← hV] at Z3 ⊢
  obtain ⟨Ka, hK⟩ : ∃ K, K = w2.heap.size := ⟨_, rfl⟩
  rw [← hK] at Z3  ⊢
  clear hV hK
  refine (toInt64S_any HL0.out (HR0.out.below Z3.out.bl)).mono ?_
  rintro e w3 ⟨x0, rfl, ho, hb⟩
  have HX0 : Hid (∀ g, (.slice (some ⟨x0, 0, none⟩) s0.length s0.length : Value).ownBlock = some g → g < w3.heap.size) := fun g hg => (World.ownsRow.lt ho g hg).2
  have Z4 : Hid (LS w [(w.heap.size, w1.heap.size, fun V : World => V.ownsRow w.heap.size 2 1 (.slice (some ⟨ga0, 0, none⟩) s0.length s0.length) s0.length (s0.map (Value.int .i64))), (w1.heap.size, Ka, fun V : World => IS V w1.heap.size (.slice vaa L.length vca) L), (Ka, Ka + 1, fun V : World => V.heap[Ka]? = some (Obj.cells #[.int .i64 C, .int .i64 CP, .int .i64 CT, .int .i64 CW, .slice vaa L.length vca] 29)), (Va.heap.size, w3.heap.size, fun V : World => V.ownsRow Va.heap.size 2 1 (.slice (some ⟨x0, 0, none⟩) s0.length s0.length) s0.length (s0.map (Value.int .i64)))] w3) := Z3.out.push hb (Ow.rowAll ho hb) (Nat.le_refl _)
  clear Z3 hb ho
  go_wp2_with (fail)
  refine (HIM.out w3 x0 (IS.rg (B := Va.heap.size) (show w3.ownsRow Va.heap.size 2 1 (.slice (some ⟨x0, 0, none⟩) s0.length s0.length) s0.length (s0.map (Value.int .i64)) from Z4.out.get 3 rfl))).mono ?_
  rintro e w4 ⟨vq, vr, rfl, hrq, hb⟩
  obtain ⟨vag, vcg, rfl⟩ := hrq.form
  have HXg : Hid (∀ g, (.slice vag L.length vcg : Value).ownBlock = some g → g < w4.heap.size) := fun g hg => (IS.lt hrq g hg).2
  have Z5 : Hid (LS w [(w.heap.size, w1.heap.size, fun V : World => V.ownsRow w.heap.size 2 1 (.slice (some ⟨ga0, 0, none⟩) s0.length s0.length) s0.length (s0.map (Value.int .i64))), (w1.heap.size, Ka, fun V : World => IS V w1.heap.size (.slice vaa L.length vca) L), (Ka, Ka + 1, fun V : World => V.heap[Ka]? = some (Obj.cells #[.int .i64 C, .int .i64 CP, .int .i64 CT, .int .i64 CW, .slice vaa L.length vca] 29)), (Va.heap.size, w3.heap.size, fun V : World => V.ownsRow Va.heap.size 2 1 (.slice (some ⟨x0, 0, none⟩) s0.length s0.length) s0.length (s0.map (Value.int .i64))), (w3.heap.size, w4.heap.size, fun V : World => IS V w3.heap.size (.slice vag L.length vcg) L)] w4) := Z4.out.push hb (Ow.rowAll hrq hb) (Nat.le_refl _)
  clear Z4 hb hrq
  have kva := Z5.out.get 2 rfl
  have cva_0 : w4.cell? ⟨Ka, 0, none⟩ = some (.int .i64 C) := cellOf kva 0 rfl
  have cva_1 : w4.cell? ⟨Ka, 1, none⟩ = some (.int .i64 CP) := cellOf kva 1 rfl
  have cva_2 : w4.cell? ⟨Ka, 2, none⟩ = some (.int .i64 CT) := cellOf kva 2 rfl
  have cva_3 : w4.cell? ⟨Ka, 3, none⟩ = some (.int .i64 CW) := cellOf kva 3 rfl
  have cva_4 : w4.cell? ⟨Ka, 4, none⟩ = some (.slice vaa L.length vca) := cellOf kva 4 rfl
  have lva : Ka < w4.heap.size := ltOf kva
  clear kva
  have Z6 : Hid (LS w [(w.heap.size, w1.heap.size, fun V : World => V.ownsRow w.heap.size 2 1 (.slice (some ⟨ga0, 0, none⟩) s0.length s0.length) s0.length (s0.map (Value.int .i64))), (w1.heap.size, Ka, fun V : World => IS V w1.heap.size (.slice vaa L.length vca) L), (Ka, Ka + 1, fun V : World => V.heap[Ka]? = some (Obj.cells #[.int .i64 C, .int .i64 CP, .int .i64 CT, .int .i64 CW, .slice vaa L.length vca] 29)), (Va.heap.size, w3.heap.size, fun V : World => V.ownsRow Va.heap.size 2 1 (.slice (some ⟨x0, 0, none⟩) s0.length s0.length) s0.length (s0.map (Value.int .i64))), (w3.heap.size, w4.heap.size, fun V : World => IS V w3.heap.size (.slice vag L.length vcg) L), (w4.heap.size, w4.heap.size + 1, fun V : World => V.heap[w4.heap.size]? = some (Obj.cells #[.int .i64 C, .int .i64 CP, .int .i64 CT, .int .i64 CW, .slice vag L.length vcg] 29))] (w4.alloc (Obj.cells #[.int .i64 C, .int .i64 CP, .int .i64 CT, .int .i64 CW, .slice vag L.length vcg] 29))) := Z5.out.push (by (repeat' (first | (with_reducible exact Below.refl _ _) | (with_reducible assumption) | (with_reducible refine Below.setCell ?_ ?_ _) | (with_reducible refine Below.alloc ?_ ?_ _) | (with_reducible refine below_drewN ?_ _) | (with_reducible refine Below.drew ?_) | (with_reducible exact Nat.le_refl _) | omega | (simp; done) | (simp; omega)))) (Ow.block (heap_alloc_new _ _)) (Nat.le_refl _)
  clear Z5
  go_wp2_with (fail)
  obtain ⟨Vg, hV⟩ : ∃ V, V = w4.alloc (Obj.cells #[.int .i64 C, .int .i64 CP, .int .i64 CT, .int .i64 CW, .slice vag L.length vcg] 29) := ⟨_, rfl⟩
  rw [← hV] at Z6 ⊢
  obtain ⟨Kg, hK⟩ : ∃ K, K = w4.heap.size := ⟨_, rfl⟩
  rw [← hK] at Z6 HXg ⊢
  clear hV hK
  clear cva_0 cva_1 cva_2 cva_3 cva_4 lva
  refine (eqTalkRun_to C CP CT CW HLN.out (IS.rg (B := w3.heap.size) (show IS Vg w3.heap.size (.slice vag L.length vcg) L from (Z6.out.get 4 rfl))) (IS.rg (B := w1.heap.size) (show IS Vg w1.heap.size (.slice vaa L.length vca) L from (Z6.out.get 1 rfl)))).mono ?_
  rintro e w5 ⟨rfl, hb⟩
  have Z7 : Hid (LS w [(w.heap.size, w1.heap.size, fun V : World => V.ownsRow w.heap.size 2 1 (.slice (some ⟨ga0, 0, none⟩) s0.length s0.length) s0.length (s0.map (Value.int .i64))), (w1.heap.size, Ka, fun V : World => IS V w1.heap.size (.slice vaa L.length vca) L), (Ka, Ka + 1, fun V : World => V.heap[Ka]? = some (Obj.cells #[.int .i64 C, .int .i64 CP, .int .i64 CT, .int .i64 CW, .slice vaa L.length vca] 29)), (Va.heap.size, w3.heap.size, fun V : World => V.ownsRow Va.heap.size 2 1 (.slice (some ⟨x0, 0, none⟩) s0.length s0.length) s0.length (s0.map (Value.int .i64))), (w3.heap.size, Kg, fun V : World => IS V w3.heap.size (.slice vag L.length vcg) L), (Kg, Kg + 1, fun V : World => V.heap[Kg]? = some (Obj.cells #[.int .i64 C, .int .i64 CP, .int .i64 CT, .int .i64 CW, .slice vag L.length vcg] 29))] w5) := Z6.out.next hb
  clear Z6 hb
  go_wp2_with (fail)
  refine (toInt64S_any HL0.out (HR0.out.below Z7.out.bl)).mono ?_
  rintro e w6 ⟨e0, rfl, ho, hb⟩
  have Z8 : Hid (LS w [(w.heap.size, w1.heap.size, fun V : World => V.ownsRow w.heap.size 2 1 (.slice (some ⟨ga0, 0, none⟩) s0.length s0.length) s0.length (s0.map (Value.int .i64))), (w1.heap.size, Ka, fun V : World => IS V w1.heap.size (.slice vaa L.length vca) L), (Ka, Ka + 1, fun V : World => V.heap[Ka]? = some (Obj.cells #[.int .i64 C, .int .i64 CP, .int .i64 CT, .int .i64 CW, .slice vaa L.length vca] 29)), (Va.heap.size, w3.heap.size, fun V : World => V.ownsRow Va.heap.size 2 1 (.slice (some ⟨x0, 0, none⟩) s0.length s0.length) s0.length (s0.map (Value.int .i64))), (w3.heap.size, Kg, fun V : World => IS V w3.heap.size (.slice vag L.length vcg) L), (Kg, Kg + 1, fun V : World => V.heap[Kg]? = some (Obj.cells #[.int .i64 C, .int .i64 CP, .int .i64 CT, .int .i64 CW, .slice vag L.length vcg] 29)), (w5.heap.size, w6.heap.size, fun V : World => V.ownsRow w5.heap.size 2 1 (.slice (some ⟨e0, 0, none⟩) s0.length s0.length) s0.length (s0.map (Value.int .i64)))] w6) := Z7.out.push hb (Ow.rowAll ho hb) (Nat.le_refl _)
  clear Z7 hb ho
  go_wp2_with (fail)
  refine (eqInt64S_same (by have := HL0.out; omega) (IS.rg (B := Va.heap.size) (show w6.ownsRow Va.heap.size 2 1 (.slice (some ⟨x0, 0, none⟩) s0.length s0.length) s0.length (s0.map (Value.int .i64)) from Z8.out.get 3 rfl)) (IS.rg (B := w5.heap.size) (show w6.ownsRow w5.heap.size 2 1 (.slice (some ⟨e0, 0, none⟩) s0.length s0.length) s0.length (s0.map (Value.int .i64)) from Z8.out.get 6 rfl))).mono ?_
  rintro e w7 ⟨rfl, hb⟩
  have Z9 : Hid (LS w [(w.heap.size, w1.heap.size, fun V : World => V.ownsRow w.heap.size 2 1 (.slice (some ⟨ga0, 0, none⟩) s0.length s0.length) s0.length (s0.map (Value.int .i64))), (w1.heap.size, Ka, fun V : World => IS V w1.heap.size (.slice vaa L.length vca) L), (Ka, Ka + 1, fun V : World => V.heap[Ka]? = some (Obj.cells #[.int .i64 C, .int .i64 CP, .int .i64 CT, .int .i64 CW, .slice vaa L.length vca] 29)), (Va.heap.size, w3.heap.size, fun V : World => V.ownsRow Va.heap.size 2 1 (.slice (some ⟨x0, 0, none⟩) s0.length s0.length) s0.length (s0.map (Value.int .i64))), (w3.heap.size, Kg, fun V : World => IS V w3.heap.size (.slice vag L.length vcg) L), (Kg, Kg + 1, fun V : World => V.heap[Kg]? = some (Obj.cells #[.int .i64 C, .int .i64 CP, .int .i64 CT, .int .i64 CW, .slice vag L.length vcg] 29)), (w5.heap.size, w6.heap.size, fun V : World => V.ownsRow w5.heap.size 2 1 (.slice (some ⟨e0, 0, none⟩) s0.length s0.length) s0.length (s0.map (Value.int .i64)))] w7) := Z8.out.next hb
  clear Z8 hb
  go_wp2_with (fail)
  refine (markInt64S_to 1 HL0.out (by omega) (by omega) (show w7.ownsRow Va.heap.size 2 1 (.slice (some ⟨x0, 0, none⟩) s0.length s0.length) s0.length (s0.map (Value.int .i64)) from Z9.out.get 3 rfl) (HX0.out)).mono ?_
  rintro e w8 ⟨rfl, hm, hc⟩
  have Z10 : Hid (LS w [(w.heap.size, w1.heap.size, fun V : World => V.ownsRow w.heap.size 2 1 (.slice (some ⟨ga0, 0, none⟩) s0.length s0.length) s0.length (s0.map (Value.int .i64))), (w1.heap.size, Ka, fun V : World => IS V w1.heap.size (.slice vaa L.length vca) L), (Ka, Ka + 1, fun V : World => V.heap[Ka]? = some (Obj.cells #[.int .i64 C, .int .i64 CP, .int .i64 CT, .int .i64 CW, .slice vaa L.length vca] 29)), (Va.heap.size, w3.heap.size, fun V : World => True), (w3.heap.size, Kg, fun V : World => IS V w3.heap.size (.slice vag L.length vcg) L), (Kg, Kg + 1, fun V : World => V.heap[Kg]? = some (Obj.cells #[.int .i64 C, .int .i64 CP, .int .i64 CT, .int .i64 CW, .slice vag L.length vcg] 29)), (w5.heap.size, w6.heap.size, fun V : World => V.ownsRow w5.heap.size 2 1 (.slice (some ⟨e0, 0, none⟩) s0.length s0.length) s0.length (s0.map (Value.int .i64)))] w8) := Z9.out.put 3 rfl hc ((Z9.out.own 3 rfl).true hc.size)
  clear Z9 hm hc
  obtain ⟨N0, hN⟩ : ∃ N, N = 1 + (s0.length : Int) := ⟨_, rfl⟩
  rw [← hN]
  have hN0 : 0 ≤ N0 ∧ N0 ≤ 10000000 ∧ ¬ N0 < 0 := by have := HL0.out; omega
  have hN0a := hN0.2.2
  clear hN
  have kvg := Z10.out.get 5 rfl
  have cvg_0 : w8.cell? ⟨Kg, 0, none⟩ = some (.int .i64 C) := cellOf kvg 0 rfl
  have cvg_1 : w8.cell? ⟨Kg, 1, none⟩ = some (.int .i64 CP) := cellOf kvg 1 rfl
  have cvg_2 : w8.cell? ⟨Kg, 2, none⟩ = some (.int .i64 CT) := cellOf kvg 2 rfl
  have cvg_3 : w8.cell? ⟨Kg, 3, none⟩ = some (.int .i64 CW) := cellOf kvg 3 rfl
  have cvg_4 : w8.cell? ⟨Kg, 4, none⟩ = some (.slice vag L.length vcg) := cellOf kvg 4 rfl
  have lvg : Kg < w8.heap.size := ltOf kvg
  clear kvg
  have kva := Z10.out.get 2 rfl
  have cva_0 : w8.cell? ⟨Ka, 0, none⟩ = some (.int .i64 C) := cellOf kva 0 rfl
  have cva_1 : w8.cell? ⟨Ka, 1, none⟩ = some (.int .i64 CP) := cellOf kva 1 rfl
  have cva_2 : w8.cell? ⟨Ka, 2, none⟩ = some (.int .i64 CT) := cellOf kva 2 rfl
  have cva_3 : w8.cell? ⟨Ka, 3, none⟩ = some (.int .i64 CW) := cellOf kva 3 rfl
  have cva_4 : w8.cell? ⟨Ka, 4, none⟩ = some (.slice vaa L.length vca) := cellOf kva 4 rfl
  have lva : Ka < w8.heap.size := ltOf kva
  clear kva
  go_wp2_with (fail)
  clear cvg_0 cvg_1 cvg_2 cvg_3 cvg_4 lvg cva_0 cva_1 cva_2 cva_3 cva_4 lva
  refine (eqTalkRun_to C CP CT CW HLN.out (IS.rg (B := w3.heap.size) (show IS w8 w3.heap.size (.slice vag L.length vcg) L from (Z10.out.get 4 rfl))) (IS.rg (B := w1.heap.size) (show IS w8 w1.heap.size (.slice vaa L.length vca) L from (Z10.out.get 1 rfl)))).mono ?_
  rintro e w9 ⟨rfl, hb⟩
  have Z11 : Hid (LS w [(w.heap.size, w1.heap.size, fun V : World => V.ownsRow w.heap.size 2 1 (.slice (some ⟨ga0, 0, none⟩) s0.length s0.length) s0.length (s0.map (Value.int .i64))), (w1.heap.size, Ka, fun V : World => IS V w1.heap.size (.slice vaa L.length vca) L), (Ka, Ka + 1, fun V : World => V.heap[Ka]? = some (Obj.cells #[.int .i64 C, .int .i64 CP, .int .i64 CT, .int .i64 CW, .slice vaa L.length vca] 29)), (Va.heap.size, w3.heap.size, fun V : World => True), (w3.heap.size, Kg, fun V : World => IS V w3.heap.size (.slice vag L.length vcg) L), (Kg, Kg + 1, fun V : World => V.heap[Kg]? = some (Obj.cells #[.int .i64 C, .int .i64 CP, .int .i64 CT, .int .i64 CW, .slice vag L.length vcg] 29)), (w5.heap.size, w6.heap.size, fun V : World => V.ownsRow w5.heap.size 2 1 (.slice (some ⟨e0, 0, none⟩) s0.length s0.length) s0.length (s0.map (Value.int .i64)))] w9) := Z10.out.next hb
  clear Z10 hb
  have kvg := Z11.out.get 5 rfl
  have cvg_0 : w9.cell? ⟨Kg, 0, none⟩ = some (.int .i64 C) := cellOf kvg 0 rfl
  have cvg_1 : w9.cell? ⟨Kg, 1, none⟩ = some (.int .i64 CP) := cellOf kvg 1 rfl
  have cvg_2 : w9.cell? ⟨Kg, 2, none⟩ = some (.int .i64 CT) := cellOf kvg 2 rfl
  have cvg_3 : w9.cell? ⟨Kg, 3, none⟩ = some (.int .i64 CW) := cellOf kvg 3 rfl
  have cvg_4 : w9.cell? ⟨Kg, 4, none⟩ = some (.slice vag L.length vcg) := cellOf kvg 4 rfl
  have lvg : Kg < w9.heap.size := ltOf kvg
  clear kvg
  go_wp2_with (fail)
  clear cvg_0 cvg_1 cvg_2 cvg_3 cvg_4 lvg
  refine (markTalkRun_to C CP CT CW 1 HLN.out (by omega) (by omega) (show IS w9 w3.heap.size (.slice vag L.length vcg) L from (Z11.out.get 4 rfl)) HXg.out).mono ?_
  rintro e w10 ⟨rfl, hm, hc⟩
  have Z12 : Hid (LS w [(w.heap.size, w1.heap.size, fun V : World => V.ownsRow w.heap.size 2 1 (.slice (some ⟨ga0, 0, none⟩) s0.length s0.length) s0.length (s0.map (Value.int .i64))), (w1.heap.size, Ka, fun V : World => IS V w1.heap.size (.slice vaa L.length vca) L), (Ka, Ka + 1, fun V : World => V.heap[Ka]? = some (Obj.cells #[.int .i64 C, .int .i64 CP, .int .i64 CT, .int .i64 CW, .slice vaa L.length vca] 29)), (Va.heap.size, w3.heap.size, fun V : World => True), (w3.heap.size, Kg, fun V : World => V.ownsRow w3.heap.size 2 1 (.slice vag L.length vcg) L.length (mkV 1 L.length)), (Kg, Kg + 1, fun V : World => V.heap[Kg]? = some (Obj.cells #[.int .i64 C, .int .i64 CP, .int .i64 CT, .int .i64 CW, .slice vag L.length vcg] 29)), (w5.heap.size, w6.heap.size, fun V : World => V.ownsRow w5.heap.size 2 1 (.slice (some ⟨e0, 0, none⟩) s0.length s0.length) s0.length (s0.map (Value.int .i64)))] w10) := Z11.out.put 4 rfl hc (Ow.row hm (Z11.out.own 4 rfl).le.1 (Nat.le_trans (Z11.out.own 4 rfl).le.2 hc.size) HXg.out)
  clear Z11 hm hc
  obtain ⟨TT, hTT⟩ : ∃ TT, TT = 1 + (L.length : Int) := ⟨_, rfl⟩
  have hT0 : ¬ TT < 0 := by omega
  have HTT : Hid (TT = 1 + (L.length : Int)) := hTT
  rw [← hTT]
  clear hTT
  have kvg := Z12.out.get 5 rfl
  have cvg_0 : w10.cell? ⟨Kg, 0, none⟩ = some (.int .i64 C) := cellOf kvg 0 rfl
  have cvg_1 : w10.cell? ⟨Kg, 1, none⟩ = some (.int .i64 CP) := cellOf kvg 1 rfl
  have cvg_2 : w10.cell? ⟨Kg, 2, none⟩ = some (.int .i64 CT) := cellOf kvg 2 rfl
  have cvg_3 : w10.cell? ⟨Kg, 3, none⟩ = some (.int .i64 CW) := cellOf kvg 3 rfl
  have cvg_4 : w10.cell? ⟨Kg, 4, none⟩ = some (.slice vag L.length vcg) := cellOf kvg 4 rfl
  have lvg : Kg < w10.heap.size := ltOf kvg
  clear kvg
  go_wp2_with (fail)
  clear cvg_0 cvg_1 cvg_2 cvg_3 cvg_4 lvg
  refine (heldTalkRun_to C CP CT CW 1 HLN.out (by omega) (by omega) (show w10.ownsRow w3.heap.size 2 1 (.slice vag L.length vcg) L.length (mkV 1 L.length) from Z12.out.get 4 rfl)).mono ?_
  rintro e w11 ⟨rfl, hb⟩
  have Z13 : Hid (LS w [(w.heap.size, w1.heap.size, fun V : World => V.ownsRow w.heap.size 2 1 (.slice (some ⟨ga0, 0, none⟩) s0.length s0.length) s0.length (s0.map (Value.int .i64))), (w1.heap.size, Ka, fun V : World => IS V w1.heap.size (.slice vaa L.length vca) L), (Ka, Ka + 1, fun V : World => V.heap[Ka]? = some (Obj.cells #[.int .i64 C, .int .i64 CP, .int .i64 CT, .int .i64 CW, .slice vaa L.length vca] 29)), (Va.heap.size, w3.heap.size, fun V : World => True), (w3.heap.size, Kg, fun V : World => V.ownsRow w3.heap.size 2 1 (.slice vag L.length vcg) L.length (mkV 1 L.length)), (Kg, Kg + 1, fun V : World => V.heap[Kg]? = some (Obj.cells #[.int .i64 C, .int .i64 CP, .int .i64 CT, .int .i64 CW, .slice vag L.length vcg] 29)), (w5.heap.size, w6.heap.size, fun V : World => V.ownsRow w5.heap.size 2 1 (.slice (some ⟨e0, 0, none⟩) s0.length s0.length) s0.length (s0.map (Value.int .i64)))] w11) := Z12.out.next hb
  clear Z12 hb
  rw [← HTT.out]
  go_wp2_with (fail)
  refine (toInt64S_any HL0.out (HR0.out.below Z13.out.bl)).mono ?_
  rintro e w12 ⟨gh0, rfl, ho, hb⟩
  have Z14 : Hid (LS w [(w.heap.size, w1.heap.size, fun V : World => V.ownsRow w.heap.size 2 1 (.slice (some ⟨ga0, 0, none⟩) s0.length s0.length) s0.length (s0.map (Value.int .i64))), (w1.heap.size, Ka, fun V : World => IS V w1.heap.size (.slice vaa L.length vca) L), (Ka, Ka + 1, fun V : World => V.heap[Ka]? = some (Obj.cells #[.int .i64 C, .int .i64 CP, .int .i64 CT, .int .i64 CW, .slice vaa L.length vca] 29)), (Va.heap.size, w3.heap.size, fun V : World => True), (w3.heap.size, Kg, fun V : World => V.ownsRow w3.heap.size 2 1 (.slice vag L.length vcg) L.length (mkV 1 L.length)), (Kg, Kg + 1, fun V : World => V.heap[Kg]? = some (Obj.cells #[.int .i64 C, .int .i64 CP, .int .i64 CT, .int .i64 CW, .slice vag L.length vcg] 29)), (w5.heap.size, w6.heap.size, fun V : World => V.ownsRow w5.heap.size 2 1 (.slice (some ⟨e0, 0, none⟩) s0.length s0.length) s0.length (s0.map (Value.int .i64))), (w11.heap.size, w12.heap.size, fun V : World => V.ownsRow w11.heap.size 2 1 (.slice (some ⟨gh0, 0, none⟩) s0.length s0.length) s0.length (s0.map (Value.int .i64)))] w12) := Z13.out.push hb (Ow.rowAll ho hb) (Nat.le_refl _)
  clear Z13 hb ho
  go_wp2_with (fail)
  refine (HIM.out w12 gh0 (IS.rg (B := w11.heap.size) (show w12.ownsRow w11.heap.size 2 1 (.slice (some ⟨gh0, 0, none⟩) s0.length s0.length) s0.length (s0.map (Value.int .i64)) from Z14.out.get 7 rfl))).mono ?_
  rintro e w13 ⟨vq, vr, rfl, hrq, hb⟩
  obtain ⟨vah, vch, rfl⟩ := hrq.form
  have Z15 : Hid (LS w [(w.heap.size, w1.heap.size, fun V : World => V.ownsRow w.heap.size 2 1 (.slice (some ⟨ga0, 0, none⟩) s0.length s0.length) s0.length (s0.map (Value.int .i64))), (w1.heap.size, Ka, fun V : World => IS V w1.heap.size (.slice vaa L.length vca) L), (Ka, Ka + 1, fun V : World => V.heap[Ka]? = some (Obj.cells #[.int .i64 C, .int .i64 CP, .int .i64 CT, .int .i64 CW, .slice vaa L.length vca] 29)), (Va.heap.size, w3.heap.size, fun V : World => True), (w3.heap.size, Kg, fun V : World => V.ownsRow w3.heap.size 2 1 (.slice vag L.length vcg) L.length (mkV 1 L.length)), (Kg, Kg + 1, fun V : World => V.heap[Kg]? = some (Obj.cells #[.int .i64 C, .int .i64 CP, .int .i64 CT, .int .i64 CW, .slice vag L.length vcg] 29)), (w5.heap.size, w6.heap.size, fun V : World => V.ownsRow w5.heap.size 2 1 (.slice (some ⟨e0, 0, none⟩) s0.length s0.length) s0.length (s0.map (Value.int .i64))), (w11.heap.size, w12.heap.size, fun V : World => V.ownsRow w11.heap.size 2 1 (.slice (some ⟨gh0, 0, none⟩) s0.length s0.length) s0.length (s0.map (Value.int .i64))), (w12.heap.size, w13.heap.size, fun V : World => IS V w12.heap.size (.slice vah L.length vch) L)] w13) := Z14.out.push hb (Ow.rowAll hrq hb) (Nat.le_refl _)
  clear Z14 hb hrq
  have kva := Z15.out.get 2 rfl
  have cva_0 : w13.cell? ⟨Ka, 0, none⟩ = some (.int .i64 C) := cellOf kva 0 rfl
  have cva_1 : w13.cell? ⟨Ka, 1, none⟩ = some (.int .i64 CP) := cellOf kva 1 rfl
  have cva_2 : w13.cell? ⟨Ka, 2, none⟩ = some (.int .i64 CT) := cellOf kva 2 rfl
  have cva_3 : w13.cell? ⟨Ka, 3, none⟩ = some (.int .i64 CW) := cellOf kva 3 rfl
  have cva_4 : w13.cell? ⟨Ka, 4, none⟩ = some (.slice vaa L.length vca) := cellOf kva 4 rfl
  have lva : Ka < w13.heap.size := ltOf kva
  clear kva
  have Z16 : Hid (LS w [(w.heap.size, w1.heap.size, fun V : World => V.ownsRow w.heap.size 2 1 (.slice (some ⟨ga0, 0, none⟩) s0.length s0.length) s0.length (s0.map (Value.int .i64))), (w1.heap.size, Ka, fun V : World => IS V w1.heap.size (.slice vaa L.length vca) L), (Ka, Ka + 1, fun V : World => V.heap[Ka]? = some (Obj.cells #[.int .i64 C, .int .i64 CP, .int .i64 CT, .int .i64 CW, .slice vaa L.length vca] 29)), (Va.heap.size, w3.heap.size, fun V : World => True), (w3.heap.size, Kg, fun V : World => V.ownsRow w3.heap.size 2 1 (.slice vag L.length vcg) L.length (mkV 1 L.length)), (Kg, Kg + 1, fun V : World => V.heap[Kg]? = some (Obj.cells #[.int .i64 C, .int .i64 CP, .int .i64 CT, .int .i64 CW, .slice vag L.length vcg] 29)), (w5.heap.size, w6.heap.size, fun V : World => V.ownsRow w5.heap.size 2 1 (.slice (some ⟨e0, 0, none⟩) s0.length s0.length) s0.length (s0.map (Value.int .i64))), (w11.heap.size, w12.heap.size, fun V : World => V.ownsRow w11.heap.size 2 1 (.slice (some ⟨gh0, 0, none⟩) s0.length s0.length) s0.length (s0.map (Value.int .i64))), (w12.heap.size, w13.heap.size, fun V : World => IS V w12.heap.size (.slice vah L.length vch) L), (w13.heap.size, w13.heap.size + 1, fun V : World => V.heap[w13.heap.size]? = some (Obj.cells #[.int .i64 C, .int .i64 CP, .int .i64 CT, .int .i64 CW, .slice vah L.length vch] 29))] (w13.alloc (Obj.cells #[.int .i64 C, .int .i64 CP, .int .i64 CT, .int .i64 CW, .slice vah L.length vch] 29))) := Z15.out.push (by (repeat' (first | (with_reducible exact Below.refl _ _) | (with_reducible assumption) | (with_reducible refine Below.setCell ?_ ?_ _) | (with_reducible refine Below.alloc ?_ ?_ _) | (with_reducible refine below_drewN ?_ _) | (with_reducible refine Below.drew ?_) | (with_reducible exact Nat.le_refl _) | omega | (simp; done) | (simp; omega)))) (Ow.block (heap_alloc_new _ _)) (Nat.le_refl _)
  clear Z15
  go_wp2_with (fail)
  obtain ⟨Vh, hV⟩ : ∃ V, V = w13.alloc (Obj.cells #[.int .i64 C, .int .i64 CP, .int .i64 CT, .int .i64 CW, .slice vah L.length vch] 29) := ⟨_, rfl⟩
  rw [← hV] at Z16 ⊢
  obtain ⟨Kh, hK⟩ : ∃ K, K = w13.heap.size := ⟨_, rfl⟩
  rw [← hK] at Z16  ⊢
  clear hV hK
  clear cva_0 cva_1 cva_2 cva_3 cva_4 lva
  refine (eqTalkRun_to C CP CT CW HLN.out (IS.rg (B := w12.heap.size) (show IS Vh w12.heap.size (.slice vah L.length vch) L from (Z16.out.get 8 rfl))) (IS.rg (B := w1.heap.size) (show IS Vh w1.heap.size (.slice vaa L.length vca) L from (Z16.out.get 1 rfl)))).mono ?_
  rintro e w14 ⟨rfl, hb⟩
  have Z17 : Hid (LS w [(w.heap.size, w1.heap.size, fun V : World => V.ownsRow w.heap.size 2 1 (.slice (some ⟨ga0, 0, none⟩) s0.length s0.length) s0.length (s0.map (Value.int .i64))), (w1.heap.size, Ka, fun V : World => IS V w1.heap.size (.slice vaa L.length vca) L), (Ka, Ka + 1, fun V : World => V.heap[Ka]? = some (Obj.cells #[.int .i64 C, .int .i64 CP, .int .i64 CT, .int .i64 CW, .slice vaa L.length vca] 29)), (Va.heap.size, w3.heap.size, fun V : World => True), (w3.heap.size, Kg, fun V : World => V.ownsRow w3.heap.size 2 1 (.slice vag L.length vcg) L.length (mkV 1 L.length)), (Kg, Kg + 1, fun V : World => V.heap[Kg]? = some (Obj.cells #[.int .i64 C, .int .i64 CP, .int .i64 CT, .int .i64 CW, .slice vag L.length vcg] 29)), (w5.heap.size, w6.heap.size, fun V : World => V.ownsRow w5.heap.size 2 1 (.slice (some ⟨e0, 0, none⟩) s0.length s0.length) s0.length (s0.map (Value.int .i64))), (w11.heap.size, w12.heap.size, fun V : World => V.ownsRow w11.heap.size 2 1 (.slice (some ⟨gh0, 0, none⟩) s0.length s0.length) s0.length (s0.map (Value.int .i64))), (w12.heap.size, Kh, fun V : World => IS V w12.heap.size (.slice vah L.length vch) L), (Kh, Kh + 1, fun V : World => V.heap[Kh]? = some (Obj.cells #[.int .i64 C, .int .i64 CP, .int .i64 CT, .int .i64 CW, .slice vah L.length vch] 29))] w14) := Z16.out.next hb
  clear Z16 hb
  have kvg := Z17.out.get 5 rfl
  have cvg_0 : w14.cell? ⟨Kg, 0, none⟩ = some (.int .i64 C) := cellOf kvg 0 rfl
  have cvg_1 : w14.cell? ⟨Kg, 1, none⟩ = some (.int .i64 CP) := cellOf kvg 1 rfl
  have cvg_2 : w14.cell? ⟨Kg, 2, none⟩ = some (.int .i64 CT) := cellOf kvg 2 rfl
  have cvg_3 : w14.cell? ⟨Kg, 3, none⟩ = some (.int .i64 CW) := cellOf kvg 3 rfl
  have cvg_4 : w14.cell? ⟨Kg, 4, none⟩ = some (.slice vag L.length vcg) := cellOf kvg 4 rfl
  have lvg : Kg < w14.heap.size := ltOf kvg
  clear kvg
  go_wp2_with (fail)
  clear cvg_0 cvg_1 cvg_2 cvg_3 cvg_4 lvg
  refine (heldTalkRun_to C CP CT CW 1 HLN.out (by omega) (by omega) (show w14.ownsRow w3.heap.size 2 1 (.slice vag L.length vcg) L.length (mkV 1 L.length) from Z17.out.get 4 rfl)).mono ?_
  rintro e w15 ⟨rfl, hb⟩
  have Z18 : Hid (LS w [(w.heap.size, w1.heap.size, fun V : World => V.ownsRow w.heap.size 2 1 (.slice (some ⟨ga0, 0, none⟩) s0.length s0.length) s0.length (s0.map (Value.int .i64))), (w1.heap.size, Ka, fun V : World => IS V w1.heap.size (.slice vaa L.length vca) L), (Ka, Ka + 1, fun V : World => V.heap[Ka]? = some (Obj.cells #[.int .i64 C, .int .i64 CP, .int .i64 CT, .int .i64 CW, .slice vaa L.length vca] 29)), (Va.heap.size, w3.heap.size, fun V : World => True), (w3.heap.size, Kg, fun V : World => V.ownsRow w3.heap.size 2 1 (.slice vag L.length vcg) L.length (mkV 1 L.length)), (Kg, Kg + 1, fun V : World => V.heap[Kg]? = some (Obj.cells #[.int .i64 C, .int .i64 CP, .int .i64 CT, .int .i64 CW, .slice vag L.length vcg] 29)), (w5.heap.size, w6.heap.size, fun V : World => V.ownsRow w5.heap.size 2 1 (.slice (some ⟨e0, 0, none⟩) s0.length s0.length) s0.length (s0.map (Value.int .i64))), (w11.heap.size, w12.heap.size, fun V : World => V.ownsRow w11.heap.size 2 1 (.slice (some ⟨gh0, 0, none⟩) s0.length s0.length) s0.length (s0.map (Value.int .i64))), (w12.heap.size, Kh, fun V : World => IS V w12.heap.size (.slice vah L.length vch) L), (Kh, Kh + 1, fun V : World => V.heap[Kh]? = some (Obj.cells #[.int .i64 C, .int .i64 CP, .int .i64 CT, .int .i64 CW, .slice vah L.length vch] 29))] w15) := Z17.out.next hb
  clear Z17 hb
  rw [← HTT.out]
  go_wp2
  go_returns
  exact ⟨rfl, Z18.out.bl⟩

set_option maxRecDepth 100000 in
theorem rn18_lifted (os : Os) (started : os.Started) (H : Type) (enc : TypeId × Value → H) :
    ReturnsInHanded {} Try.checked os 8 .any (Rows.fnExactRunTalkSpec.pre6 enc Try.prog Try.f8 Rows.fnExactRunTalkRow.domain false) (Rows.fnExactRunTalkSpec.post enc Try.prog Try.f8 false true false false) := by
  refine returnsInHanded_of_change (C := Try.checked) own started (by kernel_rfl) Try.func8
    (ChangeSpec.witness6 (enc := enc) (C := Try.checked) false ⟨#[], #[.slice none 0 0], []⟩ 8 (by kernel_rfl) (by kernel_rfl) (by kernel_rfl) (by kernel_rfl)) ?_
  intro W base args ds gs before hval0 hW hcnd _
  have hval : ∀ (j : Nat) t v, Try.f8.params[j]? = some t → args[j]? = some v → Value.okWide Try.prog W .any base t v := hval0
  have hW' := hW
  obtain ⟨p, q, hA0, hV, rfl, hfz, hnd⟩ := hW
  have hA : DataW.TrodAll enc Try.prog W 0 (fun _ => true) true Try.f8.params.toList args.toList ds p := hA0
  rw [Try.params8] at hA hval
  obtain ⟨v0, vs0, d0, ds0, p0, q0, hargs, rfl, rfl, h0, r0⟩ := trodAll_cons hA
  obtain ⟨rfl, rfl, rfl⟩ := trodAll_nil r0
  obtain rfl : args = #[v0] := by cases args; simp_all
  obtain ⟨rfl, rfl⟩ := trodVars_none hV
  have k0 := h0
  have lt0 : ∀ x ∈ p0, x.block < W.heap.size := by obtain ⟨m, hm⟩ := k0; exact DataW.trod_lt m _ _ _ hm
  obtain ⟨sa0, sn0, sc0, s0, rfl, ri0, sl0⟩ := ints_open (hval 0 24 v0 rfl rfl) h0
  clear hA0 hval0
  refine (law_rn18 s0 sl0 ri0).mono fun e W' ⟨he, hg⟩ => ?_
  subst he
  exact ⟨_, rfl, _, _, _, [], _, [], hW', trodAll_mk1 (shut_bool Try.underlying4 _), (trodAll_cons_mk (Below.trod laidOut (by kernel_rfl) (of_decide_eq_true (by kernel_rfl)) k0 hg lt0) trodAll_mk0), rfl, hg.frame _, fun h => by cases h⟩

theorem rn18_over : Rows.fnExactRunTalkRow.holds Try.pinned (OpenSpec.ofChange Rows.fnExactRunTalkSpec) :=
  OpenClaim.holds_of_wide 8 Try.f8 rfl rfl rfl rfl rfl rfl rfl ⟨rfl, rfl, rfl, rfl, rfl⟩ rfl rfl rfl rfl rfl (by kernel_rfl) Try.func8 (by kernel_rfl)
    (of_decide_eq_true (by kernel_rfl)) (by unfold Func.isWrapper; first | (rw [if_pos (by decide +kernel)]; kernel_rfl) | (rw [if_neg (by decide +kernel)]; exact ⟨rfl, rfl⟩))
    (fun os started H enc _ => rn18_lifted os started H enc)

theorem rn18_proved : Rows.FnExactRunTalkSaid :=
  rn18_over
#print axioms rn18_proved

end Go.Proofs.Ytejpjbihdclngaa
