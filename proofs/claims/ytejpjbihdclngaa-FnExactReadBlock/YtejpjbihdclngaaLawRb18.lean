/- Proved here: 'the program's ReadBlock answers as the model's; it writes into no argument and keeps nothing of one; its answer owns its memory, behind another call too', without a condition. -/
import Derived.Test.YtejpjbihdclngaaBkI
import Derived.Test.YtejpjbihdclngaaBkS
import Derived.Test.YtejpjbihdclngaaBkR
import Derived.Test.YtejpjbihdclngaaByL
import Derived.Test.YtejpjbihdclngaaByK
import Derived.Test.YtejpjbihdclngaaLwS
import Derived.Test.YtejpjbihdclngaaRows
namespace Go.Proofs.Ytejpjbihdclngaa
open Go.ChangeShapes Go.WideShapes Go.ChangeAt Go.RowKit Go.Joins
set_option linter.unusedVariables false
set_option linter.unusedSimpArgs false

theorem own : ownKnob Try.prog.godebug = none := by kernel_rfl
theorem laidOut : laidOutB Try.prog = true := by kernel_rfl

set_option maxRecDepth 10000 in
set_option maxHeartbeats 25600000 in
theorem law_rb18 {w : World}  {sa0 : Option Addr} {sn0 sc0 : Nat} (s0 : List UInt8) (hm0 : s0.length ≤ maxLen) (hr0 : RG 1 byC w (.slice sa0 sn0 sc0) s0) :
    Calls Try.prog 6 #[.slice sa0 sn0 sc0] w fun e w' => e = .returned (.bool true) ∧ Below w.heap.size w w' := by
  have HM0 : Hid (sn0 ≤ maxLen) := by unfold Hid; rw [hr0.len]; exact hm0
  have HR0 : Hid (RG 1 byC w (.slice sa0 sn0 sc0) s0) := hr0
  have HE0 : Hid (sn0 = s0.length) := hr0.len
  clear hm0 hr0
  have Z0 : Hid (LS w [] w) := LS.start w
  go_enter Try.func6, Try.ntmps6
  by_cases hf0 : (1048576 : Int) < (sn0 : Int)
  · go_wp2
    go_returns
    exact ⟨rfl, Below.refl _ _⟩
  have HL0 : Hid (s0.length ≤ 1048576) := by unfold Hid; rw [← HE0.out]; omega
  obtain ⟨C, hC⟩ : ∃ X, X = rbC s0 := ⟨_, rfl⟩
  obtain ⟨L, hL⟩ : ∃ X, X = rbD s0 := ⟨_, rfl⟩
  obtain ⟨CS, hCS⟩ : ∃ X, X = rbX s0 1 := ⟨_, rfl⟩
  obtain ⟨CF, hCF⟩ : ∃ X, X = rbX s0 2 := ⟨_, rfl⟩
  obtain ⟨CN, hCN⟩ : ∃ X, X = rbX s0 3 := ⟨_, rfl⟩
  obtain ⟨CL, hCL⟩ : ∃ X, X = rbL s0 := ⟨_, rfl⟩
  obtain ⟨CY, hCY⟩ : ∃ X, X = rbX s0 4 := ⟨_, rfl⟩
  have HLN : Hid (L.length ≤ 1048576) := by unfold Hid; rw [hL]; exact Nat.le_trans (rbD_len s0) (by decide)
  have HSP : Hid (∀ (W : World) (g0 : Nat), (RG 1 byC W (.slice (some ⟨g0, 0, none⟩) s0.length s0.length) s0) → Calls Try.prog 25 #[.slice (some ⟨g0, 0, none⟩) s0.length s0.length] W fun e w' => ∃ (v : Value) (_ : Unit), e = .returned (.agg #[.int .i64 C, .int .i64 CS, .int .i64 CF, .int .i64 CN, .bool CL, .int .i64 CY, v]) ∧ OBy w' W.heap.size v L ∧ Below W.heap.size W w') := fun W g0 h0 => by
    rw [hCY, hCL, hCN, hCF, hCS, hL, hC]
    exact spec_rb HL0.out ⟨h0, _, _, rfl, Nat.le_refl _⟩
  have HIM : Hid (∀ (W : World) (g0 : Nat), (RG 1 byC W (.slice (some ⟨g0, 0, none⟩) s0.length s0.length) s0) → Calls Try.prog 27 #[.slice (some ⟨g0, 0, none⟩) s0.length s0.length] W fun e w' => ∃ (v : Value) (_ : Unit), e = .returned (.agg #[.int .i64 C, .int .i64 CS, .int .i64 CF, .int .i64 CN, .bool CL, .int .i64 CY, v]) ∧ OBy w' W.heap.size v L ∧ Below W.heap.size W w') := fun W g0 h0 => by
    rw [hCY, hCL, hCN, hCF, hCS, hL, hC]
    exact impl_rb HL0.out ⟨h0, _, _, rfl, Nat.le_refl _⟩
  clear hC hL hCS hCF hCN hCL hCY 
  go_wp2_with (fail)
  refine (toByteS_any HL0.out (HR0.out.below Z0.out.bl)).mono ?_
  rintro e w1 ⟨ga0, rfl, ho, hb⟩
  have Z1 : Hid (LS w [(w.heap.size, w1.heap.size, fun V : World => V.ownsRow w.heap.size 5 1 (.slice (some ⟨ga0, 0, none⟩) s0.length s0.length) s0.length (s0.flatMap byC))] w1) := Z0.out.push hb (Ow.rowAll ho hb) (Nat.le_refl _)
  clear Z0 hb ho
  go_wp2_with (fail)
  refine (HSP.out w1 ga0 (OG.rg (T := 5) (B := w.heap.size) byC_len (show w1.ownsRow w.heap.size 5 1 (.slice (some ⟨ga0, 0, none⟩) s0.length s0.length) s0.length (s0.flatMap byC) from Z1.out.get 0 rfl))).mono ?_
  rintro e w2 ⟨vq, vr, rfl, hrq, hb⟩
  obtain ⟨vaa, vca, rfl⟩ := (OBy.rg hrq).form
  have Z2 : Hid (LS w [(w.heap.size, w1.heap.size, fun V : World => V.ownsRow w.heap.size 5 1 (.slice (some ⟨ga0, 0, none⟩) s0.length s0.length) s0.length (s0.flatMap byC)), (w1.heap.size, w2.heap.size, fun V : World => OBy V w1.heap.size (.slice vaa L.length vca) L)] w2) := Z1.out.push hb (Ow.rowAll hrq hb) (Nat.le_refl _)
  clear Z1 hb hrq
  have Z3 : Hid (LS w [(w.heap.size, w1.heap.size, fun V : World => V.ownsRow w.heap.size 5 1 (.slice (some ⟨ga0, 0, none⟩) s0.length s0.length) s0.length (s0.flatMap byC)), (w1.heap.size, w2.heap.size, fun V : World => OBy V w1.heap.size (.slice vaa L.length vca) L), (w2.heap.size, w2.heap.size + 1, fun V : World => V.heap[w2.heap.size]? = some (Obj.cells #[.int .i64 C, .int .i64 CS, .int .i64 CF, .int .i64 CN, .bool CL, .int .i64 CY, .slice vaa L.length vca] 50))] (w2.alloc (Obj.cells #[.int .i64 C, .int .i64 CS, .int .i64 CF, .int .i64 CN, .bool CL, .int .i64 CY, .slice vaa L.length vca] 50))) := Z2.out.push (by (repeat' (first | (with_reducible exact Below.refl _ _) | (with_reducible assumption) | (with_reducible refine Below.setCell ?_ ?_ _) | (with_reducible refine Below.alloc ?_ ?_ _) | (with_reducible refine below_drewN ?_ _) | (with_reducible refine Below.drew ?_) | (with_reducible exact Nat.le_refl _) | omega | (simp; done) | (simp; omega)))) (Ow.block (heap_alloc_new _ _)) (Nat.le_refl _)
  clear Z2
  go_wp2_with (fail)
  obtain ⟨Va, hV⟩ : ∃ V, V = w2.alloc (Obj.cells #[.int .i64 C, .int .i64 CS, .int .i64 CF, .int .i64 CN, .bool CL, .int .i64 CY, .slice vaa L.length vca] 50) := ⟨_, rfl⟩
  rw [← hV] at Z3 ⊢
  obtain ⟨Ka, hK⟩ : ∃ K, K = w2.heap.size := ⟨_, rfl⟩
  rw [← hK] at Z3  ⊢
  clear hV hK
  refine (toByteS_any HL0.out (HR0.out.below Z3.out.bl)).mono ?_
  rintro e w3 ⟨x0, rfl, ho, hb⟩
  have HX0 : Hid (∀ g, (.slice (some ⟨x0, 0, none⟩) s0.length s0.length : Value).ownBlock = some g → g < w3.heap.size) := fun g hg => (World.ownsRow.lt ho g hg).2
  have Z4 : Hid (LS w [(w.heap.size, w1.heap.size, fun V : World => V.ownsRow w.heap.size 5 1 (.slice (some ⟨ga0, 0, none⟩) s0.length s0.length) s0.length (s0.flatMap byC)), (w1.heap.size, Ka, fun V : World => OBy V w1.heap.size (.slice vaa L.length vca) L), (Ka, Ka + 1, fun V : World => V.heap[Ka]? = some (Obj.cells #[.int .i64 C, .int .i64 CS, .int .i64 CF, .int .i64 CN, .bool CL, .int .i64 CY, .slice vaa L.length vca] 50)), (Va.heap.size, w3.heap.size, fun V : World => V.ownsRow Va.heap.size 5 1 (.slice (some ⟨x0, 0, none⟩) s0.length s0.length) s0.length (s0.flatMap byC))] w3) := Z3.out.push hb (Ow.rowAll ho hb) (Nat.le_refl _)
  clear Z3 hb ho
  go_wp2_with (fail)
  refine (HIM.out w3 x0 (OG.rg (T := 5) (B := Va.heap.size) byC_len (show w3.ownsRow Va.heap.size 5 1 (.slice (some ⟨x0, 0, none⟩) s0.length s0.length) s0.length (s0.flatMap byC) from Z4.out.get 3 rfl))).mono ?_
  rintro e w4 ⟨vq, vr, rfl, hrq, hb⟩
  obtain ⟨vag, vcg, rfl⟩ := (OBy.rg hrq).form
  have HXg : Hid (∀ g, (.slice vag L.length vcg : Value).ownBlock = some g → g < w4.heap.size) := fun g hg => (OG.lt hrq g hg).2
  have Z5 : Hid (LS w [(w.heap.size, w1.heap.size, fun V : World => V.ownsRow w.heap.size 5 1 (.slice (some ⟨ga0, 0, none⟩) s0.length s0.length) s0.length (s0.flatMap byC)), (w1.heap.size, Ka, fun V : World => OBy V w1.heap.size (.slice vaa L.length vca) L), (Ka, Ka + 1, fun V : World => V.heap[Ka]? = some (Obj.cells #[.int .i64 C, .int .i64 CS, .int .i64 CF, .int .i64 CN, .bool CL, .int .i64 CY, .slice vaa L.length vca] 50)), (Va.heap.size, w3.heap.size, fun V : World => V.ownsRow Va.heap.size 5 1 (.slice (some ⟨x0, 0, none⟩) s0.length s0.length) s0.length (s0.flatMap byC)), (w3.heap.size, w4.heap.size, fun V : World => OBy V w3.heap.size (.slice vag L.length vcg) L)] w4) := Z4.out.push hb (Ow.rowAll hrq hb) (Nat.le_refl _)
  clear Z4 hb hrq
  have kva := Z5.out.get 2 rfl
  have cva_0 : w4.cell? ⟨Ka, 0, none⟩ = some (.int .i64 C) := cellOf kva 0 rfl
  have cva_1 : w4.cell? ⟨Ka, 1, none⟩ = some (.int .i64 CS) := cellOf kva 1 rfl
  have cva_2 : w4.cell? ⟨Ka, 2, none⟩ = some (.int .i64 CF) := cellOf kva 2 rfl
  have cva_3 : w4.cell? ⟨Ka, 3, none⟩ = some (.int .i64 CN) := cellOf kva 3 rfl
  have cva_4 : w4.cell? ⟨Ka, 4, none⟩ = some (.bool CL) := cellOf kva 4 rfl
  have cva_5 : w4.cell? ⟨Ka, 5, none⟩ = some (.int .i64 CY) := cellOf kva 5 rfl
  have cva_6 : w4.cell? ⟨Ka, 6, none⟩ = some (.slice vaa L.length vca) := cellOf kva 6 rfl
  have lva : Ka < w4.heap.size := ltOf kva
  clear kva
  have Z6 : Hid (LS w [(w.heap.size, w1.heap.size, fun V : World => V.ownsRow w.heap.size 5 1 (.slice (some ⟨ga0, 0, none⟩) s0.length s0.length) s0.length (s0.flatMap byC)), (w1.heap.size, Ka, fun V : World => OBy V w1.heap.size (.slice vaa L.length vca) L), (Ka, Ka + 1, fun V : World => V.heap[Ka]? = some (Obj.cells #[.int .i64 C, .int .i64 CS, .int .i64 CF, .int .i64 CN, .bool CL, .int .i64 CY, .slice vaa L.length vca] 50)), (Va.heap.size, w3.heap.size, fun V : World => V.ownsRow Va.heap.size 5 1 (.slice (some ⟨x0, 0, none⟩) s0.length s0.length) s0.length (s0.flatMap byC)), (w3.heap.size, w4.heap.size, fun V : World => OBy V w3.heap.size (.slice vag L.length vcg) L), (w4.heap.size, w4.heap.size + 1, fun V : World => V.heap[w4.heap.size]? = some (Obj.cells #[.int .i64 C, .int .i64 CS, .int .i64 CF, .int .i64 CN, .bool CL, .int .i64 CY, .slice vag L.length vcg] 50))] (w4.alloc (Obj.cells #[.int .i64 C, .int .i64 CS, .int .i64 CF, .int .i64 CN, .bool CL, .int .i64 CY, .slice vag L.length vcg] 50))) := Z5.out.push (by (repeat' (first | (with_reducible exact Below.refl _ _) | (with_reducible assumption) | (with_reducible refine Below.setCell ?_ ?_ _) | (with_reducible refine Below.alloc ?_ ?_ _) | (with_reducible refine below_drewN ?_ _) | (with_reducible refine Below.drew ?_) | (with_reducible exact Nat.le_refl _) | omega | (simp; done) | (simp; omega)))) (Ow.block (heap_alloc_new _ _)) (Nat.le_refl _)
  clear Z5
  go_wp2_with (fail)
  obtain ⟨Vg, hV⟩ : ∃ V, V = w4.alloc (Obj.cells #[.int .i64 C, .int .i64 CS, .int .i64 CF, .int .i64 CN, .bool CL, .int .i64 CY, .slice vag L.length vcg] 50) := ⟨_, rfl⟩
  rw [← hV] at Z6 ⊢
  obtain ⟨Kg, hK⟩ : ∃ K, K = w4.heap.size := ⟨_, rfl⟩
  rw [← hK] at Z6 HXg ⊢
  clear hV hK
  clear cva_0 cva_1 cva_2 cva_3 cva_4 cva_5 cva_6 lva
  refine (eqBlockResult_to C CS CF CN CL CY HLN.out (OBy.rg (B := w3.heap.size) (show OBy Vg w3.heap.size (.slice vag L.length vcg) L from (Z6.out.get 4 rfl))) (OBy.rg (B := w1.heap.size) (show OBy Vg w1.heap.size (.slice vaa L.length vca) L from (Z6.out.get 1 rfl)))).mono ?_
  rintro e w5 ⟨rfl, hb⟩
  have Z7 : Hid (LS w [(w.heap.size, w1.heap.size, fun V : World => V.ownsRow w.heap.size 5 1 (.slice (some ⟨ga0, 0, none⟩) s0.length s0.length) s0.length (s0.flatMap byC)), (w1.heap.size, Ka, fun V : World => OBy V w1.heap.size (.slice vaa L.length vca) L), (Ka, Ka + 1, fun V : World => V.heap[Ka]? = some (Obj.cells #[.int .i64 C, .int .i64 CS, .int .i64 CF, .int .i64 CN, .bool CL, .int .i64 CY, .slice vaa L.length vca] 50)), (Va.heap.size, w3.heap.size, fun V : World => V.ownsRow Va.heap.size 5 1 (.slice (some ⟨x0, 0, none⟩) s0.length s0.length) s0.length (s0.flatMap byC)), (w3.heap.size, Kg, fun V : World => OBy V w3.heap.size (.slice vag L.length vcg) L), (Kg, Kg + 1, fun V : World => V.heap[Kg]? = some (Obj.cells #[.int .i64 C, .int .i64 CS, .int .i64 CF, .int .i64 CN, .bool CL, .int .i64 CY, .slice vag L.length vcg] 50))] w5) := Z6.out.next hb
  clear Z6 hb
  go_wp2_with (fail)
  refine (toByteS_any HL0.out (HR0.out.below Z7.out.bl)).mono ?_
  rintro e w6 ⟨e0, rfl, ho, hb⟩
  have Z8 : Hid (LS w [(w.heap.size, w1.heap.size, fun V : World => V.ownsRow w.heap.size 5 1 (.slice (some ⟨ga0, 0, none⟩) s0.length s0.length) s0.length (s0.flatMap byC)), (w1.heap.size, Ka, fun V : World => OBy V w1.heap.size (.slice vaa L.length vca) L), (Ka, Ka + 1, fun V : World => V.heap[Ka]? = some (Obj.cells #[.int .i64 C, .int .i64 CS, .int .i64 CF, .int .i64 CN, .bool CL, .int .i64 CY, .slice vaa L.length vca] 50)), (Va.heap.size, w3.heap.size, fun V : World => V.ownsRow Va.heap.size 5 1 (.slice (some ⟨x0, 0, none⟩) s0.length s0.length) s0.length (s0.flatMap byC)), (w3.heap.size, Kg, fun V : World => OBy V w3.heap.size (.slice vag L.length vcg) L), (Kg, Kg + 1, fun V : World => V.heap[Kg]? = some (Obj.cells #[.int .i64 C, .int .i64 CS, .int .i64 CF, .int .i64 CN, .bool CL, .int .i64 CY, .slice vag L.length vcg] 50)), (w5.heap.size, w6.heap.size, fun V : World => V.ownsRow w5.heap.size 5 1 (.slice (some ⟨e0, 0, none⟩) s0.length s0.length) s0.length (s0.flatMap byC))] w6) := Z7.out.push hb (Ow.rowAll ho hb) (Nat.le_refl _)
  clear Z7 hb ho
  go_wp2_with (fail)
  refine (eqByteS_same (by have := HL0.out; omega) (OG.rg (T := 5) (B := Va.heap.size) byC_len (show w6.ownsRow Va.heap.size 5 1 (.slice (some ⟨x0, 0, none⟩) s0.length s0.length) s0.length (s0.flatMap byC) from Z8.out.get 3 rfl)) (OG.rg (T := 5) (B := w5.heap.size) byC_len (show w6.ownsRow w5.heap.size 5 1 (.slice (some ⟨e0, 0, none⟩) s0.length s0.length) s0.length (s0.flatMap byC) from Z8.out.get 6 rfl))).mono ?_
  rintro e w7 ⟨rfl, hb⟩
  have Z9 : Hid (LS w [(w.heap.size, w1.heap.size, fun V : World => V.ownsRow w.heap.size 5 1 (.slice (some ⟨ga0, 0, none⟩) s0.length s0.length) s0.length (s0.flatMap byC)), (w1.heap.size, Ka, fun V : World => OBy V w1.heap.size (.slice vaa L.length vca) L), (Ka, Ka + 1, fun V : World => V.heap[Ka]? = some (Obj.cells #[.int .i64 C, .int .i64 CS, .int .i64 CF, .int .i64 CN, .bool CL, .int .i64 CY, .slice vaa L.length vca] 50)), (Va.heap.size, w3.heap.size, fun V : World => V.ownsRow Va.heap.size 5 1 (.slice (some ⟨x0, 0, none⟩) s0.length s0.length) s0.length (s0.flatMap byC)), (w3.heap.size, Kg, fun V : World => OBy V w3.heap.size (.slice vag L.length vcg) L), (Kg, Kg + 1, fun V : World => V.heap[Kg]? = some (Obj.cells #[.int .i64 C, .int .i64 CS, .int .i64 CF, .int .i64 CN, .bool CL, .int .i64 CY, .slice vag L.length vcg] 50)), (w5.heap.size, w6.heap.size, fun V : World => V.ownsRow w5.heap.size 5 1 (.slice (some ⟨e0, 0, none⟩) s0.length s0.length) s0.length (s0.flatMap byC))] w7) := Z8.out.next hb
  clear Z8 hb
  go_wp2_with (fail)
  refine (markByteS_to 1 HL0.out (by omega) (by omega) (show w7.ownsRow Va.heap.size 5 1 (.slice (some ⟨x0, 0, none⟩) s0.length s0.length) s0.length (s0.flatMap byC) from Z9.out.get 3 rfl) (HX0.out)).mono ?_
  rintro e w8 ⟨rfl, hm, hc⟩
  have Z10 : Hid (LS w [(w.heap.size, w1.heap.size, fun V : World => V.ownsRow w.heap.size 5 1 (.slice (some ⟨ga0, 0, none⟩) s0.length s0.length) s0.length (s0.flatMap byC)), (w1.heap.size, Ka, fun V : World => OBy V w1.heap.size (.slice vaa L.length vca) L), (Ka, Ka + 1, fun V : World => V.heap[Ka]? = some (Obj.cells #[.int .i64 C, .int .i64 CS, .int .i64 CF, .int .i64 CN, .bool CL, .int .i64 CY, .slice vaa L.length vca] 50)), (Va.heap.size, w3.heap.size, fun V : World => True), (w3.heap.size, Kg, fun V : World => OBy V w3.heap.size (.slice vag L.length vcg) L), (Kg, Kg + 1, fun V : World => V.heap[Kg]? = some (Obj.cells #[.int .i64 C, .int .i64 CS, .int .i64 CF, .int .i64 CN, .bool CL, .int .i64 CY, .slice vag L.length vcg] 50)), (w5.heap.size, w6.heap.size, fun V : World => V.ownsRow w5.heap.size 5 1 (.slice (some ⟨e0, 0, none⟩) s0.length s0.length) s0.length (s0.flatMap byC))] w8) := Z9.out.put 3 rfl hc ((Z9.out.own 3 rfl).true hc.size)
  clear Z9 hm hc
  obtain ⟨N0, hN⟩ : ∃ N, N = 1 + (s0.length : Int) := ⟨_, rfl⟩
  rw [← hN]
  have hN0 : 0 ≤ N0 ∧ N0 ≤ 10000000 ∧ ¬ N0 < 0 := by have := HL0.out; omega
  have hN0a := hN0.2.2
  clear hN
  have kvg := Z10.out.get 5 rfl
  have cvg_0 : w8.cell? ⟨Kg, 0, none⟩ = some (.int .i64 C) := cellOf kvg 0 rfl
  have cvg_1 : w8.cell? ⟨Kg, 1, none⟩ = some (.int .i64 CS) := cellOf kvg 1 rfl
  have cvg_2 : w8.cell? ⟨Kg, 2, none⟩ = some (.int .i64 CF) := cellOf kvg 2 rfl
  have cvg_3 : w8.cell? ⟨Kg, 3, none⟩ = some (.int .i64 CN) := cellOf kvg 3 rfl
  have cvg_4 : w8.cell? ⟨Kg, 4, none⟩ = some (.bool CL) := cellOf kvg 4 rfl
  have cvg_5 : w8.cell? ⟨Kg, 5, none⟩ = some (.int .i64 CY) := cellOf kvg 5 rfl
  have cvg_6 : w8.cell? ⟨Kg, 6, none⟩ = some (.slice vag L.length vcg) := cellOf kvg 6 rfl
  have lvg : Kg < w8.heap.size := ltOf kvg
  clear kvg
  have kva := Z10.out.get 2 rfl
  have cva_0 : w8.cell? ⟨Ka, 0, none⟩ = some (.int .i64 C) := cellOf kva 0 rfl
  have cva_1 : w8.cell? ⟨Ka, 1, none⟩ = some (.int .i64 CS) := cellOf kva 1 rfl
  have cva_2 : w8.cell? ⟨Ka, 2, none⟩ = some (.int .i64 CF) := cellOf kva 2 rfl
  have cva_3 : w8.cell? ⟨Ka, 3, none⟩ = some (.int .i64 CN) := cellOf kva 3 rfl
  have cva_4 : w8.cell? ⟨Ka, 4, none⟩ = some (.bool CL) := cellOf kva 4 rfl
  have cva_5 : w8.cell? ⟨Ka, 5, none⟩ = some (.int .i64 CY) := cellOf kva 5 rfl
  have cva_6 : w8.cell? ⟨Ka, 6, none⟩ = some (.slice vaa L.length vca) := cellOf kva 6 rfl
  have lva : Ka < w8.heap.size := ltOf kva
  clear kva
  go_wp2_with (fail)
  clear cvg_0 cvg_1 cvg_2 cvg_3 cvg_4 cvg_5 cvg_6 lvg cva_0 cva_1 cva_2 cva_3 cva_4 cva_5 cva_6 lva
  refine (eqBlockResult_to C CS CF CN CL CY HLN.out (OBy.rg (B := w3.heap.size) (show OBy w8 w3.heap.size (.slice vag L.length vcg) L from (Z10.out.get 4 rfl))) (OBy.rg (B := w1.heap.size) (show OBy w8 w1.heap.size (.slice vaa L.length vca) L from (Z10.out.get 1 rfl)))).mono ?_
  rintro e w9 ⟨rfl, hb⟩
  have Z11 : Hid (LS w [(w.heap.size, w1.heap.size, fun V : World => V.ownsRow w.heap.size 5 1 (.slice (some ⟨ga0, 0, none⟩) s0.length s0.length) s0.length (s0.flatMap byC)), (w1.heap.size, Ka, fun V : World => OBy V w1.heap.size (.slice vaa L.length vca) L), (Ka, Ka + 1, fun V : World => V.heap[Ka]? = some (Obj.cells #[.int .i64 C, .int .i64 CS, .int .i64 CF, .int .i64 CN, .bool CL, .int .i64 CY, .slice vaa L.length vca] 50)), (Va.heap.size, w3.heap.size, fun V : World => True), (w3.heap.size, Kg, fun V : World => OBy V w3.heap.size (.slice vag L.length vcg) L), (Kg, Kg + 1, fun V : World => V.heap[Kg]? = some (Obj.cells #[.int .i64 C, .int .i64 CS, .int .i64 CF, .int .i64 CN, .bool CL, .int .i64 CY, .slice vag L.length vcg] 50)), (w5.heap.size, w6.heap.size, fun V : World => V.ownsRow w5.heap.size 5 1 (.slice (some ⟨e0, 0, none⟩) s0.length s0.length) s0.length (s0.flatMap byC))] w9) := Z10.out.next hb
  clear Z10 hb
  have kvg := Z11.out.get 5 rfl
  have cvg_0 : w9.cell? ⟨Kg, 0, none⟩ = some (.int .i64 C) := cellOf kvg 0 rfl
  have cvg_1 : w9.cell? ⟨Kg, 1, none⟩ = some (.int .i64 CS) := cellOf kvg 1 rfl
  have cvg_2 : w9.cell? ⟨Kg, 2, none⟩ = some (.int .i64 CF) := cellOf kvg 2 rfl
  have cvg_3 : w9.cell? ⟨Kg, 3, none⟩ = some (.int .i64 CN) := cellOf kvg 3 rfl
  have cvg_4 : w9.cell? ⟨Kg, 4, none⟩ = some (.bool CL) := cellOf kvg 4 rfl
  have cvg_5 : w9.cell? ⟨Kg, 5, none⟩ = some (.int .i64 CY) := cellOf kvg 5 rfl
  have cvg_6 : w9.cell? ⟨Kg, 6, none⟩ = some (.slice vag L.length vcg) := cellOf kvg 6 rfl
  have lvg : Kg < w9.heap.size := ltOf kvg
  clear kvg
  go_wp2_with (fail)
  clear cvg_0 cvg_1 cvg_2 cvg_3 cvg_4 cvg_5 cvg_6 lvg
  refine (markBlockResult_to C CS CF CN CL CY 1 HLN.out (by omega) (by omega) (show OBy w9 w3.heap.size (.slice vag L.length vcg) L from (Z11.out.get 4 rfl)) HXg.out).mono ?_
  rintro e w10 ⟨rfl, hm, hc⟩
  have Z12 : Hid (LS w [(w.heap.size, w1.heap.size, fun V : World => V.ownsRow w.heap.size 5 1 (.slice (some ⟨ga0, 0, none⟩) s0.length s0.length) s0.length (s0.flatMap byC)), (w1.heap.size, Ka, fun V : World => OBy V w1.heap.size (.slice vaa L.length vca) L), (Ka, Ka + 1, fun V : World => V.heap[Ka]? = some (Obj.cells #[.int .i64 C, .int .i64 CS, .int .i64 CF, .int .i64 CN, .bool CL, .int .i64 CY, .slice vaa L.length vca] 50)), (Va.heap.size, w3.heap.size, fun V : World => True), (w3.heap.size, Kg, fun V : World => V.ownsRow w3.heap.size 5 1 (.slice vag L.length vcg) L.length (mkB 1 L.length)), (Kg, Kg + 1, fun V : World => V.heap[Kg]? = some (Obj.cells #[.int .i64 C, .int .i64 CS, .int .i64 CF, .int .i64 CN, .bool CL, .int .i64 CY, .slice vag L.length vcg] 50)), (w5.heap.size, w6.heap.size, fun V : World => V.ownsRow w5.heap.size 5 1 (.slice (some ⟨e0, 0, none⟩) s0.length s0.length) s0.length (s0.flatMap byC))] w10) := Z11.out.put 4 rfl hc (Ow.row hm (Z11.out.own 4 rfl).le.1 (Nat.le_trans (Z11.out.own 4 rfl).le.2 hc.size) HXg.out)
  clear Z11 hm hc
  obtain ⟨TT, hTT⟩ : ∃ TT, TT = 1 + (L.length : Int) := ⟨_, rfl⟩
  have hT0 : ¬ TT < 0 := by omega
  have HTT : Hid (TT = 1 + (L.length : Int)) := hTT
  rw [← hTT]
  clear hTT
  have kvg := Z12.out.get 5 rfl
  have cvg_0 : w10.cell? ⟨Kg, 0, none⟩ = some (.int .i64 C) := cellOf kvg 0 rfl
  have cvg_1 : w10.cell? ⟨Kg, 1, none⟩ = some (.int .i64 CS) := cellOf kvg 1 rfl
  have cvg_2 : w10.cell? ⟨Kg, 2, none⟩ = some (.int .i64 CF) := cellOf kvg 2 rfl
  have cvg_3 : w10.cell? ⟨Kg, 3, none⟩ = some (.int .i64 CN) := cellOf kvg 3 rfl
  have cvg_4 : w10.cell? ⟨Kg, 4, none⟩ = some (.bool CL) := cellOf kvg 4 rfl
  have cvg_5 : w10.cell? ⟨Kg, 5, none⟩ = some (.int .i64 CY) := cellOf kvg 5 rfl
  have cvg_6 : w10.cell? ⟨Kg, 6, none⟩ = some (.slice vag L.length vcg) := cellOf kvg 6 rfl
  have lvg : Kg < w10.heap.size := ltOf kvg
  clear kvg
  go_wp2_with (fail)
  clear cvg_0 cvg_1 cvg_2 cvg_3 cvg_4 cvg_5 cvg_6 lvg
  refine (heldBlockResult_to C CS CF CN CL CY 1 HLN.out (by omega) (by omega) (show w10.ownsRow w3.heap.size 5 1 (.slice vag L.length vcg) L.length (mkB 1 L.length) from Z12.out.get 4 rfl)).mono ?_
  rintro e w11 ⟨rfl, hb⟩
  have Z13 : Hid (LS w [(w.heap.size, w1.heap.size, fun V : World => V.ownsRow w.heap.size 5 1 (.slice (some ⟨ga0, 0, none⟩) s0.length s0.length) s0.length (s0.flatMap byC)), (w1.heap.size, Ka, fun V : World => OBy V w1.heap.size (.slice vaa L.length vca) L), (Ka, Ka + 1, fun V : World => V.heap[Ka]? = some (Obj.cells #[.int .i64 C, .int .i64 CS, .int .i64 CF, .int .i64 CN, .bool CL, .int .i64 CY, .slice vaa L.length vca] 50)), (Va.heap.size, w3.heap.size, fun V : World => True), (w3.heap.size, Kg, fun V : World => V.ownsRow w3.heap.size 5 1 (.slice vag L.length vcg) L.length (mkB 1 L.length)), (Kg, Kg + 1, fun V : World => V.heap[Kg]? = some (Obj.cells #[.int .i64 C, .int .i64 CS, .int .i64 CF, .int .i64 CN, .bool CL, .int .i64 CY, .slice vag L.length vcg] 50)), (w5.heap.size, w6.heap.size, fun V : World => V.ownsRow w5.heap.size 5 1 (.slice (some ⟨e0, 0, none⟩) s0.length s0.length) s0.length (s0.flatMap byC))] w11) := Z12.out.next hb
  clear Z12 hb
  rw [← HTT.out]
  go_wp2_with (fail)
  refine (toByteS_any HL0.out (HR0.out.below Z13.out.bl)).mono ?_
  rintro e w12 ⟨gh0, rfl, ho, hb⟩
  have Z14 : Hid (LS w [(w.heap.size, w1.heap.size, fun V : World => V.ownsRow w.heap.size 5 1 (.slice (some ⟨ga0, 0, none⟩) s0.length s0.length) s0.length (s0.flatMap byC)), (w1.heap.size, Ka, fun V : World => OBy V w1.heap.size (.slice vaa L.length vca) L), (Ka, Ka + 1, fun V : World => V.heap[Ka]? = some (Obj.cells #[.int .i64 C, .int .i64 CS, .int .i64 CF, .int .i64 CN, .bool CL, .int .i64 CY, .slice vaa L.length vca] 50)), (Va.heap.size, w3.heap.size, fun V : World => True), (w3.heap.size, Kg, fun V : World => V.ownsRow w3.heap.size 5 1 (.slice vag L.length vcg) L.length (mkB 1 L.length)), (Kg, Kg + 1, fun V : World => V.heap[Kg]? = some (Obj.cells #[.int .i64 C, .int .i64 CS, .int .i64 CF, .int .i64 CN, .bool CL, .int .i64 CY, .slice vag L.length vcg] 50)), (w5.heap.size, w6.heap.size, fun V : World => V.ownsRow w5.heap.size 5 1 (.slice (some ⟨e0, 0, none⟩) s0.length s0.length) s0.length (s0.flatMap byC)), (w11.heap.size, w12.heap.size, fun V : World => V.ownsRow w11.heap.size 5 1 (.slice (some ⟨gh0, 0, none⟩) s0.length s0.length) s0.length (s0.flatMap byC))] w12) := Z13.out.push hb (Ow.rowAll ho hb) (Nat.le_refl _)
  clear Z13 hb ho
  go_wp2_with (fail)
  refine (HIM.out w12 gh0 (OG.rg (T := 5) (B := w11.heap.size) byC_len (show w12.ownsRow w11.heap.size 5 1 (.slice (some ⟨gh0, 0, none⟩) s0.length s0.length) s0.length (s0.flatMap byC) from Z14.out.get 7 rfl))).mono ?_
  rintro e w13 ⟨vq, vr, rfl, hrq, hb⟩
  obtain ⟨vah, vch, rfl⟩ := (OBy.rg hrq).form
  have Z15 : Hid (LS w [(w.heap.size, w1.heap.size, fun V : World => V.ownsRow w.heap.size 5 1 (.slice (some ⟨ga0, 0, none⟩) s0.length s0.length) s0.length (s0.flatMap byC)), (w1.heap.size, Ka, fun V : World => OBy V w1.heap.size (.slice vaa L.length vca) L), (Ka, Ka + 1, fun V : World => V.heap[Ka]? = some (Obj.cells #[.int .i64 C, .int .i64 CS, .int .i64 CF, .int .i64 CN, .bool CL, .int .i64 CY, .slice vaa L.length vca] 50)), (Va.heap.size, w3.heap.size, fun V : World => True), (w3.heap.size, Kg, fun V : World => V.ownsRow w3.heap.size 5 1 (.slice vag L.length vcg) L.length (mkB 1 L.length)), (Kg, Kg + 1, fun V : World => V.heap[Kg]? = some (Obj.cells #[.int .i64 C, .int .i64 CS, .int .i64 CF, .int .i64 CN, .bool CL, .int .i64 CY, .slice vag L.length vcg] 50)), (w5.heap.size, w6.heap.size, fun V : World => V.ownsRow w5.heap.size 5 1 (.slice (some ⟨e0, 0, none⟩) s0.length s0.length) s0.length (s0.flatMap byC)), (w11.heap.size, w12.heap.size, fun V : World => V.ownsRow w11.heap.size 5 1 (.slice (some ⟨gh0, 0, none⟩) s0.length s0.length) s0.length (s0.flatMap byC)), (w12.heap.size, w13.heap.size, fun V : World => OBy V w12.heap.size (.slice vah L.length vch) L)] w13) := Z14.out.push hb (Ow.rowAll hrq hb) (Nat.le_refl _)
  clear Z14 hb hrq
  have kva := Z15.out.get 2 rfl
  have cva_0 : w13.cell? ⟨Ka, 0, none⟩ = some (.int .i64 C) := cellOf kva 0 rfl
  have cva_1 : w13.cell? ⟨Ka, 1, none⟩ = some (.int .i64 CS) := cellOf kva 1 rfl
  have cva_2 : w13.cell? ⟨Ka, 2, none⟩ = some (.int .i64 CF) := cellOf kva 2 rfl
  have cva_3 : w13.cell? ⟨Ka, 3, none⟩ = some (.int .i64 CN) := cellOf kva 3 rfl
  have cva_4 : w13.cell? ⟨Ka, 4, none⟩ = some (.bool CL) := cellOf kva 4 rfl
  have cva_5 : w13.cell? ⟨Ka, 5, none⟩ = some (.int .i64 CY) := cellOf kva 5 rfl
  have cva_6 : w13.cell? ⟨Ka, 6, none⟩ = some (.slice vaa L.length vca) := cellOf kva 6 rfl
  have lva : Ka < w13.heap.size := ltOf kva
  clear kva
  have Z16 : Hid (LS w [(w.heap.size, w1.heap.size, fun V : World => V.ownsRow w.heap.size 5 1 (.slice (some ⟨ga0, 0, none⟩) s0.length s0.length) s0.length (s0.flatMap byC)), (w1.heap.size, Ka, fun V : World => OBy V w1.heap.size (.slice vaa L.length vca) L), (Ka, Ka + 1, fun V : World => V.heap[Ka]? = some (Obj.cells #[.int .i64 C, .int .i64 CS, .int .i64 CF, .int .i64 CN, .bool CL, .int .i64 CY, .slice vaa L.length vca] 50)), (Va.heap.size, w3.heap.size, fun V : World => True), (w3.heap.size, Kg, fun V : World => V.ownsRow w3.heap.size 5 1 (.slice vag L.length vcg) L.length (mkB 1 L.length)), (Kg, Kg + 1, fun V : World => V.heap[Kg]? = some (Obj.cells #[.int .i64 C, .int .i64 CS, .int .i64 CF, .int .i64 CN, .bool CL, .int .i64 CY, .slice vag L.length vcg] 50)), (w5.heap.size, w6.heap.size, fun V : World => V.ownsRow w5.heap.size 5 1 (.slice (some ⟨e0, 0, none⟩) s0.length s0.length) s0.length (s0.flatMap byC)), (w11.heap.size, w12.heap.size, fun V : World => V.ownsRow w11.heap.size 5 1 (.slice (some ⟨gh0, 0, none⟩) s0.length s0.length) s0.length (s0.flatMap byC)), (w12.heap.size, w13.heap.size, fun V : World => OBy V w12.heap.size (.slice vah L.length vch) L), (w13.heap.size, w13.heap.size + 1, fun V : World => V.heap[w13.heap.size]? = some (Obj.cells #[.int .i64 C, .int .i64 CS, .int .i64 CF, .int .i64 CN, .bool CL, .int .i64 CY, .slice vah L.length vch] 50))] (w13.alloc (Obj.cells #[.int .i64 C, .int .i64 CS, .int .i64 CF, .int .i64 CN, .bool CL, .int .i64 CY, .slice vah L.length vch] 50))) := Z15.out.push (by (repeat' (first | (with_reducible exact Below.refl _ _) | (with_reducible assumption) | (with_reducible refine Below.setCell ?_ ?_ _) | (with_reducible refine Below.alloc ?_ ?_ _) | (with_reducible refine below_drewN ?_ _) | (with_reducible refine Below.drew ?_) | (with_reducible exact Nat.le_refl _) | omega | (simp; done) | (simp; omega)))) (Ow.block (heap_alloc_new _ _)) (Nat.le_refl _)
  clear Z15
  go_wp2_with (fail)
  obtain ⟨Vh, hV⟩ : ∃ V, V = w13.alloc (Obj.cells #[.int .i64 C, .int .i64 CS, .int .i64 CF, .int .i64 CN, .bool CL, .int .i64 CY, .slice vah L.length vch] 50) := ⟨_, rfl⟩
  rw [← hV] at Z16 ⊢
  obtain ⟨Kh, hK⟩ : ∃ K, K = w13.heap.size := ⟨_, rfl⟩
  rw [← hK] at Z16  ⊢
  clear hV hK
  clear cva_0 cva_1 cva_2 cva_3 cva_4 cva_5 cva_6 lva
  refine (eqBlockResult_to C CS CF CN CL CY HLN.out (OBy.rg (B := w12.heap.size) (show OBy Vh w12.heap.size (.slice vah L.length vch) L from (Z16.out.get 8 rfl))) (OBy.rg (B := w1.heap.size) (show OBy Vh w1.heap.size (.slice vaa L.length vca) L from (Z16.out.get 1 rfl)))).mono ?_
  rintro e w14 ⟨rfl, hb⟩
  have Z17 : Hid (LS w [(w.heap.size, w1.heap.size, fun V : World => V.ownsRow w.heap.size 5 1 (.slice (some ⟨ga0, 0, none⟩) s0.length s0.length) s0.length (s0.flatMap byC)), (w1.heap.size, Ka, fun V : World => OBy V w1.heap.size (.slice vaa L.length vca) L), (Ka, Ka + 1, fun V : World => V.heap[Ka]? = some (Obj.cells #[.int .i64 C, .int .i64 CS, .int .i64 CF, .int .i64 CN, .bool CL, .int .i64 CY, .slice vaa L.length vca] 50)), (Va.heap.size, w3.heap.size, fun V : World => True), (w3.heap.size, Kg, fun V : World => V.ownsRow w3.heap.size 5 1 (.slice vag L.length vcg) L.length (mkB 1 L.length)), (Kg, Kg + 1, fun V : World => V.heap[Kg]? = some (Obj.cells #[.int .i64 C, .int .i64 CS, .int .i64 CF, .int .i64 CN, .bool CL, .int .i64 CY, .slice vag L.length vcg] 50)), (w5.heap.size, w6.heap.size, fun V : World => V.ownsRow w5.heap.size 5 1 (.slice (some ⟨e0, 0, none⟩) s0.length s0.length) s0.length (s0.flatMap byC)), (w11.heap.size, w12.heap.size, fun V : World => V.ownsRow w11.heap.size 5 1 (.slice (some ⟨gh0, 0, none⟩) s0.length s0.length) s0.length (s0.flatMap byC)), (w12.heap.size, Kh, fun V : World => OBy V w12.heap.size (.slice vah L.length vch) L), (Kh, Kh + 1, fun V : World => V.heap[Kh]? = some (Obj.cells #[.int .i64 C, .int .i64 CS, .int .i64 CF, .int .i64 CN, .bool CL, .int .i64 CY, .slice vah L.length vch] 50))] w14) := Z16.out.next hb
  clear Z16 hb
  have kvg := Z17.out.get 5 rfl
  have cvg_0 : w14.cell? ⟨Kg, 0, none⟩ = some (.int .i64 C) := cellOf kvg 0 rfl
  have cvg_1 : w14.cell? ⟨Kg, 1, none⟩ = some (.int .i64 CS) := cellOf kvg 1 rfl
  have cvg_2 : w14.cell? ⟨Kg, 2, none⟩ = some (.int .i64 CF) := cellOf kvg 2 rfl
  have cvg_3 : w14.cell? ⟨Kg, 3, none⟩ = some (.int .i64 CN) := cellOf kvg 3 rfl
  have cvg_4 : w14.cell? ⟨Kg, 4, none⟩ = some (.bool CL) := cellOf kvg 4 rfl
  have cvg_5 : w14.cell? ⟨Kg, 5, none⟩ = some (.int .i64 CY) := cellOf kvg 5 rfl
  have cvg_6 : w14.cell? ⟨Kg, 6, none⟩ = some (.slice vag L.length vcg) := cellOf kvg 6 rfl
  have lvg : Kg < w14.heap.size := ltOf kvg
  clear kvg
  go_wp2_with (fail)
  clear cvg_0 cvg_1 cvg_2 cvg_3 cvg_4 cvg_5 cvg_6 lvg
  refine (heldBlockResult_to C CS CF CN CL CY 1 HLN.out (by omega) (by omega) (show w14.ownsRow w3.heap.size 5 1 (.slice vag L.length vcg) L.length (mkB 1 L.length) from Z17.out.get 4 rfl)).mono ?_
  rintro e w15 ⟨rfl, hb⟩
  have Z18 : Hid (LS w [(w.heap.size, w1.heap.size, fun V : World => V.ownsRow w.heap.size 5 1 (.slice (some ⟨ga0, 0, none⟩) s0.length s0.length) s0.length (s0.flatMap byC)), (w1.heap.size, Ka, fun V : World => OBy V w1.heap.size (.slice vaa L.length vca) L), (Ka, Ka + 1, fun V : World => V.heap[Ka]? = some (Obj.cells #[.int .i64 C, .int .i64 CS, .int .i64 CF, .int .i64 CN, .bool CL, .int .i64 CY, .slice vaa L.length vca] 50)), (Va.heap.size, w3.heap.size, fun V : World => True), (w3.heap.size, Kg, fun V : World => V.ownsRow w3.heap.size 5 1 (.slice vag L.length vcg) L.length (mkB 1 L.length)), (Kg, Kg + 1, fun V : World => V.heap[Kg]? = some (Obj.cells #[.int .i64 C, .int .i64 CS, .int .i64 CF, .int .i64 CN, .bool CL, .int .i64 CY, .slice vag L.length vcg] 50)), (w5.heap.size, w6.heap.size, fun V : World => V.ownsRow w5.heap.size 5 1 (.slice (some ⟨e0, 0, none⟩) s0.length s0.length) s0.length (s0.flatMap byC)), (w11.heap.size, w12.heap.size, fun V : World => V.ownsRow w11.heap.size 5 1 (.slice (some ⟨gh0, 0, none⟩) s0.length s0.length) s0.length (s0.flatMap byC)), (w12.heap.size, Kh, fun V : World => OBy V w12.heap.size (.slice vah L.length vch) L), (Kh, Kh + 1, fun V : World => V.heap[Kh]? = some (Obj.cells #[.int .i64 C, .int .i64 CS, .int .i64 CF, .int .i64 CN, .bool CL, .int .i64 CY, .slice vah L.length vch] 50))] w15) := Z17.out.next hb
  clear Z17 hb
  rw [← HTT.out]
  go_wp2
  go_returns
  exact ⟨rfl, Z18.out.bl⟩

set_option maxRecDepth 100000 in
theorem rb18_lifted (os : Os) (started : os.Started) (H : Type) (enc : TypeId × Value → H) :
    ReturnsInHanded {} Try.checked os 6 .any (Rows.fnExactReadBlockSpec.pre6 enc Try.prog Try.f6 Rows.fnExactReadBlockRow.domain false) (Rows.fnExactReadBlockSpec.post enc Try.prog Try.f6 false true false false) := by
  refine returnsInHanded_of_change (C := Try.checked) own started (by kernel_rfl) Try.func6
    (ChangeSpec.witness6 (enc := enc) (C := Try.checked) false ⟨#[], #[.slice none 0 0], []⟩ 8 (by kernel_rfl) (by kernel_rfl) (by kernel_rfl) (by kernel_rfl)) ?_
  intro W base args ds gs before hval0 hW hcnd _
  have hval : ∀ (j : Nat) t v, Try.f6.params[j]? = some t → args[j]? = some v → Value.okWide Try.prog W .any base t v := hval0
  have hW' := hW
  obtain ⟨p, q, hA0, hV, rfl, hfz, hnd⟩ := hW
  have hA : DataW.TrodAll enc Try.prog W 0 (fun _ => true) true Try.f6.params.toList args.toList ds p := hA0
  rw [Try.params6] at hA hval
  obtain ⟨v0, vs0, d0, ds0, p0, q0, hargs, rfl, rfl, h0, r0⟩ := trodAll_cons hA
  obtain ⟨rfl, rfl, rfl⟩ := trodAll_nil r0
  obtain rfl : args = #[v0] := by cases args; simp_all
  obtain ⟨rfl, rfl⟩ := trodVars_none hV
  have k0 := h0
  have lt0 : ∀ x ∈ p0, x.block < W.heap.size := by obtain ⟨m, hm⟩ := k0; exact DataW.trod_lt m _ _ _ hm
  obtain ⟨sa0, sn0, sc0, s0, rfl, ri0, sl0⟩ := bytes_open (hval 0 22 v0 rfl rfl) h0
  clear hA0 hval0
  refine (law_rb18 s0 sl0 ri0).mono fun e W' ⟨he, hg⟩ => ?_
  subst he
  exact ⟨_, rfl, _, _, _, [], _, [], hW', trodAll_mk1 (shut_bool Try.underlying4 _), (trodAll_cons_mk (Below.trod laidOut (by kernel_rfl) (of_decide_eq_true (by kernel_rfl)) k0 hg lt0) trodAll_mk0), rfl, hg.frame _, fun h => by cases h⟩

theorem rb18_over : Rows.fnExactReadBlockRow.holds Try.pinned (OpenSpec.ofChange Rows.fnExactReadBlockSpec) :=
  OpenClaim.holds_of_wide 6 Try.f6 rfl rfl rfl rfl rfl rfl rfl ⟨rfl, rfl, rfl, rfl, rfl⟩ rfl rfl rfl rfl rfl (by kernel_rfl) Try.func6 (by kernel_rfl)
    (of_decide_eq_true (by kernel_rfl)) (by unfold Func.isWrapper; first | (rw [if_pos (by decide +kernel)]; kernel_rfl) | (rw [if_neg (by decide +kernel)]; exact ⟨rfl, rfl⟩))
    (fun os started H enc _ => rb18_lifted os started H enc)

theorem rb18_proved : Rows.FnExactReadBlockSaid :=
  rb18_over
#print axioms rb18_proved

end Go.Proofs.Ytejpjbihdclngaa
