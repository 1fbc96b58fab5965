/- Proved here: 'the program's AlarmsOf answers as the model's; it writes into no argument and keeps nothing of one; its answer owns its memory, behind another call too'; the one condition, that the table of run rules is as the program's text lays it, is tied to the text by the card. -/
import Derived.Test.YtcdpaokmjoklcaaDoorAaI
import Derived.Test.YtcdpaokmjoklcaaDoorAaS
import Derived.Test.YtcdpaokmjoklcaaDoorNlW
import Derived.Test.YtcdpaokmjoklcaaDoorNlQ
import Derived.Test.YtcdpaokmjoklcaaDoorMkI0
import Derived.Test.YtcdpaokmjoklcaaDoorMkAl
import Derived.Test.YtcdpaokmjoklcaaDoorCards
import Derived.Test.YtcdpaokmjoklcaaDoorTie
import Derived.Test.YtcdpaokmjoklcaaDoorLwS
import Derived.Test.YtcdpaokmjoklcaaDoorRows
import Derived.WalkKit
import Derived.ProofKit
import Derived.OpenShut
import Derived.OpenVars
import Derived.ChangeVars
import Derived.Deep.DeepHandedRow
import Derived.Lib.LaidTab
namespace Go.Proofs.YtcdpaokmjoklcaaDoor
open Go.ChangeShapes Go.WideShapes Go.ChangeAt Go.RowKit Go.Joins
set_option linter.unusedVariables false
set_option linter.unusedSimpArgs false

theorem own : ownKnob Tryd.prog.godebug = none := by kernel_rfl
theorem laidOut : laidOutB Tryd.prog = true := by kernel_rfl

set_option maxRecDepth 10000 in
set_option maxHeartbeats 25600000 in
theorem law_aa16 {w : World} (htab : Tab16 w) {sa0 : Option Addr} {sn0 sc0 : Nat} (s0 : List Int) (hm0 : s0.length ≤ maxLen) (hr0 : RdI w (.slice sa0 sn0 sc0) s0) (n1 : Int) (n2 : Int) :
    Calls Tryd.prog 3 #[.slice sa0 sn0 sc0, .int .i64 n1, .int .i64 n2] w fun e w' => e = .returned (.bool true) ∧ Below w.heap.size w w' := by
  have HM0 : Hid (sn0 ≤ maxLen) := by unfold Hid; rw [hr0.len]; exact hm0
  have HR0 : Hid (RdI w (.slice sa0 sn0 sc0) s0) := hr0
  have HE0 : Hid (sn0 = s0.length) := hr0.len
  clear hm0 hr0
  have Z0 : Hid (LS w [] w) := LS.start w
  go_enter Tryd.func3, Tryd.ntmps3
  by_cases hf0 : (1048576 : Int) < (sn0 : Int)
  · go_wp2
    go_returns
    exact ⟨rfl, Below.refl _ _⟩
  have HL0 : Hid (s0.length ≤ 1048576) := by unfold Hid; rw [← HE0.out]; omega
  obtain ⟨C, hC⟩ : ∃ X, X = aaC n1 n2 s0 := ⟨_, rfl⟩
  obtain ⟨L, hL⟩ : ∃ X, X = aaL n1 n2 s0 := ⟨_, rfl⟩
  obtain ⟨LN, hLN⟩ : ∃ X, X = L.length := ⟨_, rfl⟩
  have HLN : Hid (LN = L.length ∧ LN ≤ 1200) := ⟨hLN, by rw [hLN, hL]; exact aaL_len _ _ _⟩
  have HSP : Hid (∀ (W : World) (g0 : Nat), (RdI W (.slice (some ⟨g0, 0, none⟩) s0.length s0.length) s0) → Calls Tryd.prog 4 #[.slice (some ⟨g0, 0, none⟩) s0.length s0.length, .int .i64 n1, .int .i64 n2] W fun e w' => ∃ v, e = .returned (.agg #[.int .i64 C, v]) ∧ w'.ownsRow W.heap.size 38 2 v LN (L.flatMap alC) ∧ Below W.heap.size W w') := fun W g0 h0 => by
    rw [hLN, hL, hC]
    exact spec_aa n1 n2 HL0.out h0
  have HIM : Hid (∀ (W : World) (g0 : Nat), Below w.heap.size w W → (RdI W (.slice (some ⟨g0, 0, none⟩) s0.length s0.length) s0) → Calls Tryd.prog 6 #[.slice (some ⟨g0, 0, none⟩) s0.length s0.length, .int .i64 n1, .int .i64 n2] W fun e w' => ∃ v, e = .returned (.agg #[.int .i64 C, v]) ∧ w'.ownsRow W.heap.size 38 2 v LN (L.flatMap alC) ∧ Below W.heap.size W w') := fun W g0 hBW h0 => by
    rw [hLN, hL, hC]
    exact impl_aa n1 n2 (htab.next hBW) HL0.out h0
  clear hC hL hLN 
  go_wp2_with (fail)
  refine (toInt64S_any HL0.out (HR0.out.below Z0.out.bl)).mono ?_
  rintro e w1 ⟨ga0, rfl, ho, hb⟩
  have Z1 : Hid (LS w [(w.heap.size, w1.heap.size, fun V : World => V.ownsRow w.heap.size 2 1 (.slice (some ⟨ga0, 0, none⟩) s0.length s0.length) s0.length (s0.map (Value.int .i64)))] w1) := Z0.out.push hb (Ow.rowAll ho hb) (Nat.le_refl _)
  clear Z0 hb ho
  go_wp2_with (fail)
  refine (HSP.out w1 ga0 (IS.rg (B := w.heap.size) (show w1.ownsRow w.heap.size 2 1 (.slice (some ⟨ga0, 0, none⟩) s0.length s0.length) s0.length (s0.map (Value.int .i64)) from Z1.out.get 0 rfl))).mono ?_
  rintro e w2 ⟨vq, rfl, hrq, hb⟩
  obtain ⟨vaa, vca, rfl⟩ : ∃ a c, vq = .slice a LN c := by
    rcases hrq.2 with ⟨rfl, h0⟩ | ⟨g, cap, cur, rfl, _⟩
    · exact ⟨_, _, by rw [h0]⟩
    · exact ⟨_, _, rfl⟩
  have Z2 : Hid (LS w [(w.heap.size, w1.heap.size, fun V : World => V.ownsRow w.heap.size 2 1 (.slice (some ⟨ga0, 0, none⟩) s0.length s0.length) s0.length (s0.map (Value.int .i64))), (w1.heap.size, w2.heap.size, fun V : World => V.ownsRow w1.heap.size 38 2 (.slice vaa LN vca) LN (L.flatMap alC))] w2) := Z1.out.push hb (Ow.rowAll hrq hb) (Nat.le_refl _)
  clear Z1 hb hrq
  have Z3 : Hid (LS w [(w.heap.size, w1.heap.size, fun V : World => V.ownsRow w.heap.size 2 1 (.slice (some ⟨ga0, 0, none⟩) s0.length s0.length) s0.length (s0.map (Value.int .i64))), (w1.heap.size, w2.heap.size, fun V : World => V.ownsRow w1.heap.size 38 2 (.slice vaa LN vca) LN (L.flatMap alC)), (w2.heap.size, w2.heap.size + 1, fun V : World => V.heap[w2.heap.size]? = some (Obj.cells #[.int .i64 C, .slice vaa LN vca] 25))] (w2.alloc (Obj.cells #[.int .i64 C, .slice vaa LN vca] 25))) := Z2.out.push (by (repeat' (first | (with_reducible exact Below.refl _ _) | (with_reducible assumption) | (with_reducible refine Below.setCell ?_ ?_ _) | (with_reducible refine Below.alloc ?_ ?_ _) | (with_reducible refine below_drewN ?_ _) | (with_reducible refine Below.drew ?_) | (with_reducible exact Nat.le_refl _) | omega | (simp; done) | (simp; omega)))) (Ow.block (heap_alloc_new _ _)) (Nat.le_refl _)
  clear Z2
  go_wp2_with (fail)
  obtain ⟨Va, hV⟩ : ∃ V, V = w2.alloc (Obj.cells #[.int .i64 C, .slice vaa LN vca] 25) := ⟨_, rfl⟩
  rw [← hV] at Z3 ⊢
  obtain ⟨Ka, hK⟩ : ∃ K, K = w2.heap.size := ⟨_, rfl⟩
  rw [← hK] at Z3  ⊢
  clear hV hK
  refine (toInt64S_any HL0.out (HR0.out.below Z3.out.bl)).mono ?_
  rintro e w3 ⟨x0, rfl, ho, hb⟩
  have HX0 : Hid (∀ g, (.slice (some ⟨x0, 0, none⟩) s0.length s0.length : Value).ownBlock = some g → g < w3.heap.size) := fun g hg => (World.ownsRow.lt ho g hg).2
  have Z4 : Hid (LS w [(w.heap.size, w1.heap.size, fun V : World => V.ownsRow w.heap.size 2 1 (.slice (some ⟨ga0, 0, none⟩) s0.length s0.length) s0.length (s0.map (Value.int .i64))), (w1.heap.size, Ka, fun V : World => V.ownsRow w1.heap.size 38 2 (.slice vaa LN vca) LN (L.flatMap alC)), (Ka, Ka + 1, fun V : World => V.heap[Ka]? = some (Obj.cells #[.int .i64 C, .slice vaa LN vca] 25)), (Va.heap.size, w3.heap.size, fun V : World => V.ownsRow Va.heap.size 2 1 (.slice (some ⟨x0, 0, none⟩) s0.length s0.length) s0.length (s0.map (Value.int .i64)))] w3) := Z3.out.push hb (Ow.rowAll ho hb) (Nat.le_refl _)
  clear Z3 hb ho
  go_wp2_with (fail)
  refine (HIM.out w3 x0 Z4.out.bl (IS.rg (B := Va.heap.size) (show w3.ownsRow Va.heap.size 2 1 (.slice (some ⟨x0, 0, none⟩) s0.length s0.length) s0.length (s0.map (Value.int .i64)) from Z4.out.get 3 rfl))).mono ?_
  rintro e w4 ⟨vq, rfl, hrq, hb⟩
  obtain ⟨vag, vcg, rfl⟩ : ∃ a c, vq = .slice a LN c := by
    rcases hrq.2 with ⟨rfl, h0⟩ | ⟨g, cap, cur, rfl, _⟩
    · exact ⟨_, _, by rw [h0]⟩
    · exact ⟨_, _, rfl⟩
  have HXg : Hid (∀ g, (.slice vag LN vcg : Value).ownBlock = some g → g < w4.heap.size) := fun g hg => (World.ownsRow.lt hrq g hg).2
  have Z5 : Hid (LS w [(w.heap.size, w1.heap.size, fun V : World => V.ownsRow w.heap.size 2 1 (.slice (some ⟨ga0, 0, none⟩) s0.length s0.length) s0.length (s0.map (Value.int .i64))), (w1.heap.size, Ka, fun V : World => V.ownsRow w1.heap.size 38 2 (.slice vaa LN vca) LN (L.flatMap alC)), (Ka, Ka + 1, fun V : World => V.heap[Ka]? = some (Obj.cells #[.int .i64 C, .slice vaa LN vca] 25)), (Va.heap.size, w3.heap.size, fun V : World => V.ownsRow Va.heap.size 2 1 (.slice (some ⟨x0, 0, none⟩) s0.length s0.length) s0.length (s0.map (Value.int .i64))), (w3.heap.size, w4.heap.size, fun V : World => V.ownsRow w3.heap.size 38 2 (.slice vag LN vcg) LN (L.flatMap alC))] w4) := Z4.out.push hb (Ow.rowAll hrq hb) (Nat.le_refl _)
  clear Z4 hb hrq
  have kva := Z5.out.get 2 rfl
  have cva_0 : w4.cell? ⟨Ka, 0, none⟩ = some (.int .i64 C) := cellOf kva 0 rfl
  have cva_1 : w4.cell? ⟨Ka, 1, none⟩ = some (.slice vaa LN vca) := cellOf kva 1 rfl
  have lva : Ka < w4.heap.size := ltOf kva
  clear kva
  have Z6 : Hid (LS w [(w.heap.size, w1.heap.size, fun V : World => V.ownsRow w.heap.size 2 1 (.slice (some ⟨ga0, 0, none⟩) s0.length s0.length) s0.length (s0.map (Value.int .i64))), (w1.heap.size, Ka, fun V : World => V.ownsRow w1.heap.size 38 2 (.slice vaa LN vca) LN (L.flatMap alC)), (Ka, Ka + 1, fun V : World => V.heap[Ka]? = some (Obj.cells #[.int .i64 C, .slice vaa LN vca] 25)), (Va.heap.size, w3.heap.size, fun V : World => V.ownsRow Va.heap.size 2 1 (.slice (some ⟨x0, 0, none⟩) s0.length s0.length) s0.length (s0.map (Value.int .i64))), (w3.heap.size, w4.heap.size, fun V : World => V.ownsRow w3.heap.size 38 2 (.slice vag LN vcg) LN (L.flatMap alC)), (w4.heap.size, w4.heap.size + 1, fun V : World => V.heap[w4.heap.size]? = some (Obj.cells #[.int .i64 C, .slice vag LN vcg] 25))] (w4.alloc (Obj.cells #[.int .i64 C, .slice vag LN vcg] 25))) := Z5.out.push (by (repeat' (first | (with_reducible exact Below.refl _ _) | (with_reducible assumption) | (with_reducible refine Below.setCell ?_ ?_ _) | (with_reducible refine Below.alloc ?_ ?_ _) | (with_reducible refine below_drewN ?_ _) | (with_reducible refine Below.drew ?_) | (with_reducible exact Nat.le_refl _) | omega | (simp; done) | (simp; omega)))) (Ow.block (heap_alloc_new _ _)) (Nat.le_refl _)
  clear Z5
  go_wp2_with (fail)
  obtain ⟨Vg, hV⟩ : ∃ V, V = w4.alloc (Obj.cells #[.int .i64 C, .slice vag LN vcg] 25) := ⟨_, rfl⟩
  rw [← hV] at Z6 ⊢
  obtain ⟨Kg, hK⟩ : ∃ K, K = w4.heap.size := ⟨_, rfl⟩
  rw [← hK] at Z6 HXg ⊢
  clear hV hK
  clear cva_0 cva_1 lva
  refine (eqAlarmsResult_to C (by have := HLN.out; omega) (OG.rg (T := 38) (B := w3.heap.size) alC_len (by have h : Vg.ownsRow w3.heap.size 38 2 (.slice vag LN vcg) LN (L.flatMap alC) := (Z6.out.get 4 rfl); rw [HLN.out.1] at h ⊢; exact h : Vg.ownsRow w3.heap.size 38 2 (.slice vag LN vcg) L.length (L.flatMap alC))) (OG.rg (T := 38) (B := w1.heap.size) alC_len (by have h : Vg.ownsRow w1.heap.size 38 2 (.slice vaa LN vca) LN (L.flatMap alC) := (Z6.out.get 1 rfl); rw [HLN.out.1] at h ⊢; exact h : Vg.ownsRow w1.heap.size 38 2 (.slice vaa LN vca) L.length (L.flatMap alC)))).mono ?_
  rintro e w5 ⟨rfl, hb⟩
  have Z7 : Hid (LS w [(w.heap.size, w1.heap.size, fun V : World => V.ownsRow w.heap.size 2 1 (.slice (some ⟨ga0, 0, none⟩) s0.length s0.length) s0.length (s0.map (Value.int .i64))), (w1.heap.size, Ka, fun V : World => V.ownsRow w1.heap.size 38 2 (.slice vaa LN vca) LN (L.flatMap alC)), (Ka, Ka + 1, fun V : World => V.heap[Ka]? = some (Obj.cells #[.int .i64 C, .slice vaa LN vca] 25)), (Va.heap.size, w3.heap.size, fun V : World => V.ownsRow Va.heap.size 2 1 (.slice (some ⟨x0, 0, none⟩) s0.length s0.length) s0.length (s0.map (Value.int .i64))), (w3.heap.size, Kg, fun V : World => V.ownsRow w3.heap.size 38 2 (.slice vag LN vcg) LN (L.flatMap alC)), (Kg, Kg + 1, fun V : World => V.heap[Kg]? = some (Obj.cells #[.int .i64 C, .slice vag LN vcg] 25))] w5) := Z6.out.next hb
  clear Z6 hb
  go_wp2_with (fail)
  refine (toInt64S_any HL0.out (HR0.out.below Z7.out.bl)).mono ?_
  rintro e w6 ⟨e0, rfl, ho, hb⟩
  have Z8 : Hid (LS w [(w.heap.size, w1.heap.size, fun V : World => V.ownsRow w.heap.size 2 1 (.slice (some ⟨ga0, 0, none⟩) s0.length s0.length) s0.length (s0.map (Value.int .i64))), (w1.heap.size, Ka, fun V : World => V.ownsRow w1.heap.size 38 2 (.slice vaa LN vca) LN (L.flatMap alC)), (Ka, Ka + 1, fun V : World => V.heap[Ka]? = some (Obj.cells #[.int .i64 C, .slice vaa LN vca] 25)), (Va.heap.size, w3.heap.size, fun V : World => V.ownsRow Va.heap.size 2 1 (.slice (some ⟨x0, 0, none⟩) s0.length s0.length) s0.length (s0.map (Value.int .i64))), (w3.heap.size, Kg, fun V : World => V.ownsRow w3.heap.size 38 2 (.slice vag LN vcg) LN (L.flatMap alC)), (Kg, Kg + 1, fun V : World => V.heap[Kg]? = some (Obj.cells #[.int .i64 C, .slice vag LN vcg] 25)), (w5.heap.size, w6.heap.size, fun V : World => V.ownsRow w5.heap.size 2 1 (.slice (some ⟨e0, 0, none⟩) s0.length s0.length) s0.length (s0.map (Value.int .i64)))] w6) := Z7.out.push hb (Ow.rowAll ho hb) (Nat.le_refl _)
  clear Z7 hb ho
  go_wp2_with (fail)
  refine (eqInt64S_same (by have := HL0.out; omega) (IS.rg (B := Va.heap.size) (show w6.ownsRow Va.heap.size 2 1 (.slice (some ⟨x0, 0, none⟩) s0.length s0.length) s0.length (s0.map (Value.int .i64)) from Z8.out.get 3 rfl)) (IS.rg (B := w5.heap.size) (show w6.ownsRow w5.heap.size 2 1 (.slice (some ⟨e0, 0, none⟩) s0.length s0.length) s0.length (s0.map (Value.int .i64)) from Z8.out.get 6 rfl))).mono ?_
  rintro e w7 ⟨rfl, hb⟩
  have Z9 : Hid (LS w [(w.heap.size, w1.heap.size, fun V : World => V.ownsRow w.heap.size 2 1 (.slice (some ⟨ga0, 0, none⟩) s0.length s0.length) s0.length (s0.map (Value.int .i64))), (w1.heap.size, Ka, fun V : World => V.ownsRow w1.heap.size 38 2 (.slice vaa LN vca) LN (L.flatMap alC)), (Ka, Ka + 1, fun V : World => V.heap[Ka]? = some (Obj.cells #[.int .i64 C, .slice vaa LN vca] 25)), (Va.heap.size, w3.heap.size, fun V : World => V.ownsRow Va.heap.size 2 1 (.slice (some ⟨x0, 0, none⟩) s0.length s0.length) s0.length (s0.map (Value.int .i64))), (w3.heap.size, Kg, fun V : World => V.ownsRow w3.heap.size 38 2 (.slice vag LN vcg) LN (L.flatMap alC)), (Kg, Kg + 1, fun V : World => V.heap[Kg]? = some (Obj.cells #[.int .i64 C, .slice vag LN vcg] 25)), (w5.heap.size, w6.heap.size, fun V : World => V.ownsRow w5.heap.size 2 1 (.slice (some ⟨e0, 0, none⟩) s0.length s0.length) s0.length (s0.map (Value.int .i64)))] w7) := Z8.out.next hb
  clear Z8 hb
  go_wp2_with (fail)
  refine (markInt64S_to 1 HL0.out (by omega) (by omega) (show w7.ownsRow Va.heap.size 2 1 (.slice (some ⟨x0, 0, none⟩) s0.length s0.length) s0.length (s0.map (Value.int .i64)) from Z9.out.get 3 rfl) (HX0.out)).mono ?_
  rintro e w8 ⟨rfl, hm, hc⟩
  have Z10 : Hid (LS w [(w.heap.size, w1.heap.size, fun V : World => V.ownsRow w.heap.size 2 1 (.slice (some ⟨ga0, 0, none⟩) s0.length s0.length) s0.length (s0.map (Value.int .i64))), (w1.heap.size, Ka, fun V : World => V.ownsRow w1.heap.size 38 2 (.slice vaa LN vca) LN (L.flatMap alC)), (Ka, Ka + 1, fun V : World => V.heap[Ka]? = some (Obj.cells #[.int .i64 C, .slice vaa LN vca] 25)), (Va.heap.size, w3.heap.size, fun V : World => True), (w3.heap.size, Kg, fun V : World => V.ownsRow w3.heap.size 38 2 (.slice vag LN vcg) LN (L.flatMap alC)), (Kg, Kg + 1, fun V : World => V.heap[Kg]? = some (Obj.cells #[.int .i64 C, .slice vag LN vcg] 25)), (w5.heap.size, w6.heap.size, fun V : World => V.ownsRow w5.heap.size 2 1 (.slice (some ⟨e0, 0, none⟩) s0.length s0.length) s0.length (s0.map (Value.int .i64)))] w8) := Z9.out.put 3 rfl hc ((Z9.out.own 3 rfl).true hc.size)
  clear Z9 hm hc
  obtain ⟨N0, hN⟩ : ∃ N, N = 1 + (s0.length : Int) := ⟨_, rfl⟩
  rw [← hN]
  have hN0 : 0 ≤ N0 ∧ N0 ≤ 10000000 ∧ ¬ N0 < 0 := by have := HL0.out; omega
  have hN0a := hN0.2.2
  clear hN
  have kvg := Z10.out.get 5 rfl
  have cvg_0 : w8.cell? ⟨Kg, 0, none⟩ = some (.int .i64 C) := cellOf kvg 0 rfl
  have cvg_1 : w8.cell? ⟨Kg, 1, none⟩ = some (.slice vag LN vcg) := cellOf kvg 1 rfl
  have lvg : Kg < w8.heap.size := ltOf kvg
  clear kvg
  have kva := Z10.out.get 2 rfl
  have cva_0 : w8.cell? ⟨Ka, 0, none⟩ = some (.int .i64 C) := cellOf kva 0 rfl
  have cva_1 : w8.cell? ⟨Ka, 1, none⟩ = some (.slice vaa LN vca) := cellOf kva 1 rfl
  have lva : Ka < w8.heap.size := ltOf kva
  clear kva
  go_wp2_with (fail)
  clear cvg_0 cvg_1 lvg cva_0 cva_1 lva
  refine (eqAlarmsResult_to C (by have := HLN.out; omega) (OG.rg (T := 38) (B := w3.heap.size) alC_len (by have h : w8.ownsRow w3.heap.size 38 2 (.slice vag LN vcg) LN (L.flatMap alC) := (Z10.out.get 4 rfl); rw [HLN.out.1] at h ⊢; exact h : w8.ownsRow w3.heap.size 38 2 (.slice vag LN vcg) L.length (L.flatMap alC))) (OG.rg (T := 38) (B := w1.heap.size) alC_len (by have h : w8.ownsRow w1.heap.size 38 2 (.slice vaa LN vca) LN (L.flatMap alC) := (Z10.out.get 1 rfl); rw [HLN.out.1] at h ⊢; exact h : w8.ownsRow w1.heap.size 38 2 (.slice vaa LN vca) L.length (L.flatMap alC)))).mono ?_
  rintro e w9 ⟨rfl, hb⟩
  have Z11 : Hid (LS w [(w.heap.size, w1.heap.size, fun V : World => V.ownsRow w.heap.size 2 1 (.slice (some ⟨ga0, 0, none⟩) s0.length s0.length) s0.length (s0.map (Value.int .i64))), (w1.heap.size, Ka, fun V : World => V.ownsRow w1.heap.size 38 2 (.slice vaa LN vca) LN (L.flatMap alC)), (Ka, Ka + 1, fun V : World => V.heap[Ka]? = some (Obj.cells #[.int .i64 C, .slice vaa LN vca] 25)), (Va.heap.size, w3.heap.size, fun V : World => True), (w3.heap.size, Kg, fun V : World => V.ownsRow w3.heap.size 38 2 (.slice vag LN vcg) LN (L.flatMap alC)), (Kg, Kg + 1, fun V : World => V.heap[Kg]? = some (Obj.cells #[.int .i64 C, .slice vag LN vcg] 25)), (w5.heap.size, w6.heap.size, fun V : World => V.ownsRow w5.heap.size 2 1 (.slice (some ⟨e0, 0, none⟩) s0.length s0.length) s0.length (s0.map (Value.int .i64)))] w9) := Z10.out.next hb
  clear Z10 hb
  have kvg := Z11.out.get 5 rfl
  have cvg_0 : w9.cell? ⟨Kg, 0, none⟩ = some (.int .i64 C) := cellOf kvg 0 rfl
  have cvg_1 : w9.cell? ⟨Kg, 1, none⟩ = some (.slice vag LN vcg) := cellOf kvg 1 rfl
  have lvg : Kg < w9.heap.size := ltOf kvg
  clear kvg
  go_wp2_with (fail)
  clear cvg_0 cvg_1 lvg
  refine (markAlarmsResult_to C 1 (by have := HLN.out; omega) (by omega) (by omega) (show w9.ownsRow w3.heap.size 38 2 (.slice vag LN vcg) LN (L.flatMap alC) from (Z11.out.get 4 rfl)) HXg.out).mono ?_
  rintro e w10 ⟨rfl, hm, hc⟩
  have Z12 : Hid (LS w [(w.heap.size, w1.heap.size, fun V : World => V.ownsRow w.heap.size 2 1 (.slice (some ⟨ga0, 0, none⟩) s0.length s0.length) s0.length (s0.map (Value.int .i64))), (w1.heap.size, Ka, fun V : World => V.ownsRow w1.heap.size 38 2 (.slice vaa LN vca) LN (L.flatMap alC)), (Ka, Ka + 1, fun V : World => V.heap[Ka]? = some (Obj.cells #[.int .i64 C, .slice vaa LN vca] 25)), (Va.heap.size, w3.heap.size, fun V : World => True), (w3.heap.size, Kg, fun V : World => V.ownsRow w3.heap.size 38 2 (.slice vag LN vcg) LN (mkV 1 (LN * 2))), (Kg, Kg + 1, fun V : World => V.heap[Kg]? = some (Obj.cells #[.int .i64 C, .slice vag LN vcg] 25)), (w5.heap.size, w6.heap.size, fun V : World => V.ownsRow w5.heap.size 2 1 (.slice (some ⟨e0, 0, none⟩) s0.length s0.length) s0.length (s0.map (Value.int .i64)))] w10) := Z11.out.put 4 rfl hc (Ow.row hm (Z11.out.own 4 rfl).le.1 (Nat.le_trans (Z11.out.own 4 rfl).le.2 hc.size) HXg.out)
  clear Z11 hm hc
  obtain ⟨TT, hTT⟩ : ∃ TT, TT = 1 + 2 * (LN : Int) := ⟨_, rfl⟩
  have hT0 : ¬ TT < 0 := by omega
  have HTT : Hid (TT = 1 + 2 * (LN : Int)) := hTT
  rw [← hTT]
  clear hTT
  have kvg := Z12.out.get 5 rfl
  have cvg_0 : w10.cell? ⟨Kg, 0, none⟩ = some (.int .i64 C) := cellOf kvg 0 rfl
  have cvg_1 : w10.cell? ⟨Kg, 1, none⟩ = some (.slice vag LN vcg) := cellOf kvg 1 rfl
  have lvg : Kg < w10.heap.size := ltOf kvg
  clear kvg
  go_wp2_with (fail)
  clear cvg_0 cvg_1 lvg
  refine (heldAlarmsResult_to C 1 (by have := HLN.out; omega) (by omega) (by omega) (show w10.ownsRow w3.heap.size 38 2 (.slice vag LN vcg) LN (mkV 1 (LN * 2)) from Z12.out.get 4 rfl)).mono ?_
  rintro e w11 ⟨rfl, hb⟩
  have Z13 : Hid (LS w [(w.heap.size, w1.heap.size, fun V : World => V.ownsRow w.heap.size 2 1 (.slice (some ⟨ga0, 0, none⟩) s0.length s0.length) s0.length (s0.map (Value.int .i64))), (w1.heap.size, Ka, fun V : World => V.ownsRow w1.heap.size 38 2 (.slice vaa LN vca) LN (L.flatMap alC)), (Ka, Ka + 1, fun V : World => V.heap[Ka]? = some (Obj.cells #[.int .i64 C, .slice vaa LN vca] 25)), (Va.heap.size, w3.heap.size, fun V : World => True), (w3.heap.size, Kg, fun V : World => V.ownsRow w3.heap.size 38 2 (.slice vag LN vcg) LN (mkV 1 (LN * 2))), (Kg, Kg + 1, fun V : World => V.heap[Kg]? = some (Obj.cells #[.int .i64 C, .slice vag LN vcg] 25)), (w5.heap.size, w6.heap.size, fun V : World => V.ownsRow w5.heap.size 2 1 (.slice (some ⟨e0, 0, none⟩) s0.length s0.length) s0.length (s0.map (Value.int .i64)))] w11) := Z12.out.next hb
  clear Z12 hb
  rw [← HTT.out]
  go_wp2_with (fail)
  refine (toInt64S_any HL0.out (HR0.out.below Z13.out.bl)).mono ?_
  rintro e w12 ⟨gh0, rfl, ho, hb⟩
  have Z14 : Hid (LS w [(w.heap.size, w1.heap.size, fun V : World => V.ownsRow w.heap.size 2 1 (.slice (some ⟨ga0, 0, none⟩) s0.length s0.length) s0.length (s0.map (Value.int .i64))), (w1.heap.size, Ka, fun V : World => V.ownsRow w1.heap.size 38 2 (.slice vaa LN vca) LN (L.flatMap alC)), (Ka, Ka + 1, fun V : World => V.heap[Ka]? = some (Obj.cells #[.int .i64 C, .slice vaa LN vca] 25)), (Va.heap.size, w3.heap.size, fun V : World => True), (w3.heap.size, Kg, fun V : World => V.ownsRow w3.heap.size 38 2 (.slice vag LN vcg) LN (mkV 1 (LN * 2))), (Kg, Kg + 1, fun V : World => V.heap[Kg]? = some (Obj.cells #[.int .i64 C, .slice vag LN vcg] 25)), (w5.heap.size, w6.heap.size, fun V : World => V.ownsRow w5.heap.size 2 1 (.slice (some ⟨e0, 0, none⟩) s0.length s0.length) s0.length (s0.map (Value.int .i64))), (w11.heap.size, w12.heap.size, fun V : World => V.ownsRow w11.heap.size 2 1 (.slice (some ⟨gh0, 0, none⟩) s0.length s0.length) s0.length (s0.map (Value.int .i64)))] w12) := Z13.out.push hb (Ow.rowAll ho hb) (Nat.le_refl _)
  clear Z13 hb ho
  go_wp2_with (fail)
  refine (HIM.out w12 gh0 Z14.out.bl (IS.rg (B := w11.heap.size) (show w12.ownsRow w11.heap.size 2 1 (.slice (some ⟨gh0, 0, none⟩) s0.length s0.length) s0.length (s0.map (Value.int .i64)) from Z14.out.get 7 rfl))).mono ?_
  rintro e w13 ⟨vq, rfl, hrq, hb⟩
  obtain ⟨vah, vch, rfl⟩ : ∃ a c, vq = .slice a LN c := by
    rcases hrq.2 with ⟨rfl, h0⟩ | ⟨g, cap, cur, rfl, _⟩
    · exact ⟨_, _, by rw [h0]⟩
    · exact ⟨_, _, rfl⟩
  have Z15 : Hid (LS w [(w.heap.size, w1.heap.size, fun V : World => V.ownsRow w.heap.size 2 1 (.slice (some ⟨ga0, 0, none⟩) s0.length s0.length) s0.length (s0.map (Value.int .i64))), (w1.heap.size, Ka, fun V : World => V.ownsRow w1.heap.size 38 2 (.slice vaa LN vca) LN (L.flatMap alC)), (Ka, Ka + 1, fun V : World => V.heap[Ka]? = some (Obj.cells #[.int .i64 C, .slice vaa LN vca] 25)), (Va.heap.size, w3.heap.size, fun V : World => True), (w3.heap.size, Kg, fun V : World => V.ownsRow w3.heap.size 38 2 (.slice vag LN vcg) LN (mkV 1 (LN * 2))), (Kg, Kg + 1, fun V : World => V.heap[Kg]? = some (Obj.cells #[.int .i64 C, .slice vag LN vcg] 25)), (w5.heap.size, w6.heap.size, fun V : World => V.ownsRow w5.heap.size 2 1 (.slice (some ⟨e0, 0, none⟩) s0.length s0.length) s0.length (s0.map (Value.int .i64))), (w11.heap.size, w12.heap.size, fun V : World => V.ownsRow w11.heap.size 2 1 (.slice (some ⟨gh0, 0, none⟩) s0.length s0.length) s0.length (s0.map (Value.int .i64))), (w12.heap.size, w13.heap.size, fun V : World => V.ownsRow w12.heap.size 38 2 (.slice vah LN vch) LN (L.flatMap alC))] w13) := Z14.out.push hb (Ow.rowAll hrq hb) (Nat.le_refl _)
  clear Z14 hb hrq
  have kva := Z15.out.get 2 rfl
  have cva_0 : w13.cell? ⟨Ka, 0, none⟩ = some (.int .i64 C) := cellOf kva 0 rfl
  have cva_1 : w13.cell? ⟨Ka, 1, none⟩ = some (.slice vaa LN vca) := cellOf kva 1 rfl
  have lva : Ka < w13.heap.size := ltOf kva
  clear kva
  have Z16 : Hid (LS w [(w.heap.size, w1.heap.size, fun V : World => V.ownsRow w.heap.size 2 1 (.slice (some ⟨ga0, 0, none⟩) s0.length s0.length) s0.length (s0.map (Value.int .i64))), (w1.heap.size, Ka, fun V : World => V.ownsRow w1.heap.size 38 2 (.slice vaa LN vca) LN (L.flatMap alC)), (Ka, Ka + 1, fun V : World => V.heap[Ka]? = some (Obj.cells #[.int .i64 C, .slice vaa LN vca] 25)), (Va.heap.size, w3.heap.size, fun V : World => True), (w3.heap.size, Kg, fun V : World => V.ownsRow w3.heap.size 38 2 (.slice vag LN vcg) LN (mkV 1 (LN * 2))), (Kg, Kg + 1, fun V : World => V.heap[Kg]? = some (Obj.cells #[.int .i64 C, .slice vag LN vcg] 25)), (w5.heap.size, w6.heap.size, fun V : World => V.ownsRow w5.heap.size 2 1 (.slice (some ⟨e0, 0, none⟩) s0.length s0.length) s0.length (s0.map (Value.int .i64))), (w11.heap.size, w12.heap.size, fun V : World => V.ownsRow w11.heap.size 2 1 (.slice (some ⟨gh0, 0, none⟩) s0.length s0.length) s0.length (s0.map (Value.int .i64))), (w12.heap.size, w13.heap.size, fun V : World => V.ownsRow w12.heap.size 38 2 (.slice vah LN vch) LN (L.flatMap alC)), (w13.heap.size, w13.heap.size + 1, fun V : World => V.heap[w13.heap.size]? = some (Obj.cells #[.int .i64 C, .slice vah LN vch] 25))] (w13.alloc (Obj.cells #[.int .i64 C, .slice vah LN vch] 25))) := Z15.out.push (by (repeat' (first | (with_reducible exact Below.refl _ _) | (with_reducible assumption) | (with_reducible refine Below.setCell ?_ ?_ _) | (with_reducible refine Below.alloc ?_ ?_ _) | (with_reducible refine below_drewN ?_ _) | (with_reducible refine Below.drew ?_) | (with_reducible exact Nat.le_refl _) | omega | (simp; done) | (simp; omega)))) (Ow.block (heap_alloc_new _ _)) (Nat.le_refl _)
  clear Z15
  go_wp2_with (fail)
  obtain ⟨Vh, hV⟩ : ∃ V, V = w13.alloc (Obj.cells #[.int .i64 C, .slice vah LN vch] 25) := ⟨_, rfl⟩
  rw [← hV] at Z16 ⊢
  obtain ⟨Kh, hK⟩ : ∃ K, K = w13.heap.size := ⟨_, rfl⟩
  rw [← hK] at Z16  ⊢
  clear hV hK
  clear cva_0 cva_1 lva
  refine (eqAlarmsResult_to C (by have := HLN.out; omega) (OG.rg (T := 38) (B := w12.heap.size) alC_len (by have h : Vh.ownsRow w12.heap.size 38 2 (.slice vah LN vch) LN (L.flatMap alC) := (Z16.out.get 8 rfl); rw [HLN.out.1] at h ⊢; exact h : Vh.ownsRow w12.heap.size 38 2 (.slice vah LN vch) L.length (L.flatMap alC))) (OG.rg (T := 38) (B := w1.heap.size) alC_len (by have h : Vh.ownsRow w1.heap.size 38 2 (.slice vaa LN vca) LN (L.flatMap alC) := (Z16.out.get 1 rfl); rw [HLN.out.1] at h ⊢; exact h : Vh.ownsRow w1.heap.size 38 2 (.slice vaa LN vca) L.length (L.flatMap alC)))).mono ?_
  rintro e w14 ⟨rfl, hb⟩
  have Z17 : Hid (LS w [(w.heap.size, w1.heap.size, fun V : World => V.ownsRow w.heap.size 2 1 (.slice (some ⟨ga0, 0, none⟩) s0.length s0.length) s0.length (s0.map (Value.int .i64))), (w1.heap.size, Ka, fun V : World => V.ownsRow w1.heap.size 38 2 (.slice vaa LN vca) LN (L.flatMap alC)), (Ka, Ka + 1, fun V : World => V.heap[Ka]? = some (Obj.cells #[.int .i64 C, .slice vaa LN vca] 25)), (Va.heap.size, w3.heap.size, fun V : World => True), (w3.heap.size, Kg, fun V : World => V.ownsRow w3.heap.size 38 2 (.slice vag LN vcg) LN (mkV 1 (LN * 2))), (Kg, Kg + 1, fun V : World => V.heap[Kg]? = some (Obj.cells #[.int .i64 C, .slice vag LN vcg] 25)), (w5.heap.size, w6.heap.size, fun V : World => V.ownsRow w5.heap.size 2 1 (.slice (some ⟨e0, 0, none⟩) s0.length s0.length) s0.length (s0.map (Value.int .i64))), (w11.heap.size, w12.heap.size, fun V : World => V.ownsRow w11.heap.size 2 1 (.slice (some ⟨gh0, 0, none⟩) s0.length s0.length) s0.length (s0.map (Value.int .i64))), (w12.heap.size, Kh, fun V : World => V.ownsRow w12.heap.size 38 2 (.slice vah LN vch) LN (L.flatMap alC)), (Kh, Kh + 1, fun V : World => V.heap[Kh]? = some (Obj.cells #[.int .i64 C, .slice vah LN vch] 25))] w14) := Z16.out.next hb
  clear Z16 hb
  have kvg := Z17.out.get 5 rfl
  have cvg_0 : w14.cell? ⟨Kg, 0, none⟩ = some (.int .i64 C) := cellOf kvg 0 rfl
  have cvg_1 : w14.cell? ⟨Kg, 1, none⟩ = some (.slice vag LN vcg) := cellOf kvg 1 rfl
  have lvg : Kg < w14.heap.size := ltOf kvg
  clear kvg
  go_wp2_with (fail)
  clear cvg_0 cvg_1 lvg
  refine (heldAlarmsResult_to C 1 (by have := HLN.out; omega) (by omega) (by omega) (show w14.ownsRow w3.heap.size 38 2 (.slice vag LN vcg) LN (mkV 1 (LN * 2)) from Z17.out.get 4 rfl)).mono ?_
  rintro e w15 ⟨rfl, hb⟩
  have Z18 : Hid (LS w [(w.heap.size, w1.heap.size, fun V : World => V.ownsRow w.heap.size 2 1 (.slice (some ⟨ga0, 0, none⟩) s0.length s0.length) s0.length (s0.map (Value.int .i64))), (w1.heap.size, Ka, fun V : World => V.ownsRow w1.heap.size 38 2 (.slice vaa LN vca) LN (L.flatMap alC)), (Ka, Ka + 1, fun V : World => V.heap[Ka]? = some (Obj.cells #[.int .i64 C, .slice vaa LN vca] 25)), (Va.heap.size, w3.heap.size, fun V : World => True), (w3.heap.size, Kg, fun V : World => V.ownsRow w3.heap.size 38 2 (.slice vag LN vcg) LN (mkV 1 (LN * 2))), (Kg, Kg + 1, fun V : World => V.heap[Kg]? = some (Obj.cells #[.int .i64 C, .slice vag LN vcg] 25)), (w5.heap.size, w6.heap.size, fun V : World => V.ownsRow w5.heap.size 2 1 (.slice (some ⟨e0, 0, none⟩) s0.length s0.length) s0.length (s0.map (Value.int .i64))), (w11.heap.size, w12.heap.size, fun V : World => V.ownsRow w11.heap.size 2 1 (.slice (some ⟨gh0, 0, none⟩) s0.length s0.length) s0.length (s0.map (Value.int .i64))), (w12.heap.size, Kh, fun V : World => V.ownsRow w12.heap.size 38 2 (.slice vah LN vch) LN (L.flatMap alC)), (Kh, Kh + 1, fun V : World => V.heap[Kh]? = some (Obj.cells #[.int .i64 C, .slice vah LN vch] 25))] w15) := Z17.out.next hb
  clear Z17 hb
  rw [← HTT.out]
  go_wp2
  go_returns
  exact ⟨rfl, Z18.out.bl⟩

theorem gRR : Tryd.prog.globalNamed "loop.example/g00057/impl.runRules" = some 0 := by kernel_rfl
theorem gRRtype : (Tryd.prog.globals[0]?).map (·.type) = some 44 := by kernel_rfl
theorem cellsRR : Tryd.prog.cellsOf 44 = 30 := by kernel_rfl
theorem cellsR : Tryd.prog.cellsOf 43 = 5 := by kernel_rfl
theorem cellsI : Tryd.prog.cellsOf 2 = 1 := by kernel_rfl
theorem cellsN : Tryd.prog.cellsOf 3 = 1 := by kernel_rfl
/-- One rule that reads as five numbers has them in its cells. -/
theorem rule_cells {W : World} {sp : Nat → Bool} {fuel : Nat} {e0 e1 e2 e3 e4 : Value} {z0 z1 z2 z3 z4 : Int} {p : List MemPlace}
    (h : DataW.trod (fun _ => ()) Tryd.prog W 0 sp false fuel 43 [e0, e1, e2, e3, e4] = some (.agg [.lit (.int .i64 z0), .lit (.int .i64 z1), .lit (.int .i64 z2), .lit (.int .i64 z3), .lit (.int .i64 z4)], p)) :
    e0 = .int .i64 z0 ∧ e1 = .int .i64 z1 ∧ e2 = .int .i64 z2 ∧ e3 = .int .i64 z3 ∧ e4 = .int .i64 z4 := by
  obtain ⟨xs, n, _, hx, hl, hlen, hf⟩ := DataW.trod_struct Tryd.underlying43 h
  match xs, hlen with
  | [y0, y1, y2, y3, y4], _ =>
    have h0 := hf 0 _ rfl
    have h1 := hf 1 _ rfl
    have h2 := hf 2 _ rfl
    have h3 := hf 3 _ rfl
    have h4 := hf 4 _ rfl
    obtain ⟨m0, f0, g0, _⟩ := DataW.trod_int Tryd.underlying2 h0
    obtain ⟨m1, f1, g1, _⟩ := DataW.trod_int Tryd.underlying3 h1
    obtain ⟨m2, f2, g2, _⟩ := DataW.trod_int Tryd.underlying3 h2
    obtain ⟨m3, f3, g3, _⟩ := DataW.trod_int Tryd.underlying3 h3
    obtain ⟨m4, f4, g4, _⟩ := DataW.trod_int Tryd.underlying3 h4
    subst g0 g1 g2 g3 g4
    simp [cellsI, cellsN] at f0 f1 f2 f3 f4
    subst f0 f1 f2 f3 f4
    simp only [Prod.mk.injEq, DataW.agg.injEq, List.map_cons, List.map_nil, List.cons.injEq, DataW.lit.injEq, Lit.int.injEq, true_and, and_true] at hx
    obtain ⟨⟨rfl, rfl, rfl, rfl, rfl⟩, _⟩ := hx
    exact ⟨rfl, rfl, rfl, rfl, rfl⟩
/-- What the row's list gives: the table's cells hold the rules. -/
theorem tab_of {W : World} (h : laidMetH Tryd.prog Rows.fnExactAlarmsOfRow.laid W) : Tab16 W := by
  have h' : laidMet Tryd.prog Rows.fnExactAlarmsOfRow.laid W := h
  obtain ⟨ps, hv, _⟩ := h'
  obtain ⟨g', t', cs, fuel, p, q, hg', ht', hvar, hd, _, _⟩ := hv
  obtain rfl := Option.some.inj (gRR.symm.trans hg')
  obtain rfl := Option.some.inj (gRRtype.symm.trans ht')
  have hd' : DataW.trod (fun _ => ()) Tryd.prog W 0 (fun _ => true) false fuel 44 cs.toList = some (Rows.laid_loop_example_g00057_impl_runRules, p) := hd
  have hcs : cs.toList = rrC := by
    cases fuel with
    | zero => simp [DataW.trod] at hd'
    | succ fuel =>
      simp only [DataW.trod, Tryd.underlying44, cellsR, cellsRR] at hd'
      split at hd'
      · rename_i hl
        obtain ⟨xs, hm, hx⟩ := Option.map_eq_some_iff.1 hd'
        obtain ⟨l, hl9⟩ : ∃ l, l = cs.toList := ⟨_, rfl⟩
        rw [← hl9] at hl hm ⊢
        match l, hl with
        | [c0, c1, c2, c3, c4, c5, c6, c7, c8, c9, c10, c11, c12, c13, c14, c15, c16, c17, c18, c19, c20, c21, c22, c23, c24, c25, c26, c27, c28, c29], _ =>
          have hxs := congrArg Prod.fst hx
          simp only [Rows.laid_loop_example_g00057_impl_runRules, DataW.agg.injEq] at hxs
          have hlen := Lib.mapM_length hm
          simp only [List.length_range] at hlen
          match xs, hlen with
          | [b0, b1, b2, b3, b4, b5], _ =>
            simp only [List.map_cons, List.map_nil, List.cons.injEq, and_true] at hxs
            obtain ⟨x0, x1, x2, x3, x4, x5⟩ := hxs
            obtain ⟨d0, hd0, hf0⟩ := Lib.mapM_at hm 0 0 (by simp)
            obtain rfl : b0 = d0 := by simpa using hd0
            obtain ⟨y0, p0⟩ := b0
            simp only at x0
            subst x0
            obtain ⟨rfl, rfl, rfl, rfl, rfl⟩ := rule_cells (show DataW.trod (fun _ => ()) Tryd.prog W 0 (fun _ => true) false fuel 43 [c0, c1, c2, c3, c4] = _ from hf0)
            obtain ⟨d1, hd1, hf1⟩ := Lib.mapM_at hm 1 1 (by simp)
            obtain rfl : b1 = d1 := by simpa using hd1
            obtain ⟨y1, p1⟩ := b1
            simp only at x1
            subst x1
            obtain ⟨rfl, rfl, rfl, rfl, rfl⟩ := rule_cells (show DataW.trod (fun _ => ()) Tryd.prog W 0 (fun _ => true) false fuel 43 [c5, c6, c7, c8, c9] = _ from hf1)
            obtain ⟨d2, hd2, hf2⟩ := Lib.mapM_at hm 2 2 (by simp)
            obtain rfl : b2 = d2 := by simpa using hd2
            obtain ⟨y2, p2⟩ := b2
            simp only at x2
            subst x2
            obtain ⟨rfl, rfl, rfl, rfl, rfl⟩ := rule_cells (show DataW.trod (fun _ => ()) Tryd.prog W 0 (fun _ => true) false fuel 43 [c10, c11, c12, c13, c14] = _ from hf2)
            obtain ⟨d3, hd3, hf3⟩ := Lib.mapM_at hm 3 3 (by simp)
            obtain rfl : b3 = d3 := by simpa using hd3
            obtain ⟨y3, p3⟩ := b3
            simp only at x3
            subst x3
            obtain ⟨rfl, rfl, rfl, rfl, rfl⟩ := rule_cells (show DataW.trod (fun _ => ()) Tryd.prog W 0 (fun _ => true) false fuel 43 [c15, c16, c17, c18, c19] = _ from hf3)
            obtain ⟨d4, hd4, hf4⟩ := Lib.mapM_at hm 4 4 (by simp)
            obtain rfl : b4 = d4 := by simpa using hd4
            obtain ⟨y4, p4⟩ := b4
            simp only at x4
            subst x4
            obtain ⟨rfl, rfl, rfl, rfl, rfl⟩ := rule_cells (show DataW.trod (fun _ => ()) Tryd.prog W 0 (fun _ => true) false fuel 43 [c20, c21, c22, c23, c24] = _ from hf4)
            obtain ⟨d5, hd5, hf5⟩ := Lib.mapM_at hm 5 5 (by simp)
            obtain rfl : b5 = d5 := by simpa using hd5
            obtain ⟨y5, p5⟩ := b5
            simp only at x5
            subst x5
            obtain ⟨rfl, rfl, rfl, rfl, rfl⟩ := rule_cells (show DataW.trod (fun _ => ()) Tryd.prog W 0 (fun _ => true) false fuel 43 [c25, c26, c27, c28, c29] = _ from hf5)
            rfl
      · cases hd'
  unfold World.var? at hvar
  rw [gRR] at hvar
  simp only [Option.bind_some] at hvar
  split at hvar
  · rename_i c ty fr hb
    have e : c = cs := Option.some.inj hvar
    refine ⟨ty, fr, ?_⟩
    rw [hb, e, ← hcs]
  · cases hvar

set_option maxRecDepth 100000 in
theorem contract (H : Type) (enc : TypeId × Value → H) (W : World) (base : Nat) (args : Array Value) (ds gs : List (DataW H)) (before : List MemPlace)
    (hval0 : ∀ (j : Nat) t v, Tryd.f3.params[j]? = some t → args[j]? = some v → Value.okWide Tryd.prog W .any base t v)
    (hW : DataW.Whole enc Tryd.prog Tryd.f3.params.toList Rows.fnExactAlarmsOfSpec.vars false W args.toList ds gs before) (hL : laidMetH Tryd.prog Rows.fnExactAlarmsOfRow.laid W) :
    Calls Tryd.prog 3 args W fun e W' => ∃ v, e = .returned v ∧ Rows.fnExactAlarmsOfSpec.post enc Tryd.prog Tryd.f3 false true false false W args v W' := by
  have hval : ∀ (j : Nat) t v, Tryd.f3.params[j]? = some t → args[j]? = some v → Value.okWide Tryd.prog W .any base t v := hval0
  have hW' := hW
  obtain ⟨p, q, hA0, hV, rfl, hfz, hnd⟩ := hW
  have hA : DataW.TrodAll enc Tryd.prog W 0 (fun _ => true) true Tryd.f3.params.toList args.toList ds p := hA0
  rw [Tryd.params3] at hA hval
  obtain ⟨v0, vs0, d0, ds0, p0, q0, hargs, rfl, rfl, h0, r0⟩ := trodAll_cons hA
  obtain ⟨v1, vs1, d1, ds1, p1, q1, rfl, rfl, rfl, h1, r1⟩ := trodAll_cons r0
  obtain ⟨v2, vs2, d2, ds2, p2, q2, rfl, rfl, rfl, h2, r2⟩ := trodAll_cons r1
  obtain ⟨rfl, rfl, rfl⟩ := trodAll_nil r2
  obtain rfl : args = #[v0, v1, v2] := by cases args; simp_all
  have hV2 : DataW.TrodVars enc Tryd.prog W (fun _ => true) ["loop.example/g00057/impl.runRules"] gs q := hV
  obtain ⟨gg, tt, ccs, ff, dg, pg, rfl, _⟩ := trodVars_one hV2
  have k0 := h0
  have lt0 : ∀ x ∈ p0, x.block < W.heap.size := by obtain ⟨m, hm⟩ := k0; exact DataW.trod_lt m _ _ _ hm
  obtain ⟨sa0, sn0, sc0, s0, rfl, ri0, sl0⟩ := ints_open (hval 0 22 v0 rfl rfl) h0
  obtain ⟨n1, rfl, rfl, rfl, wn1⟩ := open_int Tryd.underlying2 (hval 1 2 v1 rfl rfl) h1
  obtain ⟨n2, rfl, rfl, rfl, wn2⟩ := open_int Tryd.underlying2 (hval 2 2 v2 rfl rfl) h2
  clear hA0 hval0
  refine (law_aa16 (tab_of hL) s0 sl0 ri0 n1 n2).mono fun e W' ⟨he, hg⟩ => ?_
  subst he
  exact ⟨_, rfl, _, _, _, [], _, _, hW', trodAll_mk1 (shut_bool Tryd.underlying4 _), (trodAll_cons_mk (Below.trod laidOut (by kernel_rfl) (of_decide_eq_true (by kernel_rfl)) k0 hg lt0) (trodAll_cons_mk (shut_int Tryd.underlying2 wn1) (trodAll_cons_mk (shut_int Tryd.underlying2 wn2) trodAll_mk0))), Below.trodVars laidOut hg (by kernel_rfl) hV2, hg.frame _, fun h => by cases h⟩

/-- A world with the table laid. -/
def layT : Obj → Obj
  | .cells _ t frozen => .cells rrC.toArray t frozen
  | o => o
def layW (w : World) : World := { w with heap := w.heap.modify 0 layT }
theorem laid_met (os : Os) : laidMet Tryd.prog Rows.fnExactAlarmsOfRow.laid ((layW (World.holding Tryd.prog os ⟨#[], #[], []⟩)).forCall (fun _ _ => 0) ⟨#[], #[.slice none 0 0, .int .i64 0, .int .i64 0], []⟩).memory :=
  laidMet_of_run' 8 (by kernel_rfl) (by kernel_rfl)
theorem reads (os : Os) {H : Type} (enc : TypeId × Value → H) : ∃ places, DataW.whole enc Tryd.prog ((layW (World.holding Tryd.prog os ⟨#[], #[], []⟩)).forCall (fun _ _ => 0) ⟨#[], #[.slice none 0 0, .int .i64 0, .int .i64 0], []⟩).memory Tryd.f3.params.toList Rows.fnExactAlarmsOfSpec.vars false #[Value.slice none 0 0, .int .i64 0, .int .i64 0].toList 8 = some ([.nil, .lit (.int .i64 0), .lit (.int .i64 0)], [Rows.laid_loop_example_g00057_impl_runRules], places) :=
  ⟨MemPlace.row ⟨0, 0, none⟩ 30, by kernel_rfl⟩

set_option maxRecDepth 100000 in
theorem aa16_lifted (os : Os) (started : os.Started) (H : Type) (enc : TypeId × Value → H) (F : Stop.Interp) :
    ReturnsInHanded {} Tryd.checked os 3 .any ((OpenSpec.ofChange Rows.fnExactAlarmsOfSpec).preRow enc Tryd.prog Tryd.f3 Rows.fnExactAlarmsOfRow.domain false Rows.fnExactAlarmsOfRow.laid) (((OpenSpec.ofChange Rows.fnExactAlarmsOfSpec).at F).post enc Tryd.prog Tryd.f3 false true false false) := by
  obtain ⟨places, hx⟩ := reads os enc
  refine returnsInHanded_of_row (C := Tryd.checked) (s := OpenSpec.ofChange Rows.fnExactAlarmsOfSpec) own started (by kernel_rfl) Tryd.func3
    (witness_row_at (enc := enc) (C := Tryd.checked) false (layW (World.holding Tryd.prog os ⟨#[], #[], []⟩)) #[.slice none 0 0, .int .i64 0, .int .i64 0] rfl (by kernel_rfl) (by kernel_rfl) (by kernel_rfl)
      (OpenSpec.preRow_of_cond 8 hx (by kernel_rfl) (fun k hk => by cases hk) (by kernel_rfl) (laid_met os))) ?_
  intro W base args ds gs before hval hW _ _ _ hL _ _
  exact contract H enc W base args ds gs before hval hW hL

theorem aa16_said : Rows.FnExactAlarmsOfSaid :=
  OpenClaim.holds_of_cond 3 Tryd.f3 rfl rfl rfl rfl rfl rfl rfl ⟨rfl, rfl, rfl, rfl, rfl⟩ rfl rfl rfl rfl rfl (by kernel_rfl) Tryd.func3 (by kernel_rfl)
    (of_decide_eq_true (by kernel_rfl)) (by unfold Func.isWrapper; first | (rw [if_pos (by decide +kernel)]; kernel_rfl) | (rw [if_neg (by decide +kernel)]; exact ⟨rfl, rfl⟩))
    (fun os started H enc _ F => by rw [OpenClaim.pre_eq_preRow]; exact aa16_lifted os started H enc F)

theorem plain (f : FuncId) (fn : Func) (hf : Tryd.pinned.checked.prog.funcNamed "loop.example/g00057/laws.FnExactAlarmsOf" = some f) (hfn : Tryd.pinned.checked.prog.funcs[f]? = some fn) :
    false = Tryd.pinned.checked.prog.looks [] ∧ ∀ (j : Nat) t, fn.params[j]? = some t → Tryd.pinned.checked.prog.wantsStandIn t = false := by
  obtain rfl : f = 3 := Option.some.inj ((show Tryd.prog.funcNamed "loop.example/g00057/laws.FnExactAlarmsOf" = some 3 by kernel_rfl).symm.trans hf) |>.symm
  obtain rfl : fn = Tryd.f3 := (Option.some.inj (Tryd.func3.symm.trans hfn)).symm
  refine ⟨by kernel_rfl, fun j t ht => ?_⟩
  rw [Tryd.params3] at ht
  have hm := Array.mem_of_getElem? ht
  have hm' : t = 22 ∨ t = 2 := by simp at hm; omega
  rcases hm' with rfl | rfl
  · exact (show Tryd.prog.wantsStandIn 22 = false by kernel_rfl)
  · exact (show Tryd.prog.wantsStandIn 2 = false by kernel_rfl)

theorem aa16_proved : Rows.FnExactAlarmsOfCardSaid :=
  Claim7.holds_tied_plain_at .later [] _ _ _ _ aa16_said (fun _ h => by cases h) (by kernel_rfl) (fun _ h => by cases h) fnExactAlarmsOf_row_tie rfl ⟨rfl, rfl⟩ (by kernel_rfl) rfl plain (by kernel_rfl)
#print axioms aa16_proved

end Go.Proofs.YtcdpaokmjoklcaaDoor
