/- Proved here: 'the program's CusumOf answers as the model's; it writes into no argument and keeps nothing of one; its answer owns its memory, behind another call too', without a condition. -/
import Derived.Test.YtiipepddlbgodaaCuI
import Derived.Test.YtiipepddlbgodaaCuS
import Derived.Test.YtiipepddlbgodaaNlW
import Derived.Test.YtiipepddlbgodaaNlQ
import Derived.Test.YtiipepddlbgodaaMkI
import Derived.Test.YtiipepddlbgodaaMkAl
import Derived.Test.YtiipepddlbgodaaLwS
import Derived.Test.YtiipepddlbgodaaRows
namespace Go.Proofs.Ytiipepddlbgodaa
open Go.ChangeShapes Go.WideShapes Go.ChangeAt Go.RowKit Go.Joins
set_option linter.unusedVariables false
set_option linter.unusedSimpArgs false

theorem own : ownKnob Try.prog.godebug = none := by kernel_rfl
theorem laidOut : laidOutB Try.prog = true := by kernel_rfl

set_option maxRecDepth 10000 in
set_option maxHeartbeats 25600000 in
theorem law_cu16 {w : World} {sa0 : Option Addr} {sn0 sc0 : Nat} (s0 : List Int) (hm0 : s0.length ≤ maxLen) (hr0 : RdI w (.slice sa0 sn0 sc0) s0) (n1 : Int) (n2 : Int) (n3 : Int) :
    Calls Try.prog 4 #[.slice sa0 sn0 sc0, .int .i64 n1, .int .i64 n2, .int .i64 n3] w fun e w' => e = .returned (.bool true) ∧ Below w.heap.size w w' := by
  have HM0 : Hid (sn0 ≤ maxLen) := by unfold Hid; rw [hr0.len]; exact hm0
  have HR0 : Hid (RdI w (.slice sa0 sn0 sc0) s0) := hr0
  have HE0 : Hid (sn0 = s0.length) := hr0.len
  clear hm0 hr0
  have Z0 : Hid (LS w [] w) := LS.start w
  go_enter Try.func4, Try.ntmps4
  by_cases hf0 : (1048576 : Int) < (sn0 : Int)
  · go_wp2
    go_returns
    exact ⟨rfl, Below.refl _ _⟩
  have HL0 : Hid (s0.length ≤ 1048576) := by unfold Hid; rw [← HE0.out]; omega
  obtain ⟨C, hC⟩ : ∃ X, X = cuC n1 n2 n3 s0 := ⟨_, rfl⟩
  obtain ⟨L, hL⟩ : ∃ X, X = cuL n1 n2 n3 s0 := ⟨_, rfl⟩
  obtain ⟨LN, hLN⟩ : ∃ X, X = L.length := ⟨_, rfl⟩
  have HLN : Hid (LN = L.length ∧ LN ≤ 400) := ⟨hLN, by rw [hLN, hL]; exact cuL_len _ _ _ _⟩
  have HSP : Hid (∀ (W : World) (g0 : Nat), (RdI W (.slice (some ⟨g0, 0, none⟩) s0.length s0.length) s0) → Calls Try.prog 13 #[.slice (some ⟨g0, 0, none⟩) s0.length s0.length, .int .i64 n1, .int .i64 n2, .int .i64 n3] W fun e w' => ∃ v, e = .returned (.agg #[.int .i64 C, v]) ∧ w'.ownsRow W.heap.size 60 2 v LN (L.flatMap alC) ∧ Below W.heap.size W w') := fun W g0 h0 => by
    rw [hLN, hL, hC]
    exact spec_cu n1 n2 n3 HL0.out h0
  have HIM : Hid (∀ (W : World) (g0 : Nat), (RdI W (.slice (some ⟨g0, 0, none⟩) s0.length s0.length) s0) → Calls Try.prog 14 #[.slice (some ⟨g0, 0, none⟩) s0.length s0.length, .int .i64 n1, .int .i64 n2, .int .i64 n3] W fun e w' => ∃ v, e = .returned (.agg #[.int .i64 C, v]) ∧ w'.ownsRow W.heap.size 60 2 v LN (L.flatMap alC) ∧ Below W.heap.size W w') := fun W g0 h0 => by
    rw [hLN, hL, hC]
    exact impl_cu n1 n2 n3 HL0.out h0
  clear hC hL hLN 
  go_wp2_with (fail)
  refine (toInt64S_any HL0.out (HR0.out.below Z0.out.bl)).mono ?_
  rintro e w1 ⟨ga0, rfl, ho, hb⟩
  have Z1 : Hid (LS w [(w.heap.size, w1.heap.size, fun V : World => V.ownsRow w.heap.size 2 1 (.slice (some ⟨ga0, 0, none⟩) s0.length s0.length) s0.length (s0.map (Value.int .i64)))] w1) := Z0.out.push hb (Ow.rowAll ho hb) (Nat.le_refl _)
  clear Z0 hb ho
  go_wp2_with (fail)
  refine (HSP.out w1 ga0 (IS.rg (B := w.heap.size) (show w1.ownsRow w.heap.size 2 1 (.slice (some ⟨ga0, 0, none⟩) s0.length s0.length) s0.length (s0.map (Value.int .i64)) from Z1.out.get 0 rfl))).mono ?_
  rintro e w2 ⟨vq, rfl, hrq, hb⟩
  obtain ⟨vaa, vca, rfl⟩ : ∃ a c, vq = .slice a LN c := by
    rcases hrq.2 with ⟨rfl, h0⟩ | ⟨g, cap, cur, rfl, _⟩
    · exact ⟨_, _, by rw [h0]⟩
    · exact ⟨_, _, rfl⟩
  have Z2 : Hid (LS w [(w.heap.size, w1.heap.size, fun V : World => V.ownsRow w.heap.size 2 1 (.slice (some ⟨ga0, 0, none⟩) s0.length s0.length) s0.length (s0.map (Value.int .i64))), (w1.heap.size, w2.heap.size, fun V : World => V.ownsRow w1.heap.size 60 2 (.slice vaa LN vca) LN (L.flatMap alC))] w2) := Z1.out.push hb (Ow.rowAll hrq hb) (Nat.le_refl _)
  clear Z1 hb hrq
  have Z3 : Hid (LS w [(w.heap.size, w1.heap.size, fun V : World => V.ownsRow w.heap.size 2 1 (.slice (some ⟨ga0, 0, none⟩) s0.length s0.length) s0.length (s0.map (Value.int .i64))), (w1.heap.size, w2.heap.size, fun V : World => V.ownsRow w1.heap.size 60 2 (.slice vaa LN vca) LN (L.flatMap alC)), (w2.heap.size, w2.heap.size + 1, fun V : World => V.heap[w2.heap.size]? = some (Obj.cells #[.int .i64 C, .slice vaa LN vca] 29))] (w2.alloc (Obj.cells #[.int .i64 C, .slice vaa LN vca] 29))) := Z2.out.push (by (repeat' (first | (with_reducible exact Below.refl _ _) | (with_reducible assumption) | (with_reducible refine Below.setCell ?_ ?_ _) | (with_reducible refine Below.alloc ?_ ?_ _) | (with_reducible refine below_drewN ?_ _) | (with_reducible refine Below.drew ?_) | (with_reducible exact Nat.le_refl _) | omega | (simp; done) | (simp; omega)))) (Ow.block (heap_alloc_new _ _)) (Nat.le_refl _)
  clear Z2
  go_wp2_with (fail)
  obtain ⟨Va, hV⟩ : ∃ V, V = w2.alloc (Obj.cells #[.int .i64 C, .slice vaa LN vca] 29) := ⟨_, rfl⟩
  rw [← hV] at Z3 ⊢
  obtain ⟨Ka, hK⟩ : ∃ K, K = w2.heap.size := ⟨_, rfl⟩
  rw [← hK] at Z3  ⊢
  clear hV hK
  refine (toInt64S_any HL0.out (HR0.out.below Z3.out.bl)).mono ?_
  rintro e w3 ⟨x0, rfl, ho, hb⟩
  have HX0 : Hid (∀ g, (.slice (some ⟨x0, 0, none⟩) s0.length s0.length : Value).ownBlock = some g → g < w3.heap.size) := fun g hg => (World.ownsRow.lt ho g hg).2
  have Z4 : Hid (LS w [(w.heap.size, w1.heap.size, fun V : World => V.ownsRow w.heap.size 2 1 (.slice (some ⟨ga0, 0, none⟩) s0.length s0.length) s0.length (s0.map (Value.int .i64))), (w1.heap.size, Ka, fun V : World => V.ownsRow w1.heap.size 60 2 (.slice vaa LN vca) LN (L.flatMap alC)), (Ka, Ka + 1, fun V : World => V.heap[Ka]? = some (Obj.cells #[.int .i64 C, .slice vaa LN vca] 29)), (Va.heap.size, w3.heap.size, fun V : World => V.ownsRow Va.heap.size 2 1 (.slice (some ⟨x0, 0, none⟩) s0.length s0.length) s0.length (s0.map (Value.int .i64)))] w3) := Z3.out.push hb (Ow.rowAll ho hb) (Nat.le_refl _)
  clear Z3 hb ho
  go_wp2_with (fail)
  refine (HIM.out w3 x0 (IS.rg (B := Va.heap.size) (show w3.ownsRow Va.heap.size 2 1 (.slice (some ⟨x0, 0, none⟩) s0.length s0.length) s0.length (s0.map (Value.int .i64)) from Z4.out.get 3 rfl))).mono ?_
  rintro e w4 ⟨vq, rfl, hrq, hb⟩
  obtain ⟨vag, vcg, rfl⟩ : ∃ a c, vq = .slice a LN c := by
    rcases hrq.2 with ⟨rfl, h0⟩ | ⟨g, cap, cur, rfl, _⟩
    · exact ⟨_, _, by rw [h0]⟩
    · exact ⟨_, _, rfl⟩
  have HXg : Hid (∀ g, (.slice vag LN vcg : Value).ownBlock = some g → g < w4.heap.size) := fun g hg => (World.ownsRow.lt hrq g hg).2
  have Z5 : Hid (LS w [(w.heap.size, w1.heap.size, fun V : World => V.ownsRow w.heap.size 2 1 (.slice (some ⟨ga0, 0, none⟩) s0.length s0.length) s0.length (s0.map (Value.int .i64))), (w1.heap.size, Ka, fun V : World => V.ownsRow w1.heap.size 60 2 (.slice vaa LN vca) LN (L.flatMap alC)), (Ka, Ka + 1, fun V : World => V.heap[Ka]? = some (Obj.cells #[.int .i64 C, .slice vaa LN vca] 29)), (Va.heap.size, w3.heap.size, fun V : World => V.ownsRow Va.heap.size 2 1 (.slice (some ⟨x0, 0, none⟩) s0.length s0.length) s0.length (s0.map (Value.int .i64))), (w3.heap.size, w4.heap.size, fun V : World => V.ownsRow w3.heap.size 60 2 (.slice vag LN vcg) LN (L.flatMap alC))] w4) := Z4.out.push hb (Ow.rowAll hrq hb) (Nat.le_refl _)
  clear Z4 hb hrq
  have kva := Z5.out.get 2 rfl
  have cva_0 : w4.cell? ⟨Ka, 0, none⟩ = some (.int .i64 C) := cellOf kva 0 rfl
  have cva_1 : w4.cell? ⟨Ka, 1, none⟩ = some (.slice vaa LN vca) := cellOf kva 1 rfl
  have lva : Ka < w4.heap.size := ltOf kva
  clear kva
  have Z6 : Hid (LS w [(w.heap.size, w1.heap.size, fun V : World => V.ownsRow w.heap.size 2 1 (.slice (some ⟨ga0, 0, none⟩) s0.length s0.length) s0.length (s0.map (Value.int .i64))), (w1.heap.size, Ka, fun V : World => V.ownsRow w1.heap.size 60 2 (.slice vaa LN vca) LN (L.flatMap alC)), (Ka, Ka + 1, fun V : World => V.heap[Ka]? = some (Obj.cells #[.int .i64 C, .slice vaa LN vca] 29)), (Va.heap.size, w3.heap.size, fun V : World => V.ownsRow Va.heap.size 2 1 (.slice (some ⟨x0, 0, none⟩) s0.length s0.length) s0.length (s0.map (Value.int .i64))), (w3.heap.size, w4.heap.size, fun V : World => V.ownsRow w3.heap.size 60 2 (.slice vag LN vcg) LN (L.flatMap alC)), (w4.heap.size, w4.heap.size + 1, fun V : World => V.heap[w4.heap.size]? = some (Obj.cells #[.int .i64 C, .slice vag LN vcg] 29))] (w4.alloc (Obj.cells #[.int .i64 C, .slice vag LN vcg] 29))) := Z5.out.push (by (repeat' (first | (with_reducible exact Below.refl _ _) | (with_reducible assumption) | (with_reducible refine Below.setCell ?_ ?_ _) | (with_reducible refine Below.alloc ?_ ?_ _) | (with_reducible refine below_drewN ?_ _) | (with_reducible refine Below.drew ?_) | (with_reducible exact Nat.le_refl _) | omega | (simp; done) | (simp; omega)))) (Ow.block (heap_alloc_new _ _)) (Nat.le_refl _)
  clear Z5
  go_wp2_with (fail)
  obtain ⟨Vg, hV⟩ : ∃ V, V = w4.alloc (Obj.cells #[.int .i64 C, .slice vag LN vcg] 29) := ⟨_, rfl⟩
  rw [← hV] at Z6 ⊢
  obtain ⟨Kg, hK⟩ : ∃ K, K = w4.heap.size := ⟨_, rfl⟩
  rw [← hK] at Z6 HXg ⊢
  clear hV hK
  clear cva_0 cva_1 lva
  refine (eqAlarmsResult_to C (by have := HLN.out; omega) (OG.rg (T := 60) (B := w3.heap.size) alC_len (by have h : Vg.ownsRow w3.heap.size 60 2 (.slice vag LN vcg) LN (L.flatMap alC) := (Z6.out.get 4 rfl); rw [HLN.out.1] at h ⊢; exact h : Vg.ownsRow w3.heap.size 60 2 (.slice vag LN vcg) L.length (L.flatMap alC))) (OG.rg (T := 60) (B := w1.heap.size) alC_len (by have h : Vg.ownsRow w1.heap.size 60 2 (.slice vaa LN vca) LN (L.flatMap alC) := (Z6.out.get 1 rfl); rw [HLN.out.1] at h ⊢; exact h : Vg.ownsRow w1.heap.size 60 2 (.slice vaa LN vca) L.length (L.flatMap alC)))).mono ?_
  rintro e w5 ⟨rfl, hb⟩
  have Z7 : Hid (LS w [(w.heap.size, w1.heap.size, fun V : World => V.ownsRow w.heap.size 2 1 (.slice (some ⟨ga0, 0, none⟩) s0.length s0.length) s0.length (s0.map (Value.int .i64))), (w1.heap.size, Ka, fun V : World => V.ownsRow w1.heap.size 60 2 (.slice vaa LN vca) LN (L.flatMap alC)), (Ka, Ka + 1, fun V : World => V.heap[Ka]? = some (Obj.cells #[.int .i64 C, .slice vaa LN vca] 29)), (Va.heap.size, w3.heap.size, fun V : World => V.ownsRow Va.heap.size 2 1 (.slice (some ⟨x0, 0, none⟩) s0.length s0.length) s0.length (s0.map (Value.int .i64))), (w3.heap.size, Kg, fun V : World => V.ownsRow w3.heap.size 60 2 (.slice vag LN vcg) LN (L.flatMap alC)), (Kg, Kg + 1, fun V : World => V.heap[Kg]? = some (Obj.cells #[.int .i64 C, .slice vag LN vcg] 29))] w5) := Z6.out.next hb
  clear Z6 hb
  go_wp2_with (fail)
  refine (toInt64S_any HL0.out (HR0.out.below Z7.out.bl)).mono ?_
  rintro e w6 ⟨e0, rfl, ho, hb⟩
  have Z8 : Hid (LS w [(w.heap.size, w1.heap.size, fun V : World => V.ownsRow w.heap.size 2 1 (.slice (some ⟨ga0, 0, none⟩) s0.length s0.length) s0.length (s0.map (Value.int .i64))), (w1.heap.size, Ka, fun V : World => V.ownsRow w1.heap.size 60 2 (.slice vaa LN vca) LN (L.flatMap alC)), (Ka, Ka + 1, fun V : World => V.heap[Ka]? = some (Obj.cells #[.int .i64 C, .slice vaa LN vca] 29)), (Va.heap.size, w3.heap.size, fun V : World => V.ownsRow Va.heap.size 2 1 (.slice (some ⟨x0, 0, none⟩) s0.length s0.length) s0.length (s0.map (Value.int .i64))), (w3.heap.size, Kg, fun V : World => V.ownsRow w3.heap.size 60 2 (.slice vag LN vcg) LN (L.flatMap alC)), (Kg, Kg + 1, fun V : World => V.heap[Kg]? = some (Obj.cells #[.int .i64 C, .slice vag LN vcg] 29)), (w5.heap.size, w6.heap.size, fun V : World => V.ownsRow w5.heap.size 2 1 (.slice (some ⟨e0, 0, none⟩) s0.length s0.length) s0.length (s0.map (Value.int .i64)))] w6) := Z7.out.push hb (Ow.rowAll ho hb) (Nat.le_refl _)
  clear Z7 hb ho
  go_wp2_with (fail)
  refine (eqInt64S_same (by have := HL0.out; omega) (IS.rg (B := Va.heap.size) (show w6.ownsRow Va.heap.size 2 1 (.slice (some ⟨x0, 0, none⟩) s0.length s0.length) s0.length (s0.map (Value.int .i64)) from Z8.out.get 3 rfl)) (IS.rg (B := w5.heap.size) (show w6.ownsRow w5.heap.size 2 1 (.slice (some ⟨e0, 0, none⟩) s0.length s0.length) s0.length (s0.map (Value.int .i64)) from Z8.out.get 6 rfl))).mono ?_
  rintro e w7 ⟨rfl, hb⟩
  have Z9 : Hid (LS w [(w.heap.size, w1.heap.size, fun V : World => V.ownsRow w.heap.size 2 1 (.slice (some ⟨ga0, 0, none⟩) s0.length s0.length) s0.length (s0.map (Value.int .i64))), (w1.heap.size, Ka, fun V : World => V.ownsRow w1.heap.size 60 2 (.slice vaa LN vca) LN (L.flatMap alC)), (Ka, Ka + 1, fun V : World => V.heap[Ka]? = some (Obj.cells #[.int .i64 C, .slice vaa LN vca] 29)), (Va.heap.size, w3.heap.size, fun V : World => V.ownsRow Va.heap.size 2 1 (.slice (some ⟨x0, 0, none⟩) s0.length s0.length) s0.length (s0.map (Value.int .i64))), (w3.heap.size, Kg, fun V : World => V.ownsRow w3.heap.size 60 2 (.slice vag LN vcg) LN (L.flatMap alC)), (Kg, Kg + 1, fun V : World => V.heap[Kg]? = some (Obj.cells #[.int .i64 C, .slice vag LN vcg] 29)), (w5.heap.size, w6.heap.size, fun V : World => V.ownsRow w5.heap.size 2 1 (.slice (some ⟨e0, 0, none⟩) s0.length s0.length) s0.length (s0.map (Value.int .i64)))] w7) := Z8.out.next hb
  clear Z8 hb
  go_wp2_with (fail)
  refine (markInt64S_to 1 HL0.out (by omega) (by omega) (show w7.ownsRow Va.heap.size 2 1 (.slice (some ⟨x0, 0, none⟩) s0.length s0.length) s0.length (s0.map (Value.int .i64)) from Z9.out.get 3 rfl) (HX0.out)).mono ?_
  rintro e w8 ⟨rfl, hm, hc⟩
  have Z10 : Hid (LS w [(w.heap.size, w1.heap.size, fun V : World => V.ownsRow w.heap.size 2 1 (.slice (some ⟨ga0, 0, none⟩) s0.length s0.length) s0.length (s0.map (Value.int .i64))), (w1.heap.size, Ka, fun V : World => V.ownsRow w1.heap.size 60 2 (.slice vaa LN vca) LN (L.flatMap alC)), (Ka, Ka + 1, fun V : World => V.heap[Ka]? = some (Obj.cells #[.int .i64 C, .slice vaa LN vca] 29)), (Va.heap.size, w3.heap.size, fun V : World => True), (w3.heap.size, Kg, fun V : World => V.ownsRow w3.heap.size 60 2 (.slice vag LN vcg) LN (L.flatMap alC)), (Kg, Kg + 1, fun V : World => V.heap[Kg]? = some (Obj.cells #[.int .i64 C, .slice vag LN vcg] 29)), (w5.heap.size, w6.heap.size, fun V : World => V.ownsRow w5.heap.size 2 1 (.slice (some ⟨e0, 0, none⟩) s0.length s0.length) s0.length (s0.map (Value.int .i64)))] w8) := Z9.out.put 3 rfl hc ((Z9.out.own 3 rfl).true hc.size)
  clear Z9 hm hc
  obtain ⟨N0, hN⟩ : ∃ N, N = 1 + (s0.length : Int) := ⟨_, rfl⟩
  rw [← hN]
  have hN0 : 0 ≤ N0 ∧ N0 ≤ 10000000 ∧ ¬ N0 < 0 := by have := HL0.out; omega
  have hN0a := hN0.2.2
  clear hN
  have kvg := Z10.out.get 5 rfl
  have cvg_0 : w8.cell? ⟨Kg, 0, none⟩ = some (.int .i64 C) := cellOf kvg 0 rfl
  have cvg_1 : w8.cell? ⟨Kg, 1, none⟩ = some (.slice vag LN vcg) := cellOf kvg 1 rfl
  have lvg : Kg < w8.heap.size := ltOf kvg
  clear kvg
  have kva := Z10.out.get 2 rfl
  have cva_0 : w8.cell? ⟨Ka, 0, none⟩ = some (.int .i64 C) := cellOf kva 0 rfl
  have cva_1 : w8.cell? ⟨Ka, 1, none⟩ = some (.slice vaa LN vca) := cellOf kva 1 rfl
  have lva : Ka < w8.heap.size := ltOf kva
  clear kva
  go_wp2_with (fail)
  clear cvg_0 cvg_1 lvg cva_0 cva_1 lva
  refine (eqAlarmsResult_to C (by have := HLN.out; omega) (OG.rg (T := 60) (B := w3.heap.size) alC_len (by have h : w8.ownsRow w3.heap.size 60 2 (.slice vag LN vcg) LN (L.flatMap alC) := (Z10.out.get 4 rfl); rw [HLN.out.1] at h ⊢; exact h : w8.ownsRow w3.heap.size 60 2 (.slice vag LN vcg) L.length (L.flatMap alC))) (OG.rg (T := 60) (B := w1.heap.size) alC_len (by have h : w8.ownsRow w1.heap.size 60 2 (.slice vaa LN vca) LN (L.flatMap alC) := (Z10.out.get 1 rfl); rw [HLN.out.1] at h ⊢; exact h : w8.ownsRow w1.heap.size 60 2 (.slice vaa LN vca) L.length (L.flatMap alC)))).mono ?_
  rintro e w9 ⟨rfl, hb⟩
  have Z11 : Hid (LS w [(w.heap.size, w1.heap.size, fun V : World => V.ownsRow w.heap.size 2 1 (.slice (some ⟨ga0, 0, none⟩) s0.length s0.length) s0.length (s0.map (Value.int .i64))), (w1.heap.size, Ka, fun V : World => V.ownsRow w1.heap.size 60 2 (.slice vaa LN vca) LN (L.flatMap alC)), (Ka, Ka + 1, fun V : World => V.heap[Ka]? = some (Obj.cells #[.int .i64 C, .slice vaa LN vca] 29)), (Va.heap.size, w3.heap.size, fun V : World => True), (w3.heap.size, Kg, fun V : World => V.ownsRow w3.heap.size 60 2 (.slice vag LN vcg) LN (L.flatMap alC)), (Kg, Kg + 1, fun V : World => V.heap[Kg]? = some (Obj.cells #[.int .i64 C, .slice vag LN vcg] 29)), (w5.heap.size, w6.heap.size, fun V : World => V.ownsRow w5.heap.size 2 1 (.slice (some ⟨e0, 0, none⟩) s0.length s0.length) s0.length (s0.map (Value.int .i64)))] w9) := Z10.out.next hb
  clear Z10 hb
  have kvg := Z11.out.get 5 rfl
  have cvg_0 : w9.cell? ⟨Kg, 0, none⟩ = some (.int .i64 C) := cellOf kvg 0 rfl
  have cvg_1 : w9.cell? ⟨Kg, 1, none⟩ = some (.slice vag LN vcg) := cellOf kvg 1 rfl
  have lvg : Kg < w9.heap.size := ltOf kvg
  clear kvg
  go_wp2_with (fail)
  clear cvg_0 cvg_1 lvg
  refine (markAlarmsResult_to C 1 (by have := HLN.out; omega) (by omega) (by omega) (show w9.ownsRow w3.heap.size 60 2 (.slice vag LN vcg) LN (L.flatMap alC) from (Z11.out.get 4 rfl)) HXg.out).mono ?_
  rintro e w10 ⟨rfl, hm, hc⟩
  have Z12 : Hid (LS w [(w.heap.size, w1.heap.size, fun V : World => V.ownsRow w.heap.size 2 1 (.slice (some ⟨ga0, 0, none⟩) s0.length s0.length) s0.length (s0.map (Value.int .i64))), (w1.heap.size, Ka, fun V : World => V.ownsRow w1.heap.size 60 2 (.slice vaa LN vca) LN (L.flatMap alC)), (Ka, Ka + 1, fun V : World => V.heap[Ka]? = some (Obj.cells #[.int .i64 C, .slice vaa LN vca] 29)), (Va.heap.size, w3.heap.size, fun V : World => True), (w3.heap.size, Kg, fun V : World => V.ownsRow w3.heap.size 60 2 (.slice vag LN vcg) LN (mkV 1 (LN * 2))), (Kg, Kg + 1, fun V : World => V.heap[Kg]? = some (Obj.cells #[.int .i64 C, .slice vag LN vcg] 29)), (w5.heap.size, w6.heap.size, fun V : World => V.ownsRow w5.heap.size 2 1 (.slice (some ⟨e0, 0, none⟩) s0.length s0.length) s0.length (s0.map (Value.int .i64)))] w10) := Z11.out.put 4 rfl hc (Ow.row hm (Z11.out.own 4 rfl).le.1 (Nat.le_trans (Z11.out.own 4 rfl).le.2 hc.size) HXg.out)
  clear Z11 hm hc
  obtain ⟨TT, hTT⟩ : ∃ TT, TT = 1 + 2 * (LN : Int) := ⟨_, rfl⟩
  have hT0 : ¬ TT < 0 := by omega
  have HTT : Hid (TT = 1 + 2 * (LN : Int)) := hTT
  rw [← hTT]
  clear hTT
  have kvg := Z12.out.get 5 rfl
  have cvg_0 : w10.cell? ⟨Kg, 0, none⟩ = some (.int .i64 C) := cellOf kvg 0 rfl
  have cvg_1 : w10.cell? ⟨Kg, 1, none⟩ = some (.slice vag LN vcg) := cellOf kvg 1 rfl
  have lvg : Kg < w10.heap.size := ltOf kvg
  clear kvg
  go_wp2_with (fail)
  clear cvg_0 cvg_1 lvg
  refine (heldAlarmsResult_to C 1 (by have := HLN.out; omega) (by omega) (by omega) (show w10.ownsRow w3.heap.size 60 2 (.slice vag LN vcg) LN (mkV 1 (LN * 2)) from Z12.out.get 4 rfl)).mono ?_
  rintro e w11 ⟨rfl, hb⟩
  have Z13 : Hid (LS w [(w.heap.size, w1.heap.size, fun V : World => V.ownsRow w.heap.size 2 1 (.slice (some ⟨ga0, 0, none⟩) s0.length s0.length) s0.length (s0.map (Value.int .i64))), (w1.heap.size, Ka, fun V : World => V.ownsRow w1.heap.size 60 2 (.slice vaa LN vca) LN (L.flatMap alC)), (Ka, Ka + 1, fun V : World => V.heap[Ka]? = some (Obj.cells #[.int .i64 C, .slice vaa LN vca] 29)), (Va.heap.size, w3.heap.size, fun V : World => True), (w3.heap.size, Kg, fun V : World => V.ownsRow w3.heap.size 60 2 (.slice vag LN vcg) LN (mkV 1 (LN * 2))), (Kg, Kg + 1, fun V : World => V.heap[Kg]? = some (Obj.cells #[.int .i64 C, .slice vag LN vcg] 29)), (w5.heap.size, w6.heap.size, fun V : World => V.ownsRow w5.heap.size 2 1 (.slice (some ⟨e0, 0, none⟩) s0.length s0.length) s0.length (s0.map (Value.int .i64)))] w11) := Z12.out.next hb
  clear Z12 hb
  rw [← HTT.out]
  go_wp2_with (fail)
  refine (toInt64S_any HL0.out (HR0.out.below Z13.out.bl)).mono ?_
  rintro e w12 ⟨gh0, rfl, ho, hb⟩
  have Z14 : Hid (LS w [(w.heap.size, w1.heap.size, fun V : World => V.ownsRow w.heap.size 2 1 (.slice (some ⟨ga0, 0, none⟩) s0.length s0.length) s0.length (s0.map (Value.int .i64))), (w1.heap.size, Ka, fun V : World => V.ownsRow w1.heap.size 60 2 (.slice vaa LN vca) LN (L.flatMap alC)), (Ka, Ka + 1, fun V : World => V.heap[Ka]? = some (Obj.cells #[.int .i64 C, .slice vaa LN vca] 29)), (Va.heap.size, w3.heap.size, fun V : World => True), (w3.heap.size, Kg, fun V : World => V.ownsRow w3.heap.size 60 2 (.slice vag LN vcg) LN (mkV 1 (LN * 2))), (Kg, Kg + 1, fun V : World => V.heap[Kg]? = some (Obj.cells #[.int .i64 C, .slice vag LN vcg] 29)), (w5.heap.size, w6.heap.size, fun V : World => V.ownsRow w5.heap.size 2 1 (.slice (some ⟨e0, 0, none⟩) s0.length s0.length) s0.length (s0.map (Value.int .i64))), (w11.heap.size, w12.heap.size, fun V : World => V.ownsRow w11.heap.size 2 1 (.slice (some ⟨gh0, 0, none⟩) s0.length s0.length) s0.length (s0.map (Value.int .i64)))] w12) := Z13.out.push hb (Ow.rowAll ho hb) (Nat.le_refl _)
  clear Z13 hb ho
  go_wp2_with (fail)
  refine (HIM.out w12 gh0 (IS.rg (B := w11.heap.size) (show w12.ownsRow w11.heap.size 2 1 (.slice (some ⟨gh0, 0, none⟩) s0.length s0.length) s0.length (s0.map (Value.int .i64)) from Z14.out.get 7 rfl))).mono ?_
  rintro e w13 ⟨vq, rfl, hrq, hb⟩
  obtain ⟨vah, vch, rfl⟩ : ∃ a c, vq = .slice a LN c := by
    rcases hrq.2 with ⟨rfl, h0⟩ | ⟨g, cap, cur, rfl, _⟩
    · exact ⟨_, _, by rw [h0]⟩
    · exact ⟨_, _, rfl⟩
  have Z15 : Hid (LS w [(w.heap.size, w1.heap.size, fun V : World => V.ownsRow w.heap.size 2 1 (.slice (some ⟨ga0, 0, none⟩) s0.length s0.length) s0.length (s0.map (Value.int .i64))), (w1.heap.size, Ka, fun V : World => V.ownsRow w1.heap.size 60 2 (.slice vaa LN vca) LN (L.flatMap alC)), (Ka, Ka + 1, fun V : World => V.heap[Ka]? = some (Obj.cells #[.int .i64 C, .slice vaa LN vca] 29)), (Va.heap.size, w3.heap.size, fun V : World => True), (w3.heap.size, Kg, fun V : World => V.ownsRow w3.heap.size 60 2 (.slice vag LN vcg) LN (mkV 1 (LN * 2))), (Kg, Kg + 1, fun V : World => V.heap[Kg]? = some (Obj.cells #[.int .i64 C, .slice vag LN vcg] 29)), (w5.heap.size, w6.heap.size, fun V : World => V.ownsRow w5.heap.size 2 1 (.slice (some ⟨e0, 0, none⟩) s0.length s0.length) s0.length (s0.map (Value.int .i64))), (w11.heap.size, w12.heap.size, fun V : World => V.ownsRow w11.heap.size 2 1 (.slice (some ⟨gh0, 0, none⟩) s0.length s0.length) s0.length (s0.map (Value.int .i64))), (w12.heap.size, w13.heap.size, fun V : World => V.ownsRow w12.heap.size 60 2 (.slice vah LN vch) LN (L.flatMap alC))] w13) := Z14.out.push hb (Ow.rowAll hrq hb) (Nat.le_refl _)
  clear Z14 hb hrq
  have kva := Z15.out.get 2 rfl
  have cva_0 : w13.cell? ⟨Ka, 0, none⟩ = some (.int .i64 C) := cellOf kva 0 rfl
  have cva_1 : w13.cell? ⟨Ka, 1, none⟩ = some (.slice vaa LN vca) := cellOf kva 1 rfl
  have lva : Ka < w13.heap.size := ltOf kva
  clear kva
  have Z16 : Hid (LS w [(w.heap.size, w1.heap.size, fun V : World => V.ownsRow w.heap.size 2 1 (.slice (some ⟨ga0, 0, none⟩) s0.length s0.length) s0.length (s0.map (Value.int .i64))), (w1.heap.size, Ka, fun V : World => V.ownsRow w1.heap.size 60 2 (.slice vaa LN vca) LN (L.flatMap alC)), (Ka, Ka + 1, fun V : World => V.heap[Ka]? = some (Obj.cells #[.int .i64 C, .slice vaa LN vca] 29)), (Va.heap.size, w3.heap.size, fun V : World => True), (w3.heap.size, Kg, fun V : World => V.ownsRow w3.heap.size 60 2 (.slice vag LN vcg) LN (mkV 1 (LN * 2))), (Kg, Kg + 1, fun V : World => V.heap[Kg]? = some (Obj.cells #[.int .i64 C, .slice vag LN vcg] 29)), (w5.heap.size, w6.heap.size, fun V : World => V.ownsRow w5.heap.size 2 1 (.slice (some ⟨e0, 0, none⟩) s0.length s0.length) s0.length (s0.map (Value.int .i64))), (w11.heap.size, w12.heap.size, fun V : World => V.ownsRow w11.heap.size 2 1 (.slice (some ⟨gh0, 0, none⟩) s0.length s0.length) s0.length (s0.map (Value.int .i64))), (w12.heap.size, w13.heap.size, fun V : World => V.ownsRow w12.heap.size 60 2 (.slice vah LN vch) LN (L.flatMap alC)), (w13.heap.size, w13.heap.size + 1, fun V : World => V.heap[w13.heap.size]? = some (Obj.cells #[.int .i64 C, .slice vah LN vch] 29))] (w13.alloc (Obj.cells #[.int .i64 C, .slice vah LN vch] 29))) := Z15.out.push (by (repeat' (first | (with_reducible exact Below.refl _ _) | (with_reducible assumption) | (with_reducible refine Below.setCell ?_ ?_ _) | (with_reducible refine Below.alloc ?_ ?_ _) | (with_reducible refine below_drewN ?_ _) | (with_reducible refine Below.drew ?_) | (with_reducible exact Nat.le_refl _) | omega | (simp; done) | (simp; omega)))) (Ow.block (heap_alloc_new _ _)) (Nat.le_refl _)
  clear Z15
  go_wp2_with (fail)
  obtain ⟨Vh, hV⟩ : ∃ V, V = w13.alloc (Obj.cells #[.int .i64 C, .slice vah LN vch] 29) := ⟨_, rfl⟩
  rw [← hV] at Z16 ⊢
  obtain ⟨Kh, hK⟩ : ∃ K, K = w13.heap.size := ⟨_, rfl⟩
  rw [← hK] at Z16  ⊢
  clear hV hK
  clear cva_0 cva_1 lva
  refine (eqAlarmsResult_to C (by have := HLN.out; omega) (OG.rg (T := 60) (B := w12.heap.size) alC_len (by have h : Vh.ownsRow w12.heap.size 60 2 (.slice vah LN vch) LN (L.flatMap alC) := (Z16.out.get 8 rfl); rw [HLN.out.1] at h ⊢; exact h : Vh.ownsRow w12.heap.size 60 2 (.slice vah LN vch) L.length (L.flatMap alC))) (OG.rg (T := 60) (B := w1.heap.size) alC_len (by have h : Vh.ownsRow w1.heap.size 60 2 (.slice vaa LN vca) LN (L.flatMap alC) := (Z16.out.get 1 rfl); rw [HLN.out.1] at h ⊢; exact h : Vh.ownsRow w1.heap.size 60 2 (.slice vaa LN vca) L.length (L.flatMap alC)))).mono ?_
  rintro e w14 ⟨rfl, hb⟩
  have Z17 : Hid (LS w [(w.heap.size, w1.heap.size, fun V : World => V.ownsRow w.heap.size 2 1 (.slice (some ⟨ga0, 0, none⟩) s0.length s0.length) s0.length (s0.map (Value.int .i64))), (w1.heap.size, Ka, fun V : World => V.ownsRow w1.heap.size 60 2 (.slice vaa LN vca) LN (L.flatMap alC)), (Ka, Ka + 1, fun V : World => V.heap[Ka]? = some (Obj.cells #[.int .i64 C, .slice vaa LN vca] 29)), (Va.heap.size, w3.heap.size, fun V : World => True), (w3.heap.size, Kg, fun V : World => V.ownsRow w3.heap.size 60 2 (.slice vag LN vcg) LN (mkV 1 (LN * 2))), (Kg, Kg + 1, fun V : World => V.heap[Kg]? = some (Obj.cells #[.int .i64 C, .slice vag LN vcg] 29)), (w5.heap.size, w6.heap.size, fun V : World => V.ownsRow w5.heap.size 2 1 (.slice (some ⟨e0, 0, none⟩) s0.length s0.length) s0.length (s0.map (Value.int .i64))), (w11.heap.size, w12.heap.size, fun V : World => V.ownsRow w11.heap.size 2 1 (.slice (some ⟨gh0, 0, none⟩) s0.length s0.length) s0.length (s0.map (Value.int .i64))), (w12.heap.size, Kh, fun V : World => V.ownsRow w12.heap.size 60 2 (.slice vah LN vch) LN (L.flatMap alC)), (Kh, Kh + 1, fun V : World => V.heap[Kh]? = some (Obj.cells #[.int .i64 C, .slice vah LN vch] 29))] w14) := Z16.out.next hb
  clear Z16 hb
  have kvg := Z17.out.get 5 rfl
  have cvg_0 : w14.cell? ⟨Kg, 0, none⟩ = some (.int .i64 C) := cellOf kvg 0 rfl
  have cvg_1 : w14.cell? ⟨Kg, 1, none⟩ = some (.slice vag LN vcg) := cellOf kvg 1 rfl
  have lvg : Kg < w14.heap.size := ltOf kvg
  clear kvg
  go_wp2_with (fail)
  clear cvg_0 cvg_1 lvg
  refine (heldAlarmsResult_to C 1 (by have := HLN.out; omega) (by omega) (by omega) (show w14.ownsRow w3.heap.size 60 2 (.slice vag LN vcg) LN (mkV 1 (LN * 2)) from Z17.out.get 4 rfl)).mono ?_
  rintro e w15 ⟨rfl, hb⟩
  have Z18 : Hid (LS w [(w.heap.size, w1.heap.size, fun V : World => V.ownsRow w.heap.size 2 1 (.slice (some ⟨ga0, 0, none⟩) s0.length s0.length) s0.length (s0.map (Value.int .i64))), (w1.heap.size, Ka, fun V : World => V.ownsRow w1.heap.size 60 2 (.slice vaa LN vca) LN (L.flatMap alC)), (Ka, Ka + 1, fun V : World => V.heap[Ka]? = some (Obj.cells #[.int .i64 C, .slice vaa LN vca] 29)), (Va.heap.size, w3.heap.size, fun V : World => True), (w3.heap.size, Kg, fun V : World => V.ownsRow w3.heap.size 60 2 (.slice vag LN vcg) LN (mkV 1 (LN * 2))), (Kg, Kg + 1, fun V : World => V.heap[Kg]? = some (Obj.cells #[.int .i64 C, .slice vag LN vcg] 29)), (w5.heap.size, w6.heap.size, fun V : World => V.ownsRow w5.heap.size 2 1 (.slice (some ⟨e0, 0, none⟩) s0.length s0.length) s0.length (s0.map (Value.int .i64))), (w11.heap.size, w12.heap.size, fun V : World => V.ownsRow w11.heap.size 2 1 (.slice (some ⟨gh0, 0, none⟩) s0.length s0.length) s0.length (s0.map (Value.int .i64))), (w12.heap.size, Kh, fun V : World => V.ownsRow w12.heap.size 60 2 (.slice vah LN vch) LN (L.flatMap alC)), (Kh, Kh + 1, fun V : World => V.heap[Kh]? = some (Obj.cells #[.int .i64 C, .slice vah LN vch] 29))] w15) := Z17.out.next hb
  clear Z17 hb
  rw [← HTT.out]
  go_wp2
  go_returns
  exact ⟨rfl, Z18.out.bl⟩

set_option maxRecDepth 100000 in
theorem cu16_lifted (os : Os) (started : os.Started) (H : Type) (enc : TypeId × Value → H) :
    ReturnsInHanded {} Try.checked os 4 .any (Rows.fnExactCusumOfSpec.pre6 enc Try.prog Try.f4 Rows.fnExactCusumOfRow.domain false) (Rows.fnExactCusumOfSpec.post enc Try.prog Try.f4 false true false false) := by
  refine returnsInHanded_of_change (C := Try.checked) own started (by kernel_rfl) Try.func4
    (ChangeSpec.witness6 (enc := enc) (C := Try.checked) false ⟨#[], #[.slice none 0 0, .int .i64 0, .int .i64 0, .int .i64 0], []⟩ 8 (by kernel_rfl) (by kernel_rfl) (by kernel_rfl) (by kernel_rfl)) ?_
  intro W base args ds gs before hval0 hW hcnd _
  have hval : ∀ (j : Nat) t v, Try.f4.params[j]? = some t → args[j]? = some v → Value.okWide Try.prog W .any base t v := hval0
  have hW' := hW
  obtain ⟨p, q, hA0, hV, rfl, hfz, hnd⟩ := hW
  have hA : DataW.TrodAll enc Try.prog W 0 (fun _ => true) true Try.f4.params.toList args.toList ds p := hA0
  rw [Try.params4] at hA hval
  obtain ⟨v0, vs0, d0, ds0, p0, q0, hargs, rfl, rfl, h0, r0⟩ := trodAll_cons hA
  obtain ⟨v1, vs1, d1, ds1, p1, q1, rfl, rfl, rfl, h1, r1⟩ := trodAll_cons r0
  obtain ⟨v2, vs2, d2, ds2, p2, q2, rfl, rfl, rfl, h2, r2⟩ := trodAll_cons r1
  obtain ⟨v3, vs3, d3, ds3, p3, q3, rfl, rfl, rfl, h3, r3⟩ := trodAll_cons r2
  obtain ⟨rfl, rfl, rfl⟩ := trodAll_nil r3
  obtain rfl : args = #[v0, v1, v2, v3] := by cases args; simp_all
  obtain ⟨rfl, rfl⟩ := trodVars_none hV
  have k0 := h0
  have lt0 : ∀ x ∈ p0, x.block < W.heap.size := by obtain ⟨m, hm⟩ := k0; exact DataW.trod_lt m _ _ _ hm
  obtain ⟨sa0, sn0, sc0, s0, rfl, ri0, sl0⟩ := ints_open (hval 0 22 v0 rfl rfl) h0
  obtain ⟨n1, rfl, rfl, rfl, wn1⟩ := open_int Try.underlying2 (hval 1 2 v1 rfl rfl) h1
  obtain ⟨n2, rfl, rfl, rfl, wn2⟩ := open_int Try.underlying2 (hval 2 2 v2 rfl rfl) h2
  obtain ⟨n3, rfl, rfl, rfl, wn3⟩ := open_int Try.underlying2 (hval 3 2 v3 rfl rfl) h3
  clear hA0 hval0
  refine (law_cu16 s0 sl0 ri0 n1 n2 n3).mono fun e W' ⟨he, hg⟩ => ?_
  subst he
  exact ⟨_, rfl, _, _, _, [], _, [], hW', trodAll_mk1 (shut_bool Try.underlying4 _), (trodAll_cons_mk (Below.trod laidOut (by kernel_rfl) (of_decide_eq_true (by kernel_rfl)) k0 hg lt0) (trodAll_cons_mk (shut_int Try.underlying2 wn1) (trodAll_cons_mk (shut_int Try.underlying2 wn2) (trodAll_cons_mk (shut_int Try.underlying2 wn3) trodAll_mk0)))), rfl, hg.frame _, fun h => by cases h⟩

theorem cu16_over : Rows.fnExactCusumOfRow.holds Try.pinned (OpenSpec.ofChange Rows.fnExactCusumOfSpec) :=
  OpenClaim.holds_of_wide 4 Try.f4 rfl rfl rfl rfl rfl rfl rfl ⟨rfl, rfl, rfl, rfl, rfl⟩ rfl rfl rfl rfl rfl (by kernel_rfl) Try.func4 (by kernel_rfl)
    (of_decide_eq_true (by kernel_rfl)) (by unfold Func.isWrapper; first | (rw [if_pos (by decide +kernel)]; kernel_rfl) | (rw [if_neg (by decide +kernel)]; exact ⟨rfl, rfl⟩))
    (fun os started H enc _ => cu16_lifted os started H enc)

theorem cu16_proved : Rows.FnExactCusumOfSaid :=
  cu16_over
#print axioms cu16_proved

end Go.Proofs.Ytiipepddlbgodaa
