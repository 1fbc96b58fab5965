/- Proved here: 'the program's SignatureOf answers as the model's; it writes into no argument and keeps nothing of one; its answer owns its memory, behind another call too', without a condition. -/
import Derived.Test.YtkdpifplhhcpaaaSgI
import Derived.Test.YtkdpifplhhcpaaaSgS
import Derived.Test.YtkdpifplhhcpaaaNlW
import Derived.Test.YtkdpifplhhcpaaaMkIR
import Derived.Test.YtkdpifplhhcpaaaMkI
import Derived.Test.YtkdpifplhhcpaaaLwS
import Derived.Test.YtkdpifplhhcpaaaRows
namespace Go.Proofs.Ytkdpifplhhcpaaa
open Go.ChangeShapes Go.WideShapes Go.ChangeAt Go.RowKit Go.Joins
set_option linter.unusedVariables false
set_option linter.unusedSimpArgs false

theorem own : ownKnob Try.prog.godebug = none := by kernel_rfl
theorem laidOut : laidOutB Try.prog = true := by kernel_rfl

set_option maxRecDepth 10000 in
set_option maxHeartbeats 25600000 in
theorem law_sg23 {w : World}  {sa0 : Option Addr} {sn0 sc0 : Nat} (s0 : List Int) (hm0 : s0.length ≤ maxLen) (hr0 : RdI w (.slice sa0 sn0 sc0) s0) {sa1 : Option Addr} {sn1 sc1 : Nat} (s1 : List Int) (hm1 : s1.length ≤ maxLen) (hr1 : RdI w (.slice sa1 sn1 sc1) s1) :
    Calls Try.prog 7 #[.slice sa0 sn0 sc0, .slice sa1 sn1 sc1] w fun e w' => e = .returned (.bool true) ∧ Below w.heap.size w w' := by
  have HM0 : Hid (sn0 ≤ maxLen) := by unfold Hid; rw [hr0.len]; exact hm0
  have HR0 : Hid (RdI w (.slice sa0 sn0 sc0) s0) := hr0
  have HE0 : Hid (sn0 = s0.length) := hr0.len
  have HM1 : Hid (sn1 ≤ maxLen) := by unfold Hid; rw [hr1.len]; exact hm1
  have HR1 : Hid (RdI w (.slice sa1 sn1 sc1) s1) := hr1
  have HE1 : Hid (sn1 = s1.length) := hr1.len
  clear hm0 hr0 hm1 hr1
  have Z0 : Hid (LS w [] w) := LS.start w
  go_enter Try.func7, Try.ntmps7
  by_cases hf0 : (1048576 : Int) < (sn0 : Int)
  · go_wp2
    go_returns
    exact ⟨rfl, Below.refl _ _⟩
  have HL0 : Hid (s0.length ≤ 1048576) := by unfold Hid; rw [← HE0.out]; omega
  by_cases hf1 : (1048576 : Int) < (sn1 : Int)
  · go_wp2
    go_returns
    exact ⟨rfl, Below.refl _ _⟩
  have HL1 : Hid (s1.length ≤ 1048576) := by unfold Hid; rw [← HE1.out]; omega
  obtain ⟨C, hC⟩ : ∃ X, X = scC (List.replicate 16 0) s1 s0 := ⟨_, rfl⟩
  obtain ⟨L, hL⟩ : ∃ X, X = scL (List.replicate 16 0) s1 s0 := ⟨_, rfl⟩
  obtain ⟨LN, hLN⟩ : ∃ X, X = L.length := ⟨_, rfl⟩
  have HLN : Hid (LN = L.length ∧ LN ≤ 32) := ⟨hLN, by rw [hLN, hL]; exact scL_len _ _ _⟩
  have HSP : Hid (∀ (W : World) (g0 : Nat) (g1 : Nat), (RdI W (.slice (some ⟨g0, 0, none⟩) s0.length s0.length) s0) → (RdI W (.slice (some ⟨g1, 0, none⟩) s1.length s1.length) s1) → Calls Try.prog 30 #[.slice (some ⟨g0, 0, none⟩) s0.length s0.length, .slice (some ⟨g1, 0, none⟩) s1.length s1.length] W fun e w' => ∃ v, e = .returned (.agg #[.int .i64 C, v]) ∧ w'.ownsRow W.heap.size 2 1 v LN (L.map (Value.int .i64)) ∧ Below W.heap.size W w') := fun W g0 g1 h0 h1 => by
    rw [hLN, hL, hC]
    exact spec_sg HL0.out h0 HL1.out h1
  have HIM : Hid (∀ (W : World) (g0 : Nat) (g1 : Nat), (RdI W (.slice (some ⟨g0, 0, none⟩) s0.length s0.length) s0) → (RdI W (.slice (some ⟨g1, 0, none⟩) s1.length s1.length) s1) → Calls Try.prog 31 #[.slice (some ⟨g0, 0, none⟩) s0.length s0.length, .slice (some ⟨g1, 0, none⟩) s1.length s1.length] W fun e w' => ∃ v, e = .returned (.agg #[.int .i64 C, v]) ∧ w'.ownsRow W.heap.size 2 1 v LN (L.map (Value.int .i64)) ∧ Below W.heap.size W w') := fun W g0 g1 h0 h1 => by
    rw [hLN, hL, hC]
    exact impl_sg HL0.out h0 HL1.out h1
  clear hC hL hLN 
  go_wp2_with (fail)
  refine (toInt64S_any HL0.out (HR0.out.below Z0.out.bl)).mono ?_
  rintro e w1 ⟨ga0, rfl, ho, hb⟩
  have Z1 : Hid (LS w [(w.heap.size, w1.heap.size, fun V : World => V.ownsRow w.heap.size 2 1 (.slice (some ⟨ga0, 0, none⟩) s0.length s0.length) s0.length (s0.map (Value.int .i64)))] w1) := Z0.out.push hb (Ow.rowAll ho hb) (Nat.le_refl _)
  clear Z0 hb ho
  go_wp2_with (fail)
  refine (toInt64S_any HL1.out (HR1.out.below Z1.out.bl)).mono ?_
  rintro e w2 ⟨ga1, rfl, ho, hb⟩
  have Z2 : Hid (LS w [(w.heap.size, w1.heap.size, fun V : World => V.ownsRow w.heap.size 2 1 (.slice (some ⟨ga0, 0, none⟩) s0.length s0.length) s0.length (s0.map (Value.int .i64))), (w1.heap.size, w2.heap.size, fun V : World => V.ownsRow w1.heap.size 2 1 (.slice (some ⟨ga1, 0, none⟩) s1.length s1.length) s1.length (s1.map (Value.int .i64)))] w2) := Z1.out.push hb (Ow.rowAll ho hb) (Nat.le_refl _)
  clear Z1 hb ho
  go_wp2_with (fail)
  refine (HSP.out w2 ga0 ga1 (IS.rg (B := w.heap.size) (show w2.ownsRow w.heap.size 2 1 (.slice (some ⟨ga0, 0, none⟩) s0.length s0.length) s0.length (s0.map (Value.int .i64)) from Z2.out.get 0 rfl)) (IS.rg (B := w1.heap.size) (show w2.ownsRow w1.heap.size 2 1 (.slice (some ⟨ga1, 0, none⟩) s1.length s1.length) s1.length (s1.map (Value.int .i64)) from Z2.out.get 1 rfl))).mono ?_
  rintro e w3 ⟨vq, rfl, hrq, hb⟩
  obtain ⟨vaa, vca, rfl⟩ : ∃ a c, vq = .slice a LN c := by
    rcases hrq.2 with ⟨rfl, h0⟩ | ⟨g, cap, cur, rfl, _⟩
    · exact ⟨_, _, by rw [h0]⟩
    · exact ⟨_, _, rfl⟩
  have Z3 : Hid (LS w [(w.heap.size, w1.heap.size, fun V : World => V.ownsRow w.heap.size 2 1 (.slice (some ⟨ga0, 0, none⟩) s0.length s0.length) s0.length (s0.map (Value.int .i64))), (w1.heap.size, w2.heap.size, fun V : World => V.ownsRow w1.heap.size 2 1 (.slice (some ⟨ga1, 0, none⟩) s1.length s1.length) s1.length (s1.map (Value.int .i64))), (w2.heap.size, w3.heap.size, fun V : World => V.ownsRow w2.heap.size 2 1 (.slice vaa LN vca) LN (L.map (Value.int .i64)))] w3) := Z2.out.push hb (Ow.rowAll hrq hb) (Nat.le_refl _)
  clear Z2 hb hrq
  have Z4 : Hid (LS w [(w.heap.size, w1.heap.size, fun V : World => V.ownsRow w.heap.size 2 1 (.slice (some ⟨ga0, 0, none⟩) s0.length s0.length) s0.length (s0.map (Value.int .i64))), (w1.heap.size, w2.heap.size, fun V : World => V.ownsRow w1.heap.size 2 1 (.slice (some ⟨ga1, 0, none⟩) s1.length s1.length) s1.length (s1.map (Value.int .i64))), (w2.heap.size, w3.heap.size, fun V : World => V.ownsRow w2.heap.size 2 1 (.slice vaa LN vca) LN (L.map (Value.int .i64))), (w3.heap.size, w3.heap.size + 1, fun V : World => V.heap[w3.heap.size]? = some (Obj.cells #[.int .i64 C, .slice vaa LN vca] 45))] (w3.alloc (Obj.cells #[.int .i64 C, .slice vaa LN vca] 45))) := Z3.out.push (by (repeat' (first | (with_reducible exact Below.refl _ _) | (with_reducible assumption) | (with_reducible refine Below.setCell ?_ ?_ _) | (with_reducible refine Below.alloc ?_ ?_ _) | (with_reducible refine below_drewN ?_ _) | (with_reducible refine Below.drew ?_) | (with_reducible exact Nat.le_refl _) | omega | (simp; done) | (simp; omega)))) (Ow.block (heap_alloc_new _ _)) (Nat.le_refl _)
  clear Z3
  go_wp2_with (fail)
  obtain ⟨Va, hV⟩ : ∃ V, V = w3.alloc (Obj.cells #[.int .i64 C, .slice vaa LN vca] 45) := ⟨_, rfl⟩
  rw [← hV] at Z4 ⊢
  obtain ⟨Ka, hK⟩ : ∃ K, K = w3.heap.size := ⟨_, rfl⟩
  rw [← hK] at Z4  ⊢
  clear hV hK
  refine (toInt64S_any HL0.out (HR0.out.below Z4.out.bl)).mono ?_
  rintro e w4 ⟨x0, rfl, ho, hb⟩
  have HX0 : Hid (∀ g, (.slice (some ⟨x0, 0, none⟩) s0.length s0.length : Value).ownBlock = some g → g < w4.heap.size) := fun g hg => (World.ownsRow.lt ho g hg).2
  have Z5 : Hid (LS w [(w.heap.size, w1.heap.size, fun V : World => V.ownsRow w.heap.size 2 1 (.slice (some ⟨ga0, 0, none⟩) s0.length s0.length) s0.length (s0.map (Value.int .i64))), (w1.heap.size, w2.heap.size, fun V : World => V.ownsRow w1.heap.size 2 1 (.slice (some ⟨ga1, 0, none⟩) s1.length s1.length) s1.length (s1.map (Value.int .i64))), (w2.heap.size, Ka, fun V : World => V.ownsRow w2.heap.size 2 1 (.slice vaa LN vca) LN (L.map (Value.int .i64))), (Ka, Ka + 1, fun V : World => V.heap[Ka]? = some (Obj.cells #[.int .i64 C, .slice vaa LN vca] 45)), (Va.heap.size, w4.heap.size, fun V : World => V.ownsRow Va.heap.size 2 1 (.slice (some ⟨x0, 0, none⟩) s0.length s0.length) s0.length (s0.map (Value.int .i64)))] w4) := Z4.out.push hb (Ow.rowAll ho hb) (Nat.le_refl _)
  clear Z4 hb ho
  go_wp2_with (fail)
  refine (toInt64S_any HL1.out (HR1.out.below Z5.out.bl)).mono ?_
  rintro e w5 ⟨x1, rfl, ho, hb⟩
  have HX1 : Hid (∀ g, (.slice (some ⟨x1, 0, none⟩) s1.length s1.length : Value).ownBlock = some g → g < w5.heap.size) := fun g hg => (World.ownsRow.lt ho g hg).2
  have Z6 : Hid (LS w [(w.heap.size, w1.heap.size, fun V : World => V.ownsRow w.heap.size 2 1 (.slice (some ⟨ga0, 0, none⟩) s0.length s0.length) s0.length (s0.map (Value.int .i64))), (w1.heap.size, w2.heap.size, fun V : World => V.ownsRow w1.heap.size 2 1 (.slice (some ⟨ga1, 0, none⟩) s1.length s1.length) s1.length (s1.map (Value.int .i64))), (w2.heap.size, Ka, fun V : World => V.ownsRow w2.heap.size 2 1 (.slice vaa LN vca) LN (L.map (Value.int .i64))), (Ka, Ka + 1, fun V : World => V.heap[Ka]? = some (Obj.cells #[.int .i64 C, .slice vaa LN vca] 45)), (Va.heap.size, w4.heap.size, fun V : World => V.ownsRow Va.heap.size 2 1 (.slice (some ⟨x0, 0, none⟩) s0.length s0.length) s0.length (s0.map (Value.int .i64))), (w4.heap.size, w5.heap.size, fun V : World => V.ownsRow w4.heap.size 2 1 (.slice (some ⟨x1, 0, none⟩) s1.length s1.length) s1.length (s1.map (Value.int .i64)))] w5) := Z5.out.push hb (Ow.rowAll ho hb) (Nat.le_refl _)
  clear Z5 hb ho
  go_wp2_with (fail)
  refine (HIM.out w5 x0 x1 (IS.rg (B := Va.heap.size) (show w5.ownsRow Va.heap.size 2 1 (.slice (some ⟨x0, 0, none⟩) s0.length s0.length) s0.length (s0.map (Value.int .i64)) from Z6.out.get 4 rfl)) (IS.rg (B := w4.heap.size) (show w5.ownsRow w4.heap.size 2 1 (.slice (some ⟨x1, 0, none⟩) s1.length s1.length) s1.length (s1.map (Value.int .i64)) from Z6.out.get 5 rfl))).mono ?_
  rintro e w6 ⟨vq, rfl, hrq, hb⟩
  obtain ⟨vag, vcg, rfl⟩ : ∃ a c, vq = .slice a LN c := by
    rcases hrq.2 with ⟨rfl, h0⟩ | ⟨g, cap, cur, rfl, _⟩
    · exact ⟨_, _, by rw [h0]⟩
    · exact ⟨_, _, rfl⟩
  have HXg : Hid (∀ g, (.slice vag LN vcg : Value).ownBlock = some g → g < w6.heap.size) := fun g hg => (World.ownsRow.lt hrq g hg).2
  have Z7 : Hid (LS w [(w.heap.size, w1.heap.size, fun V : World => V.ownsRow w.heap.size 2 1 (.slice (some ⟨ga0, 0, none⟩) s0.length s0.length) s0.length (s0.map (Value.int .i64))), (w1.heap.size, w2.heap.size, fun V : World => V.ownsRow w1.heap.size 2 1 (.slice (some ⟨ga1, 0, none⟩) s1.length s1.length) s1.length (s1.map (Value.int .i64))), (w2.heap.size, Ka, fun V : World => V.ownsRow w2.heap.size 2 1 (.slice vaa LN vca) LN (L.map (Value.int .i64))), (Ka, Ka + 1, fun V : World => V.heap[Ka]? = some (Obj.cells #[.int .i64 C, .slice vaa LN vca] 45)), (Va.heap.size, w4.heap.size, fun V : World => V.ownsRow Va.heap.size 2 1 (.slice (some ⟨x0, 0, none⟩) s0.length s0.length) s0.length (s0.map (Value.int .i64))), (w4.heap.size, w5.heap.size, fun V : World => V.ownsRow w4.heap.size 2 1 (.slice (some ⟨x1, 0, none⟩) s1.length s1.length) s1.length (s1.map (Value.int .i64))), (w5.heap.size, w6.heap.size, fun V : World => V.ownsRow w5.heap.size 2 1 (.slice vag LN vcg) LN (L.map (Value.int .i64)))] w6) := Z6.out.push hb (Ow.rowAll hrq hb) (Nat.le_refl _)
  clear Z6 hb hrq
  have kva := Z7.out.get 3 rfl
  have cva_0 : w6.cell? ⟨Ka, 0, none⟩ = some (.int .i64 C) := cellOf kva 0 rfl
  have cva_1 : w6.cell? ⟨Ka, 1, none⟩ = some (.slice vaa LN vca) := cellOf kva 1 rfl
  have lva : Ka < w6.heap.size := ltOf kva
  clear kva
  have Z8 : Hid (LS w [(w.heap.size, w1.heap.size, fun V : World => V.ownsRow w.heap.size 2 1 (.slice (some ⟨ga0, 0, none⟩) s0.length s0.length) s0.length (s0.map (Value.int .i64))), (w1.heap.size, w2.heap.size, fun V : World => V.ownsRow w1.heap.size 2 1 (.slice (some ⟨ga1, 0, none⟩) s1.length s1.length) s1.length (s1.map (Value.int .i64))), (w2.heap.size, Ka, fun V : World => V.ownsRow w2.heap.size 2 1 (.slice vaa LN vca) LN (L.map (Value.int .i64))), (Ka, Ka + 1, fun V : World => V.heap[Ka]? = some (Obj.cells #[.int .i64 C, .slice vaa LN vca] 45)), (Va.heap.size, w4.heap.size, fun V : World => V.ownsRow Va.heap.size 2 1 (.slice (some ⟨x0, 0, none⟩) s0.length s0.length) s0.length (s0.map (Value.int .i64))), (w4.heap.size, w5.heap.size, fun V : World => V.ownsRow w4.heap.size 2 1 (.slice (some ⟨x1, 0, none⟩) s1.length s1.length) s1.length (s1.map (Value.int .i64))), (w5.heap.size, w6.heap.size, fun V : World => V.ownsRow w5.heap.size 2 1 (.slice vag LN vcg) LN (L.map (Value.int .i64))), (w6.heap.size, w6.heap.size + 1, fun V : World => V.heap[w6.heap.size]? = some (Obj.cells #[.int .i64 C, .slice vag LN vcg] 45))] (w6.alloc (Obj.cells #[.int .i64 C, .slice vag LN vcg] 45))) := Z7.out.push (by (repeat' (first | (with_reducible exact Below.refl _ _) | (with_reducible assumption) | (with_reducible refine Below.setCell ?_ ?_ _) | (with_reducible refine Below.alloc ?_ ?_ _) | (with_reducible refine below_drewN ?_ _) | (with_reducible refine Below.drew ?_) | (with_reducible exact Nat.le_refl _) | omega | (simp; done) | (simp; omega)))) (Ow.block (heap_alloc_new _ _)) (Nat.le_refl _)
  clear Z7
  go_wp2_with (fail)
  obtain ⟨Vg, hV⟩ : ∃ V, V = w6.alloc (Obj.cells #[.int .i64 C, .slice vag LN vcg] 45) := ⟨_, rfl⟩
  rw [← hV] at Z8 ⊢
  obtain ⟨Kg, hK⟩ : ∃ K, K = w6.heap.size := ⟨_, rfl⟩
  rw [← hK] at Z8 HXg ⊢
  clear hV hK
  clear cva_0 cva_1 lva
  refine (eqIntsResult_to C (by have := HLN.out; omega) (IS.rg (B := w5.heap.size) (by have h : Vg.ownsRow w5.heap.size 2 1 (.slice vag LN vcg) LN (L.map (Value.int .i64)) := (Z8.out.get 6 rfl); rw [HLN.out.1] at h ⊢; exact h : Vg.ownsRow w5.heap.size 2 1 (.slice vag LN vcg) L.length (L.map (Value.int .i64)))) (IS.rg (B := w2.heap.size) (by have h : Vg.ownsRow w2.heap.size 2 1 (.slice vaa LN vca) LN (L.map (Value.int .i64)) := (Z8.out.get 2 rfl); rw [HLN.out.1] at h ⊢; exact h : Vg.ownsRow w2.heap.size 2 1 (.slice vaa LN vca) L.length (L.map (Value.int .i64))))).mono ?_
  rintro e w7 ⟨rfl, hb⟩
  have Z9 : Hid (LS w [(w.heap.size, w1.heap.size, fun V : World => V.ownsRow w.heap.size 2 1 (.slice (some ⟨ga0, 0, none⟩) s0.length s0.length) s0.length (s0.map (Value.int .i64))), (w1.heap.size, w2.heap.size, fun V : World => V.ownsRow w1.heap.size 2 1 (.slice (some ⟨ga1, 0, none⟩) s1.length s1.length) s1.length (s1.map (Value.int .i64))), (w2.heap.size, Ka, fun V : World => V.ownsRow w2.heap.size 2 1 (.slice vaa LN vca) LN (L.map (Value.int .i64))), (Ka, Ka + 1, fun V : World => V.heap[Ka]? = some (Obj.cells #[.int .i64 C, .slice vaa LN vca] 45)), (Va.heap.size, w4.heap.size, fun V : World => V.ownsRow Va.heap.size 2 1 (.slice (some ⟨x0, 0, none⟩) s0.length s0.length) s0.length (s0.map (Value.int .i64))), (w4.heap.size, w5.heap.size, fun V : World => V.ownsRow w4.heap.size 2 1 (.slice (some ⟨x1, 0, none⟩) s1.length s1.length) s1.length (s1.map (Value.int .i64))), (w5.heap.size, Kg, fun V : World => V.ownsRow w5.heap.size 2 1 (.slice vag LN vcg) LN (L.map (Value.int .i64))), (Kg, Kg + 1, fun V : World => V.heap[Kg]? = some (Obj.cells #[.int .i64 C, .slice vag LN vcg] 45))] w7) := Z8.out.next hb
  clear Z8 hb
  go_wp2_with (fail)
  refine (toInt64S_any HL0.out (HR0.out.below Z9.out.bl)).mono ?_
  rintro e w8 ⟨e0, rfl, ho, hb⟩
  have Z10 : Hid (LS w [(w.heap.size, w1.heap.size, fun V : World => V.ownsRow w.heap.size 2 1 (.slice (some ⟨ga0, 0, none⟩) s0.length s0.length) s0.length (s0.map (Value.int .i64))), (w1.heap.size, w2.heap.size, fun V : World => V.ownsRow w1.heap.size 2 1 (.slice (some ⟨ga1, 0, none⟩) s1.length s1.length) s1.length (s1.map (Value.int .i64))), (w2.heap.size, Ka, fun V : World => V.ownsRow w2.heap.size 2 1 (.slice vaa LN vca) LN (L.map (Value.int .i64))), (Ka, Ka + 1, fun V : World => V.heap[Ka]? = some (Obj.cells #[.int .i64 C, .slice vaa LN vca] 45)), (Va.heap.size, w4.heap.size, fun V : World => V.ownsRow Va.heap.size 2 1 (.slice (some ⟨x0, 0, none⟩) s0.length s0.length) s0.length (s0.map (Value.int .i64))), (w4.heap.size, w5.heap.size, fun V : World => V.ownsRow w4.heap.size 2 1 (.slice (some ⟨x1, 0, none⟩) s1.length s1.length) s1.length (s1.map (Value.int .i64))), (w5.heap.size, Kg, fun V : World => V.ownsRow w5.heap.size 2 1 (.slice vag LN vcg) LN (L.map (Value.int .i64))), (Kg, Kg + 1, fun V : World => V.heap[Kg]? = some (Obj.cells #[.int .i64 C, .slice vag LN vcg] 45)), (w7.heap.size, w8.heap.size, fun V : World => V.ownsRow w7.heap.size 2 1 (.slice (some ⟨e0, 0, none⟩) s0.length s0.length) s0.length (s0.map (Value.int .i64)))] w8) := Z9.out.push hb (Ow.rowAll ho hb) (Nat.le_refl _)
  clear Z9 hb ho
  go_wp2_with (fail)
  refine (eqInt64S_same (by have := HL0.out; omega) (IS.rg (B := Va.heap.size) (show w8.ownsRow Va.heap.size 2 1 (.slice (some ⟨x0, 0, none⟩) s0.length s0.length) s0.length (s0.map (Value.int .i64)) from Z10.out.get 4 rfl)) (IS.rg (B := w7.heap.size) (show w8.ownsRow w7.heap.size 2 1 (.slice (some ⟨e0, 0, none⟩) s0.length s0.length) s0.length (s0.map (Value.int .i64)) from Z10.out.get 8 rfl))).mono ?_
  rintro e w9 ⟨rfl, hb⟩
  have Z11 : Hid (LS w [(w.heap.size, w1.heap.size, fun V : World => V.ownsRow w.heap.size 2 1 (.slice (some ⟨ga0, 0, none⟩) s0.length s0.length) s0.length (s0.map (Value.int .i64))), (w1.heap.size, w2.heap.size, fun V : World => V.ownsRow w1.heap.size 2 1 (.slice (some ⟨ga1, 0, none⟩) s1.length s1.length) s1.length (s1.map (Value.int .i64))), (w2.heap.size, Ka, fun V : World => V.ownsRow w2.heap.size 2 1 (.slice vaa LN vca) LN (L.map (Value.int .i64))), (Ka, Ka + 1, fun V : World => V.heap[Ka]? = some (Obj.cells #[.int .i64 C, .slice vaa LN vca] 45)), (Va.heap.size, w4.heap.size, fun V : World => V.ownsRow Va.heap.size 2 1 (.slice (some ⟨x0, 0, none⟩) s0.length s0.length) s0.length (s0.map (Value.int .i64))), (w4.heap.size, w5.heap.size, fun V : World => V.ownsRow w4.heap.size 2 1 (.slice (some ⟨x1, 0, none⟩) s1.length s1.length) s1.length (s1.map (Value.int .i64))), (w5.heap.size, Kg, fun V : World => V.ownsRow w5.heap.size 2 1 (.slice vag LN vcg) LN (L.map (Value.int .i64))), (Kg, Kg + 1, fun V : World => V.heap[Kg]? = some (Obj.cells #[.int .i64 C, .slice vag LN vcg] 45)), (w7.heap.size, w8.heap.size, fun V : World => V.ownsRow w7.heap.size 2 1 (.slice (some ⟨e0, 0, none⟩) s0.length s0.length) s0.length (s0.map (Value.int .i64)))] w9) := Z10.out.next hb
  clear Z10 hb
  go_wp2_with (fail)
  refine (toInt64S_any HL1.out (HR1.out.below Z11.out.bl)).mono ?_
  rintro e w10 ⟨e1, rfl, ho, hb⟩
  have Z12 : Hid (LS w [(w.heap.size, w1.heap.size, fun V : World => V.ownsRow w.heap.size 2 1 (.slice (some ⟨ga0, 0, none⟩) s0.length s0.length) s0.length (s0.map (Value.int .i64))), (w1.heap.size, w2.heap.size, fun V : World => V.ownsRow w1.heap.size 2 1 (.slice (some ⟨ga1, 0, none⟩) s1.length s1.length) s1.length (s1.map (Value.int .i64))), (w2.heap.size, Ka, fun V : World => V.ownsRow w2.heap.size 2 1 (.slice vaa LN vca) LN (L.map (Value.int .i64))), (Ka, Ka + 1, fun V : World => V.heap[Ka]? = some (Obj.cells #[.int .i64 C, .slice vaa LN vca] 45)), (Va.heap.size, w4.heap.size, fun V : World => V.ownsRow Va.heap.size 2 1 (.slice (some ⟨x0, 0, none⟩) s0.length s0.length) s0.length (s0.map (Value.int .i64))), (w4.heap.size, w5.heap.size, fun V : World => V.ownsRow w4.heap.size 2 1 (.slice (some ⟨x1, 0, none⟩) s1.length s1.length) s1.length (s1.map (Value.int .i64))), (w5.heap.size, Kg, fun V : World => V.ownsRow w5.heap.size 2 1 (.slice vag LN vcg) LN (L.map (Value.int .i64))), (Kg, Kg + 1, fun V : World => V.heap[Kg]? = some (Obj.cells #[.int .i64 C, .slice vag LN vcg] 45)), (w7.heap.size, w8.heap.size, fun V : World => V.ownsRow w7.heap.size 2 1 (.slice (some ⟨e0, 0, none⟩) s0.length s0.length) s0.length (s0.map (Value.int .i64))), (w9.heap.size, w10.heap.size, fun V : World => V.ownsRow w9.heap.size 2 1 (.slice (some ⟨e1, 0, none⟩) s1.length s1.length) s1.length (s1.map (Value.int .i64)))] w10) := Z11.out.push hb (Ow.rowAll ho hb) (Nat.le_refl _)
  clear Z11 hb ho
  go_wp2_with (fail)
  refine (eqInt64S_same (by have := HL1.out; omega) (IS.rg (B := w4.heap.size) (show w10.ownsRow w4.heap.size 2 1 (.slice (some ⟨x1, 0, none⟩) s1.length s1.length) s1.length (s1.map (Value.int .i64)) from Z12.out.get 5 rfl)) (IS.rg (B := w9.heap.size) (show w10.ownsRow w9.heap.size 2 1 (.slice (some ⟨e1, 0, none⟩) s1.length s1.length) s1.length (s1.map (Value.int .i64)) from Z12.out.get 9 rfl))).mono ?_
  rintro e w11 ⟨rfl, hb⟩
  have Z13 : Hid (LS w [(w.heap.size, w1.heap.size, fun V : World => V.ownsRow w.heap.size 2 1 (.slice (some ⟨ga0, 0, none⟩) s0.length s0.length) s0.length (s0.map (Value.int .i64))), (w1.heap.size, w2.heap.size, fun V : World => V.ownsRow w1.heap.size 2 1 (.slice (some ⟨ga1, 0, none⟩) s1.length s1.length) s1.length (s1.map (Value.int .i64))), (w2.heap.size, Ka, fun V : World => V.ownsRow w2.heap.size 2 1 (.slice vaa LN vca) LN (L.map (Value.int .i64))), (Ka, Ka + 1, fun V : World => V.heap[Ka]? = some (Obj.cells #[.int .i64 C, .slice vaa LN vca] 45)), (Va.heap.size, w4.heap.size, fun V : World => V.ownsRow Va.heap.size 2 1 (.slice (some ⟨x0, 0, none⟩) s0.length s0.length) s0.length (s0.map (Value.int .i64))), (w4.heap.size, w5.heap.size, fun V : World => V.ownsRow w4.heap.size 2 1 (.slice (some ⟨x1, 0, none⟩) s1.length s1.length) s1.length (s1.map (Value.int .i64))), (w5.heap.size, Kg, fun V : World => V.ownsRow w5.heap.size 2 1 (.slice vag LN vcg) LN (L.map (Value.int .i64))), (Kg, Kg + 1, fun V : World => V.heap[Kg]? = some (Obj.cells #[.int .i64 C, .slice vag LN vcg] 45)), (w7.heap.size, w8.heap.size, fun V : World => V.ownsRow w7.heap.size 2 1 (.slice (some ⟨e0, 0, none⟩) s0.length s0.length) s0.length (s0.map (Value.int .i64))), (w9.heap.size, w10.heap.size, fun V : World => V.ownsRow w9.heap.size 2 1 (.slice (some ⟨e1, 0, none⟩) s1.length s1.length) s1.length (s1.map (Value.int .i64)))] w11) := Z12.out.next hb
  clear Z12 hb
  go_wp2_with (fail)
  refine (markInt64S_to 1 HL0.out (by omega) (by omega) (show w11.ownsRow Va.heap.size 2 1 (.slice (some ⟨x0, 0, none⟩) s0.length s0.length) s0.length (s0.map (Value.int .i64)) from Z13.out.get 4 rfl) (HX0.out)).mono ?_
  rintro e w12 ⟨rfl, hm, hc⟩
  have Z14 : Hid (LS w [(w.heap.size, w1.heap.size, fun V : World => V.ownsRow w.heap.size 2 1 (.slice (some ⟨ga0, 0, none⟩) s0.length s0.length) s0.length (s0.map (Value.int .i64))), (w1.heap.size, w2.heap.size, fun V : World => V.ownsRow w1.heap.size 2 1 (.slice (some ⟨ga1, 0, none⟩) s1.length s1.length) s1.length (s1.map (Value.int .i64))), (w2.heap.size, Ka, fun V : World => V.ownsRow w2.heap.size 2 1 (.slice vaa LN vca) LN (L.map (Value.int .i64))), (Ka, Ka + 1, fun V : World => V.heap[Ka]? = some (Obj.cells #[.int .i64 C, .slice vaa LN vca] 45)), (Va.heap.size, w4.heap.size, fun V : World => True), (w4.heap.size, w5.heap.size, fun V : World => V.ownsRow w4.heap.size 2 1 (.slice (some ⟨x1, 0, none⟩) s1.length s1.length) s1.length (s1.map (Value.int .i64))), (w5.heap.size, Kg, fun V : World => V.ownsRow w5.heap.size 2 1 (.slice vag LN vcg) LN (L.map (Value.int .i64))), (Kg, Kg + 1, fun V : World => V.heap[Kg]? = some (Obj.cells #[.int .i64 C, .slice vag LN vcg] 45)), (w7.heap.size, w8.heap.size, fun V : World => V.ownsRow w7.heap.size 2 1 (.slice (some ⟨e0, 0, none⟩) s0.length s0.length) s0.length (s0.map (Value.int .i64))), (w9.heap.size, w10.heap.size, fun V : World => V.ownsRow w9.heap.size 2 1 (.slice (some ⟨e1, 0, none⟩) s1.length s1.length) s1.length (s1.map (Value.int .i64)))] w12) := Z13.out.put 4 rfl hc ((Z13.out.own 4 rfl).true hc.size)
  clear Z13 hm hc
  obtain ⟨N0, hN⟩ : ∃ N, N = 1 + (s0.length : Int) := ⟨_, rfl⟩
  rw [← hN]
  have hN0 : 0 ≤ N0 ∧ N0 ≤ 10000000 ∧ ¬ N0 < 0 := by have := HL0.out; omega
  have hN0a := hN0.2.2
  clear hN
  go_wp2_with (fail)
  refine (markInt64S_to N0 HL1.out hN0.1 (by omega) (show w12.ownsRow w4.heap.size 2 1 (.slice (some ⟨x1, 0, none⟩) s1.length s1.length) s1.length (s1.map (Value.int .i64)) from Z14.out.get 5 rfl) (HX1.out)).mono ?_
  rintro e w13 ⟨rfl, hm, hc⟩
  have Z15 : Hid (LS w [(w.heap.size, w1.heap.size, fun V : World => V.ownsRow w.heap.size 2 1 (.slice (some ⟨ga0, 0, none⟩) s0.length s0.length) s0.length (s0.map (Value.int .i64))), (w1.heap.size, w2.heap.size, fun V : World => V.ownsRow w1.heap.size 2 1 (.slice (some ⟨ga1, 0, none⟩) s1.length s1.length) s1.length (s1.map (Value.int .i64))), (w2.heap.size, Ka, fun V : World => V.ownsRow w2.heap.size 2 1 (.slice vaa LN vca) LN (L.map (Value.int .i64))), (Ka, Ka + 1, fun V : World => V.heap[Ka]? = some (Obj.cells #[.int .i64 C, .slice vaa LN vca] 45)), (Va.heap.size, w4.heap.size, fun V : World => True), (w4.heap.size, w5.heap.size, fun V : World => True), (w5.heap.size, Kg, fun V : World => V.ownsRow w5.heap.size 2 1 (.slice vag LN vcg) LN (L.map (Value.int .i64))), (Kg, Kg + 1, fun V : World => V.heap[Kg]? = some (Obj.cells #[.int .i64 C, .slice vag LN vcg] 45)), (w7.heap.size, w8.heap.size, fun V : World => V.ownsRow w7.heap.size 2 1 (.slice (some ⟨e0, 0, none⟩) s0.length s0.length) s0.length (s0.map (Value.int .i64))), (w9.heap.size, w10.heap.size, fun V : World => V.ownsRow w9.heap.size 2 1 (.slice (some ⟨e1, 0, none⟩) s1.length s1.length) s1.length (s1.map (Value.int .i64)))] w13) := Z14.out.put 5 rfl hc ((Z14.out.own 5 rfl).true hc.size)
  clear Z14 hm hc
  obtain ⟨N1, hN⟩ : ∃ N, N = N0 + (s1.length : Int) := ⟨_, rfl⟩
  rw [← hN]
  have hN1 : 0 ≤ N1 ∧ N1 ≤ 20000000 ∧ ¬ N1 < 0 := by have := HL1.out; omega
  have hN1a := hN1.2.2
  clear hN
  have kvg := Z15.out.get 7 rfl
  have cvg_0 : w13.cell? ⟨Kg, 0, none⟩ = some (.int .i64 C) := cellOf kvg 0 rfl
  have cvg_1 : w13.cell? ⟨Kg, 1, none⟩ = some (.slice vag LN vcg) := cellOf kvg 1 rfl
  have lvg : Kg < w13.heap.size := ltOf kvg
  clear kvg
  have kva := Z15.out.get 3 rfl
  have cva_0 : w13.cell? ⟨Ka, 0, none⟩ = some (.int .i64 C) := cellOf kva 0 rfl
  have cva_1 : w13.cell? ⟨Ka, 1, none⟩ = some (.slice vaa LN vca) := cellOf kva 1 rfl
  have lva : Ka < w13.heap.size := ltOf kva
  clear kva
  go_wp2_with (fail)
  clear cvg_0 cvg_1 lvg cva_0 cva_1 lva
  refine (eqIntsResult_to C (by have := HLN.out; omega) (IS.rg (B := w5.heap.size) (by have h : w13.ownsRow w5.heap.size 2 1 (.slice vag LN vcg) LN (L.map (Value.int .i64)) := (Z15.out.get 6 rfl); rw [HLN.out.1] at h ⊢; exact h : w13.ownsRow w5.heap.size 2 1 (.slice vag LN vcg) L.length (L.map (Value.int .i64)))) (IS.rg (B := w2.heap.size) (by have h : w13.ownsRow w2.heap.size 2 1 (.slice vaa LN vca) LN (L.map (Value.int .i64)) := (Z15.out.get 2 rfl); rw [HLN.out.1] at h ⊢; exact h : w13.ownsRow w2.heap.size 2 1 (.slice vaa LN vca) L.length (L.map (Value.int .i64))))).mono ?_
  rintro e w14 ⟨rfl, hb⟩
  have Z16 : Hid (LS w [(w.heap.size, w1.heap.size, fun V : World => V.ownsRow w.heap.size 2 1 (.slice (some ⟨ga0, 0, none⟩) s0.length s0.length) s0.length (s0.map (Value.int .i64))), (w1.heap.size, w2.heap.size, fun V : World => V.ownsRow w1.heap.size 2 1 (.slice (some ⟨ga1, 0, none⟩) s1.length s1.length) s1.length (s1.map (Value.int .i64))), (w2.heap.size, Ka, fun V : World => V.ownsRow w2.heap.size 2 1 (.slice vaa LN vca) LN (L.map (Value.int .i64))), (Ka, Ka + 1, fun V : World => V.heap[Ka]? = some (Obj.cells #[.int .i64 C, .slice vaa LN vca] 45)), (Va.heap.size, w4.heap.size, fun V : World => True), (w4.heap.size, w5.heap.size, fun V : World => True), (w5.heap.size, Kg, fun V : World => V.ownsRow w5.heap.size 2 1 (.slice vag LN vcg) LN (L.map (Value.int .i64))), (Kg, Kg + 1, fun V : World => V.heap[Kg]? = some (Obj.cells #[.int .i64 C, .slice vag LN vcg] 45)), (w7.heap.size, w8.heap.size, fun V : World => V.ownsRow w7.heap.size 2 1 (.slice (some ⟨e0, 0, none⟩) s0.length s0.length) s0.length (s0.map (Value.int .i64))), (w9.heap.size, w10.heap.size, fun V : World => V.ownsRow w9.heap.size 2 1 (.slice (some ⟨e1, 0, none⟩) s1.length s1.length) s1.length (s1.map (Value.int .i64)))] w14) := Z15.out.next hb
  clear Z15 hb
  have kvg := Z16.out.get 7 rfl
  have cvg_0 : w14.cell? ⟨Kg, 0, none⟩ = some (.int .i64 C) := cellOf kvg 0 rfl
  have cvg_1 : w14.cell? ⟨Kg, 1, none⟩ = some (.slice vag LN vcg) := cellOf kvg 1 rfl
  have lvg : Kg < w14.heap.size := ltOf kvg
  clear kvg
  go_wp2_with (fail)
  clear cvg_0 cvg_1 lvg
  refine (markIntsResult_to C 1 (by have := HLN.out; omega) (by omega) (by omega) (show w14.ownsRow w5.heap.size 2 1 (.slice vag LN vcg) LN (L.map (Value.int .i64)) from (Z16.out.get 6 rfl)) HXg.out).mono ?_
  rintro e w15 ⟨rfl, hm, hc⟩
  have Z17 : Hid (LS w [(w.heap.size, w1.heap.size, fun V : World => V.ownsRow w.heap.size 2 1 (.slice (some ⟨ga0, 0, none⟩) s0.length s0.length) s0.length (s0.map (Value.int .i64))), (w1.heap.size, w2.heap.size, fun V : World => V.ownsRow w1.heap.size 2 1 (.slice (some ⟨ga1, 0, none⟩) s1.length s1.length) s1.length (s1.map (Value.int .i64))), (w2.heap.size, Ka, fun V : World => V.ownsRow w2.heap.size 2 1 (.slice vaa LN vca) LN (L.map (Value.int .i64))), (Ka, Ka + 1, fun V : World => V.heap[Ka]? = some (Obj.cells #[.int .i64 C, .slice vaa LN vca] 45)), (Va.heap.size, w4.heap.size, fun V : World => True), (w4.heap.size, w5.heap.size, fun V : World => True), (w5.heap.size, Kg, fun V : World => V.ownsRow w5.heap.size 2 1 (.slice vag LN vcg) LN (mkV 1 (LN))), (Kg, Kg + 1, fun V : World => V.heap[Kg]? = some (Obj.cells #[.int .i64 C, .slice vag LN vcg] 45)), (w7.heap.size, w8.heap.size, fun V : World => V.ownsRow w7.heap.size 2 1 (.slice (some ⟨e0, 0, none⟩) s0.length s0.length) s0.length (s0.map (Value.int .i64))), (w9.heap.size, w10.heap.size, fun V : World => V.ownsRow w9.heap.size 2 1 (.slice (some ⟨e1, 0, none⟩) s1.length s1.length) s1.length (s1.map (Value.int .i64)))] w15) := Z16.out.put 6 rfl hc (Ow.row hm (Z16.out.own 6 rfl).le.1 (Nat.le_trans (Z16.out.own 6 rfl).le.2 hc.size) HXg.out)
  clear Z16 hm hc
  obtain ⟨TT, hTT⟩ : ∃ TT, TT = 1 + (LN : Int) := ⟨_, rfl⟩
  have hT0 : ¬ TT < 0 := by omega
  have HTT : Hid (TT = 1 + (LN : Int)) := hTT
  rw [← hTT]
  clear hTT
  have kvg := Z17.out.get 7 rfl
  have cvg_0 : w15.cell? ⟨Kg, 0, none⟩ = some (.int .i64 C) := cellOf kvg 0 rfl
  have cvg_1 : w15.cell? ⟨Kg, 1, none⟩ = some (.slice vag LN vcg) := cellOf kvg 1 rfl
  have lvg : Kg < w15.heap.size := ltOf kvg
  clear kvg
  go_wp2_with (fail)
  clear cvg_0 cvg_1 lvg
  refine (heldIntsResult_to C 1 (by have := HLN.out; omega) (by omega) (by omega) (show w15.ownsRow w5.heap.size 2 1 (.slice vag LN vcg) LN (mkV 1 (LN)) from Z17.out.get 6 rfl)).mono ?_
  rintro e w16 ⟨rfl, hb⟩
  have Z18 : Hid (LS w [(w.heap.size, w1.heap.size, fun V : World => V.ownsRow w.heap.size 2 1 (.slice (some ⟨ga0, 0, none⟩) s0.length s0.length) s0.length (s0.map (Value.int .i64))), (w1.heap.size, w2.heap.size, fun V : World => V.ownsRow w1.heap.size 2 1 (.slice (some ⟨ga1, 0, none⟩) s1.length s1.length) s1.length (s1.map (Value.int .i64))), (w2.heap.size, Ka, fun V : World => V.ownsRow w2.heap.size 2 1 (.slice vaa LN vca) LN (L.map (Value.int .i64))), (Ka, Ka + 1, fun V : World => V.heap[Ka]? = some (Obj.cells #[.int .i64 C, .slice vaa LN vca] 45)), (Va.heap.size, w4.heap.size, fun V : World => True), (w4.heap.size, w5.heap.size, fun V : World => True), (w5.heap.size, Kg, fun V : World => V.ownsRow w5.heap.size 2 1 (.slice vag LN vcg) LN (mkV 1 (LN))), (Kg, Kg + 1, fun V : World => V.heap[Kg]? = some (Obj.cells #[.int .i64 C, .slice vag LN vcg] 45)), (w7.heap.size, w8.heap.size, fun V : World => V.ownsRow w7.heap.size 2 1 (.slice (some ⟨e0, 0, none⟩) s0.length s0.length) s0.length (s0.map (Value.int .i64))), (w9.heap.size, w10.heap.size, fun V : World => V.ownsRow w9.heap.size 2 1 (.slice (some ⟨e1, 0, none⟩) s1.length s1.length) s1.length (s1.map (Value.int .i64)))] w16) := Z17.out.next hb
  clear Z17 hb
  rw [← HTT.out]
  go_wp2_with (fail)
  refine (toInt64S_any HL0.out (HR0.out.below Z18.out.bl)).mono ?_
  rintro e w17 ⟨gh0, rfl, ho, hb⟩
  have Z19 : Hid (LS w [(w.heap.size, w1.heap.size, fun V : World => V.ownsRow w.heap.size 2 1 (.slice (some ⟨ga0, 0, none⟩) s0.length s0.length) s0.length (s0.map (Value.int .i64))), (w1.heap.size, w2.heap.size, fun V : World => V.ownsRow w1.heap.size 2 1 (.slice (some ⟨ga1, 0, none⟩) s1.length s1.length) s1.length (s1.map (Value.int .i64))), (w2.heap.size, Ka, fun V : World => V.ownsRow w2.heap.size 2 1 (.slice vaa LN vca) LN (L.map (Value.int .i64))), (Ka, Ka + 1, fun V : World => V.heap[Ka]? = some (Obj.cells #[.int .i64 C, .slice vaa LN vca] 45)), (Va.heap.size, w4.heap.size, fun V : World => True), (w4.heap.size, w5.heap.size, fun V : World => True), (w5.heap.size, Kg, fun V : World => V.ownsRow w5.heap.size 2 1 (.slice vag LN vcg) LN (mkV 1 (LN))), (Kg, Kg + 1, fun V : World => V.heap[Kg]? = some (Obj.cells #[.int .i64 C, .slice vag LN vcg] 45)), (w7.heap.size, w8.heap.size, fun V : World => V.ownsRow w7.heap.size 2 1 (.slice (some ⟨e0, 0, none⟩) s0.length s0.length) s0.length (s0.map (Value.int .i64))), (w9.heap.size, w10.heap.size, fun V : World => V.ownsRow w9.heap.size 2 1 (.slice (some ⟨e1, 0, none⟩) s1.length s1.length) s1.length (s1.map (Value.int .i64))), (w16.heap.size, w17.heap.size, fun V : World => V.ownsRow w16.heap.size 2 1 (.slice (some ⟨gh0, 0, none⟩) s0.length s0.length) s0.length (s0.map (Value.int .i64)))] w17) := Z18.out.push hb (Ow.rowAll ho hb) (Nat.le_refl _)
  clear Z18 hb ho
  go_wp2_with (fail)
  refine (toInt64S_any HL1.out (HR1.out.below Z19.out.bl)).mono ?_
  rintro e w18 ⟨gh1, rfl, ho, hb⟩
  have Z20 : Hid (LS w [(w.heap.size, w1.heap.size, fun V : World => V.ownsRow w.heap.size 2 1 (.slice (some ⟨ga0, 0, none⟩) s0.length s0.length) s0.length (s0.map (Value.int .i64))), (w1.heap.size, w2.heap.size, fun V : World => V.ownsRow w1.heap.size 2 1 (.slice (some ⟨ga1, 0, none⟩) s1.length s1.length) s1.length (s1.map (Value.int .i64))), (w2.heap.size, Ka, fun V : World => V.ownsRow w2.heap.size 2 1 (.slice vaa LN vca) LN (L.map (Value.int .i64))), (Ka, Ka + 1, fun V : World => V.heap[Ka]? = some (Obj.cells #[.int .i64 C, .slice vaa LN vca] 45)), (Va.heap.size, w4.heap.size, fun V : World => True), (w4.heap.size, w5.heap.size, fun V : World => True), (w5.heap.size, Kg, fun V : World => V.ownsRow w5.heap.size 2 1 (.slice vag LN vcg) LN (mkV 1 (LN))), (Kg, Kg + 1, fun V : World => V.heap[Kg]? = some (Obj.cells #[.int .i64 C, .slice vag LN vcg] 45)), (w7.heap.size, w8.heap.size, fun V : World => V.ownsRow w7.heap.size 2 1 (.slice (some ⟨e0, 0, none⟩) s0.length s0.length) s0.length (s0.map (Value.int .i64))), (w9.heap.size, w10.heap.size, fun V : World => V.ownsRow w9.heap.size 2 1 (.slice (some ⟨e1, 0, none⟩) s1.length s1.length) s1.length (s1.map (Value.int .i64))), (w16.heap.size, w17.heap.size, fun V : World => V.ownsRow w16.heap.size 2 1 (.slice (some ⟨gh0, 0, none⟩) s0.length s0.length) s0.length (s0.map (Value.int .i64))), (w17.heap.size, w18.heap.size, fun V : World => V.ownsRow w17.heap.size 2 1 (.slice (some ⟨gh1, 0, none⟩) s1.length s1.length) s1.length (s1.map (Value.int .i64)))] w18) := Z19.out.push hb (Ow.rowAll ho hb) (Nat.le_refl _)
  clear Z19 hb ho
  go_wp2_with (fail)
  refine (HIM.out w18 gh0 gh1 (IS.rg (B := w16.heap.size) (show w18.ownsRow w16.heap.size 2 1 (.slice (some ⟨gh0, 0, none⟩) s0.length s0.length) s0.length (s0.map (Value.int .i64)) from Z20.out.get 10 rfl)) (IS.rg (B := w17.heap.size) (show w18.ownsRow w17.heap.size 2 1 (.slice (some ⟨gh1, 0, none⟩) s1.length s1.length) s1.length (s1.map (Value.int .i64)) from Z20.out.get 11 rfl))).mono ?_
  rintro e w19 ⟨vq, rfl, hrq, hb⟩
  obtain ⟨vah, vch, rfl⟩ : ∃ a c, vq = .slice a LN c := by
    rcases hrq.2 with ⟨rfl, h0⟩ | ⟨g, cap, cur, rfl, _⟩
    · exact ⟨_, _, by rw [h0]⟩
    · exact ⟨_, _, rfl⟩
  have Z21 : Hid (LS w [(w.heap.size, w1.heap.size, fun V : World => V.ownsRow w.heap.size 2 1 (.slice (some ⟨ga0, 0, none⟩) s0.length s0.length) s0.length (s0.map (Value.int .i64))), (w1.heap.size, w2.heap.size, fun V : World => V.ownsRow w1.heap.size 2 1 (.slice (some ⟨ga1, 0, none⟩) s1.length s1.length) s1.length (s1.map (Value.int .i64))), (w2.heap.size, Ka, fun V : World => V.ownsRow w2.heap.size 2 1 (.slice vaa LN vca) LN (L.map (Value.int .i64))), (Ka, Ka + 1, fun V : World => V.heap[Ka]? = some (Obj.cells #[.int .i64 C, .slice vaa LN vca] 45)), (Va.heap.size, w4.heap.size, fun V : World => True), (w4.heap.size, w5.heap.size, fun V : World => True), (w5.heap.size, Kg, fun V : World => V.ownsRow w5.heap.size 2 1 (.slice vag LN vcg) LN (mkV 1 (LN))), (Kg, Kg + 1, fun V : World => V.heap[Kg]? = some (Obj.cells #[.int .i64 C, .slice vag LN vcg] 45)), (w7.heap.size, w8.heap.size, fun V : World => V.ownsRow w7.heap.size 2 1 (.slice (some ⟨e0, 0, none⟩) s0.length s0.length) s0.length (s0.map (Value.int .i64))), (w9.heap.size, w10.heap.size, fun V : World => V.ownsRow w9.heap.size 2 1 (.slice (some ⟨e1, 0, none⟩) s1.length s1.length) s1.length (s1.map (Value.int .i64))), (w16.heap.size, w17.heap.size, fun V : World => V.ownsRow w16.heap.size 2 1 (.slice (some ⟨gh0, 0, none⟩) s0.length s0.length) s0.length (s0.map (Value.int .i64))), (w17.heap.size, w18.heap.size, fun V : World => V.ownsRow w17.heap.size 2 1 (.slice (some ⟨gh1, 0, none⟩) s1.length s1.length) s1.length (s1.map (Value.int .i64))), (w18.heap.size, w19.heap.size, fun V : World => V.ownsRow w18.heap.size 2 1 (.slice vah LN vch) LN (L.map (Value.int .i64)))] w19) := Z20.out.push hb (Ow.rowAll hrq hb) (Nat.le_refl _)
  clear Z20 hb hrq
  have kva := Z21.out.get 3 rfl
  have cva_0 : w19.cell? ⟨Ka, 0, none⟩ = some (.int .i64 C) := cellOf kva 0 rfl
  have cva_1 : w19.cell? ⟨Ka, 1, none⟩ = some (.slice vaa LN vca) := cellOf kva 1 rfl
  have lva : Ka < w19.heap.size := ltOf kva
  clear kva
  have Z22 : Hid (LS w [(w.heap.size, w1.heap.size, fun V : World => V.ownsRow w.heap.size 2 1 (.slice (some ⟨ga0, 0, none⟩) s0.length s0.length) s0.length (s0.map (Value.int .i64))), (w1.heap.size, w2.heap.size, fun V : World => V.ownsRow w1.heap.size 2 1 (.slice (some ⟨ga1, 0, none⟩) s1.length s1.length) s1.length (s1.map (Value.int .i64))), (w2.heap.size, Ka, fun V : World => V.ownsRow w2.heap.size 2 1 (.slice vaa LN vca) LN (L.map (Value.int .i64))), (Ka, Ka + 1, fun V : World => V.heap[Ka]? = some (Obj.cells #[.int .i64 C, .slice vaa LN vca] 45)), (Va.heap.size, w4.heap.size, fun V : World => True), (w4.heap.size, w5.heap.size, fun V : World => True), (w5.heap.size, Kg, fun V : World => V.ownsRow w5.heap.size 2 1 (.slice vag LN vcg) LN (mkV 1 (LN))), (Kg, Kg + 1, fun V : World => V.heap[Kg]? = some (Obj.cells #[.int .i64 C, .slice vag LN vcg] 45)), (w7.heap.size, w8.heap.size, fun V : World => V.ownsRow w7.heap.size 2 1 (.slice (some ⟨e0, 0, none⟩) s0.length s0.length) s0.length (s0.map (Value.int .i64))), (w9.heap.size, w10.heap.size, fun V : World => V.ownsRow w9.heap.size 2 1 (.slice (some ⟨e1, 0, none⟩) s1.length s1.length) s1.length (s1.map (Value.int .i64))), (w16.heap.size, w17.heap.size, fun V : World => V.ownsRow w16.heap.size 2 1 (.slice (some ⟨gh0, 0, none⟩) s0.length s0.length) s0.length (s0.map (Value.int .i64))), (w17.heap.size, w18.heap.size, fun V : World => V.ownsRow w17.heap.size 2 1 (.slice (some ⟨gh1, 0, none⟩) s1.length s1.length) s1.length (s1.map (Value.int .i64))), (w18.heap.size, w19.heap.size, fun V : World => V.ownsRow w18.heap.size 2 1 (.slice vah LN vch) LN (L.map (Value.int .i64))), (w19.heap.size, w19.heap.size + 1, fun V : World => V.heap[w19.heap.size]? = some (Obj.cells #[.int .i64 C, .slice vah LN vch] 45))] (w19.alloc (Obj.cells #[.int .i64 C, .slice vah LN vch] 45))) := Z21.out.push (by (repeat' (first | (with_reducible exact Below.refl _ _) | (with_reducible assumption) | (with_reducible refine Below.setCell ?_ ?_ _) | (with_reducible refine Below.alloc ?_ ?_ _) | (with_reducible refine below_drewN ?_ _) | (with_reducible refine Below.drew ?_) | (with_reducible exact Nat.le_refl _) | omega | (simp; done) | (simp; omega)))) (Ow.block (heap_alloc_new _ _)) (Nat.le_refl _)
  clear Z21
  go_wp2_with (fail)
  obtain ⟨Vh, hV⟩ : ∃ V, V = w19.alloc (Obj.cells #[.int .i64 C, .slice vah LN vch] 45) := ⟨_, rfl⟩
  rw [← hV] at Z22 ⊢
  obtain ⟨Kh, hK⟩ : ∃ K, K = w19.heap.size := ⟨_, rfl⟩
  rw [← hK] at Z22  ⊢
  clear hV hK
  clear cva_0 cva_1 lva
  refine (eqIntsResult_to C (by have := HLN.out; omega) (IS.rg (B := w18.heap.size) (by have h : Vh.ownsRow w18.heap.size 2 1 (.slice vah LN vch) LN (L.map (Value.int .i64)) := (Z22.out.get 12 rfl); rw [HLN.out.1] at h ⊢; exact h : Vh.ownsRow w18.heap.size 2 1 (.slice vah LN vch) L.length (L.map (Value.int .i64)))) (IS.rg (B := w2.heap.size) (by have h : Vh.ownsRow w2.heap.size 2 1 (.slice vaa LN vca) LN (L.map (Value.int .i64)) := (Z22.out.get 2 rfl); rw [HLN.out.1] at h ⊢; exact h : Vh.ownsRow w2.heap.size 2 1 (.slice vaa LN vca) L.length (L.map (Value.int .i64))))).mono ?_
  rintro e w20 ⟨rfl, hb⟩
  have Z23 : Hid (LS w [(w.heap.size, w1.heap.size, fun V : World => V.ownsRow w.heap.size 2 1 (.slice (some ⟨ga0, 0, none⟩) s0.length s0.length) s0.length (s0.map (Value.int .i64))), (w1.heap.size, w2.heap.size, fun V : World => V.ownsRow w1.heap.size 2 1 (.slice (some ⟨ga1, 0, none⟩) s1.length s1.length) s1.length (s1.map (Value.int .i64))), (w2.heap.size, Ka, fun V : World => V.ownsRow w2.heap.size 2 1 (.slice vaa LN vca) LN (L.map (Value.int .i64))), (Ka, Ka + 1, fun V : World => V.heap[Ka]? = some (Obj.cells #[.int .i64 C, .slice vaa LN vca] 45)), (Va.heap.size, w4.heap.size, fun V : World => True), (w4.heap.size, w5.heap.size, fun V : World => True), (w5.heap.size, Kg, fun V : World => V.ownsRow w5.heap.size 2 1 (.slice vag LN vcg) LN (mkV 1 (LN))), (Kg, Kg + 1, fun V : World => V.heap[Kg]? = some (Obj.cells #[.int .i64 C, .slice vag LN vcg] 45)), (w7.heap.size, w8.heap.size, fun V : World => V.ownsRow w7.heap.size 2 1 (.slice (some ⟨e0, 0, none⟩) s0.length s0.length) s0.length (s0.map (Value.int .i64))), (w9.heap.size, w10.heap.size, fun V : World => V.ownsRow w9.heap.size 2 1 (.slice (some ⟨e1, 0, none⟩) s1.length s1.length) s1.length (s1.map (Value.int .i64))), (w16.heap.size, w17.heap.size, fun V : World => V.ownsRow w16.heap.size 2 1 (.slice (some ⟨gh0, 0, none⟩) s0.length s0.length) s0.length (s0.map (Value.int .i64))), (w17.heap.size, w18.heap.size, fun V : World => V.ownsRow w17.heap.size 2 1 (.slice (some ⟨gh1, 0, none⟩) s1.length s1.length) s1.length (s1.map (Value.int .i64))), (w18.heap.size, Kh, fun V : World => V.ownsRow w18.heap.size 2 1 (.slice vah LN vch) LN (L.map (Value.int .i64))), (Kh, Kh + 1, fun V : World => V.heap[Kh]? = some (Obj.cells #[.int .i64 C, .slice vah LN vch] 45))] w20) := Z22.out.next hb
  clear Z22 hb
  have kvg := Z23.out.get 7 rfl
  have cvg_0 : w20.cell? ⟨Kg, 0, none⟩ = some (.int .i64 C) := cellOf kvg 0 rfl
  have cvg_1 : w20.cell? ⟨Kg, 1, none⟩ = some (.slice vag LN vcg) := cellOf kvg 1 rfl
  have lvg : Kg < w20.heap.size := ltOf kvg
  clear kvg
  go_wp2_with (fail)
  clear cvg_0 cvg_1 lvg
  refine (heldIntsResult_to C 1 (by have := HLN.out; omega) (by omega) (by omega) (show w20.ownsRow w5.heap.size 2 1 (.slice vag LN vcg) LN (mkV 1 (LN)) from Z23.out.get 6 rfl)).mono ?_
  rintro e w21 ⟨rfl, hb⟩
  have Z24 : Hid (LS w [(w.heap.size, w1.heap.size, fun V : World => V.ownsRow w.heap.size 2 1 (.slice (some ⟨ga0, 0, none⟩) s0.length s0.length) s0.length (s0.map (Value.int .i64))), (w1.heap.size, w2.heap.size, fun V : World => V.ownsRow w1.heap.size 2 1 (.slice (some ⟨ga1, 0, none⟩) s1.length s1.length) s1.length (s1.map (Value.int .i64))), (w2.heap.size, Ka, fun V : World => V.ownsRow w2.heap.size 2 1 (.slice vaa LN vca) LN (L.map (Value.int .i64))), (Ka, Ka + 1, fun V : World => V.heap[Ka]? = some (Obj.cells #[.int .i64 C, .slice vaa LN vca] 45)), (Va.heap.size, w4.heap.size, fun V : World => True), (w4.heap.size, w5.heap.size, fun V : World => True), (w5.heap.size, Kg, fun V : World => V.ownsRow w5.heap.size 2 1 (.slice vag LN vcg) LN (mkV 1 (LN))), (Kg, Kg + 1, fun V : World => V.heap[Kg]? = some (Obj.cells #[.int .i64 C, .slice vag LN vcg] 45)), (w7.heap.size, w8.heap.size, fun V : World => V.ownsRow w7.heap.size 2 1 (.slice (some ⟨e0, 0, none⟩) s0.length s0.length) s0.length (s0.map (Value.int .i64))), (w9.heap.size, w10.heap.size, fun V : World => V.ownsRow w9.heap.size 2 1 (.slice (some ⟨e1, 0, none⟩) s1.length s1.length) s1.length (s1.map (Value.int .i64))), (w16.heap.size, w17.heap.size, fun V : World => V.ownsRow w16.heap.size 2 1 (.slice (some ⟨gh0, 0, none⟩) s0.length s0.length) s0.length (s0.map (Value.int .i64))), (w17.heap.size, w18.heap.size, fun V : World => V.ownsRow w17.heap.size 2 1 (.slice (some ⟨gh1, 0, none⟩) s1.length s1.length) s1.length (s1.map (Value.int .i64))), (w18.heap.size, Kh, fun V : World => V.ownsRow w18.heap.size 2 1 (.slice vah LN vch) LN (L.map (Value.int .i64))), (Kh, Kh + 1, fun V : World => V.heap[Kh]? = some (Obj.cells #[.int .i64 C, .slice vah LN vch] 45))] w21) := Z23.out.next hb
  clear Z23 hb
  rw [← HTT.out]
  go_wp2
  go_returns
  exact ⟨rfl, Z24.out.bl⟩

set_option maxRecDepth 100000 in
theorem sg23_lifted (os : Os) (started : os.Started) (H : Type) (enc : TypeId × Value → H) :
    ReturnsInHanded {} Try.checked os 7 .any (Rows.fnExactSignatureOfSpec.pre6 enc Try.prog Try.f7 Rows.fnExactSignatureOfRow.domain false) (Rows.fnExactSignatureOfSpec.post enc Try.prog Try.f7 false true false false) := by
  refine returnsInHanded_of_change (C := Try.checked) own started (by kernel_rfl) Try.func7
    (ChangeSpec.witness6 (enc := enc) (C := Try.checked) false ⟨#[], #[.slice none 0 0, .slice none 0 0], []⟩ 8 (by kernel_rfl) (by kernel_rfl) (by kernel_rfl) (by kernel_rfl)) ?_
  intro W base args ds gs before hval0 hW hcnd _
  have hval : ∀ (j : Nat) t v, Try.f7.params[j]? = some t → args[j]? = some v → Value.okWide Try.prog W .any base t v := hval0
  have hW' := hW
  obtain ⟨p, q, hA0, hV, rfl, hfz, hnd⟩ := hW
  have hA : DataW.TrodAll enc Try.prog W 0 (fun _ => true) true Try.f7.params.toList args.toList ds p := hA0
  rw [Try.params7] at hA hval
  obtain ⟨v0, vs0, d0, ds0, p0, q0, hargs, rfl, rfl, h0, r0⟩ := trodAll_cons hA
  obtain ⟨v1, vs1, d1, ds1, p1, q1, rfl, rfl, rfl, h1, r1⟩ := trodAll_cons r0
  obtain ⟨rfl, rfl, rfl⟩ := trodAll_nil r1
  obtain rfl : args = #[v0, v1] := by cases args; simp_all
  obtain ⟨rfl, rfl⟩ := trodVars_none hV
  have k0 := h0
  have lt0 : ∀ x ∈ p0, x.block < W.heap.size := by obtain ⟨m, hm⟩ := k0; exact DataW.trod_lt m _ _ _ hm
  obtain ⟨sa0, sn0, sc0, s0, rfl, ri0, sl0⟩ := ints_open (hval 0 22 v0 rfl rfl) h0
  have k1 := h1
  have lt1 : ∀ x ∈ p1, x.block < W.heap.size := by obtain ⟨m, hm⟩ := k1; exact DataW.trod_lt m _ _ _ hm
  obtain ⟨sa1, sn1, sc1, s1, rfl, ri1, sl1⟩ := ints_open (hval 1 22 v1 rfl rfl) h1
  clear hA0 hval0
  refine (law_sg23 s0 sl0 ri0 s1 sl1 ri1).mono fun e W' ⟨he, hg⟩ => ?_
  subst he
  exact ⟨_, rfl, _, _, _, [], _, [], hW', trodAll_mk1 (shut_bool Try.underlying4 _), (trodAll_cons_mk (Below.trod laidOut (by kernel_rfl) (of_decide_eq_true (by kernel_rfl)) k0 hg lt0) (trodAll_cons_mk (Below.trod laidOut (by kernel_rfl) (of_decide_eq_true (by kernel_rfl)) k1 hg lt1) trodAll_mk0)), rfl, hg.frame _, fun h => by cases h⟩

theorem sg23_over : Rows.fnExactSignatureOfRow.holds Try.pinned (OpenSpec.ofChange Rows.fnExactSignatureOfSpec) :=
  OpenClaim.holds_of_wide 7 Try.f7 rfl rfl rfl rfl rfl rfl rfl ⟨rfl, rfl, rfl, rfl, rfl⟩ rfl rfl rfl rfl rfl (by kernel_rfl) Try.func7 (by kernel_rfl)
    (of_decide_eq_true (by kernel_rfl)) (by unfold Func.isWrapper; first | (rw [if_pos (by decide +kernel)]; kernel_rfl) | (rw [if_neg (by decide +kernel)]; exact ⟨rfl, rfl⟩))
    (fun os started H enc _ => sg23_lifted os started H enc)

theorem sg23_proved : Rows.FnExactSignatureOfSaid :=
  sg23_over
#print axioms sg23_proved

end Go.Proofs.Ytkdpifplhhcpaaa
