/- Proved here: 'the program's RunRule answers as the model's; it writes into no argument and keeps nothing of one; its answer owns its memory, behind another call too', without a condition. -/
import Derived.Test.YtjbghflphngnkaaRrJ
import Derived.Test.YtjbghflphngnkaaRrS
import Derived.Test.YtjbghflphngnkaaDjB
import Derived.Test.YtjbghflphngnkaaMkJb
import Derived.Test.YtjbghflphngnkaaMkOr
import Derived.Test.YtjbghflphngnkaaLwS
import Derived.Test.YtjbghflphngnkaaRows
namespace Go.Proofs.Ytjbghflphngnkaa
open Go.ChangeShapes Go.WideShapes Go.ChangeAt Go.RowKit Go.Joins
set_option linter.unusedVariables false
set_option linter.unusedSimpArgs false

theorem own : ownKnob Try.prog.godebug = none := by kernel_rfl
theorem laidOut : laidOutB Try.prog = true := by kernel_rfl

set_option maxRecDepth 10000 in
set_option maxHeartbeats 25600000 in
theorem law_rr22 {w : World}  {sa0 : Option Addr} {sn0 sc0 : Nat} (s0 : List Jb) (hm0 : s0.length ≤ maxLen) (hr0 : RG 7 jbC w (.slice sa0 sn0 sc0) s0) (n1 : Int) :
    Calls Try.prog 3 #[.slice sa0 sn0 sc0, .int .i64 n1] w fun e w' => e = .returned (.bool true) ∧ Below w.heap.size w w' := by
  have HM0 : Hid (sn0 ≤ maxLen) := by unfold Hid; rw [hr0.len]; exact hm0
  have HR0 : Hid (RG 7 jbC w (.slice sa0 sn0 sc0) s0) := hr0
  have HE0 : Hid (sn0 = s0.length) := hr0.len
  clear hm0 hr0
  have Z0 : Hid (LS w [] w) := LS.start w
  go_enter Try.func3, Try.ntmps3
  go_wp2_with (fail)
  refine (szJobS_gen sa0 sn0 sc0 1048576 _ (by omega) (by omega) HM0.out).mono ?_
  rintro e w1 ⟨r0, rfl, hq0, hb⟩
  have Z1 : Hid (LS w [] w1) := Z0.out.next hb
  clear Z0 hb
  rcases hq0 with hneg | ⟨u0, v0, tt0⟩
  · go_wp2
    go_returns
    exact ⟨rfl, Z1.out.bl⟩
  have hl0 : ¬ r0 < 0 := by omega
  have HL0 : Hid (s0.length ≤ 1048576) := by unfold Hid; rw [← HE0.out]; omega
  obtain ⟨C, hC⟩ : ∃ X, X = rrC s0 n1 := ⟨_, rfl⟩
  obtain ⟨L, hL⟩ : ∃ X, X = rrI s0 n1 := ⟨_, rfl⟩
  obtain ⟨Q, hQ⟩ : ∃ X, X = rrQ s0 n1 := ⟨_, rfl⟩
  have HLN : Hid (L.length ≤ 1048576) := by unfold Hid; rw [hL]; exact (by have := rrI_len (s := s0) (rule := n1); omega)
  have HSP : Hid (∀ (W : World) (g0 : Nat), (RG 7 jbC W (.slice (some ⟨g0, 0, none⟩) s0.length s0.length) s0) → Calls Try.prog 9 #[.slice (some ⟨g0, 0, none⟩) s0.length s0.length, .int .i64 n1] W fun e w' => ∃ (v : Value) (_ : Unit), e = .returned (.agg #[.int .i64 C, v, .int .i64 Q]) ∧ IS w' W.heap.size v L ∧ Below W.heap.size W w') := fun W g0 h0 => by
    rw [hQ, hL, hC]
    exact spec_rr n1 HL0.out (Nat.le_refl _) (fun h => by cases h) h0
  have HIM : Hid (∀ (W : World) (g0 : Nat), (RG 7 jbC W (.slice (some ⟨g0, 0, none⟩) s0.length s0.length) s0) → Calls Try.prog 11 #[.slice (some ⟨g0, 0, none⟩) s0.length s0.length, .int .i64 n1] W fun e w' => ∃ (v : Value) (_ : Unit), e = .returned (.agg #[.int .i64 C, v, .int .i64 Q]) ∧ IS w' W.heap.size v L ∧ Below W.heap.size W w') := fun W g0 h0 => by
    rw [hQ, hL, hC]
    exact impl_rr n1 HL0.out (Nat.le_refl _) (fun h => by cases h) h0
  clear hC hL hQ u0 v0 tt0
  go_wp2_with (fail)
  refine (toJobS_any HL0.out (HR0.out.below Z1.out.bl)).mono ?_
  rintro e w2 ⟨ga0, rfl, ho, hb⟩
  have Z2 : Hid (LS w [(w1.heap.size, w2.heap.size, fun V : World => V.ownsRow w1.heap.size 51 7 (.slice (some ⟨ga0, 0, none⟩) s0.length s0.length) s0.length (s0.flatMap jbC))] w2) := Z1.out.push hb (Ow.rowAll ho hb) (Nat.le_refl _)
  clear Z1 hb ho
  go_wp2_with (fail)
  refine (HSP.out w2 ga0 (OG.rg (T := 51) (B := w1.heap.size) jbC_len (show w2.ownsRow w1.heap.size 51 7 (.slice (some ⟨ga0, 0, none⟩) s0.length s0.length) s0.length (s0.flatMap jbC) from Z2.out.get 0 rfl))).mono ?_
  rintro e w3 ⟨vq, vr, rfl, hrq, hb⟩
  obtain ⟨vaa, vca, rfl⟩ := hrq.form
  have Z3 : Hid (LS w [(w1.heap.size, w2.heap.size, fun V : World => V.ownsRow w1.heap.size 51 7 (.slice (some ⟨ga0, 0, none⟩) s0.length s0.length) s0.length (s0.flatMap jbC)), (w2.heap.size, w3.heap.size, fun V : World => IS V w2.heap.size (.slice vaa L.length vca) L)] w3) := Z2.out.push hb (Ow.rowAll hrq hb) (Nat.le_refl _)
  clear Z2 hb hrq
  have Z4 : Hid (LS w [(w1.heap.size, w2.heap.size, fun V : World => V.ownsRow w1.heap.size 51 7 (.slice (some ⟨ga0, 0, none⟩) s0.length s0.length) s0.length (s0.flatMap jbC)), (w2.heap.size, w3.heap.size, fun V : World => IS V w2.heap.size (.slice vaa L.length vca) L), (w3.heap.size, w3.heap.size + 1, fun V : World => V.heap[w3.heap.size]? = some (Obj.cells #[.int .i64 C, .slice vaa L.length vca, .int .i64 Q] 26))] (w3.alloc (Obj.cells #[.int .i64 C, .slice vaa L.length vca, .int .i64 Q] 26))) := Z3.out.push (by (repeat' (first | (with_reducible exact Below.refl _ _) | (with_reducible assumption) | (with_reducible refine Below.setCell ?_ ?_ _) | (with_reducible refine Below.alloc ?_ ?_ _) | (with_reducible refine below_drewN ?_ _) | (with_reducible refine Below.drew ?_) | (with_reducible exact Nat.le_refl _) | omega | (simp; done) | (simp; omega)))) (Ow.block (heap_alloc_new _ _)) (Nat.le_refl _)
  clear Z3
  go_wp2_with (fail)
  obtain ⟨Va, hV⟩ : ∃ V, V = w3.alloc (Obj.cells #[.int .i64 C, .slice vaa L.length vca, .int .i64 Q] 26) := ⟨_, rfl⟩
  rw [← hV] at Z4 ⊢
  obtain ⟨Ka, hK⟩ : ∃ K, K = w3.heap.size := ⟨_, rfl⟩
  rw [← hK] at Z4  ⊢
  clear hV hK
  refine (toJobS_any HL0.out (HR0.out.below Z4.out.bl)).mono ?_
  rintro e w4 ⟨x0, rfl, ho, hb⟩
  have HX0 : Hid (∀ g, (.slice (some ⟨x0, 0, none⟩) s0.length s0.length : Value).ownBlock = some g → g < w4.heap.size) := fun g hg => (World.ownsRow.lt ho g hg).2
  have Z5 : Hid (LS w [(w1.heap.size, w2.heap.size, fun V : World => V.ownsRow w1.heap.size 51 7 (.slice (some ⟨ga0, 0, none⟩) s0.length s0.length) s0.length (s0.flatMap jbC)), (w2.heap.size, Ka, fun V : World => IS V w2.heap.size (.slice vaa L.length vca) L), (Ka, Ka + 1, fun V : World => V.heap[Ka]? = some (Obj.cells #[.int .i64 C, .slice vaa L.length vca, .int .i64 Q] 26)), (Va.heap.size, w4.heap.size, fun V : World => V.ownsRow Va.heap.size 51 7 (.slice (some ⟨x0, 0, none⟩) s0.length s0.length) s0.length (s0.flatMap jbC))] w4) := Z4.out.push hb (Ow.rowAll ho hb) (Nat.le_refl _)
  clear Z4 hb ho
  go_wp2_with (fail)
  refine (HIM.out w4 x0 (OG.rg (T := 51) (B := Va.heap.size) jbC_len (show w4.ownsRow Va.heap.size 51 7 (.slice (some ⟨x0, 0, none⟩) s0.length s0.length) s0.length (s0.flatMap jbC) from Z5.out.get 3 rfl))).mono ?_
  rintro e w5 ⟨vq, vr, rfl, hrq, hb⟩
  obtain ⟨vag, vcg, rfl⟩ := hrq.form
  have HXg : Hid (∀ g, (.slice vag L.length vcg : Value).ownBlock = some g → g < w5.heap.size) := fun g hg => (IS.lt hrq g hg).2
  have Z6 : Hid (LS w [(w1.heap.size, w2.heap.size, fun V : World => V.ownsRow w1.heap.size 51 7 (.slice (some ⟨ga0, 0, none⟩) s0.length s0.length) s0.length (s0.flatMap jbC)), (w2.heap.size, Ka, fun V : World => IS V w2.heap.size (.slice vaa L.length vca) L), (Ka, Ka + 1, fun V : World => V.heap[Ka]? = some (Obj.cells #[.int .i64 C, .slice vaa L.length vca, .int .i64 Q] 26)), (Va.heap.size, w4.heap.size, fun V : World => V.ownsRow Va.heap.size 51 7 (.slice (some ⟨x0, 0, none⟩) s0.length s0.length) s0.length (s0.flatMap jbC)), (w4.heap.size, w5.heap.size, fun V : World => IS V w4.heap.size (.slice vag L.length vcg) L)] w5) := Z5.out.push hb (Ow.rowAll hrq hb) (Nat.le_refl _)
  clear Z5 hb hrq
  have kva := Z6.out.get 2 rfl
  have cva_0 : w5.cell? ⟨Ka, 0, none⟩ = some (.int .i64 C) := cellOf kva 0 rfl
  have cva_1 : w5.cell? ⟨Ka, 1, none⟩ = some (.slice vaa L.length vca) := cellOf kva 1 rfl
  have cva_2 : w5.cell? ⟨Ka, 2, none⟩ = some (.int .i64 Q) := cellOf kva 2 rfl
  have lva : Ka < w5.heap.size := ltOf kva
  clear kva
  have Z7 : Hid (LS w [(w1.heap.size, w2.heap.size, fun V : World => V.ownsRow w1.heap.size 51 7 (.slice (some ⟨ga0, 0, none⟩) s0.length s0.length) s0.length (s0.flatMap jbC)), (w2.heap.size, Ka, fun V : World => IS V w2.heap.size (.slice vaa L.length vca) L), (Ka, Ka + 1, fun V : World => V.heap[Ka]? = some (Obj.cells #[.int .i64 C, .slice vaa L.length vca, .int .i64 Q] 26)), (Va.heap.size, w4.heap.size, fun V : World => V.ownsRow Va.heap.size 51 7 (.slice (some ⟨x0, 0, none⟩) s0.length s0.length) s0.length (s0.flatMap jbC)), (w4.heap.size, w5.heap.size, fun V : World => IS V w4.heap.size (.slice vag L.length vcg) L), (w5.heap.size, w5.heap.size + 1, fun V : World => V.heap[w5.heap.size]? = some (Obj.cells #[.int .i64 C, .slice vag L.length vcg, .int .i64 Q] 26))] (w5.alloc (Obj.cells #[.int .i64 C, .slice vag L.length vcg, .int .i64 Q] 26))) := Z6.out.push (by (repeat' (first | (with_reducible exact Below.refl _ _) | (with_reducible assumption) | (with_reducible refine Below.setCell ?_ ?_ _) | (with_reducible refine Below.alloc ?_ ?_ _) | (with_reducible refine below_drewN ?_ _) | (with_reducible refine Below.drew ?_) | (with_reducible exact Nat.le_refl _) | omega | (simp; done) | (simp; omega)))) (Ow.block (heap_alloc_new _ _)) (Nat.le_refl _)
  clear Z6
  go_wp2_with (fail)
  obtain ⟨Vg, hV⟩ : ∃ V, V = w5.alloc (Obj.cells #[.int .i64 C, .slice vag L.length vcg, .int .i64 Q] 26) := ⟨_, rfl⟩
  rw [← hV] at Z7 ⊢
  obtain ⟨Kg, hK⟩ : ∃ K, K = w5.heap.size := ⟨_, rfl⟩
  rw [← hK] at Z7 HXg ⊢
  clear hV hK
  clear cva_0 cva_1 cva_2 lva
  refine (eqOrderResult_to C Q HLN.out (IS.rg (B := w4.heap.size) (show IS Vg w4.heap.size (.slice vag L.length vcg) L from (Z7.out.get 4 rfl))) (IS.rg (B := w2.heap.size) (show IS Vg w2.heap.size (.slice vaa L.length vca) L from (Z7.out.get 1 rfl)))).mono ?_
  rintro e w6 ⟨rfl, hb⟩
  have Z8 : Hid (LS w [(w1.heap.size, w2.heap.size, fun V : World => V.ownsRow w1.heap.size 51 7 (.slice (some ⟨ga0, 0, none⟩) s0.length s0.length) s0.length (s0.flatMap jbC)), (w2.heap.size, Ka, fun V : World => IS V w2.heap.size (.slice vaa L.length vca) L), (Ka, Ka + 1, fun V : World => V.heap[Ka]? = some (Obj.cells #[.int .i64 C, .slice vaa L.length vca, .int .i64 Q] 26)), (Va.heap.size, w4.heap.size, fun V : World => V.ownsRow Va.heap.size 51 7 (.slice (some ⟨x0, 0, none⟩) s0.length s0.length) s0.length (s0.flatMap jbC)), (w4.heap.size, Kg, fun V : World => IS V w4.heap.size (.slice vag L.length vcg) L), (Kg, Kg + 1, fun V : World => V.heap[Kg]? = some (Obj.cells #[.int .i64 C, .slice vag L.length vcg, .int .i64 Q] 26))] w6) := Z7.out.next hb
  clear Z7 hb
  go_wp2_with (fail)
  refine (toJobS_any HL0.out (HR0.out.below Z8.out.bl)).mono ?_
  rintro e w7 ⟨e0, rfl, ho, hb⟩
  have Z9 : Hid (LS w [(w1.heap.size, w2.heap.size, fun V : World => V.ownsRow w1.heap.size 51 7 (.slice (some ⟨ga0, 0, none⟩) s0.length s0.length) s0.length (s0.flatMap jbC)), (w2.heap.size, Ka, fun V : World => IS V w2.heap.size (.slice vaa L.length vca) L), (Ka, Ka + 1, fun V : World => V.heap[Ka]? = some (Obj.cells #[.int .i64 C, .slice vaa L.length vca, .int .i64 Q] 26)), (Va.heap.size, w4.heap.size, fun V : World => V.ownsRow Va.heap.size 51 7 (.slice (some ⟨x0, 0, none⟩) s0.length s0.length) s0.length (s0.flatMap jbC)), (w4.heap.size, Kg, fun V : World => IS V w4.heap.size (.slice vag L.length vcg) L), (Kg, Kg + 1, fun V : World => V.heap[Kg]? = some (Obj.cells #[.int .i64 C, .slice vag L.length vcg, .int .i64 Q] 26)), (w6.heap.size, w7.heap.size, fun V : World => V.ownsRow w6.heap.size 51 7 (.slice (some ⟨e0, 0, none⟩) s0.length s0.length) s0.length (s0.flatMap jbC))] w7) := Z8.out.push hb (Ow.rowAll ho hb) (Nat.le_refl _)
  clear Z8 hb ho
  go_wp2_with (fail)
  refine (eqJobS_same (by have := HL0.out; omega) (OG.rg (T := 51) (B := Va.heap.size) jbC_len (show w7.ownsRow Va.heap.size 51 7 (.slice (some ⟨x0, 0, none⟩) s0.length s0.length) s0.length (s0.flatMap jbC) from Z9.out.get 3 rfl)) (OG.rg (T := 51) (B := w6.heap.size) jbC_len (show w7.ownsRow w6.heap.size 51 7 (.slice (some ⟨e0, 0, none⟩) s0.length s0.length) s0.length (s0.flatMap jbC) from Z9.out.get 6 rfl))).mono ?_
  rintro e w8 ⟨rfl, hb⟩
  have Z10 : Hid (LS w [(w1.heap.size, w2.heap.size, fun V : World => V.ownsRow w1.heap.size 51 7 (.slice (some ⟨ga0, 0, none⟩) s0.length s0.length) s0.length (s0.flatMap jbC)), (w2.heap.size, Ka, fun V : World => IS V w2.heap.size (.slice vaa L.length vca) L), (Ka, Ka + 1, fun V : World => V.heap[Ka]? = some (Obj.cells #[.int .i64 C, .slice vaa L.length vca, .int .i64 Q] 26)), (Va.heap.size, w4.heap.size, fun V : World => V.ownsRow Va.heap.size 51 7 (.slice (some ⟨x0, 0, none⟩) s0.length s0.length) s0.length (s0.flatMap jbC)), (w4.heap.size, Kg, fun V : World => IS V w4.heap.size (.slice vag L.length vcg) L), (Kg, Kg + 1, fun V : World => V.heap[Kg]? = some (Obj.cells #[.int .i64 C, .slice vag L.length vcg, .int .i64 Q] 26)), (w6.heap.size, w7.heap.size, fun V : World => V.ownsRow w6.heap.size 51 7 (.slice (some ⟨e0, 0, none⟩) s0.length s0.length) s0.length (s0.flatMap jbC))] w8) := Z9.out.next hb
  clear Z9 hb
  go_wp2_with (fail)
  refine (markJobS_to 1 HL0.out (by omega) (by omega) (show w8.ownsRow Va.heap.size 51 7 (.slice (some ⟨x0, 0, none⟩) s0.length s0.length) s0.length (s0.flatMap jbC) from Z10.out.get 3 rfl) (HX0.out)).mono ?_
  rintro e w9 ⟨rfl, hm, hc⟩
  have Z11 : Hid (LS w [(w1.heap.size, w2.heap.size, fun V : World => V.ownsRow w1.heap.size 51 7 (.slice (some ⟨ga0, 0, none⟩) s0.length s0.length) s0.length (s0.flatMap jbC)), (w2.heap.size, Ka, fun V : World => IS V w2.heap.size (.slice vaa L.length vca) L), (Ka, Ka + 1, fun V : World => V.heap[Ka]? = some (Obj.cells #[.int .i64 C, .slice vaa L.length vca, .int .i64 Q] 26)), (Va.heap.size, w4.heap.size, fun V : World => True), (w4.heap.size, Kg, fun V : World => IS V w4.heap.size (.slice vag L.length vcg) L), (Kg, Kg + 1, fun V : World => V.heap[Kg]? = some (Obj.cells #[.int .i64 C, .slice vag L.length vcg, .int .i64 Q] 26)), (w6.heap.size, w7.heap.size, fun V : World => V.ownsRow w6.heap.size 51 7 (.slice (some ⟨e0, 0, none⟩) s0.length s0.length) s0.length (s0.flatMap jbC))] w9) := Z10.out.put 3 rfl hc ((Z10.out.own 3 rfl).true hc.size)
  clear Z10 hm hc
  obtain ⟨N0, hN⟩ : ∃ N, N = 1 + 7 * (s0.length : Int) := ⟨_, rfl⟩
  rw [← hN]
  have hN0 : 0 ≤ N0 ∧ N0 ≤ 10000000 ∧ ¬ N0 < 0 := by have := HL0.out; omega
  have hN0a := hN0.2.2
  clear hN
  have kvg := Z11.out.get 5 rfl
  have cvg_0 : w9.cell? ⟨Kg, 0, none⟩ = some (.int .i64 C) := cellOf kvg 0 rfl
  have cvg_1 : w9.cell? ⟨Kg, 1, none⟩ = some (.slice vag L.length vcg) := cellOf kvg 1 rfl
  have cvg_2 : w9.cell? ⟨Kg, 2, none⟩ = some (.int .i64 Q) := cellOf kvg 2 rfl
  have lvg : Kg < w9.heap.size := ltOf kvg
  clear kvg
  have kva := Z11.out.get 2 rfl
  have cva_0 : w9.cell? ⟨Ka, 0, none⟩ = some (.int .i64 C) := cellOf kva 0 rfl
  have cva_1 : w9.cell? ⟨Ka, 1, none⟩ = some (.slice vaa L.length vca) := cellOf kva 1 rfl
  have cva_2 : w9.cell? ⟨Ka, 2, none⟩ = some (.int .i64 Q) := cellOf kva 2 rfl
  have lva : Ka < w9.heap.size := ltOf kva
  clear kva
  go_wp2_with (fail)
  clear cvg_0 cvg_1 cvg_2 lvg cva_0 cva_1 cva_2 lva
  refine (eqOrderResult_to C Q HLN.out (IS.rg (B := w4.heap.size) (show IS w9 w4.heap.size (.slice vag L.length vcg) L from (Z11.out.get 4 rfl))) (IS.rg (B := w2.heap.size) (show IS w9 w2.heap.size (.slice vaa L.length vca) L from (Z11.out.get 1 rfl)))).mono ?_
  rintro e w10 ⟨rfl, hb⟩
  have Z12 : Hid (LS w [(w1.heap.size, w2.heap.size, fun V : World => V.ownsRow w1.heap.size 51 7 (.slice (some ⟨ga0, 0, none⟩) s0.length s0.length) s0.length (s0.flatMap jbC)), (w2.heap.size, Ka, fun V : World => IS V w2.heap.size (.slice vaa L.length vca) L), (Ka, Ka + 1, fun V : World => V.heap[Ka]? = some (Obj.cells #[.int .i64 C, .slice vaa L.length vca, .int .i64 Q] 26)), (Va.heap.size, w4.heap.size, fun V : World => True), (w4.heap.size, Kg, fun V : World => IS V w4.heap.size (.slice vag L.length vcg) L), (Kg, Kg + 1, fun V : World => V.heap[Kg]? = some (Obj.cells #[.int .i64 C, .slice vag L.length vcg, .int .i64 Q] 26)), (w6.heap.size, w7.heap.size, fun V : World => V.ownsRow w6.heap.size 51 7 (.slice (some ⟨e0, 0, none⟩) s0.length s0.length) s0.length (s0.flatMap jbC))] w10) := Z11.out.next hb
  clear Z11 hb
  have kvg := Z12.out.get 5 rfl
  have cvg_0 : w10.cell? ⟨Kg, 0, none⟩ = some (.int .i64 C) := cellOf kvg 0 rfl
  have cvg_1 : w10.cell? ⟨Kg, 1, none⟩ = some (.slice vag L.length vcg) := cellOf kvg 1 rfl
  have cvg_2 : w10.cell? ⟨Kg, 2, none⟩ = some (.int .i64 Q) := cellOf kvg 2 rfl
  have lvg : Kg < w10.heap.size := ltOf kvg
  clear kvg
  go_wp2_with (fail)
  clear cvg_0 cvg_1 cvg_2 lvg
  refine (markOrderResult_to C Q 1 HLN.out (by omega) (by omega) (show IS w10 w4.heap.size (.slice vag L.length vcg) L from (Z12.out.get 4 rfl)) HXg.out).mono ?_
  rintro e w11 ⟨rfl, hm, hc⟩
  have Z13 : Hid (LS w [(w1.heap.size, w2.heap.size, fun V : World => V.ownsRow w1.heap.size 51 7 (.slice (some ⟨ga0, 0, none⟩) s0.length s0.length) s0.length (s0.flatMap jbC)), (w2.heap.size, Ka, fun V : World => IS V w2.heap.size (.slice vaa L.length vca) L), (Ka, Ka + 1, fun V : World => V.heap[Ka]? = some (Obj.cells #[.int .i64 C, .slice vaa L.length vca, .int .i64 Q] 26)), (Va.heap.size, w4.heap.size, fun V : World => True), (w4.heap.size, Kg, fun V : World => V.ownsRow w4.heap.size 2 1 (.slice vag L.length vcg) L.length (mkV 1 L.length)), (Kg, Kg + 1, fun V : World => V.heap[Kg]? = some (Obj.cells #[.int .i64 C, .slice vag L.length vcg, .int .i64 Q] 26)), (w6.heap.size, w7.heap.size, fun V : World => V.ownsRow w6.heap.size 51 7 (.slice (some ⟨e0, 0, none⟩) s0.length s0.length) s0.length (s0.flatMap jbC))] w11) := Z12.out.put 4 rfl hc (Ow.row hm (Z12.out.own 4 rfl).le.1 (Nat.le_trans (Z12.out.own 4 rfl).le.2 hc.size) HXg.out)
  clear Z12 hm hc
  obtain ⟨TT, hTT⟩ : ∃ TT, TT = 1 + (L.length : Int) := ⟨_, rfl⟩
  have hT0 : ¬ TT < 0 := by omega
  have HTT : Hid (TT = 1 + (L.length : Int)) := hTT
  rw [← hTT]
  clear hTT
  have kvg := Z13.out.get 5 rfl
  have cvg_0 : w11.cell? ⟨Kg, 0, none⟩ = some (.int .i64 C) := cellOf kvg 0 rfl
  have cvg_1 : w11.cell? ⟨Kg, 1, none⟩ = some (.slice vag L.length vcg) := cellOf kvg 1 rfl
  have cvg_2 : w11.cell? ⟨Kg, 2, none⟩ = some (.int .i64 Q) := cellOf kvg 2 rfl
  have lvg : Kg < w11.heap.size := ltOf kvg
  clear kvg
  go_wp2_with (fail)
  clear cvg_0 cvg_1 cvg_2 lvg
  refine (heldOrderResult_to C Q 1 HLN.out (by omega) (by omega) (show w11.ownsRow w4.heap.size 2 1 (.slice vag L.length vcg) L.length (mkV 1 L.length) from Z13.out.get 4 rfl)).mono ?_
  rintro e w12 ⟨rfl, hb⟩
  have Z14 : Hid (LS w [(w1.heap.size, w2.heap.size, fun V : World => V.ownsRow w1.heap.size 51 7 (.slice (some ⟨ga0, 0, none⟩) s0.length s0.length) s0.length (s0.flatMap jbC)), (w2.heap.size, Ka, fun V : World => IS V w2.heap.size (.slice vaa L.length vca) L), (Ka, Ka + 1, fun V : World => V.heap[Ka]? = some (Obj.cells #[.int .i64 C, .slice vaa L.length vca, .int .i64 Q] 26)), (Va.heap.size, w4.heap.size, fun V : World => True), (w4.heap.size, Kg, fun V : World => V.ownsRow w4.heap.size 2 1 (.slice vag L.length vcg) L.length (mkV 1 L.length)), (Kg, Kg + 1, fun V : World => V.heap[Kg]? = some (Obj.cells #[.int .i64 C, .slice vag L.length vcg, .int .i64 Q] 26)), (w6.heap.size, w7.heap.size, fun V : World => V.ownsRow w6.heap.size 51 7 (.slice (some ⟨e0, 0, none⟩) s0.length s0.length) s0.length (s0.flatMap jbC))] w12) := Z13.out.next hb
  clear Z13 hb
  rw [← HTT.out]
  go_wp2_with (fail)
  refine (toJobS_any HL0.out (HR0.out.below Z14.out.bl)).mono ?_
  rintro e w13 ⟨gh0, rfl, ho, hb⟩
  have Z15 : Hid (LS w [(w1.heap.size, w2.heap.size, fun V : World => V.ownsRow w1.heap.size 51 7 (.slice (some ⟨ga0, 0, none⟩) s0.length s0.length) s0.length (s0.flatMap jbC)), (w2.heap.size, Ka, fun V : World => IS V w2.heap.size (.slice vaa L.length vca) L), (Ka, Ka + 1, fun V : World => V.heap[Ka]? = some (Obj.cells #[.int .i64 C, .slice vaa L.length vca, .int .i64 Q] 26)), (Va.heap.size, w4.heap.size, fun V : World => True), (w4.heap.size, Kg, fun V : World => V.ownsRow w4.heap.size 2 1 (.slice vag L.length vcg) L.length (mkV 1 L.length)), (Kg, Kg + 1, fun V : World => V.heap[Kg]? = some (Obj.cells #[.int .i64 C, .slice vag L.length vcg, .int .i64 Q] 26)), (w6.heap.size, w7.heap.size, fun V : World => V.ownsRow w6.heap.size 51 7 (.slice (some ⟨e0, 0, none⟩) s0.length s0.length) s0.length (s0.flatMap jbC)), (w12.heap.size, w13.heap.size, fun V : World => V.ownsRow w12.heap.size 51 7 (.slice (some ⟨gh0, 0, none⟩) s0.length s0.length) s0.length (s0.flatMap jbC))] w13) := Z14.out.push hb (Ow.rowAll ho hb) (Nat.le_refl _)
  clear Z14 hb ho
  go_wp2_with (fail)
  refine (HIM.out w13 gh0 (OG.rg (T := 51) (B := w12.heap.size) jbC_len (show w13.ownsRow w12.heap.size 51 7 (.slice (some ⟨gh0, 0, none⟩) s0.length s0.length) s0.length (s0.flatMap jbC) from Z15.out.get 7 rfl))).mono ?_
  rintro e w14 ⟨vq, vr, rfl, hrq, hb⟩
  obtain ⟨vah, vch, rfl⟩ := hrq.form
  have Z16 : Hid (LS w [(w1.heap.size, w2.heap.size, fun V : World => V.ownsRow w1.heap.size 51 7 (.slice (some ⟨ga0, 0, none⟩) s0.length s0.length) s0.length (s0.flatMap jbC)), (w2.heap.size, Ka, fun V : World => IS V w2.heap.size (.slice vaa L.length vca) L), (Ka, Ka + 1, fun V : World => V.heap[Ka]? = some (Obj.cells #[.int .i64 C, .slice vaa L.length vca, .int .i64 Q] 26)), (Va.heap.size, w4.heap.size, fun V : World => True), (w4.heap.size, Kg, fun V : World => V.ownsRow w4.heap.size 2 1 (.slice vag L.length vcg) L.length (mkV 1 L.length)), (Kg, Kg + 1, fun V : World => V.heap[Kg]? = some (Obj.cells #[.int .i64 C, .slice vag L.length vcg, .int .i64 Q] 26)), (w6.heap.size, w7.heap.size, fun V : World => V.ownsRow w6.heap.size 51 7 (.slice (some ⟨e0, 0, none⟩) s0.length s0.length) s0.length (s0.flatMap jbC)), (w12.heap.size, w13.heap.size, fun V : World => V.ownsRow w12.heap.size 51 7 (.slice (some ⟨gh0, 0, none⟩) s0.length s0.length) s0.length (s0.flatMap jbC)), (w13.heap.size, w14.heap.size, fun V : World => IS V w13.heap.size (.slice vah L.length vch) L)] w14) := Z15.out.push hb (Ow.rowAll hrq hb) (Nat.le_refl _)
  clear Z15 hb hrq
  have kva := Z16.out.get 2 rfl
  have cva_0 : w14.cell? ⟨Ka, 0, none⟩ = some (.int .i64 C) := cellOf kva 0 rfl
  have cva_1 : w14.cell? ⟨Ka, 1, none⟩ = some (.slice vaa L.length vca) := cellOf kva 1 rfl
  have cva_2 : w14.cell? ⟨Ka, 2, none⟩ = some (.int .i64 Q) := cellOf kva 2 rfl
  have lva : Ka < w14.heap.size := ltOf kva
  clear kva
  have Z17 : Hid (LS w [(w1.heap.size, w2.heap.size, fun V : World => V.ownsRow w1.heap.size 51 7 (.slice (some ⟨ga0, 0, none⟩) s0.length s0.length) s0.length (s0.flatMap jbC)), (w2.heap.size, Ka, fun V : World => IS V w2.heap.size (.slice vaa L.length vca) L), (Ka, Ka + 1, fun V : World => V.heap[Ka]? = some (Obj.cells #[.int .i64 C, .slice vaa L.length vca, .int .i64 Q] 26)), (Va.heap.size, w4.heap.size, fun V : World => True), (w4.heap.size, Kg, fun V : World => V.ownsRow w4.heap.size 2 1 (.slice vag L.length vcg) L.length (mkV 1 L.length)), (Kg, Kg + 1, fun V : World => V.heap[Kg]? = some (Obj.cells #[.int .i64 C, .slice vag L.length vcg, .int .i64 Q] 26)), (w6.heap.size, w7.heap.size, fun V : World => V.ownsRow w6.heap.size 51 7 (.slice (some ⟨e0, 0, none⟩) s0.length s0.length) s0.length (s0.flatMap jbC)), (w12.heap.size, w13.heap.size, fun V : World => V.ownsRow w12.heap.size 51 7 (.slice (some ⟨gh0, 0, none⟩) s0.length s0.length) s0.length (s0.flatMap jbC)), (w13.heap.size, w14.heap.size, fun V : World => IS V w13.heap.size (.slice vah L.length vch) L), (w14.heap.size, w14.heap.size + 1, fun V : World => V.heap[w14.heap.size]? = some (Obj.cells #[.int .i64 C, .slice vah L.length vch, .int .i64 Q] 26))] (w14.alloc (Obj.cells #[.int .i64 C, .slice vah L.length vch, .int .i64 Q] 26))) := Z16.out.push (by (repeat' (first | (with_reducible exact Below.refl _ _) | (with_reducible assumption) | (with_reducible refine Below.setCell ?_ ?_ _) | (with_reducible refine Below.alloc ?_ ?_ _) | (with_reducible refine below_drewN ?_ _) | (with_reducible refine Below.drew ?_) | (with_reducible exact Nat.le_refl _) | omega | (simp; done) | (simp; omega)))) (Ow.block (heap_alloc_new _ _)) (Nat.le_refl _)
  clear Z16
  go_wp2_with (fail)
  obtain ⟨Vh, hV⟩ : ∃ V, V = w14.alloc (Obj.cells #[.int .i64 C, .slice vah L.length vch, .int .i64 Q] 26) := ⟨_, rfl⟩
  rw [← hV] at Z17 ⊢
  obtain ⟨Kh, hK⟩ : ∃ K, K = w14.heap.size := ⟨_, rfl⟩
  rw [← hK] at Z17  ⊢
  clear hV hK
  clear cva_0 cva_1 cva_2 lva
  refine (eqOrderResult_to C Q HLN.out (IS.rg (B := w13.heap.size) (show IS Vh w13.heap.size (.slice vah L.length vch) L from (Z17.out.get 8 rfl))) (IS.rg (B := w2.heap.size) (show IS Vh w2.heap.size (.slice vaa L.length vca) L from (Z17.out.get 1 rfl)))).mono ?_
  rintro e w15 ⟨rfl, hb⟩
  have Z18 : Hid (LS w [(w1.heap.size, w2.heap.size, fun V : World => V.ownsRow w1.heap.size 51 7 (.slice (some ⟨ga0, 0, none⟩) s0.length s0.length) s0.length (s0.flatMap jbC)), (w2.heap.size, Ka, fun V : World => IS V w2.heap.size (.slice vaa L.length vca) L), (Ka, Ka + 1, fun V : World => V.heap[Ka]? = some (Obj.cells #[.int .i64 C, .slice vaa L.length vca, .int .i64 Q] 26)), (Va.heap.size, w4.heap.size, fun V : World => True), (w4.heap.size, Kg, fun V : World => V.ownsRow w4.heap.size 2 1 (.slice vag L.length vcg) L.length (mkV 1 L.length)), (Kg, Kg + 1, fun V : World => V.heap[Kg]? = some (Obj.cells #[.int .i64 C, .slice vag L.length vcg, .int .i64 Q] 26)), (w6.heap.size, w7.heap.size, fun V : World => V.ownsRow w6.heap.size 51 7 (.slice (some ⟨e0, 0, none⟩) s0.length s0.length) s0.length (s0.flatMap jbC)), (w12.heap.size, w13.heap.size, fun V : World => V.ownsRow w12.heap.size 51 7 (.slice (some ⟨gh0, 0, none⟩) s0.length s0.length) s0.length (s0.flatMap jbC)), (w13.heap.size, Kh, fun V : World => IS V w13.heap.size (.slice vah L.length vch) L), (Kh, Kh + 1, fun V : World => V.heap[Kh]? = some (Obj.cells #[.int .i64 C, .slice vah L.length vch, .int .i64 Q] 26))] w15) := Z17.out.next hb
  clear Z17 hb
  have kvg := Z18.out.get 5 rfl
  have cvg_0 : w15.cell? ⟨Kg, 0, none⟩ = some (.int .i64 C) := cellOf kvg 0 rfl
  have cvg_1 : w15.cell? ⟨Kg, 1, none⟩ = some (.slice vag L.length vcg) := cellOf kvg 1 rfl
  have cvg_2 : w15.cell? ⟨Kg, 2, none⟩ = some (.int .i64 Q) := cellOf kvg 2 rfl
  have lvg : Kg < w15.heap.size := ltOf kvg
  clear kvg
  go_wp2_with (fail)
  clear cvg_0 cvg_1 cvg_2 lvg
  refine (heldOrderResult_to C Q 1 HLN.out (by omega) (by omega) (show w15.ownsRow w4.heap.size 2 1 (.slice vag L.length vcg) L.length (mkV 1 L.length) from Z18.out.get 4 rfl)).mono ?_
  rintro e w16 ⟨rfl, hb⟩
  have Z19 : Hid (LS w [(w1.heap.size, w2.heap.size, fun V : World => V.ownsRow w1.heap.size 51 7 (.slice (some ⟨ga0, 0, none⟩) s0.length s0.length) s0.length (s0.flatMap jbC)), (w2.heap.size, Ka, fun V : World => IS V w2.heap.size (.slice vaa L.length vca) L), (Ka, Ka + 1, fun V : World => V.heap[Ka]? = some (Obj.cells #[.int .i64 C, .slice vaa L.length vca, .int .i64 Q] 26)), (Va.heap.size, w4.heap.size, fun V : World => True), (w4.heap.size, Kg, fun V : World => V.ownsRow w4.heap.size 2 1 (.slice vag L.length vcg) L.length (mkV 1 L.length)), (Kg, Kg + 1, fun V : World => V.heap[Kg]? = some (Obj.cells #[.int .i64 C, .slice vag L.length vcg, .int .i64 Q] 26)), (w6.heap.size, w7.heap.size, fun V : World => V.ownsRow w6.heap.size 51 7 (.slice (some ⟨e0, 0, none⟩) s0.length s0.length) s0.length (s0.flatMap jbC)), (w12.heap.size, w13.heap.size, fun V : World => V.ownsRow w12.heap.size 51 7 (.slice (some ⟨gh0, 0, none⟩) s0.length s0.length) s0.length (s0.flatMap jbC)), (w13.heap.size, Kh, fun V : World => IS V w13.heap.size (.slice vah L.length vch) L), (Kh, Kh + 1, fun V : World => V.heap[Kh]? = some (Obj.cells #[.int .i64 C, .slice vah L.length vch, .int .i64 Q] 26))] w16) := Z18.out.next hb
  clear Z18 hb
  rw [← HTT.out]
  go_wp2
  go_returns
  exact ⟨rfl, Z19.out.bl⟩

set_option maxRecDepth 100000 in
theorem rr22_lifted (os : Os) (started : os.Started) (H : Type) (enc : TypeId × Value → H) :
    ReturnsInHanded {} Try.checked os 3 .any (Rows.fnExactRunRuleSpec.pre6 enc Try.prog Try.f3 Rows.fnExactRunRuleRow.domain false) (Rows.fnExactRunRuleSpec.post enc Try.prog Try.f3 false true false false) := by
  refine returnsInHanded_of_change (C := Try.checked) own started (by kernel_rfl) Try.func3
    (ChangeSpec.witness6 (enc := enc) (C := Try.checked) false ⟨#[], #[.slice none 0 0, .int .i64 0], []⟩ 8 (by kernel_rfl) (by kernel_rfl) (by kernel_rfl) (by kernel_rfl)) ?_
  intro W base args ds gs before hval0 hW hcnd _
  have hval : ∀ (j : Nat) t v, Try.f3.params[j]? = some t → args[j]? = some v → Value.okWide Try.prog W .any base t v := hval0
  have hW' := hW
  obtain ⟨p, q, hA0, hV, rfl, hfz, hnd⟩ := hW
  have hA : DataW.TrodAll enc Try.prog W 0 (fun _ => true) true Try.f3.params.toList args.toList ds p := hA0
  rw [Try.params3] at hA hval
  obtain ⟨v0, vs0, d0, ds0, p0, q0, hargs, rfl, rfl, h0, r0⟩ := trodAll_cons hA
  obtain ⟨v1, vs1, d1, ds1, p1, q1, rfl, rfl, rfl, h1, r1⟩ := trodAll_cons r0
  obtain ⟨rfl, rfl, rfl⟩ := trodAll_nil r1
  obtain rfl : args = #[v0, v1] := by cases args; simp_all
  obtain ⟨rfl, rfl⟩ := trodVars_none hV
  have k0 := h0
  have lt0 : ∀ x ∈ p0, x.block < W.heap.size := by obtain ⟨m, hm⟩ := k0; exact DataW.trod_lt m _ _ _ hm
  obtain ⟨sa0, sn0, sc0, s0, rfl, rb0, sl0⟩ := jobs_open (hval 0 22 v0 rfl rfl) h0
  obtain ⟨n1, rfl, rfl, rfl, wn1⟩ := open_int Try.underlying2 (hval 1 2 v1 rfl rfl) h1
  clear hA0 hval0
  refine (law_rr22 s0 sl0 rb0 n1).mono fun e W' ⟨he, hg⟩ => ?_
  subst he
  exact ⟨_, rfl, _, _, _, [], _, [], hW', trodAll_mk1 (shut_bool Try.underlying4 _), (trodAll_cons_mk (Below.trod laidOut (by kernel_rfl) (of_decide_eq_true (by kernel_rfl)) k0 hg lt0) (trodAll_cons_mk (shut_int Try.underlying2 wn1) trodAll_mk0)), rfl, hg.frame _, fun h => by cases h⟩

theorem rr22_over : Rows.fnExactRunRuleRow.holds Try.pinned (OpenSpec.ofChange Rows.fnExactRunRuleSpec) :=
  OpenClaim.holds_of_wide 3 Try.f3 rfl rfl rfl rfl rfl rfl rfl ⟨rfl, rfl, rfl, rfl, rfl⟩ rfl rfl rfl rfl rfl (by kernel_rfl) Try.func3 (by kernel_rfl)
    (of_decide_eq_true (by kernel_rfl)) (by unfold Func.isWrapper; first | (rw [if_pos (by decide +kernel)]; kernel_rfl) | (rw [if_neg (by decide +kernel)]; exact ⟨rfl, rfl⟩))
    (fun os started H enc _ => rr22_lifted os started H enc)

theorem rr22_proved : Rows.FnExactRunRuleSaid :=
  rr22_over
#print axioms rr22_proved

end Go.Proofs.Ytjbghflphngnkaa
