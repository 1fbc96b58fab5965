/- Proved here: 'the program's SurviveOf answers as the model's; it writes into no argument and keeps nothing of one; its answer owns its memory, behind another call too', without a condition. -/
import Derived.Test.YtjacmneopijiaaaAcW
import Derived.Test.YtjacmneopijiaaaVdB
import Derived.Test.YtjacmneopijiaaaVcB
import Derived.Test.YtjacmneopijiaaaMkVc
import Derived.Test.YtjacmneopijiaaaMkFR
import Derived.Test.YtjacmneopijiaaaVkM
import Derived.Test.YtjacmneopijiaaaRows
namespace Go.Proofs.Ytjacmneopijiaaa
open Go.ChangeShapes Go.WideShapes Go.ChangeAt Go.RowKit Go.Joins
set_option linter.unusedVariables false
set_option linter.unusedSimpArgs false

theorem own : ownKnob Try.prog.godebug = none := by kernel_rfl
theorem laidOut : laidOutB Try.prog = true := by kernel_rfl

set_option maxRecDepth 10000 in
set_option maxHeartbeats 25600000 in
theorem law_so15 {w : World} {sa0 : Option Addr} {sn0 sc0 : Nat} (s0 : List Dft) (hm0 : s0.length ≤ maxLen) (hr0 : RG 4 vdC w (.slice sa0 sn0 sc0) s0) {sa1 : Option Addr} {sn1 sc1 : Nat} (s1 : List Cls) (hm1 : s1.length ≤ maxLen) (hr1 : RG 6 vcC w (.slice sa1 sn1 sc1) s1) :
    Calls Try.prog 7 #[.slice sa0 sn0 sc0, .slice sa1 sn1 sc1] w fun e w' => e = .returned (.bool true) ∧ Below w.heap.size w w' := by
  have HM0 : Hid (sn0 ≤ maxLen) := by unfold Hid; rw [hr0.len]; exact hm0
  have HR0 : Hid (RG 4 vdC w (.slice sa0 sn0 sc0) s0) := hr0
  have HE0 : Hid (sn0 = s0.length) := hr0.len
  have HM1 : Hid (sn1 ≤ maxLen) := by unfold Hid; rw [hr1.len]; exact hm1
  have HR1 : Hid (RG 6 vcC w (.slice sa1 sn1 sc1) s1) := hr1
  have HE1 : Hid (sn1 = s1.length) := hr1.len
  clear hm0 hr0 hm1 hr1
  have Z0 : Hid (LS w [] w) := LS.start w
  go_enter Try.func7, Try.ntmps7
  go_wp2_with (fail)
  refine (szDefectS_gen sa0 sn0 sc0 1048576 _ (by omega) (by omega) HM0.out).mono ?_
  rintro e w1 ⟨r0, rfl, hq0, hb⟩
  have Z1 : Hid (LS w [] w1) := Z0.out.next hb
  clear Z0 hb
  rcases hq0 with hneg | ⟨u0, v0, tt0⟩
  · go_wp2
    go_returns
    exact ⟨rfl, Z1.out.bl⟩
  have hl0 : ¬ r0 < 0 := by omega
  have HL0 : Hid (s0.length ≤ 1048576) := by unfold Hid; rw [← HE0.out]; omega
  go_wp2_with (fail)
  refine (szClassS_gen sa1 sn1 sc1 r0 _ (by omega) (by omega) HM1.out).mono ?_
  rintro e w2 ⟨r1, rfl, hq1, hb⟩
  have Z2 : Hid (LS w [] w2) := Z1.out.next hb
  clear Z1 hb
  rcases hq1 with hneg | ⟨u1, v1, tt1⟩
  · go_wp2
    go_returns
    exact ⟨rfl, Z2.out.bl⟩
  have hl1 : ¬ r1 < 0 := by omega
  have HL1 : Hid (s1.length ≤ 1048576) := by unfold Hid; rw [← HE1.out]; omega
  obtain ⟨C0, hC0⟩ : ∃ X, X = (vsQ s0 s1).c := ⟨_, rfl⟩
  obtain ⟨C1, hC1⟩ : ∃ X, X = (vsQ s0 s1).n := ⟨_, rfl⟩
  obtain ⟨C2, hC2⟩ : ∃ X, X = (vsQ s0 s1).d := ⟨_, rfl⟩
  have HSP : Hid (∀ (W : World) (g0 : Nat) (g1 : Nat), (RG 4 vdC W (.slice (some ⟨g0, 0, none⟩) s0.length s0.length) s0) → (RG 6 vcC W (.slice (some ⟨g1, 0, none⟩) s1.length s1.length) s1) → Calls Try.prog 30 #[.slice (some ⟨g0, 0, none⟩) s0.length s0.length, .slice (some ⟨g1, 0, none⟩) s1.length s1.length] W fun e w' => e = .returned (.agg #[.int .i64 C0, .int .i64 C1, .int .i64 C2]) ∧ Below W.heap.size W w') := fun W g0 g1 h0 h1 => by
    rw [hC2, hC1, hC0]
    exact spec_vs HL0.out HL1.out h0 h1
  have HIM : Hid (∀ (W : World) (g0 : Nat) (g1 : Nat), (RG 4 vdC W (.slice (some ⟨g0, 0, none⟩) s0.length s0.length) s0) → (RG 6 vcC W (.slice (some ⟨g1, 0, none⟩) s1.length s1.length) s1) → Calls Try.prog 31 #[.slice (some ⟨g0, 0, none⟩) s0.length s0.length, .slice (some ⟨g1, 0, none⟩) s1.length s1.length] W fun e w' => e = .returned (.agg #[.int .i64 C0, .int .i64 C1, .int .i64 C2]) ∧ Below W.heap.size W w') := fun W g0 g1 h0 h1 => by
    rw [hC2, hC1, hC0]
    exact impl_vs HL0.out HL1.out h0 h1
  clear hC0 hC1 hC2 u0 v0 tt0 u1 v1 tt1
  go_wp2_with (fail)
  refine (toDefectS_any HL0.out (HR0.out.below Z2.out.bl)).mono ?_
  rintro e w3 ⟨ga0, rfl, ho, hb⟩
  have Z3 : Hid (LS w [(w2.heap.size, w3.heap.size, fun V : World => V.ownsRow w2.heap.size 41 4 (.slice (some ⟨ga0, 0, none⟩) s0.length s0.length) s0.length (s0.flatMap vdC))] w3) := Z2.out.push hb (Ow.rowAll ho hb) (Nat.le_refl _)
  clear Z2 hb ho
  go_wp2_with (fail)
  refine (toClassS_any HL1.out (HR1.out.below Z3.out.bl)).mono ?_
  rintro e w4 ⟨ga1, rfl, ho, hb⟩
  have Z4 : Hid (LS w [(w2.heap.size, w3.heap.size, fun V : World => V.ownsRow w2.heap.size 41 4 (.slice (some ⟨ga0, 0, none⟩) s0.length s0.length) s0.length (s0.flatMap vdC)), (w3.heap.size, w4.heap.size, fun V : World => V.ownsRow w3.heap.size 66 6 (.slice (some ⟨ga1, 0, none⟩) s1.length s1.length) s1.length (s1.flatMap vcC))] w4) := Z3.out.push hb (Ow.rowAll ho hb) (Nat.le_refl _)
  clear Z3 hb ho
  go_wp2_with (fail)
  refine (HSP.out w4 ga0 ga1 (OG.rg (T := 41) (B := w2.heap.size) vdC_len (show w4.ownsRow w2.heap.size 41 4 (.slice (some ⟨ga0, 0, none⟩) s0.length s0.length) s0.length (s0.flatMap vdC) from Z4.out.get 0 rfl)) (OG.rg (T := 66) (B := w3.heap.size) vcC_len (show w4.ownsRow w3.heap.size 66 6 (.slice (some ⟨ga1, 0, none⟩) s1.length s1.length) s1.length (s1.flatMap vcC) from Z4.out.get 1 rfl))).mono ?_
  rintro e w5 ⟨rfl, hb⟩
  have Z5 : Hid (LS w [(w2.heap.size, w3.heap.size, fun V : World => V.ownsRow w2.heap.size 41 4 (.slice (some ⟨ga0, 0, none⟩) s0.length s0.length) s0.length (s0.flatMap vdC)), (w3.heap.size, w4.heap.size, fun V : World => V.ownsRow w3.heap.size 66 6 (.slice (some ⟨ga1, 0, none⟩) s1.length s1.length) s1.length (s1.flatMap vcC))] w5) := Z4.out.next hb
  clear Z4 hb
  have Z6 : Hid (LS w [(w2.heap.size, w3.heap.size, fun V : World => V.ownsRow w2.heap.size 41 4 (.slice (some ⟨ga0, 0, none⟩) s0.length s0.length) s0.length (s0.flatMap vdC)), (w3.heap.size, w4.heap.size, fun V : World => V.ownsRow w3.heap.size 66 6 (.slice (some ⟨ga1, 0, none⟩) s1.length s1.length) s1.length (s1.flatMap vcC)), (w5.heap.size, w5.heap.size + 1, fun V : World => V.heap[w5.heap.size]? = some (Obj.cells #[.int .i64 C0, .int .i64 C1, .int .i64 C2] 57))] (w5.alloc (Obj.cells #[.int .i64 C0, .int .i64 C1, .int .i64 C2] 57))) := Z5.out.push (by (repeat' (first | (with_reducible exact Below.refl _ _) | (with_reducible assumption) | (with_reducible refine Below.setCell ?_ ?_ _) | (with_reducible refine Below.alloc ?_ ?_ _) | (with_reducible refine below_drewN ?_ _) | (with_reducible refine Below.drew ?_) | (with_reducible exact Nat.le_refl _) | omega | (simp; done) | (simp; omega)))) (Ow.block (heap_alloc_new _ _)) (Nat.le_refl _)
  clear Z5
  go_wp2_with (fail)
  obtain ⟨Va, hV⟩ : ∃ V, V = w5.alloc (Obj.cells #[.int .i64 C0, .int .i64 C1, .int .i64 C2] 57) := ⟨_, rfl⟩
  rw [← hV] at Z6 ⊢
  obtain ⟨Ka, hK⟩ : ∃ K, K = w5.heap.size := ⟨_, rfl⟩
  rw [← hK] at Z6  ⊢
  clear hV hK
  refine (toDefectS_any HL0.out (HR0.out.below Z6.out.bl)).mono ?_
  rintro e w6 ⟨x0, rfl, ho, hb⟩
  have Z7 : Hid (LS w [(w2.heap.size, w3.heap.size, fun V : World => V.ownsRow w2.heap.size 41 4 (.slice (some ⟨ga0, 0, none⟩) s0.length s0.length) s0.length (s0.flatMap vdC)), (w3.heap.size, w4.heap.size, fun V : World => V.ownsRow w3.heap.size 66 6 (.slice (some ⟨ga1, 0, none⟩) s1.length s1.length) s1.length (s1.flatMap vcC)), (Ka, Ka + 1, fun V : World => V.heap[Ka]? = some (Obj.cells #[.int .i64 C0, .int .i64 C1, .int .i64 C2] 57)), (Va.heap.size, w6.heap.size, fun V : World => V.ownsRow Va.heap.size 41 4 (.slice (some ⟨x0, 0, none⟩) s0.length s0.length) s0.length (s0.flatMap vdC))] w6) := Z6.out.push hb (Ow.rowAll ho hb) (Nat.le_refl _)
  clear Z6 hb ho
  go_wp2_with (fail)
  refine (toClassS_any HL1.out (HR1.out.below Z7.out.bl)).mono ?_
  rintro e w7 ⟨x1, rfl, ho, hb⟩
  have Z8 : Hid (LS w [(w2.heap.size, w3.heap.size, fun V : World => V.ownsRow w2.heap.size 41 4 (.slice (some ⟨ga0, 0, none⟩) s0.length s0.length) s0.length (s0.flatMap vdC)), (w3.heap.size, w4.heap.size, fun V : World => V.ownsRow w3.heap.size 66 6 (.slice (some ⟨ga1, 0, none⟩) s1.length s1.length) s1.length (s1.flatMap vcC)), (Ka, Ka + 1, fun V : World => V.heap[Ka]? = some (Obj.cells #[.int .i64 C0, .int .i64 C1, .int .i64 C2] 57)), (Va.heap.size, w6.heap.size, fun V : World => V.ownsRow Va.heap.size 41 4 (.slice (some ⟨x0, 0, none⟩) s0.length s0.length) s0.length (s0.flatMap vdC)), (w6.heap.size, w7.heap.size, fun V : World => V.ownsRow w6.heap.size 66 6 (.slice (some ⟨x1, 0, none⟩) s1.length s1.length) s1.length (s1.flatMap vcC))] w7) := Z7.out.push hb (Ow.rowAll ho hb) (Nat.le_refl _)
  clear Z7 hb ho
  go_wp2_with (fail)
  refine (HIM.out w7 x0 x1 (OG.rg (T := 41) (B := Va.heap.size) vdC_len (show w7.ownsRow Va.heap.size 41 4 (.slice (some ⟨x0, 0, none⟩) s0.length s0.length) s0.length (s0.flatMap vdC) from Z8.out.get 3 rfl)) (OG.rg (T := 66) (B := w6.heap.size) vcC_len (show w7.ownsRow w6.heap.size 66 6 (.slice (some ⟨x1, 0, none⟩) s1.length s1.length) s1.length (s1.flatMap vcC) from Z8.out.get 4 rfl))).mono ?_
  rintro e w8 ⟨rfl, hb⟩
  have Z9 : Hid (LS w [(w2.heap.size, w3.heap.size, fun V : World => V.ownsRow w2.heap.size 41 4 (.slice (some ⟨ga0, 0, none⟩) s0.length s0.length) s0.length (s0.flatMap vdC)), (w3.heap.size, w4.heap.size, fun V : World => V.ownsRow w3.heap.size 66 6 (.slice (some ⟨ga1, 0, none⟩) s1.length s1.length) s1.length (s1.flatMap vcC)), (Ka, Ka + 1, fun V : World => V.heap[Ka]? = some (Obj.cells #[.int .i64 C0, .int .i64 C1, .int .i64 C2] 57)), (Va.heap.size, w6.heap.size, fun V : World => V.ownsRow Va.heap.size 41 4 (.slice (some ⟨x0, 0, none⟩) s0.length s0.length) s0.length (s0.flatMap vdC)), (w6.heap.size, w7.heap.size, fun V : World => V.ownsRow w6.heap.size 66 6 (.slice (some ⟨x1, 0, none⟩) s1.length s1.length) s1.length (s1.flatMap vcC))] w8) := Z8.out.next hb
  clear Z8 hb
  have kva := Z9.out.get 2 rfl
  have cva_0 : w8.cell? ⟨Ka, 0, none⟩ = some (.int .i64 C0) := cellOf kva 0 rfl
  have cva_1 : w8.cell? ⟨Ka, 1, none⟩ = some (.int .i64 C1) := cellOf kva 1 rfl
  have cva_2 : w8.cell? ⟨Ka, 2, none⟩ = some (.int .i64 C2) := cellOf kva 2 rfl
  have lva : Ka < w8.heap.size := ltOf kva
  clear kva
  have Z10 : Hid (LS w [(w2.heap.size, w3.heap.size, fun V : World => V.ownsRow w2.heap.size 41 4 (.slice (some ⟨ga0, 0, none⟩) s0.length s0.length) s0.length (s0.flatMap vdC)), (w3.heap.size, w4.heap.size, fun V : World => V.ownsRow w3.heap.size 66 6 (.slice (some ⟨ga1, 0, none⟩) s1.length s1.length) s1.length (s1.flatMap vcC)), (Ka, Ka + 1, fun V : World => V.heap[Ka]? = some (Obj.cells #[.int .i64 C0, .int .i64 C1, .int .i64 C2] 57)), (Va.heap.size, w6.heap.size, fun V : World => V.ownsRow Va.heap.size 41 4 (.slice (some ⟨x0, 0, none⟩) s0.length s0.length) s0.length (s0.flatMap vdC)), (w6.heap.size, w7.heap.size, fun V : World => V.ownsRow w6.heap.size 66 6 (.slice (some ⟨x1, 0, none⟩) s1.length s1.length) s1.length (s1.flatMap vcC)), (w8.heap.size, w8.heap.size + 1, fun V : World => V.heap[w8.heap.size]? = some (Obj.cells #[.int .i64 C0, .int .i64 C1, .int .i64 C2] 57))] (w8.alloc (Obj.cells #[.int .i64 C0, .int .i64 C1, .int .i64 C2] 57))) := Z9.out.push (by (repeat' (first | (with_reducible exact Below.refl _ _) | (with_reducible assumption) | (with_reducible refine Below.setCell ?_ ?_ _) | (with_reducible refine Below.alloc ?_ ?_ _) | (with_reducible refine below_drewN ?_ _) | (with_reducible refine Below.drew ?_) | (with_reducible exact Nat.le_refl _) | omega | (simp; done) | (simp; omega)))) (Ow.block (heap_alloc_new _ _)) (Nat.le_refl _)
  clear Z9
  go_wp2_with (fail)
  obtain ⟨Vg, hV⟩ : ∃ V, V = w8.alloc (Obj.cells #[.int .i64 C0, .int .i64 C1, .int .i64 C2] 57) := ⟨_, rfl⟩
  rw [← hV] at Z10 ⊢
  obtain ⟨Kg, hK⟩ : ∃ K, K = w8.heap.size := ⟨_, rfl⟩
  rw [← hK] at Z10  ⊢
  clear hV hK
  clear cva_0 cva_1 cva_2 lva
  refine (eqFracResult_to C0 C1 C2 _).mono ?_
  rintro e w9 ⟨rfl, hb⟩
  have Z11 : Hid (LS w [(w2.heap.size, w3.heap.size, fun V : World => V.ownsRow w2.heap.size 41 4 (.slice (some ⟨ga0, 0, none⟩) s0.length s0.length) s0.length (s0.flatMap vdC)), (w3.heap.size, w4.heap.size, fun V : World => V.ownsRow w3.heap.size 66 6 (.slice (some ⟨ga1, 0, none⟩) s1.length s1.length) s1.length (s1.flatMap vcC)), (Ka, Ka + 1, fun V : World => V.heap[Ka]? = some (Obj.cells #[.int .i64 C0, .int .i64 C1, .int .i64 C2] 57)), (Va.heap.size, w6.heap.size, fun V : World => V.ownsRow Va.heap.size 41 4 (.slice (some ⟨x0, 0, none⟩) s0.length s0.length) s0.length (s0.flatMap vdC)), (w6.heap.size, w7.heap.size, fun V : World => V.ownsRow w6.heap.size 66 6 (.slice (some ⟨x1, 0, none⟩) s1.length s1.length) s1.length (s1.flatMap vcC)), (Kg, Kg + 1, fun V : World => V.heap[Kg]? = some (Obj.cells #[.int .i64 C0, .int .i64 C1, .int .i64 C2] 57))] w9) := Z10.out.next hb
  clear Z10 hb
  go_wp2_with (fail)
  refine (toDefectS_any HL0.out (HR0.out.below Z11.out.bl)).mono ?_
  rintro e w10 ⟨e0, rfl, ho, hb⟩
  have Z12 : Hid (LS w [(w2.heap.size, w3.heap.size, fun V : World => V.ownsRow w2.heap.size 41 4 (.slice (some ⟨ga0, 0, none⟩) s0.length s0.length) s0.length (s0.flatMap vdC)), (w3.heap.size, w4.heap.size, fun V : World => V.ownsRow w3.heap.size 66 6 (.slice (some ⟨ga1, 0, none⟩) s1.length s1.length) s1.length (s1.flatMap vcC)), (Ka, Ka + 1, fun V : World => V.heap[Ka]? = some (Obj.cells #[.int .i64 C0, .int .i64 C1, .int .i64 C2] 57)), (Va.heap.size, w6.heap.size, fun V : World => V.ownsRow Va.heap.size 41 4 (.slice (some ⟨x0, 0, none⟩) s0.length s0.length) s0.length (s0.flatMap vdC)), (w6.heap.size, w7.heap.size, fun V : World => V.ownsRow w6.heap.size 66 6 (.slice (some ⟨x1, 0, none⟩) s1.length s1.length) s1.length (s1.flatMap vcC)), (Kg, Kg + 1, fun V : World => V.heap[Kg]? = some (Obj.cells #[.int .i64 C0, .int .i64 C1, .int .i64 C2] 57)), (w9.heap.size, w10.heap.size, fun V : World => V.ownsRow w9.heap.size 41 4 (.slice (some ⟨e0, 0, none⟩) s0.length s0.length) s0.length (s0.flatMap vdC))] w10) := Z11.out.push hb (Ow.rowAll ho hb) (Nat.le_refl _)
  clear Z11 hb ho
  go_wp2_with (fail)
  refine (eqDefectS_same (by have := HL0.out; omega) (OG.rg (T := 41) (B := Va.heap.size) vdC_len (show w10.ownsRow Va.heap.size 41 4 (.slice (some ⟨x0, 0, none⟩) s0.length s0.length) s0.length (s0.flatMap vdC) from Z12.out.get 3 rfl)) (OG.rg (T := 41) (B := w9.heap.size) vdC_len (show w10.ownsRow w9.heap.size 41 4 (.slice (some ⟨e0, 0, none⟩) s0.length s0.length) s0.length (s0.flatMap vdC) from Z12.out.get 6 rfl))).mono ?_
  rintro e w11 ⟨rfl, hb⟩
  have Z13 : Hid (LS w [(w2.heap.size, w3.heap.size, fun V : World => V.ownsRow w2.heap.size 41 4 (.slice (some ⟨ga0, 0, none⟩) s0.length s0.length) s0.length (s0.flatMap vdC)), (w3.heap.size, w4.heap.size, fun V : World => V.ownsRow w3.heap.size 66 6 (.slice (some ⟨ga1, 0, none⟩) s1.length s1.length) s1.length (s1.flatMap vcC)), (Ka, Ka + 1, fun V : World => V.heap[Ka]? = some (Obj.cells #[.int .i64 C0, .int .i64 C1, .int .i64 C2] 57)), (Va.heap.size, w6.heap.size, fun V : World => V.ownsRow Va.heap.size 41 4 (.slice (some ⟨x0, 0, none⟩) s0.length s0.length) s0.length (s0.flatMap vdC)), (w6.heap.size, w7.heap.size, fun V : World => V.ownsRow w6.heap.size 66 6 (.slice (some ⟨x1, 0, none⟩) s1.length s1.length) s1.length (s1.flatMap vcC)), (Kg, Kg + 1, fun V : World => V.heap[Kg]? = some (Obj.cells #[.int .i64 C0, .int .i64 C1, .int .i64 C2] 57)), (w9.heap.size, w10.heap.size, fun V : World => V.ownsRow w9.heap.size 41 4 (.slice (some ⟨e0, 0, none⟩) s0.length s0.length) s0.length (s0.flatMap vdC))] w11) := Z12.out.next hb
  clear Z12 hb
  go_wp2_with (fail)
  refine (toClassS_any HL1.out (HR1.out.below Z13.out.bl)).mono ?_
  rintro e w12 ⟨e1, rfl, ho, hb⟩
  have Z14 : Hid (LS w [(w2.heap.size, w3.heap.size, fun V : World => V.ownsRow w2.heap.size 41 4 (.slice (some ⟨ga0, 0, none⟩) s0.length s0.length) s0.length (s0.flatMap vdC)), (w3.heap.size, w4.heap.size, fun V : World => V.ownsRow w3.heap.size 66 6 (.slice (some ⟨ga1, 0, none⟩) s1.length s1.length) s1.length (s1.flatMap vcC)), (Ka, Ka + 1, fun V : World => V.heap[Ka]? = some (Obj.cells #[.int .i64 C0, .int .i64 C1, .int .i64 C2] 57)), (Va.heap.size, w6.heap.size, fun V : World => V.ownsRow Va.heap.size 41 4 (.slice (some ⟨x0, 0, none⟩) s0.length s0.length) s0.length (s0.flatMap vdC)), (w6.heap.size, w7.heap.size, fun V : World => V.ownsRow w6.heap.size 66 6 (.slice (some ⟨x1, 0, none⟩) s1.length s1.length) s1.length (s1.flatMap vcC)), (Kg, Kg + 1, fun V : World => V.heap[Kg]? = some (Obj.cells #[.int .i64 C0, .int .i64 C1, .int .i64 C2] 57)), (w9.heap.size, w10.heap.size, fun V : World => V.ownsRow w9.heap.size 41 4 (.slice (some ⟨e0, 0, none⟩) s0.length s0.length) s0.length (s0.flatMap vdC)), (w11.heap.size, w12.heap.size, fun V : World => V.ownsRow w11.heap.size 66 6 (.slice (some ⟨e1, 0, none⟩) s1.length s1.length) s1.length (s1.flatMap vcC))] w12) := Z13.out.push hb (Ow.rowAll ho hb) (Nat.le_refl _)
  clear Z13 hb ho
  go_wp2_with (fail)
  refine (eqClassS_same (by have := HL1.out; omega) (OG.rg (T := 66) (B := w6.heap.size) vcC_len (show w12.ownsRow w6.heap.size 66 6 (.slice (some ⟨x1, 0, none⟩) s1.length s1.length) s1.length (s1.flatMap vcC) from Z14.out.get 4 rfl)) (OG.rg (T := 66) (B := w11.heap.size) vcC_len (show w12.ownsRow w11.heap.size 66 6 (.slice (some ⟨e1, 0, none⟩) s1.length s1.length) s1.length (s1.flatMap vcC) from Z14.out.get 7 rfl))).mono ?_
  rintro e w13 ⟨rfl, hb⟩
  have Z15 : Hid (LS w [(w2.heap.size, w3.heap.size, fun V : World => V.ownsRow w2.heap.size 41 4 (.slice (some ⟨ga0, 0, none⟩) s0.length s0.length) s0.length (s0.flatMap vdC)), (w3.heap.size, w4.heap.size, fun V : World => V.ownsRow w3.heap.size 66 6 (.slice (some ⟨ga1, 0, none⟩) s1.length s1.length) s1.length (s1.flatMap vcC)), (Ka, Ka + 1, fun V : World => V.heap[Ka]? = some (Obj.cells #[.int .i64 C0, .int .i64 C1, .int .i64 C2] 57)), (Va.heap.size, w6.heap.size, fun V : World => V.ownsRow Va.heap.size 41 4 (.slice (some ⟨x0, 0, none⟩) s0.length s0.length) s0.length (s0.flatMap vdC)), (w6.heap.size, w7.heap.size, fun V : World => V.ownsRow w6.heap.size 66 6 (.slice (some ⟨x1, 0, none⟩) s1.length s1.length) s1.length (s1.flatMap vcC)), (Kg, Kg + 1, fun V : World => V.heap[Kg]? = some (Obj.cells #[.int .i64 C0, .int .i64 C1, .int .i64 C2] 57)), (w9.heap.size, w10.heap.size, fun V : World => V.ownsRow w9.heap.size 41 4 (.slice (some ⟨e0, 0, none⟩) s0.length s0.length) s0.length (s0.flatMap vdC)), (w11.heap.size, w12.heap.size, fun V : World => V.ownsRow w11.heap.size 66 6 (.slice (some ⟨e1, 0, none⟩) s1.length s1.length) s1.length (s1.flatMap vcC))] w13) := Z14.out.next hb
  clear Z14 hb
  go_wp2
  go_returns
  exact ⟨rfl, Z15.out.bl⟩

set_option maxRecDepth 100000 in
theorem so15_lifted (os : Os) (started : os.Started) (H : Type) (enc : TypeId × Value → H) :
    ReturnsInHanded {} Try.checked os 7 .any (Rows.fnExactSurviveOfSpec.pre6 enc Try.prog Try.f7 Rows.fnExactSurviveOfRow.domain false) (Rows.fnExactSurviveOfSpec.post enc Try.prog Try.f7 false true false false) := by
  refine returnsInHanded_of_change (C := Try.checked) own started (by kernel_rfl) Try.func7
    (ChangeSpec.witness6 (enc := enc) (C := Try.checked) false ⟨#[], #[.slice none 0 0, .slice none 0 0], []⟩ 8 (by kernel_rfl) (by kernel_rfl) (by kernel_rfl) (by kernel_rfl)) ?_
  intro W base args ds gs before hval0 hW hcnd _
  have hval : ∀ (j : Nat) t v, Try.f7.params[j]? = some t → args[j]? = some v → Value.okWide Try.prog W .any base t v := hval0
  have hW' := hW
  obtain ⟨p, q, hA0, hV, rfl, hfz, hnd⟩ := hW
  have hA : DataW.TrodAll enc Try.prog W 0 (fun _ => true) true Try.f7.params.toList args.toList ds p := hA0
  rw [Try.params7] at hA hval
  obtain ⟨v0, vs0, d0, ds0, p0, q0, hargs, rfl, rfl, h0, r0⟩ := trodAll_cons hA
  obtain ⟨v1, vs1, d1, ds1, p1, q1, rfl, rfl, rfl, h1, r1⟩ := trodAll_cons r0
  obtain ⟨rfl, rfl, rfl⟩ := trodAll_nil r1
  obtain rfl : args = #[v0, v1] := by cases args; simp_all
  obtain ⟨rfl, rfl⟩ := trodVars_none hV
  have k0 := h0
  have lt0 : ∀ x ∈ p0, x.block < W.heap.size := by obtain ⟨m, hm⟩ := k0; exact DataW.trod_lt m _ _ _ hm
  obtain ⟨sa0, sn0, sc0, s0, rfl, rb0, sl0⟩ := defects_open (hval 0 22 v0 rfl rfl) h0
  have k1 := h1
  have lt1 : ∀ x ∈ p1, x.block < W.heap.size := by obtain ⟨m, hm⟩ := k1; exact DataW.trod_lt m _ _ _ hm
  obtain ⟨sa1, sn1, sc1, s1, rfl, rb1, sl1⟩ := classes_open (hval 1 29 v1 rfl rfl) h1
  clear hA0 hval0
  refine (law_so15 s0 sl0 rb0 s1 sl1 rb1).mono fun e W' ⟨he, hg⟩ => ?_
  subst he
  exact ⟨_, rfl, _, _, _, [], _, [], hW', trodAll_mk1 (shut_bool Try.underlying4 _), (trodAll_cons_mk (Below.trod laidOut (by kernel_rfl) (of_decide_eq_true (by kernel_rfl)) k0 hg lt0) (trodAll_cons_mk (Below.trod laidOut (by kernel_rfl) (of_decide_eq_true (by kernel_rfl)) k1 hg lt1) trodAll_mk0)), rfl, hg.frame _, fun h => by cases h⟩

theorem so15_over : Rows.fnExactSurviveOfRow.holds Try.pinned (OpenSpec.ofChange Rows.fnExactSurviveOfSpec) :=
  OpenClaim.holds_of_wide 7 Try.f7 rfl rfl rfl rfl rfl rfl rfl ⟨rfl, rfl, rfl, rfl, rfl⟩ rfl rfl rfl rfl rfl (by kernel_rfl) Try.func7 (by kernel_rfl)
    (of_decide_eq_true (by kernel_rfl)) (by unfold Func.isWrapper; first | (rw [if_pos (by decide +kernel)]; kernel_rfl) | (rw [if_neg (by decide +kernel)]; exact ⟨rfl, rfl⟩))
    (fun os started H enc _ => so15_lifted os started H enc)

theorem so15_proved : Rows.FnExactSurviveOfSaid :=
  so15_over
#print axioms so15_proved

end Go.Proofs.Ytjacmneopijiaaa
