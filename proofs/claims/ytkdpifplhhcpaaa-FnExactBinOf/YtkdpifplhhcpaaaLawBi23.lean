/- Proved here: 'the program's BinOf answers as the model's; it writes into no argument', without a condition. -/
import Derived.Test.YtkdpifplhhcpaaaPlI
import Derived.Test.YtkdpifplhhcpaaaPlS
import Derived.Test.YtkdpifplhhcpaaaPlD
import Derived.Test.YtkdpifplhhcpaaaNlW
import Derived.Test.YtkdpifplhhcpaaaMkSI
import Derived.Test.YtkdpifplhhcpaaaLwS
import Derived.Test.YtkdpifplhhcpaaaRows
namespace Go.Proofs.Ytkdpifplhhcpaaa
open Go.ChangeShapes Go.WideShapes Go.ChangeAt Go.RowKit Go.Joins
set_option linter.unusedVariables false
set_option linter.unusedSimpArgs false

theorem own : ownKnob Try.prog.godebug = none := by kernel_rfl
theorem laidOut : laidOutB Try.prog = true := by kernel_rfl

set_option maxRecDepth 10000 in
set_option maxHeartbeats 25600000 in
theorem law_bi23 {w : World}  {sa0 : Option Addr} {sn0 sc0 : Nat} (s0 : List Int) (hm0 : s0.length ≤ maxLen) (hr0 : RdI w (.slice sa0 sn0 sc0) s0) {sa1 : Option Addr} {sn1 sc1 : Nat} (s1 : List Li) (hm1 : s1.length ≤ maxLen) (hr1 : RG 3 liC w (.slice sa1 sn1 sc1) s1) :
    Calls Try.prog 3 #[.slice sa0 sn0 sc0, .slice sa1 sn1 sc1] w fun e w' => e = .returned (.bool true) ∧ Below w.heap.size w w' := by
  have HM0 : Hid (sn0 ≤ maxLen) := by unfold Hid; rw [hr0.len]; exact hm0
  have HR0 : Hid (RdI w (.slice sa0 sn0 sc0) s0) := hr0
  have HE0 : Hid (sn0 = s0.length) := hr0.len
  have HM1 : Hid (sn1 ≤ maxLen) := by unfold Hid; rw [hr1.len]; exact hm1
  have HR1 : Hid (RG 3 liC w (.slice sa1 sn1 sc1) s1) := hr1
  have HE1 : Hid (sn1 = s1.length) := hr1.len
  clear hm0 hr0 hm1 hr1
  have Z0 : Hid (LS w [] w) := LS.start w
  go_enter Try.func3, Try.ntmps3
  by_cases hf0 : (1048576 : Int) < (sn0 : Int)
  · go_wp2
    go_returns
    exact ⟨rfl, Below.refl _ _⟩
  have HL0 : Hid (s0.length ≤ 1048576) := by unfold Hid; rw [← HE0.out]; omega
  go_wp2_with (fail)
  refine (szLimitS_gen sa1 sn1 sc1 1048576 _ (by omega) (by omega) HM1.out).mono ?_
  rintro e w1 ⟨r1, rfl, hq1, hb⟩
  have Z1 : Hid (LS w [] w1) := Z0.out.next hb
  clear Z0 hb
  rcases hq1 with hneg | ⟨u1, v1, tt1⟩
  · go_wp2
    go_returns
    exact ⟨rfl, Z1.out.bl⟩
  have hl1 : ¬ r1 < 0 := by omega
  have HL1 : Hid (s1.length ≤ 1048576) := by unfold Hid; rw [← HE1.out]; omega
  obtain ⟨C0, hC0⟩ : ∃ X, X = biC s0 s1 := ⟨_, rfl⟩
  obtain ⟨C1, hC1⟩ : ∃ X, X = biV s0 s1 := ⟨_, rfl⟩
  have HSP : Hid (∀ (W : World) (g0 : Nat) (g1 : Nat), (RdI W (.slice (some ⟨g0, 0, none⟩) s0.length s0.length) s0) → (RG 3 liC W (.slice (some ⟨g1, 0, none⟩) s1.length s1.length) s1) → Calls Try.prog 10 #[.slice (some ⟨g0, 0, none⟩) s0.length s0.length, .slice (some ⟨g1, 0, none⟩) s1.length s1.length] W fun e w' => e = .returned (.agg #[.int .i64 C0, .int .i64 C1]) ∧ Below W.heap.size W w') := fun W g0 g1 h0 h1 => by
    rw [hC1, hC0]
    exact spec_bi HL0.out h0 HL1.out h1
  have HIM : Hid (∀ (W : World) (g0 : Nat) (g1 : Nat), (RdI W (.slice (some ⟨g0, 0, none⟩) s0.length s0.length) s0) → (RG 3 liC W (.slice (some ⟨g1, 0, none⟩) s1.length s1.length) s1) → Calls Try.prog 13 #[.slice (some ⟨g0, 0, none⟩) s0.length s0.length, .slice (some ⟨g1, 0, none⟩) s1.length s1.length] W fun e w' => e = .returned (.agg #[.int .i64 C0, .int .i64 C1]) ∧ Below W.heap.size W w') := fun W g0 g1 h0 h1 => by
    rw [hC1, hC0]
    exact impl_bi HL0.out h0 HL1.out h1
  clear hC0 hC1 u1 v1 tt1
  go_wp2_with (fail)
  refine (toInt64S_any HL0.out (HR0.out.below Z1.out.bl)).mono ?_
  rintro e w2 ⟨ga0, rfl, ho, hb⟩
  have Z2 : Hid (LS w [(w1.heap.size, w2.heap.size, fun V : World => V.ownsRow w1.heap.size 2 1 (.slice (some ⟨ga0, 0, none⟩) s0.length s0.length) s0.length (s0.map (Value.int .i64)))] w2) := Z1.out.push hb (Ow.rowAll ho hb) (Nat.le_refl _)
  clear Z1 hb ho
  go_wp2_with (fail)
  refine (toLimitS_any HL1.out (HR1.out.below Z2.out.bl)).mono ?_
  rintro e w3 ⟨ga1, rfl, ho, hb⟩
  have Z3 : Hid (LS w [(w1.heap.size, w2.heap.size, fun V : World => V.ownsRow w1.heap.size 2 1 (.slice (some ⟨ga0, 0, none⟩) s0.length s0.length) s0.length (s0.map (Value.int .i64))), (w2.heap.size, w3.heap.size, fun V : World => V.ownsRow w2.heap.size 62 3 (.slice (some ⟨ga1, 0, none⟩) s1.length s1.length) s1.length (s1.flatMap liC))] w3) := Z2.out.push hb (Ow.rowAll ho hb) (Nat.le_refl _)
  clear Z2 hb ho
  go_wp2_with (fail)
  refine (HSP.out w3 ga0 ga1 (IS.rg (B := w1.heap.size) (show w3.ownsRow w1.heap.size 2 1 (.slice (some ⟨ga0, 0, none⟩) s0.length s0.length) s0.length (s0.map (Value.int .i64)) from Z3.out.get 0 rfl)) (OG.rg (T := 62) (B := w2.heap.size) liC_len (show w3.ownsRow w2.heap.size 62 3 (.slice (some ⟨ga1, 0, none⟩) s1.length s1.length) s1.length (s1.flatMap liC) from Z3.out.get 1 rfl))).mono ?_
  rintro e w4 ⟨rfl, hb⟩
  have Z4 : Hid (LS w [(w1.heap.size, w2.heap.size, fun V : World => V.ownsRow w1.heap.size 2 1 (.slice (some ⟨ga0, 0, none⟩) s0.length s0.length) s0.length (s0.map (Value.int .i64))), (w2.heap.size, w3.heap.size, fun V : World => V.ownsRow w2.heap.size 62 3 (.slice (some ⟨ga1, 0, none⟩) s1.length s1.length) s1.length (s1.flatMap liC))] w4) := Z3.out.next hb
  clear Z3 hb
  have Z5 : Hid (LS w [(w1.heap.size, w2.heap.size, fun V : World => V.ownsRow w1.heap.size 2 1 (.slice (some ⟨ga0, 0, none⟩) s0.length s0.length) s0.length (s0.map (Value.int .i64))), (w2.heap.size, w3.heap.size, fun V : World => V.ownsRow w2.heap.size 62 3 (.slice (some ⟨ga1, 0, none⟩) s1.length s1.length) s1.length (s1.flatMap liC)), (w4.heap.size, w4.heap.size + 1, fun V : World => V.heap[w4.heap.size]? = some (Obj.cells #[.int .i64 C0, .int .i64 C1] 26))] (w4.alloc (Obj.cells #[.int .i64 C0, .int .i64 C1] 26))) := Z4.out.push (by (repeat' (first | (with_reducible exact Below.refl _ _) | (with_reducible assumption) | (with_reducible refine Below.setCell ?_ ?_ _) | (with_reducible refine Below.alloc ?_ ?_ _) | (with_reducible refine below_drewN ?_ _) | (with_reducible refine Below.drew ?_) | (with_reducible exact Nat.le_refl _) | omega | (simp; done) | (simp; omega)))) (Ow.block (heap_alloc_new _ _)) (Nat.le_refl _)
  clear Z4
  go_wp2_with (fail)
  obtain ⟨Va, hV⟩ : ∃ V, V = w4.alloc (Obj.cells #[.int .i64 C0, .int .i64 C1] 26) := ⟨_, rfl⟩
  rw [← hV] at Z5 ⊢
  obtain ⟨Ka, hK⟩ : ∃ K, K = w4.heap.size := ⟨_, rfl⟩
  rw [← hK] at Z5  ⊢
  clear hV hK
  refine (toInt64S_any HL0.out (HR0.out.below Z5.out.bl)).mono ?_
  rintro e w5 ⟨x0, rfl, ho, hb⟩
  have Z6 : Hid (LS w [(w1.heap.size, w2.heap.size, fun V : World => V.ownsRow w1.heap.size 2 1 (.slice (some ⟨ga0, 0, none⟩) s0.length s0.length) s0.length (s0.map (Value.int .i64))), (w2.heap.size, w3.heap.size, fun V : World => V.ownsRow w2.heap.size 62 3 (.slice (some ⟨ga1, 0, none⟩) s1.length s1.length) s1.length (s1.flatMap liC)), (Ka, Ka + 1, fun V : World => V.heap[Ka]? = some (Obj.cells #[.int .i64 C0, .int .i64 C1] 26)), (Va.heap.size, w5.heap.size, fun V : World => V.ownsRow Va.heap.size 2 1 (.slice (some ⟨x0, 0, none⟩) s0.length s0.length) s0.length (s0.map (Value.int .i64)))] w5) := Z5.out.push hb (Ow.rowAll ho hb) (Nat.le_refl _)
  clear Z5 hb ho
  go_wp2_with (fail)
  refine (toLimitS_any HL1.out (HR1.out.below Z6.out.bl)).mono ?_
  rintro e w6 ⟨x1, rfl, ho, hb⟩
  have Z7 : Hid (LS w [(w1.heap.size, w2.heap.size, fun V : World => V.ownsRow w1.heap.size 2 1 (.slice (some ⟨ga0, 0, none⟩) s0.length s0.length) s0.length (s0.map (Value.int .i64))), (w2.heap.size, w3.heap.size, fun V : World => V.ownsRow w2.heap.size 62 3 (.slice (some ⟨ga1, 0, none⟩) s1.length s1.length) s1.length (s1.flatMap liC)), (Ka, Ka + 1, fun V : World => V.heap[Ka]? = some (Obj.cells #[.int .i64 C0, .int .i64 C1] 26)), (Va.heap.size, w5.heap.size, fun V : World => V.ownsRow Va.heap.size 2 1 (.slice (some ⟨x0, 0, none⟩) s0.length s0.length) s0.length (s0.map (Value.int .i64))), (w5.heap.size, w6.heap.size, fun V : World => V.ownsRow w5.heap.size 62 3 (.slice (some ⟨x1, 0, none⟩) s1.length s1.length) s1.length (s1.flatMap liC))] w6) := Z6.out.push hb (Ow.rowAll ho hb) (Nat.le_refl _)
  clear Z6 hb ho
  go_wp2_with (fail)
  refine (HIM.out w6 x0 x1 (IS.rg (B := Va.heap.size) (show w6.ownsRow Va.heap.size 2 1 (.slice (some ⟨x0, 0, none⟩) s0.length s0.length) s0.length (s0.map (Value.int .i64)) from Z7.out.get 3 rfl)) (OG.rg (T := 62) (B := w5.heap.size) liC_len (show w6.ownsRow w5.heap.size 62 3 (.slice (some ⟨x1, 0, none⟩) s1.length s1.length) s1.length (s1.flatMap liC) from Z7.out.get 4 rfl))).mono ?_
  rintro e w7 ⟨rfl, hb⟩
  have Z8 : Hid (LS w [(w1.heap.size, w2.heap.size, fun V : World => V.ownsRow w1.heap.size 2 1 (.slice (some ⟨ga0, 0, none⟩) s0.length s0.length) s0.length (s0.map (Value.int .i64))), (w2.heap.size, w3.heap.size, fun V : World => V.ownsRow w2.heap.size 62 3 (.slice (some ⟨ga1, 0, none⟩) s1.length s1.length) s1.length (s1.flatMap liC)), (Ka, Ka + 1, fun V : World => V.heap[Ka]? = some (Obj.cells #[.int .i64 C0, .int .i64 C1] 26)), (Va.heap.size, w5.heap.size, fun V : World => V.ownsRow Va.heap.size 2 1 (.slice (some ⟨x0, 0, none⟩) s0.length s0.length) s0.length (s0.map (Value.int .i64))), (w5.heap.size, w6.heap.size, fun V : World => V.ownsRow w5.heap.size 62 3 (.slice (some ⟨x1, 0, none⟩) s1.length s1.length) s1.length (s1.flatMap liC))] w7) := Z7.out.next hb
  clear Z7 hb
  have kva := Z8.out.get 2 rfl
  have cva_0 : w7.cell? ⟨Ka, 0, none⟩ = some (.int .i64 C0) := cellOf kva 0 rfl
  have cva_1 : w7.cell? ⟨Ka, 1, none⟩ = some (.int .i64 C1) := cellOf kva 1 rfl
  have lva : Ka < w7.heap.size := ltOf kva
  clear kva
  have Z9 : Hid (LS w [(w1.heap.size, w2.heap.size, fun V : World => V.ownsRow w1.heap.size 2 1 (.slice (some ⟨ga0, 0, none⟩) s0.length s0.length) s0.length (s0.map (Value.int .i64))), (w2.heap.size, w3.heap.size, fun V : World => V.ownsRow w2.heap.size 62 3 (.slice (some ⟨ga1, 0, none⟩) s1.length s1.length) s1.length (s1.flatMap liC)), (Ka, Ka + 1, fun V : World => V.heap[Ka]? = some (Obj.cells #[.int .i64 C0, .int .i64 C1] 26)), (Va.heap.size, w5.heap.size, fun V : World => V.ownsRow Va.heap.size 2 1 (.slice (some ⟨x0, 0, none⟩) s0.length s0.length) s0.length (s0.map (Value.int .i64))), (w5.heap.size, w6.heap.size, fun V : World => V.ownsRow w5.heap.size 62 3 (.slice (some ⟨x1, 0, none⟩) s1.length s1.length) s1.length (s1.flatMap liC)), (w7.heap.size, w7.heap.size + 1, fun V : World => V.heap[w7.heap.size]? = some (Obj.cells #[.int .i64 C0, .int .i64 C1] 26))] (w7.alloc (Obj.cells #[.int .i64 C0, .int .i64 C1] 26))) := Z8.out.push (by (repeat' (first | (with_reducible exact Below.refl _ _) | (with_reducible assumption) | (with_reducible refine Below.setCell ?_ ?_ _) | (with_reducible refine Below.alloc ?_ ?_ _) | (with_reducible refine below_drewN ?_ _) | (with_reducible refine Below.drew ?_) | (with_reducible exact Nat.le_refl _) | omega | (simp; done) | (simp; omega)))) (Ow.block (heap_alloc_new _ _)) (Nat.le_refl _)
  clear Z8
  go_wp2_with (fail)
  obtain ⟨Vg, hV⟩ : ∃ V, V = w7.alloc (Obj.cells #[.int .i64 C0, .int .i64 C1] 26) := ⟨_, rfl⟩
  rw [← hV] at Z9 ⊢
  obtain ⟨Kg, hK⟩ : ∃ K, K = w7.heap.size := ⟨_, rfl⟩
  rw [← hK] at Z9  ⊢
  clear hV hK
  clear cva_0 cva_1 lva
  refine (eqShapeInt_to C0 C1 _).mono ?_
  rintro e w8 ⟨rfl, hb⟩
  have Z10 : Hid (LS w [(w1.heap.size, w2.heap.size, fun V : World => V.ownsRow w1.heap.size 2 1 (.slice (some ⟨ga0, 0, none⟩) s0.length s0.length) s0.length (s0.map (Value.int .i64))), (w2.heap.size, w3.heap.size, fun V : World => V.ownsRow w2.heap.size 62 3 (.slice (some ⟨ga1, 0, none⟩) s1.length s1.length) s1.length (s1.flatMap liC)), (Ka, Ka + 1, fun V : World => V.heap[Ka]? = some (Obj.cells #[.int .i64 C0, .int .i64 C1] 26)), (Va.heap.size, w5.heap.size, fun V : World => V.ownsRow Va.heap.size 2 1 (.slice (some ⟨x0, 0, none⟩) s0.length s0.length) s0.length (s0.map (Value.int .i64))), (w5.heap.size, w6.heap.size, fun V : World => V.ownsRow w5.heap.size 62 3 (.slice (some ⟨x1, 0, none⟩) s1.length s1.length) s1.length (s1.flatMap liC)), (Kg, Kg + 1, fun V : World => V.heap[Kg]? = some (Obj.cells #[.int .i64 C0, .int .i64 C1] 26))] w8) := Z9.out.next hb
  clear Z9 hb
  go_wp2_with (fail)
  refine (toInt64S_any HL0.out (HR0.out.below Z10.out.bl)).mono ?_
  rintro e w9 ⟨e0, rfl, ho, hb⟩
  have Z11 : Hid (LS w [(w1.heap.size, w2.heap.size, fun V : World => V.ownsRow w1.heap.size 2 1 (.slice (some ⟨ga0, 0, none⟩) s0.length s0.length) s0.length (s0.map (Value.int .i64))), (w2.heap.size, w3.heap.size, fun V : World => V.ownsRow w2.heap.size 62 3 (.slice (some ⟨ga1, 0, none⟩) s1.length s1.length) s1.length (s1.flatMap liC)), (Ka, Ka + 1, fun V : World => V.heap[Ka]? = some (Obj.cells #[.int .i64 C0, .int .i64 C1] 26)), (Va.heap.size, w5.heap.size, fun V : World => V.ownsRow Va.heap.size 2 1 (.slice (some ⟨x0, 0, none⟩) s0.length s0.length) s0.length (s0.map (Value.int .i64))), (w5.heap.size, w6.heap.size, fun V : World => V.ownsRow w5.heap.size 62 3 (.slice (some ⟨x1, 0, none⟩) s1.length s1.length) s1.length (s1.flatMap liC)), (Kg, Kg + 1, fun V : World => V.heap[Kg]? = some (Obj.cells #[.int .i64 C0, .int .i64 C1] 26)), (w8.heap.size, w9.heap.size, fun V : World => V.ownsRow w8.heap.size 2 1 (.slice (some ⟨e0, 0, none⟩) s0.length s0.length) s0.length (s0.map (Value.int .i64)))] w9) := Z10.out.push hb (Ow.rowAll ho hb) (Nat.le_refl _)
  clear Z10 hb ho
  go_wp2_with (fail)
  refine (eqInt64S_same (by have := HL0.out; omega) (IS.rg (B := Va.heap.size) (show w9.ownsRow Va.heap.size 2 1 (.slice (some ⟨x0, 0, none⟩) s0.length s0.length) s0.length (s0.map (Value.int .i64)) from Z11.out.get 3 rfl)) (IS.rg (B := w8.heap.size) (show w9.ownsRow w8.heap.size 2 1 (.slice (some ⟨e0, 0, none⟩) s0.length s0.length) s0.length (s0.map (Value.int .i64)) from Z11.out.get 6 rfl))).mono ?_
  rintro e w10 ⟨rfl, hb⟩
  have Z12 : Hid (LS w [(w1.heap.size, w2.heap.size, fun V : World => V.ownsRow w1.heap.size 2 1 (.slice (some ⟨ga0, 0, none⟩) s0.length s0.length) s0.length (s0.map (Value.int .i64))), (w2.heap.size, w3.heap.size, fun V : World => V.ownsRow w2.heap.size 62 3 (.slice (some ⟨ga1, 0, none⟩) s1.length s1.length) s1.length (s1.flatMap liC)), (Ka, Ka + 1, fun V : World => V.heap[Ka]? = some (Obj.cells #[.int .i64 C0, .int .i64 C1] 26)), (Va.heap.size, w5.heap.size, fun V : World => V.ownsRow Va.heap.size 2 1 (.slice (some ⟨x0, 0, none⟩) s0.length s0.length) s0.length (s0.map (Value.int .i64))), (w5.heap.size, w6.heap.size, fun V : World => V.ownsRow w5.heap.size 62 3 (.slice (some ⟨x1, 0, none⟩) s1.length s1.length) s1.length (s1.flatMap liC)), (Kg, Kg + 1, fun V : World => V.heap[Kg]? = some (Obj.cells #[.int .i64 C0, .int .i64 C1] 26)), (w8.heap.size, w9.heap.size, fun V : World => V.ownsRow w8.heap.size 2 1 (.slice (some ⟨e0, 0, none⟩) s0.length s0.length) s0.length (s0.map (Value.int .i64)))] w10) := Z11.out.next hb
  clear Z11 hb
  go_wp2_with (fail)
  refine (toLimitS_any HL1.out (HR1.out.below Z12.out.bl)).mono ?_
  rintro e w11 ⟨e1, rfl, ho, hb⟩
  have Z13 : Hid (LS w [(w1.heap.size, w2.heap.size, fun V : World => V.ownsRow w1.heap.size 2 1 (.slice (some ⟨ga0, 0, none⟩) s0.length s0.length) s0.length (s0.map (Value.int .i64))), (w2.heap.size, w3.heap.size, fun V : World => V.ownsRow w2.heap.size 62 3 (.slice (some ⟨ga1, 0, none⟩) s1.length s1.length) s1.length (s1.flatMap liC)), (Ka, Ka + 1, fun V : World => V.heap[Ka]? = some (Obj.cells #[.int .i64 C0, .int .i64 C1] 26)), (Va.heap.size, w5.heap.size, fun V : World => V.ownsRow Va.heap.size 2 1 (.slice (some ⟨x0, 0, none⟩) s0.length s0.length) s0.length (s0.map (Value.int .i64))), (w5.heap.size, w6.heap.size, fun V : World => V.ownsRow w5.heap.size 62 3 (.slice (some ⟨x1, 0, none⟩) s1.length s1.length) s1.length (s1.flatMap liC)), (Kg, Kg + 1, fun V : World => V.heap[Kg]? = some (Obj.cells #[.int .i64 C0, .int .i64 C1] 26)), (w8.heap.size, w9.heap.size, fun V : World => V.ownsRow w8.heap.size 2 1 (.slice (some ⟨e0, 0, none⟩) s0.length s0.length) s0.length (s0.map (Value.int .i64))), (w10.heap.size, w11.heap.size, fun V : World => V.ownsRow w10.heap.size 62 3 (.slice (some ⟨e1, 0, none⟩) s1.length s1.length) s1.length (s1.flatMap liC))] w11) := Z12.out.push hb (Ow.rowAll ho hb) (Nat.le_refl _)
  clear Z12 hb ho
  go_wp2_with (fail)
  refine (eqLimitS_same (by have := HL1.out; omega) (OG.rg (T := 62) (B := w5.heap.size) liC_len (show w11.ownsRow w5.heap.size 62 3 (.slice (some ⟨x1, 0, none⟩) s1.length s1.length) s1.length (s1.flatMap liC) from Z13.out.get 4 rfl)) (OG.rg (T := 62) (B := w10.heap.size) liC_len (show w11.ownsRow w10.heap.size 62 3 (.slice (some ⟨e1, 0, none⟩) s1.length s1.length) s1.length (s1.flatMap liC) from Z13.out.get 7 rfl))).mono ?_
  rintro e w12 ⟨rfl, hb⟩
  have Z14 : Hid (LS w [(w1.heap.size, w2.heap.size, fun V : World => V.ownsRow w1.heap.size 2 1 (.slice (some ⟨ga0, 0, none⟩) s0.length s0.length) s0.length (s0.map (Value.int .i64))), (w2.heap.size, w3.heap.size, fun V : World => V.ownsRow w2.heap.size 62 3 (.slice (some ⟨ga1, 0, none⟩) s1.length s1.length) s1.length (s1.flatMap liC)), (Ka, Ka + 1, fun V : World => V.heap[Ka]? = some (Obj.cells #[.int .i64 C0, .int .i64 C1] 26)), (Va.heap.size, w5.heap.size, fun V : World => V.ownsRow Va.heap.size 2 1 (.slice (some ⟨x0, 0, none⟩) s0.length s0.length) s0.length (s0.map (Value.int .i64))), (w5.heap.size, w6.heap.size, fun V : World => V.ownsRow w5.heap.size 62 3 (.slice (some ⟨x1, 0, none⟩) s1.length s1.length) s1.length (s1.flatMap liC)), (Kg, Kg + 1, fun V : World => V.heap[Kg]? = some (Obj.cells #[.int .i64 C0, .int .i64 C1] 26)), (w8.heap.size, w9.heap.size, fun V : World => V.ownsRow w8.heap.size 2 1 (.slice (some ⟨e0, 0, none⟩) s0.length s0.length) s0.length (s0.map (Value.int .i64))), (w10.heap.size, w11.heap.size, fun V : World => V.ownsRow w10.heap.size 62 3 (.slice (some ⟨e1, 0, none⟩) s1.length s1.length) s1.length (s1.flatMap liC))] w12) := Z13.out.next hb
  clear Z13 hb
  go_wp2
  go_returns
  exact ⟨rfl, Z14.out.bl⟩

set_option maxRecDepth 100000 in
theorem bi23_lifted (os : Os) (started : os.Started) (H : Type) (enc : TypeId × Value → H) :
    ReturnsInHanded {} Try.checked os 3 .any (Rows.fnExactBinOfSpec.pre6 enc Try.prog Try.f3 Rows.fnExactBinOfRow.domain false) (Rows.fnExactBinOfSpec.post enc Try.prog Try.f3 false true false false) := by
  refine returnsInHanded_of_change (C := Try.checked) own started (by kernel_rfl) Try.func3
    (ChangeSpec.witness6 (enc := enc) (C := Try.checked) false ⟨#[], #[.slice none 0 0, .slice none 0 0], []⟩ 8 (by kernel_rfl) (by kernel_rfl) (by kernel_rfl) (by kernel_rfl)) ?_
  intro W base args ds gs before hval0 hW hcnd _
  have hval : ∀ (j : Nat) t v, Try.f3.params[j]? = some t → args[j]? = some v → Value.okWide Try.prog W .any base t v := hval0
  have hW' := hW
  obtain ⟨p, q, hA0, hV, rfl, hfz, hnd⟩ := hW
  have hA : DataW.TrodAll enc Try.prog W 0 (fun _ => true) true Try.f3.params.toList args.toList ds p := hA0
  rw [Try.params3] at hA hval
  obtain ⟨v0, vs0, d0, ds0, p0, q0, hargs, rfl, rfl, h0, r0⟩ := trodAll_cons hA
  obtain ⟨v1, vs1, d1, ds1, p1, q1, rfl, rfl, rfl, h1, r1⟩ := trodAll_cons r0
  obtain ⟨rfl, rfl, rfl⟩ := trodAll_nil r1
  obtain rfl : args = #[v0, v1] := by cases args; simp_all
  obtain ⟨rfl, rfl⟩ := trodVars_none hV
  have k0 := h0
  have lt0 : ∀ x ∈ p0, x.block < W.heap.size := by obtain ⟨m, hm⟩ := k0; exact DataW.trod_lt m _ _ _ hm
  obtain ⟨sa0, sn0, sc0, s0, rfl, ri0, sl0⟩ := ints_open (hval 0 22 v0 rfl rfl) h0
  have k1 := h1
  have lt1 : ∀ x ∈ p1, x.block < W.heap.size := by obtain ⟨m, hm⟩ := k1; exact DataW.trod_lt m _ _ _ hm
  obtain ⟨sa1, sn1, sc1, s1, rfl, rb1, sl1⟩ := limits_open (hval 1 23 v1 rfl rfl) h1
  clear hA0 hval0
  refine (law_bi23 s0 sl0 ri0 s1 sl1 rb1).mono fun e W' ⟨he, hg⟩ => ?_
  subst he
  exact ⟨_, rfl, _, _, _, [], _, [], hW', trodAll_mk1 (shut_bool Try.underlying4 _), (trodAll_cons_mk (Below.trod laidOut (by kernel_rfl) (of_decide_eq_true (by kernel_rfl)) k0 hg lt0) (trodAll_cons_mk (Below.trod laidOut (by kernel_rfl) (of_decide_eq_true (by kernel_rfl)) k1 hg lt1) trodAll_mk0)), rfl, hg.frame _, fun h => by cases h⟩

theorem bi23_over : Rows.fnExactBinOfRow.holds Try.pinned (OpenSpec.ofChange Rows.fnExactBinOfSpec) :=
  OpenClaim.holds_of_wide 3 Try.f3 rfl rfl rfl rfl rfl rfl rfl ⟨rfl, rfl, rfl, rfl, rfl⟩ rfl rfl rfl rfl rfl (by kernel_rfl) Try.func3 (by kernel_rfl)
    (of_decide_eq_true (by kernel_rfl)) (by unfold Func.isWrapper; first | (rw [if_pos (by decide +kernel)]; kernel_rfl) | (rw [if_neg (by decide +kernel)]; exact ⟨rfl, rfl⟩))
    (fun os started H enc _ => bi23_lifted os started H enc)

theorem bi23_proved : Rows.FnExactBinOfSaid :=
  bi23_over
#print axioms bi23_proved

end Go.Proofs.Ytkdpifplhhcpaaa
