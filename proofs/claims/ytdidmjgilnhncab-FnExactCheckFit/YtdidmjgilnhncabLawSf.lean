/- Proved here: 'the program's ShiftOf answers as the model's; it writes into no argument', without a condition. -/
import Derived.Test.YtdidmjgilnhncabSfI
import Derived.Test.YtdidmjgilnhncabSfS
import Derived.Test.YtdidmjgilnhncabNlQ
import Derived.Test.YtdidmjgilnhncabMkSI
import Derived.Test.YtdidmjgilnhncabLwS
import Derived.Test.YtdidmjgilnhncabRows
namespace Go.Proofs.Ytdidmjgilnhncab
open Go.ChangeShapes Go.WideShapes Go.ChangeAt Go.RowKit Go.Joins
set_option linter.unusedVariables false
set_option linter.unusedSimpArgs false

theorem own : ownKnob Try.prog.godebug = none := by kernel_rfl
theorem laidOut : laidOutB Try.prog = true := by kernel_rfl

set_option maxRecDepth 10000 in
set_option maxHeartbeats 25600000 in
theorem law_sf11 {w : World} {sa0 : Option Addr} {sn0 sc0 : Nat} (s0 : List Int) (hm0 : s0.length ≤ maxLen) (hr0 : RdI w (.slice sa0 sn0 sc0) s0) {sa1 : Option Addr} {sn1 sc1 : Nat} (s1 : List Int) (hm1 : s1.length ≤ maxLen) (hr1 : RdI w (.slice sa1 sn1 sc1) s1) (n2 : Int) :
    Calls Try.prog 6 #[.slice sa0 sn0 sc0, .slice sa1 sn1 sc1, .int .i64 n2] w fun e w' => e = .returned (.bool true) ∧ Below w.heap.size w w' := by
  have HM0 : Hid (sn0 ≤ maxLen) := by unfold Hid; rw [hr0.len]; exact hm0
  have HR0 : Hid (RdI w (.slice sa0 sn0 sc0) s0) := hr0
  have HE0 : Hid (sn0 = s0.length) := hr0.len
  have HM1 : Hid (sn1 ≤ maxLen) := by unfold Hid; rw [hr1.len]; exact hm1
  have HR1 : Hid (RdI w (.slice sa1 sn1 sc1) s1) := hr1
  have HE1 : Hid (sn1 = s1.length) := hr1.len
  clear hm0 hr0 hm1 hr1
  have Z0 : Hid (LS w [] w) := LS.start w
  go_enter Try.func6, Try.ntmps6
  by_cases hf0 : (1048576 : Int) < (sn0 : Int)
  · go_wp2
    go_returns
    exact ⟨rfl, Below.refl _ _⟩
  have HL0 : Hid (s0.length ≤ 1048576) := by unfold Hid; rw [← HE0.out]; omega
  by_cases hf1 : (1048576 : Int) < (sn1 : Int)
  · go_wp2
    go_returns
    exact ⟨rfl, Below.refl _ _⟩
  have HL1 : Hid (s1.length ≤ 1048576) := by unfold Hid; rw [← HE1.out]; omega
  obtain ⟨C0, hC0⟩ : ∃ X, X = shC s0 s1 n2 := ⟨_, rfl⟩
  obtain ⟨C1, hC1⟩ : ∃ X, X = shV s0 s1 n2 := ⟨_, rfl⟩
  have HSP : Hid (∀ (W : World) (g0 : Nat) (g1 : Nat), (RdI W (.slice (some ⟨g0, 0, none⟩) s0.length s0.length) s0) → (RdI W (.slice (some ⟨g1, 0, none⟩) s1.length s1.length) s1) → Calls Try.prog 29 #[.slice (some ⟨g0, 0, none⟩) s0.length s0.length, .slice (some ⟨g1, 0, none⟩) s1.length s1.length, .int .i64 n2] W fun e w' => e = .returned (.agg #[.int .i64 C0, .int .i64 C1]) ∧ Below W.heap.size W w') := fun W g0 g1 h0 h1 => by
    rw [hC1, hC0]
    exact spec_shV n2 HL0.out HL1.out h0 h1
  have HIM : Hid (∀ (W : World) (g0 : Nat) (g1 : Nat), (RdI W (.slice (some ⟨g0, 0, none⟩) s0.length s0.length) s0) → (RdI W (.slice (some ⟨g1, 0, none⟩) s1.length s1.length) s1) → Calls Try.prog 31 #[.slice (some ⟨g0, 0, none⟩) s0.length s0.length, .slice (some ⟨g1, 0, none⟩) s1.length s1.length, .int .i64 n2] W fun e w' => e = .returned (.agg #[.int .i64 C0, .int .i64 C1]) ∧ Below W.heap.size W w') := fun W g0 g1 h0 h1 => by
    rw [hC1, hC0]
    exact impl_shV n2 HL0.out HL1.out h0 h1
  clear hC0 hC1 
  go_wp2_with (fail)
  refine (toInt64S_any HL0.out (HR0.out.below Z0.out.bl)).mono ?_
  rintro e w1 ⟨ga0, rfl, ho, hb⟩
  have Z1 : Hid (LS w [(w.heap.size, w1.heap.size, fun V : World => V.ownsRow w.heap.size 2 1 (.slice (some ⟨ga0, 0, none⟩) s0.length s0.length) s0.length (s0.map (Value.int .i64)))] w1) := Z0.out.push hb (Ow.rowAll ho hb) (Nat.le_refl _)
  clear Z0 hb ho
  go_wp2_with (fail)
  refine (toInt64S_any HL1.out (HR1.out.below Z1.out.bl)).mono ?_
  rintro e w2 ⟨ga1, rfl, ho, hb⟩
  have Z2 : Hid (LS w [(w.heap.size, w1.heap.size, fun V : World => V.ownsRow w.heap.size 2 1 (.slice (some ⟨ga0, 0, none⟩) s0.length s0.length) s0.length (s0.map (Value.int .i64))), (w1.heap.size, w2.heap.size, fun V : World => V.ownsRow w1.heap.size 2 1 (.slice (some ⟨ga1, 0, none⟩) s1.length s1.length) s1.length (s1.map (Value.int .i64)))] w2) := Z1.out.push hb (Ow.rowAll ho hb) (Nat.le_refl _)
  clear Z1 hb ho
  go_wp2_with (fail)
  refine (HSP.out w2 ga0 ga1 (IS.rg (B := w.heap.size) (show w2.ownsRow w.heap.size 2 1 (.slice (some ⟨ga0, 0, none⟩) s0.length s0.length) s0.length (s0.map (Value.int .i64)) from Z2.out.get 0 rfl)) (IS.rg (B := w1.heap.size) (show w2.ownsRow w1.heap.size 2 1 (.slice (some ⟨ga1, 0, none⟩) s1.length s1.length) s1.length (s1.map (Value.int .i64)) from Z2.out.get 1 rfl))).mono ?_
  rintro e w3 ⟨rfl, hb⟩
  have Z3 : Hid (LS w [(w.heap.size, w1.heap.size, fun V : World => V.ownsRow w.heap.size 2 1 (.slice (some ⟨ga0, 0, none⟩) s0.length s0.length) s0.length (s0.map (Value.int .i64))), (w1.heap.size, w2.heap.size, fun V : World => V.ownsRow w1.heap.size 2 1 (.slice (some ⟨ga1, 0, none⟩) s1.length s1.length) s1.length (s1.map (Value.int .i64)))] w3) := Z2.out.next hb
  clear Z2 hb
  have Z4 : Hid (LS w [(w.heap.size, w1.heap.size, fun V : World => V.ownsRow w.heap.size 2 1 (.slice (some ⟨ga0, 0, none⟩) s0.length s0.length) s0.length (s0.map (Value.int .i64))), (w1.heap.size, w2.heap.size, fun V : World => V.ownsRow w1.heap.size 2 1 (.slice (some ⟨ga1, 0, none⟩) s1.length s1.length) s1.length (s1.map (Value.int .i64))), (w3.heap.size, w3.heap.size + 1, fun V : World => V.heap[w3.heap.size]? = some (Obj.cells #[.int .i64 C0, .int .i64 C1] 61))] (w3.alloc (Obj.cells #[.int .i64 C0, .int .i64 C1] 61))) := Z3.out.push (by (repeat' (first | (with_reducible exact Below.refl _ _) | (with_reducible assumption) | (with_reducible refine Below.setCell ?_ ?_ _) | (with_reducible refine Below.alloc ?_ ?_ _) | (with_reducible refine below_drewN ?_ _) | (with_reducible refine Below.drew ?_) | (with_reducible exact Nat.le_refl _) | omega | (simp; done) | (simp; omega)))) (Ow.block (heap_alloc_new _ _)) (Nat.le_refl _)
  clear Z3
  go_wp2_with (fail)
  obtain ⟨Va, hV⟩ : ∃ V, V = w3.alloc (Obj.cells #[.int .i64 C0, .int .i64 C1] 61) := ⟨_, rfl⟩
  rw [← hV] at Z4 ⊢
  obtain ⟨Ka, hK⟩ : ∃ K, K = w3.heap.size := ⟨_, rfl⟩
  rw [← hK] at Z4  ⊢
  clear hV hK
  refine (toInt64S_any HL0.out (HR0.out.below Z4.out.bl)).mono ?_
  rintro e w4 ⟨x0, rfl, ho, hb⟩
  have Z5 : Hid (LS w [(w.heap.size, w1.heap.size, fun V : World => V.ownsRow w.heap.size 2 1 (.slice (some ⟨ga0, 0, none⟩) s0.length s0.length) s0.length (s0.map (Value.int .i64))), (w1.heap.size, w2.heap.size, fun V : World => V.ownsRow w1.heap.size 2 1 (.slice (some ⟨ga1, 0, none⟩) s1.length s1.length) s1.length (s1.map (Value.int .i64))), (Ka, Ka + 1, fun V : World => V.heap[Ka]? = some (Obj.cells #[.int .i64 C0, .int .i64 C1] 61)), (Va.heap.size, w4.heap.size, fun V : World => V.ownsRow Va.heap.size 2 1 (.slice (some ⟨x0, 0, none⟩) s0.length s0.length) s0.length (s0.map (Value.int .i64)))] w4) := Z4.out.push hb (Ow.rowAll ho hb) (Nat.le_refl _)
  clear Z4 hb ho
  go_wp2_with (fail)
  refine (toInt64S_any HL1.out (HR1.out.below Z5.out.bl)).mono ?_
  rintro e w5 ⟨x1, rfl, ho, hb⟩
  have Z6 : Hid (LS w [(w.heap.size, w1.heap.size, fun V : World => V.ownsRow w.heap.size 2 1 (.slice (some ⟨ga0, 0, none⟩) s0.length s0.length) s0.length (s0.map (Value.int .i64))), (w1.heap.size, w2.heap.size, fun V : World => V.ownsRow w1.heap.size 2 1 (.slice (some ⟨ga1, 0, none⟩) s1.length s1.length) s1.length (s1.map (Value.int .i64))), (Ka, Ka + 1, fun V : World => V.heap[Ka]? = some (Obj.cells #[.int .i64 C0, .int .i64 C1] 61)), (Va.heap.size, w4.heap.size, fun V : World => V.ownsRow Va.heap.size 2 1 (.slice (some ⟨x0, 0, none⟩) s0.length s0.length) s0.length (s0.map (Value.int .i64))), (w4.heap.size, w5.heap.size, fun V : World => V.ownsRow w4.heap.size 2 1 (.slice (some ⟨x1, 0, none⟩) s1.length s1.length) s1.length (s1.map (Value.int .i64)))] w5) := Z5.out.push hb (Ow.rowAll ho hb) (Nat.le_refl _)
  clear Z5 hb ho
  go_wp2_with (fail)
  refine (HIM.out w5 x0 x1 (IS.rg (B := Va.heap.size) (show w5.ownsRow Va.heap.size 2 1 (.slice (some ⟨x0, 0, none⟩) s0.length s0.length) s0.length (s0.map (Value.int .i64)) from Z6.out.get 3 rfl)) (IS.rg (B := w4.heap.size) (show w5.ownsRow w4.heap.size 2 1 (.slice (some ⟨x1, 0, none⟩) s1.length s1.length) s1.length (s1.map (Value.int .i64)) from Z6.out.get 4 rfl))).mono ?_
  rintro e w6 ⟨rfl, hb⟩
  have Z7 : Hid (LS w [(w.heap.size, w1.heap.size, fun V : World => V.ownsRow w.heap.size 2 1 (.slice (some ⟨ga0, 0, none⟩) s0.length s0.length) s0.length (s0.map (Value.int .i64))), (w1.heap.size, w2.heap.size, fun V : World => V.ownsRow w1.heap.size 2 1 (.slice (some ⟨ga1, 0, none⟩) s1.length s1.length) s1.length (s1.map (Value.int .i64))), (Ka, Ka + 1, fun V : World => V.heap[Ka]? = some (Obj.cells #[.int .i64 C0, .int .i64 C1] 61)), (Va.heap.size, w4.heap.size, fun V : World => V.ownsRow Va.heap.size 2 1 (.slice (some ⟨x0, 0, none⟩) s0.length s0.length) s0.length (s0.map (Value.int .i64))), (w4.heap.size, w5.heap.size, fun V : World => V.ownsRow w4.heap.size 2 1 (.slice (some ⟨x1, 0, none⟩) s1.length s1.length) s1.length (s1.map (Value.int .i64)))] w6) := Z6.out.next hb
  clear Z6 hb
  have kva := Z7.out.get 2 rfl
  have cva_0 : w6.cell? ⟨Ka, 0, none⟩ = some (.int .i64 C0) := cellOf kva 0 rfl
  have cva_1 : w6.cell? ⟨Ka, 1, none⟩ = some (.int .i64 C1) := cellOf kva 1 rfl
  have lva : Ka < w6.heap.size := ltOf kva
  clear kva
  have Z8 : Hid (LS w [(w.heap.size, w1.heap.size, fun V : World => V.ownsRow w.heap.size 2 1 (.slice (some ⟨ga0, 0, none⟩) s0.length s0.length) s0.length (s0.map (Value.int .i64))), (w1.heap.size, w2.heap.size, fun V : World => V.ownsRow w1.heap.size 2 1 (.slice (some ⟨ga1, 0, none⟩) s1.length s1.length) s1.length (s1.map (Value.int .i64))), (Ka, Ka + 1, fun V : World => V.heap[Ka]? = some (Obj.cells #[.int .i64 C0, .int .i64 C1] 61)), (Va.heap.size, w4.heap.size, fun V : World => V.ownsRow Va.heap.size 2 1 (.slice (some ⟨x0, 0, none⟩) s0.length s0.length) s0.length (s0.map (Value.int .i64))), (w4.heap.size, w5.heap.size, fun V : World => V.ownsRow w4.heap.size 2 1 (.slice (some ⟨x1, 0, none⟩) s1.length s1.length) s1.length (s1.map (Value.int .i64))), (w6.heap.size, w6.heap.size + 1, fun V : World => V.heap[w6.heap.size]? = some (Obj.cells #[.int .i64 C0, .int .i64 C1] 61))] (w6.alloc (Obj.cells #[.int .i64 C0, .int .i64 C1] 61))) := Z7.out.push (by (repeat' (first | (with_reducible exact Below.refl _ _) | (with_reducible assumption) | (with_reducible refine Below.setCell ?_ ?_ _) | (with_reducible refine Below.alloc ?_ ?_ _) | (with_reducible refine below_drewN ?_ _) | (with_reducible refine Below.drew ?_) | (with_reducible exact Nat.le_refl _) | omega | (simp; done) | (simp; omega)))) (Ow.block (heap_alloc_new _ _)) (Nat.le_refl _)
  clear Z7
  go_wp2_with (fail)
  obtain ⟨Vg, hV⟩ : ∃ V, V = w6.alloc (Obj.cells #[.int .i64 C0, .int .i64 C1] 61) := ⟨_, rfl⟩
  rw [← hV] at Z8 ⊢
  obtain ⟨Kg, hK⟩ : ∃ K, K = w6.heap.size := ⟨_, rfl⟩
  rw [← hK] at Z8  ⊢
  clear hV hK
  clear cva_0 cva_1 lva
  refine (eqShapeInt_to C0 C1 _).mono ?_
  rintro e w7 ⟨rfl, hb⟩
  have Z9 : Hid (LS w [(w.heap.size, w1.heap.size, fun V : World => V.ownsRow w.heap.size 2 1 (.slice (some ⟨ga0, 0, none⟩) s0.length s0.length) s0.length (s0.map (Value.int .i64))), (w1.heap.size, w2.heap.size, fun V : World => V.ownsRow w1.heap.size 2 1 (.slice (some ⟨ga1, 0, none⟩) s1.length s1.length) s1.length (s1.map (Value.int .i64))), (Ka, Ka + 1, fun V : World => V.heap[Ka]? = some (Obj.cells #[.int .i64 C0, .int .i64 C1] 61)), (Va.heap.size, w4.heap.size, fun V : World => V.ownsRow Va.heap.size 2 1 (.slice (some ⟨x0, 0, none⟩) s0.length s0.length) s0.length (s0.map (Value.int .i64))), (w4.heap.size, w5.heap.size, fun V : World => V.ownsRow w4.heap.size 2 1 (.slice (some ⟨x1, 0, none⟩) s1.length s1.length) s1.length (s1.map (Value.int .i64))), (Kg, Kg + 1, fun V : World => V.heap[Kg]? = some (Obj.cells #[.int .i64 C0, .int .i64 C1] 61))] w7) := Z8.out.next hb
  clear Z8 hb
  go_wp2_with (fail)
  refine (toInt64S_any HL0.out (HR0.out.below Z9.out.bl)).mono ?_
  rintro e w8 ⟨e0, rfl, ho, hb⟩
  have Z10 : Hid (LS w [(w.heap.size, w1.heap.size, fun V : World => V.ownsRow w.heap.size 2 1 (.slice (some ⟨ga0, 0, none⟩) s0.length s0.length) s0.length (s0.map (Value.int .i64))), (w1.heap.size, w2.heap.size, fun V : World => V.ownsRow w1.heap.size 2 1 (.slice (some ⟨ga1, 0, none⟩) s1.length s1.length) s1.length (s1.map (Value.int .i64))), (Ka, Ka + 1, fun V : World => V.heap[Ka]? = some (Obj.cells #[.int .i64 C0, .int .i64 C1] 61)), (Va.heap.size, w4.heap.size, fun V : World => V.ownsRow Va.heap.size 2 1 (.slice (some ⟨x0, 0, none⟩) s0.length s0.length) s0.length (s0.map (Value.int .i64))), (w4.heap.size, w5.heap.size, fun V : World => V.ownsRow w4.heap.size 2 1 (.slice (some ⟨x1, 0, none⟩) s1.length s1.length) s1.length (s1.map (Value.int .i64))), (Kg, Kg + 1, fun V : World => V.heap[Kg]? = some (Obj.cells #[.int .i64 C0, .int .i64 C1] 61)), (w7.heap.size, w8.heap.size, fun V : World => V.ownsRow w7.heap.size 2 1 (.slice (some ⟨e0, 0, none⟩) s0.length s0.length) s0.length (s0.map (Value.int .i64)))] w8) := Z9.out.push hb (Ow.rowAll ho hb) (Nat.le_refl _)
  clear Z9 hb ho
  go_wp2_with (fail)
  refine (eqInt64S_same (by have := HL0.out; omega) (IS.rg (B := Va.heap.size) (show w8.ownsRow Va.heap.size 2 1 (.slice (some ⟨x0, 0, none⟩) s0.length s0.length) s0.length (s0.map (Value.int .i64)) from Z10.out.get 3 rfl)) (IS.rg (B := w7.heap.size) (show w8.ownsRow w7.heap.size 2 1 (.slice (some ⟨e0, 0, none⟩) s0.length s0.length) s0.length (s0.map (Value.int .i64)) from Z10.out.get 6 rfl))).mono ?_
  rintro e w9 ⟨rfl, hb⟩
  have Z11 : Hid (LS w [(w.heap.size, w1.heap.size, fun V : World => V.ownsRow w.heap.size 2 1 (.slice (some ⟨ga0, 0, none⟩) s0.length s0.length) s0.length (s0.map (Value.int .i64))), (w1.heap.size, w2.heap.size, fun V : World => V.ownsRow w1.heap.size 2 1 (.slice (some ⟨ga1, 0, none⟩) s1.length s1.length) s1.length (s1.map (Value.int .i64))), (Ka, Ka + 1, fun V : World => V.heap[Ka]? = some (Obj.cells #[.int .i64 C0, .int .i64 C1] 61)), (Va.heap.size, w4.heap.size, fun V : World => V.ownsRow Va.heap.size 2 1 (.slice (some ⟨x0, 0, none⟩) s0.length s0.length) s0.length (s0.map (Value.int .i64))), (w4.heap.size, w5.heap.size, fun V : World => V.ownsRow w4.heap.size 2 1 (.slice (some ⟨x1, 0, none⟩) s1.length s1.length) s1.length (s1.map (Value.int .i64))), (Kg, Kg + 1, fun V : World => V.heap[Kg]? = some (Obj.cells #[.int .i64 C0, .int .i64 C1] 61)), (w7.heap.size, w8.heap.size, fun V : World => V.ownsRow w7.heap.size 2 1 (.slice (some ⟨e0, 0, none⟩) s0.length s0.length) s0.length (s0.map (Value.int .i64)))] w9) := Z10.out.next hb
  clear Z10 hb
  go_wp2_with (fail)
  refine (toInt64S_any HL1.out (HR1.out.below Z11.out.bl)).mono ?_
  rintro e w10 ⟨e1, rfl, ho, hb⟩
  have Z12 : Hid (LS w [(w.heap.size, w1.heap.size, fun V : World => V.ownsRow w.heap.size 2 1 (.slice (some ⟨ga0, 0, none⟩) s0.length s0.length) s0.length (s0.map (Value.int .i64))), (w1.heap.size, w2.heap.size, fun V : World => V.ownsRow w1.heap.size 2 1 (.slice (some ⟨ga1, 0, none⟩) s1.length s1.length) s1.length (s1.map (Value.int .i64))), (Ka, Ka + 1, fun V : World => V.heap[Ka]? = some (Obj.cells #[.int .i64 C0, .int .i64 C1] 61)), (Va.heap.size, w4.heap.size, fun V : World => V.ownsRow Va.heap.size 2 1 (.slice (some ⟨x0, 0, none⟩) s0.length s0.length) s0.length (s0.map (Value.int .i64))), (w4.heap.size, w5.heap.size, fun V : World => V.ownsRow w4.heap.size 2 1 (.slice (some ⟨x1, 0, none⟩) s1.length s1.length) s1.length (s1.map (Value.int .i64))), (Kg, Kg + 1, fun V : World => V.heap[Kg]? = some (Obj.cells #[.int .i64 C0, .int .i64 C1] 61)), (w7.heap.size, w8.heap.size, fun V : World => V.ownsRow w7.heap.size 2 1 (.slice (some ⟨e0, 0, none⟩) s0.length s0.length) s0.length (s0.map (Value.int .i64))), (w9.heap.size, w10.heap.size, fun V : World => V.ownsRow w9.heap.size 2 1 (.slice (some ⟨e1, 0, none⟩) s1.length s1.length) s1.length (s1.map (Value.int .i64)))] w10) := Z11.out.push hb (Ow.rowAll ho hb) (Nat.le_refl _)
  clear Z11 hb ho
  go_wp2_with (fail)
  refine (eqInt64S_same (by have := HL1.out; omega) (IS.rg (B := w4.heap.size) (show w10.ownsRow w4.heap.size 2 1 (.slice (some ⟨x1, 0, none⟩) s1.length s1.length) s1.length (s1.map (Value.int .i64)) from Z12.out.get 4 rfl)) (IS.rg (B := w9.heap.size) (show w10.ownsRow w9.heap.size 2 1 (.slice (some ⟨e1, 0, none⟩) s1.length s1.length) s1.length (s1.map (Value.int .i64)) from Z12.out.get 7 rfl))).mono ?_
  rintro e w11 ⟨rfl, hb⟩
  have Z13 : Hid (LS w [(w.heap.size, w1.heap.size, fun V : World => V.ownsRow w.heap.size 2 1 (.slice (some ⟨ga0, 0, none⟩) s0.length s0.length) s0.length (s0.map (Value.int .i64))), (w1.heap.size, w2.heap.size, fun V : World => V.ownsRow w1.heap.size 2 1 (.slice (some ⟨ga1, 0, none⟩) s1.length s1.length) s1.length (s1.map (Value.int .i64))), (Ka, Ka + 1, fun V : World => V.heap[Ka]? = some (Obj.cells #[.int .i64 C0, .int .i64 C1] 61)), (Va.heap.size, w4.heap.size, fun V : World => V.ownsRow Va.heap.size 2 1 (.slice (some ⟨x0, 0, none⟩) s0.length s0.length) s0.length (s0.map (Value.int .i64))), (w4.heap.size, w5.heap.size, fun V : World => V.ownsRow w4.heap.size 2 1 (.slice (some ⟨x1, 0, none⟩) s1.length s1.length) s1.length (s1.map (Value.int .i64))), (Kg, Kg + 1, fun V : World => V.heap[Kg]? = some (Obj.cells #[.int .i64 C0, .int .i64 C1] 61)), (w7.heap.size, w8.heap.size, fun V : World => V.ownsRow w7.heap.size 2 1 (.slice (some ⟨e0, 0, none⟩) s0.length s0.length) s0.length (s0.map (Value.int .i64))), (w9.heap.size, w10.heap.size, fun V : World => V.ownsRow w9.heap.size 2 1 (.slice (some ⟨e1, 0, none⟩) s1.length s1.length) s1.length (s1.map (Value.int .i64)))] w11) := Z12.out.next hb
  clear Z12 hb
  go_wp2
  go_returns
  exact ⟨rfl, Z13.out.bl⟩

set_option maxRecDepth 100000 in
theorem sf11_lifted (os : Os) (started : os.Started) (H : Type) (enc : TypeId × Value → H) :
    ReturnsInHanded {} Try.checked os 6 .any (Rows.fnExactShiftOfSpec.pre6 enc Try.prog Try.f6 Rows.fnExactShiftOfRow.domain false) (Rows.fnExactShiftOfSpec.post enc Try.prog Try.f6 false true false false) := by
  refine returnsInHanded_of_change (C := Try.checked) own started (by kernel_rfl) Try.func6
    (ChangeSpec.witness6 (enc := enc) (C := Try.checked) false ⟨#[], #[.slice none 0 0, .slice none 0 0, .int .i64 0], []⟩ 8 (by kernel_rfl) (by kernel_rfl) (by kernel_rfl) (by kernel_rfl)) ?_
  intro W base args ds gs before hval0 hW hcnd _
  have hval : ∀ (j : Nat) t v, Try.f6.params[j]? = some t → args[j]? = some v → Value.okWide Try.prog W .any base t v := hval0
  have hW' := hW
  obtain ⟨p, q, hA0, hV, rfl, hfz, hnd⟩ := hW
  have hA : DataW.TrodAll enc Try.prog W 0 (fun _ => true) true Try.f6.params.toList args.toList ds p := hA0
  rw [Try.params6] at hA hval
  obtain ⟨v0, vs0, d0, ds0, p0, q0, hargs, rfl, rfl, h0, r0⟩ := trodAll_cons hA
  obtain ⟨v1, vs1, d1, ds1, p1, q1, rfl, rfl, rfl, h1, r1⟩ := trodAll_cons r0
  obtain ⟨v2, vs2, d2, ds2, p2, q2, rfl, rfl, rfl, h2, r2⟩ := trodAll_cons r1
  obtain ⟨rfl, rfl, rfl⟩ := trodAll_nil r2
  obtain rfl : args = #[v0, v1, v2] := by cases args; simp_all
  obtain ⟨rfl, rfl⟩ := trodVars_none hV
  have k0 := h0
  have lt0 : ∀ x ∈ p0, x.block < W.heap.size := by obtain ⟨m, hm⟩ := k0; exact DataW.trod_lt m _ _ _ hm
  obtain ⟨sa0, sn0, sc0, s0, rfl, ri0, sl0⟩ := ints_open (hval 0 59 v0 rfl rfl) h0
  have k1 := h1
  have lt1 : ∀ x ∈ p1, x.block < W.heap.size := by obtain ⟨m, hm⟩ := k1; exact DataW.trod_lt m _ _ _ hm
  obtain ⟨sa1, sn1, sc1, s1, rfl, ri1, sl1⟩ := ints_open (hval 1 59 v1 rfl rfl) h1
  obtain ⟨n2, rfl, rfl, rfl, wn2⟩ := open_int Try.underlying2 (hval 2 2 v2 rfl rfl) h2
  clear hA0 hval0
  refine (law_sf11 s0 sl0 ri0 s1 sl1 ri1 n2).mono fun e W' ⟨he, hg⟩ => ?_
  subst he
  exact ⟨_, rfl, _, _, _, [], _, [], hW', trodAll_mk1 (shut_bool Try.underlying4 _), (trodAll_cons_mk (Below.trod laidOut (by kernel_rfl) (of_decide_eq_true (by kernel_rfl)) k0 hg lt0) (trodAll_cons_mk (Below.trod laidOut (by kernel_rfl) (of_decide_eq_true (by kernel_rfl)) k1 hg lt1) (trodAll_cons_mk (shut_int Try.underlying2 wn2) trodAll_mk0))), rfl, hg.frame _, fun h => by cases h⟩

theorem sf11_over : Rows.fnExactShiftOfRow.holds Try.pinned (OpenSpec.ofChange Rows.fnExactShiftOfSpec) :=
  OpenClaim.holds_of_wide 6 Try.f6 rfl rfl rfl rfl rfl rfl rfl ⟨rfl, rfl, rfl, rfl, rfl⟩ rfl rfl rfl rfl rfl (by kernel_rfl) Try.func6 (by kernel_rfl)
    (of_decide_eq_true (by kernel_rfl)) (by unfold Func.isWrapper; first | (rw [if_pos (by decide +kernel)]; kernel_rfl) | (rw [if_neg (by decide +kernel)]; exact ⟨rfl, rfl⟩))
    (fun os started H enc _ => sf11_lifted os started H enc)

theorem sf11_proved : Rows.FnExactShiftOfSaid :=
  sf11_over
#print axioms sf11_proved

end Go.Proofs.Ytdidmjgilnhncab
