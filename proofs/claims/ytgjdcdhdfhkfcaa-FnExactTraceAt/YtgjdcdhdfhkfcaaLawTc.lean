/- Proved here: 'the program's TraceAt answers as the model's; it writes into no argument', without a condition. -/
import Derived.Test.YtgjdcdhdfhkfcaaTrI
import Derived.Test.YtgjdcdhdfhkfcaaTrS
import Derived.Test.YtgjdcdhdfhkfcaaFlL
import Derived.Test.YtgjdcdhdfhkfcaaMrE
import Derived.Test.YtgjdcdhdfhkfcaaFltO
import Derived.Test.YtgjdcdhdfhkfcaaLwS
import Derived.Test.YtgjdcdhdfhkfcaaRows
namespace Go.Proofs.Ytgjdcdhdfhkfcaa
open Go.ChangeShapes Go.WideShapes Go.ChangeAt Go.RowKit Go.Joins
set_option linter.unusedVariables false
set_option linter.unusedSimpArgs false

theorem own : ownKnob Try.prog.godebug = none := by kernel_rfl
theorem laidOut : laidOutB Try.prog = true := by kernel_rfl

set_option maxRecDepth 10000 in
set_option maxHeartbeats 25600000 in
theorem law_tr14 {w : World} {sa0 : Option Addr} {sn0 sc0 : Nat} (s0 : List Nat) (hm0 : s0.length ≤ maxLen) (hr0 : RG 1 flC w (.slice sa0 sn0 sc0) s0) {sa1 : Option Addr} {sn1 sc1 : Nat} (s1 : List Nat) (hm1 : s1.length ≤ maxLen) (hr1 : RG 1 flC w (.slice sa1 sn1 sc1) s1) (n2 : Nat) (hn2 : n2 < 18446744073709551616) :
    Calls Try.prog 8 #[.slice sa0 sn0 sc0, .slice sa1 sn1 sc1, .float .f64 n2] w fun e w' => e = .returned (.bool true) ∧ Below w.heap.size w w' := by
  have HM0 : Hid (sn0 ≤ maxLen) := by unfold Hid; rw [hr0.len]; exact hm0
  have HR0 : Hid (RG 1 flC w (.slice sa0 sn0 sc0) s0) := hr0
  have HE0 : Hid (sn0 = s0.length) := hr0.len
  have HM1 : Hid (sn1 ≤ maxLen) := by unfold Hid; rw [hr1.len]; exact hm1
  have HR1 : Hid (RG 1 flC w (.slice sa1 sn1 sc1) s1) := hr1
  have HE1 : Hid (sn1 = s1.length) := hr1.len
  clear hm0 hr0 hm1 hr1
  have Z0 : Hid (LS w [] w) := LS.start w
  go_enter Try.func8, Try.ntmps8
  by_cases hf0 : (1048576 : Int) < (sn0 : Int)
  · go_wp2
    go_returns
    exact ⟨rfl, Below.refl _ _⟩
  have HL0 : Hid (s0.length ≤ 1048576) := by unfold Hid; rw [← HE0.out]; omega
  by_cases hf1 : (1048576 : Int) < (sn1 : Int)
  · go_wp2
    go_returns
    exact ⟨rfl, Below.refl _ _⟩
  have HL1 : Hid (s1.length ≤ 1048576) := by unfold Hid; rw [← HE1.out]; omega
  obtain ⟨C0, hC0⟩ : ∃ X, X = trC s0 s1 n2 := ⟨_, rfl⟩
  obtain ⟨C1, hC1⟩ : ∃ X, X = trN s0 s1 n2 := ⟨_, rfl⟩
  obtain ⟨FV, hFV⟩ : ∃ X, X = trW s0 s1 n2 := ⟨_, rfl⟩
  have HSP : Hid (∀ (W : World) (g0 : Nat) (g1 : Nat), (RG 1 flC W (.slice (some ⟨g0, 0, none⟩) s0.length s0.length) s0) → (RG 1 flC W (.slice (some ⟨g1, 0, none⟩) s1.length s1.length) s1) → Calls Try.prog 36 #[.slice (some ⟨g0, 0, none⟩) s0.length s0.length, .slice (some ⟨g1, 0, none⟩) s1.length s1.length, .float .f64 n2] W fun e w' => ∃ y, e = .returned (.agg #[.int .i64 C0, .int .i64 C1, .float .f64 y]) ∧ fv y = FV ∧ Below W.heap.size W w') := fun W g0 g1 h0 h1 => by
    rw [hFV, hC1, hC0]
    exact spec_trace n2 HL0.out HL1.out h0 h1
  have HIM : Hid (∀ (W : World) (g0 : Nat) (g1 : Nat), (RG 1 flC W (.slice (some ⟨g0, 0, none⟩) s0.length s0.length) s0) → (RG 1 flC W (.slice (some ⟨g1, 0, none⟩) s1.length s1.length) s1) → Calls Try.prog 37 #[.slice (some ⟨g0, 0, none⟩) s0.length s0.length, .slice (some ⟨g1, 0, none⟩) s1.length s1.length, .float .f64 n2] W fun e w' => ∃ y, e = .returned (.agg #[.int .i64 C0, .int .i64 C1, .float .f64 y]) ∧ fv y = FV ∧ Below W.heap.size W w') := fun W g0 g1 h0 h1 => by
    rw [hFV, hC1, hC0]
    exact impl_trace n2 HL0.out HL1.out h0 h1
  clear hC0 hC1 hFV 
  go_wp2_with (fail)
  refine (toFloat64S_any HL0.out (HR0.out.below Z0.out.bl)).mono ?_
  rintro e w1 ⟨ga0, rfl, ho, hb⟩
  have Z1 : Hid (LS w [(w.heap.size, w1.heap.size, fun V : World => V.ownsRow w.heap.size 55 1 (.slice (some ⟨ga0, 0, none⟩) s0.length s0.length) s0.length (s0.flatMap flC))] w1) := Z0.out.push hb (Ow.rowAll ho hb) (Nat.le_refl _)
  clear Z0 hb ho
  go_wp2_with (fail)
  refine (toFloat64S_any HL1.out (HR1.out.below Z1.out.bl)).mono ?_
  rintro e w2 ⟨ga1, rfl, ho, hb⟩
  have Z2 : Hid (LS w [(w.heap.size, w1.heap.size, fun V : World => V.ownsRow w.heap.size 55 1 (.slice (some ⟨ga0, 0, none⟩) s0.length s0.length) s0.length (s0.flatMap flC)), (w1.heap.size, w2.heap.size, fun V : World => V.ownsRow w1.heap.size 55 1 (.slice (some ⟨ga1, 0, none⟩) s1.length s1.length) s1.length (s1.flatMap flC))] w2) := Z1.out.push hb (Ow.rowAll ho hb) (Nat.le_refl _)
  clear Z1 hb ho
  go_wp2_with (fail)
  refine (HSP.out w2 ga0 ga1 (OG.rg (T := 55) (B := w.heap.size) flC_len (show w2.ownsRow w.heap.size 55 1 (.slice (some ⟨ga0, 0, none⟩) s0.length s0.length) s0.length (s0.flatMap flC) from Z2.out.get 0 rfl)) (OG.rg (T := 55) (B := w1.heap.size) flC_len (show w2.ownsRow w1.heap.size 55 1 (.slice (some ⟨ga1, 0, none⟩) s1.length s1.length) s1.length (s1.flatMap flC) from Z2.out.get 1 rfl))).mono ?_
  rintro e w3 ⟨ya, rfl, hy, hb⟩
  have HYa : Hid (fv ya = FV) := hy
  have Z3 : Hid (LS w [(w.heap.size, w1.heap.size, fun V : World => V.ownsRow w.heap.size 55 1 (.slice (some ⟨ga0, 0, none⟩) s0.length s0.length) s0.length (s0.flatMap flC)), (w1.heap.size, w2.heap.size, fun V : World => V.ownsRow w1.heap.size 55 1 (.slice (some ⟨ga1, 0, none⟩) s1.length s1.length) s1.length (s1.flatMap flC))] w3) := Z2.out.next hb
  clear Z2 hb hy
  have Z4 : Hid (LS w [(w.heap.size, w1.heap.size, fun V : World => V.ownsRow w.heap.size 55 1 (.slice (some ⟨ga0, 0, none⟩) s0.length s0.length) s0.length (s0.flatMap flC)), (w1.heap.size, w2.heap.size, fun V : World => V.ownsRow w1.heap.size 55 1 (.slice (some ⟨ga1, 0, none⟩) s1.length s1.length) s1.length (s1.flatMap flC)), (w3.heap.size, w3.heap.size + 1, fun V : World => V.heap[w3.heap.size]? = some (Obj.cells #[.int .i64 C0, .int .i64 C1, .float .f64 ya] 62))] (w3.alloc (Obj.cells #[.int .i64 C0, .int .i64 C1, .float .f64 ya] 62))) := Z3.out.push (by (repeat' (first | (with_reducible exact Below.refl _ _) | (with_reducible assumption) | (with_reducible refine Below.setCell ?_ ?_ _) | (with_reducible refine Below.alloc ?_ ?_ _) | (with_reducible refine below_drewN ?_ _) | (with_reducible refine Below.drew ?_) | (with_reducible exact Nat.le_refl _) | omega | (simp; done) | (simp; omega)))) (Ow.block (heap_alloc_new _ _)) (Nat.le_refl _)
  clear Z3
  go_wp2_with (fail)
  obtain ⟨Va, hV⟩ : ∃ V, V = w3.alloc (Obj.cells #[.int .i64 C0, .int .i64 C1, .float .f64 ya] 62) := ⟨_, rfl⟩
  rw [← hV] at Z4 ⊢
  obtain ⟨Ka, hK⟩ : ∃ K, K = w3.heap.size := ⟨_, rfl⟩
  rw [← hK] at Z4  ⊢
  clear hV hK
  refine (toFloat64S_any HL0.out (HR0.out.below Z4.out.bl)).mono ?_
  rintro e w4 ⟨x0, rfl, ho, hb⟩
  have Z5 : Hid (LS w [(w.heap.size, w1.heap.size, fun V : World => V.ownsRow w.heap.size 55 1 (.slice (some ⟨ga0, 0, none⟩) s0.length s0.length) s0.length (s0.flatMap flC)), (w1.heap.size, w2.heap.size, fun V : World => V.ownsRow w1.heap.size 55 1 (.slice (some ⟨ga1, 0, none⟩) s1.length s1.length) s1.length (s1.flatMap flC)), (Ka, Ka + 1, fun V : World => V.heap[Ka]? = some (Obj.cells #[.int .i64 C0, .int .i64 C1, .float .f64 ya] 62)), (Va.heap.size, w4.heap.size, fun V : World => V.ownsRow Va.heap.size 55 1 (.slice (some ⟨x0, 0, none⟩) s0.length s0.length) s0.length (s0.flatMap flC))] w4) := Z4.out.push hb (Ow.rowAll ho hb) (Nat.le_refl _)
  clear Z4 hb ho
  go_wp2_with (fail)
  refine (toFloat64S_any HL1.out (HR1.out.below Z5.out.bl)).mono ?_
  rintro e w5 ⟨x1, rfl, ho, hb⟩
  have Z6 : Hid (LS w [(w.heap.size, w1.heap.size, fun V : World => V.ownsRow w.heap.size 55 1 (.slice (some ⟨ga0, 0, none⟩) s0.length s0.length) s0.length (s0.flatMap flC)), (w1.heap.size, w2.heap.size, fun V : World => V.ownsRow w1.heap.size 55 1 (.slice (some ⟨ga1, 0, none⟩) s1.length s1.length) s1.length (s1.flatMap flC)), (Ka, Ka + 1, fun V : World => V.heap[Ka]? = some (Obj.cells #[.int .i64 C0, .int .i64 C1, .float .f64 ya] 62)), (Va.heap.size, w4.heap.size, fun V : World => V.ownsRow Va.heap.size 55 1 (.slice (some ⟨x0, 0, none⟩) s0.length s0.length) s0.length (s0.flatMap flC)), (w4.heap.size, w5.heap.size, fun V : World => V.ownsRow w4.heap.size 55 1 (.slice (some ⟨x1, 0, none⟩) s1.length s1.length) s1.length (s1.flatMap flC))] w5) := Z5.out.push hb (Ow.rowAll ho hb) (Nat.le_refl _)
  clear Z5 hb ho
  go_wp2_with (fail)
  refine (HIM.out w5 x0 x1 (OG.rg (T := 55) (B := Va.heap.size) flC_len (show w5.ownsRow Va.heap.size 55 1 (.slice (some ⟨x0, 0, none⟩) s0.length s0.length) s0.length (s0.flatMap flC) from Z6.out.get 3 rfl)) (OG.rg (T := 55) (B := w4.heap.size) flC_len (show w5.ownsRow w4.heap.size 55 1 (.slice (some ⟨x1, 0, none⟩) s1.length s1.length) s1.length (s1.flatMap flC) from Z6.out.get 4 rfl))).mono ?_
  rintro e w6 ⟨yg, rfl, hy, hb⟩
  have HYg : Hid (fv yg = FV) := hy
  have Z7 : Hid (LS w [(w.heap.size, w1.heap.size, fun V : World => V.ownsRow w.heap.size 55 1 (.slice (some ⟨ga0, 0, none⟩) s0.length s0.length) s0.length (s0.flatMap flC)), (w1.heap.size, w2.heap.size, fun V : World => V.ownsRow w1.heap.size 55 1 (.slice (some ⟨ga1, 0, none⟩) s1.length s1.length) s1.length (s1.flatMap flC)), (Ka, Ka + 1, fun V : World => V.heap[Ka]? = some (Obj.cells #[.int .i64 C0, .int .i64 C1, .float .f64 ya] 62)), (Va.heap.size, w4.heap.size, fun V : World => V.ownsRow Va.heap.size 55 1 (.slice (some ⟨x0, 0, none⟩) s0.length s0.length) s0.length (s0.flatMap flC)), (w4.heap.size, w5.heap.size, fun V : World => V.ownsRow w4.heap.size 55 1 (.slice (some ⟨x1, 0, none⟩) s1.length s1.length) s1.length (s1.flatMap flC))] w6) := Z6.out.next hb
  clear Z6 hb hy
  have kva := Z7.out.get 2 rfl
  have cva_0 : w6.cell? ⟨Ka, 0, none⟩ = some (.int .i64 C0) := cellOf kva 0 rfl
  have cva_1 : w6.cell? ⟨Ka, 1, none⟩ = some (.int .i64 C1) := cellOf kva 1 rfl
  have cva_2 : w6.cell? ⟨Ka, 2, none⟩ = some (.float .f64 ya) := cellOf kva 2 rfl
  have lva : Ka < w6.heap.size := ltOf kva
  clear kva
  have Z8 : Hid (LS w [(w.heap.size, w1.heap.size, fun V : World => V.ownsRow w.heap.size 55 1 (.slice (some ⟨ga0, 0, none⟩) s0.length s0.length) s0.length (s0.flatMap flC)), (w1.heap.size, w2.heap.size, fun V : World => V.ownsRow w1.heap.size 55 1 (.slice (some ⟨ga1, 0, none⟩) s1.length s1.length) s1.length (s1.flatMap flC)), (Ka, Ka + 1, fun V : World => V.heap[Ka]? = some (Obj.cells #[.int .i64 C0, .int .i64 C1, .float .f64 ya] 62)), (Va.heap.size, w4.heap.size, fun V : World => V.ownsRow Va.heap.size 55 1 (.slice (some ⟨x0, 0, none⟩) s0.length s0.length) s0.length (s0.flatMap flC)), (w4.heap.size, w5.heap.size, fun V : World => V.ownsRow w4.heap.size 55 1 (.slice (some ⟨x1, 0, none⟩) s1.length s1.length) s1.length (s1.flatMap flC)), (w6.heap.size, w6.heap.size + 1, fun V : World => V.heap[w6.heap.size]? = some (Obj.cells #[.int .i64 C0, .int .i64 C1, .float .f64 yg] 62))] (w6.alloc (Obj.cells #[.int .i64 C0, .int .i64 C1, .float .f64 yg] 62))) := Z7.out.push (by (repeat' (first | (with_reducible exact Below.refl _ _) | (with_reducible assumption) | (with_reducible refine Below.setCell ?_ ?_ _) | (with_reducible refine Below.alloc ?_ ?_ _) | (with_reducible refine below_drewN ?_ _) | (with_reducible refine Below.drew ?_) | (with_reducible exact Nat.le_refl _) | omega | (simp; done) | (simp; omega)))) (Ow.block (heap_alloc_new _ _)) (Nat.le_refl _)
  clear Z7
  go_wp2_with (fail)
  obtain ⟨Vg, hV⟩ : ∃ V, V = w6.alloc (Obj.cells #[.int .i64 C0, .int .i64 C1, .float .f64 yg] 62) := ⟨_, rfl⟩
  rw [← hV] at Z8 ⊢
  obtain ⟨Kg, hK⟩ : ∃ K, K = w6.heap.size := ⟨_, rfl⟩
  rw [← hK] at Z8  ⊢
  clear hV hK
  clear cva_0 cva_1 cva_2 lva
  refine (eqMeanResult_v C0 C1 (HYg.out.trans HYa.out.symm) _).mono ?_
  rintro e w7 ⟨rfl, hb⟩
  have Z9 : Hid (LS w [(w.heap.size, w1.heap.size, fun V : World => V.ownsRow w.heap.size 55 1 (.slice (some ⟨ga0, 0, none⟩) s0.length s0.length) s0.length (s0.flatMap flC)), (w1.heap.size, w2.heap.size, fun V : World => V.ownsRow w1.heap.size 55 1 (.slice (some ⟨ga1, 0, none⟩) s1.length s1.length) s1.length (s1.flatMap flC)), (Ka, Ka + 1, fun V : World => V.heap[Ka]? = some (Obj.cells #[.int .i64 C0, .int .i64 C1, .float .f64 ya] 62)), (Va.heap.size, w4.heap.size, fun V : World => V.ownsRow Va.heap.size 55 1 (.slice (some ⟨x0, 0, none⟩) s0.length s0.length) s0.length (s0.flatMap flC)), (w4.heap.size, w5.heap.size, fun V : World => V.ownsRow w4.heap.size 55 1 (.slice (some ⟨x1, 0, none⟩) s1.length s1.length) s1.length (s1.flatMap flC)), (Kg, Kg + 1, fun V : World => V.heap[Kg]? = some (Obj.cells #[.int .i64 C0, .int .i64 C1, .float .f64 yg] 62))] w7) := Z8.out.next hb
  clear Z8 hb
  go_wp2_with (fail)
  refine (toFloat64S_any HL0.out (HR0.out.below Z9.out.bl)).mono ?_
  rintro e w8 ⟨e0, rfl, ho, hb⟩
  have Z10 : Hid (LS w [(w.heap.size, w1.heap.size, fun V : World => V.ownsRow w.heap.size 55 1 (.slice (some ⟨ga0, 0, none⟩) s0.length s0.length) s0.length (s0.flatMap flC)), (w1.heap.size, w2.heap.size, fun V : World => V.ownsRow w1.heap.size 55 1 (.slice (some ⟨ga1, 0, none⟩) s1.length s1.length) s1.length (s1.flatMap flC)), (Ka, Ka + 1, fun V : World => V.heap[Ka]? = some (Obj.cells #[.int .i64 C0, .int .i64 C1, .float .f64 ya] 62)), (Va.heap.size, w4.heap.size, fun V : World => V.ownsRow Va.heap.size 55 1 (.slice (some ⟨x0, 0, none⟩) s0.length s0.length) s0.length (s0.flatMap flC)), (w4.heap.size, w5.heap.size, fun V : World => V.ownsRow w4.heap.size 55 1 (.slice (some ⟨x1, 0, none⟩) s1.length s1.length) s1.length (s1.flatMap flC)), (Kg, Kg + 1, fun V : World => V.heap[Kg]? = some (Obj.cells #[.int .i64 C0, .int .i64 C1, .float .f64 yg] 62)), (w7.heap.size, w8.heap.size, fun V : World => V.ownsRow w7.heap.size 55 1 (.slice (some ⟨e0, 0, none⟩) s0.length s0.length) s0.length (s0.flatMap flC))] w8) := Z9.out.push hb (Ow.rowAll ho hb) (Nat.le_refl _)
  clear Z9 hb ho
  go_wp2_with (fail)
  refine (eqFloat64S_same (by have := HL0.out; omega) (OG.rg (T := 55) (B := Va.heap.size) flC_len (show w8.ownsRow Va.heap.size 55 1 (.slice (some ⟨x0, 0, none⟩) s0.length s0.length) s0.length (s0.flatMap flC) from Z10.out.get 3 rfl)) (OG.rg (T := 55) (B := w7.heap.size) flC_len (show w8.ownsRow w7.heap.size 55 1 (.slice (some ⟨e0, 0, none⟩) s0.length s0.length) s0.length (s0.flatMap flC) from Z10.out.get 6 rfl))).mono ?_
  rintro e w9 ⟨rfl, hb⟩
  have Z11 : Hid (LS w [(w.heap.size, w1.heap.size, fun V : World => V.ownsRow w.heap.size 55 1 (.slice (some ⟨ga0, 0, none⟩) s0.length s0.length) s0.length (s0.flatMap flC)), (w1.heap.size, w2.heap.size, fun V : World => V.ownsRow w1.heap.size 55 1 (.slice (some ⟨ga1, 0, none⟩) s1.length s1.length) s1.length (s1.flatMap flC)), (Ka, Ka + 1, fun V : World => V.heap[Ka]? = some (Obj.cells #[.int .i64 C0, .int .i64 C1, .float .f64 ya] 62)), (Va.heap.size, w4.heap.size, fun V : World => V.ownsRow Va.heap.size 55 1 (.slice (some ⟨x0, 0, none⟩) s0.length s0.length) s0.length (s0.flatMap flC)), (w4.heap.size, w5.heap.size, fun V : World => V.ownsRow w4.heap.size 55 1 (.slice (some ⟨x1, 0, none⟩) s1.length s1.length) s1.length (s1.flatMap flC)), (Kg, Kg + 1, fun V : World => V.heap[Kg]? = some (Obj.cells #[.int .i64 C0, .int .i64 C1, .float .f64 yg] 62)), (w7.heap.size, w8.heap.size, fun V : World => V.ownsRow w7.heap.size 55 1 (.slice (some ⟨e0, 0, none⟩) s0.length s0.length) s0.length (s0.flatMap flC))] w9) := Z10.out.next hb
  clear Z10 hb
  go_wp2_with (fail)
  refine (toFloat64S_any HL1.out (HR1.out.below Z11.out.bl)).mono ?_
  rintro e w10 ⟨e1, rfl, ho, hb⟩
  have Z12 : Hid (LS w [(w.heap.size, w1.heap.size, fun V : World => V.ownsRow w.heap.size 55 1 (.slice (some ⟨ga0, 0, none⟩) s0.length s0.length) s0.length (s0.flatMap flC)), (w1.heap.size, w2.heap.size, fun V : World => V.ownsRow w1.heap.size 55 1 (.slice (some ⟨ga1, 0, none⟩) s1.length s1.length) s1.length (s1.flatMap flC)), (Ka, Ka + 1, fun V : World => V.heap[Ka]? = some (Obj.cells #[.int .i64 C0, .int .i64 C1, .float .f64 ya] 62)), (Va.heap.size, w4.heap.size, fun V : World => V.ownsRow Va.heap.size 55 1 (.slice (some ⟨x0, 0, none⟩) s0.length s0.length) s0.length (s0.flatMap flC)), (w4.heap.size, w5.heap.size, fun V : World => V.ownsRow w4.heap.size 55 1 (.slice (some ⟨x1, 0, none⟩) s1.length s1.length) s1.length (s1.flatMap flC)), (Kg, Kg + 1, fun V : World => V.heap[Kg]? = some (Obj.cells #[.int .i64 C0, .int .i64 C1, .float .f64 yg] 62)), (w7.heap.size, w8.heap.size, fun V : World => V.ownsRow w7.heap.size 55 1 (.slice (some ⟨e0, 0, none⟩) s0.length s0.length) s0.length (s0.flatMap flC)), (w9.heap.size, w10.heap.size, fun V : World => V.ownsRow w9.heap.size 55 1 (.slice (some ⟨e1, 0, none⟩) s1.length s1.length) s1.length (s1.flatMap flC))] w10) := Z11.out.push hb (Ow.rowAll ho hb) (Nat.le_refl _)
  clear Z11 hb ho
  go_wp2_with (fail)
  refine (eqFloat64S_same (by have := HL1.out; omega) (OG.rg (T := 55) (B := w4.heap.size) flC_len (show w10.ownsRow w4.heap.size 55 1 (.slice (some ⟨x1, 0, none⟩) s1.length s1.length) s1.length (s1.flatMap flC) from Z12.out.get 4 rfl)) (OG.rg (T := 55) (B := w9.heap.size) flC_len (show w10.ownsRow w9.heap.size 55 1 (.slice (some ⟨e1, 0, none⟩) s1.length s1.length) s1.length (s1.flatMap flC) from Z12.out.get 7 rfl))).mono ?_
  rintro e w11 ⟨rfl, hb⟩
  have Z13 : Hid (LS w [(w.heap.size, w1.heap.size, fun V : World => V.ownsRow w.heap.size 55 1 (.slice (some ⟨ga0, 0, none⟩) s0.length s0.length) s0.length (s0.flatMap flC)), (w1.heap.size, w2.heap.size, fun V : World => V.ownsRow w1.heap.size 55 1 (.slice (some ⟨ga1, 0, none⟩) s1.length s1.length) s1.length (s1.flatMap flC)), (Ka, Ka + 1, fun V : World => V.heap[Ka]? = some (Obj.cells #[.int .i64 C0, .int .i64 C1, .float .f64 ya] 62)), (Va.heap.size, w4.heap.size, fun V : World => V.ownsRow Va.heap.size 55 1 (.slice (some ⟨x0, 0, none⟩) s0.length s0.length) s0.length (s0.flatMap flC)), (w4.heap.size, w5.heap.size, fun V : World => V.ownsRow w4.heap.size 55 1 (.slice (some ⟨x1, 0, none⟩) s1.length s1.length) s1.length (s1.flatMap flC)), (Kg, Kg + 1, fun V : World => V.heap[Kg]? = some (Obj.cells #[.int .i64 C0, .int .i64 C1, .float .f64 yg] 62)), (w7.heap.size, w8.heap.size, fun V : World => V.ownsRow w7.heap.size 55 1 (.slice (some ⟨e0, 0, none⟩) s0.length s0.length) s0.length (s0.flatMap flC)), (w9.heap.size, w10.heap.size, fun V : World => V.ownsRow w9.heap.size 55 1 (.slice (some ⟨e1, 0, none⟩) s1.length s1.length) s1.length (s1.flatMap flC))] w11) := Z12.out.next hb
  clear Z12 hb
  go_wp2
  go_returns
  exact ⟨rfl, Z13.out.bl⟩

set_option maxRecDepth 100000 in
theorem tr14_lifted (os : Os) (started : os.Started) (H : Type) (enc : TypeId × Value → H) :
    ReturnsInHanded {} Try.checked os 8 .any (Rows.fnExactTraceAtSpec.pre6 enc Try.prog Try.f8 Rows.fnExactTraceAtRow.domain false) (Rows.fnExactTraceAtSpec.post enc Try.prog Try.f8 false true false false) := by
  refine returnsInHanded_of_change (C := Try.checked) own started (by kernel_rfl) Try.func8
    (ChangeSpec.witness6 (enc := enc) (C := Try.checked) false ⟨#[], #[.slice none 0 0, .slice none 0 0, .float .f64 0], []⟩ 8 (by kernel_rfl) (by kernel_rfl) (by kernel_rfl) (by kernel_rfl)) ?_
  intro W base args ds gs before hval0 hW hcnd _
  have hval : ∀ (j : Nat) t v, Try.f8.params[j]? = some t → args[j]? = some v → Value.okWide Try.prog W .any base t v := hval0
  have hW' := hW
  obtain ⟨p, q, hA0, hV, rfl, hfz, hnd⟩ := hW
  have hA : DataW.TrodAll enc Try.prog W 0 (fun _ => true) true Try.f8.params.toList args.toList ds p := hA0
  rw [Try.params8] at hA hval
  obtain ⟨v0, vs0, d0, ds0, p0, q0, hargs, rfl, rfl, h0, r0⟩ := trodAll_cons hA
  obtain ⟨v1, vs1, d1, ds1, p1, q1, rfl, rfl, rfl, h1, r1⟩ := trodAll_cons r0
  obtain ⟨v2, vs2, d2, ds2, p2, q2, rfl, rfl, rfl, h2, r2⟩ := trodAll_cons r1
  obtain ⟨rfl, rfl, rfl⟩ := trodAll_nil r2
  obtain rfl : args = #[v0, v1, v2] := by cases args; simp_all
  obtain ⟨rfl, rfl⟩ := trodVars_none hV
  have k0 := h0
  have lt0 : ∀ x ∈ p0, x.block < W.heap.size := by obtain ⟨m, hm⟩ := k0; exact DataW.trod_lt m _ _ _ hm
  obtain ⟨sa0, sn0, sc0, s0, rfl, ri0, sl0⟩ := floats_open (hval 0 32 v0 rfl rfl) h0
  have k1 := h1
  have lt1 : ∀ x ∈ p1, x.block < W.heap.size := by obtain ⟨m, hm⟩ := k1; exact DataW.trod_lt m _ _ _ hm
  obtain ⟨sa1, sn1, sc1, s1, rfl, ri1, sl1⟩ := floats_open (hval 1 32 v1 rfl rfl) h1
  obtain ⟨n2, rfl, rfl, rfl, wn2⟩ := open_float Try.underlying55 (hval 2 55 v2 rfl rfl) h2
  clear hA0 hval0
  refine (law_tr14 s0 sl0 ri0 s1 sl1 ri1 n2 (flt_bnd wn2)).mono fun e W' ⟨he, hg⟩ => ?_
  subst he
  exact ⟨_, rfl, _, _, _, [], _, [], hW', trodAll_mk1 (shut_bool Try.underlying4 _), (trodAll_cons_mk (Below.trod laidOut (by kernel_rfl) (of_decide_eq_true (by kernel_rfl)) k0 hg lt0) (trodAll_cons_mk (Below.trod laidOut (by kernel_rfl) (of_decide_eq_true (by kernel_rfl)) k1 hg lt1) (trodAll_cons_mk (shut_float Try.underlying55 wn2) trodAll_mk0))), rfl, hg.frame _, fun h => by cases h⟩

theorem tr14_over : Rows.fnExactTraceAtRow.holds Try.pinned (OpenSpec.ofChange Rows.fnExactTraceAtSpec) :=
  OpenClaim.holds_of_wide 8 Try.f8 rfl rfl rfl rfl rfl rfl rfl ⟨rfl, rfl, rfl, rfl, rfl⟩ rfl rfl rfl rfl rfl (by kernel_rfl) Try.func8 (by kernel_rfl)
    (of_decide_eq_true (by kernel_rfl)) (by unfold Func.isWrapper; first | (rw [if_pos (by decide +kernel)]; kernel_rfl) | (rw [if_neg (by decide +kernel)]; exact ⟨rfl, rfl⟩))
    (fun os started H enc _ => tr14_lifted os started H enc)

theorem tr14_proved : Rows.FnExactTraceAtSaid :=
  tr14_over
#print axioms tr14_proved

end Go.Proofs.Ytgjdcdhdfhkfcaa
