/- Proved here: 'the program's EndOf answers as the model's; it writes into no argument', without a condition. -/
import Derived.Test.YtgbbigokbbllgaaEoI
import Derived.Test.YtgbbigokbbllgaaEoS
import Derived.Test.YtgbbigokbbllgaaCzB
import Derived.Test.YtgbbigokbbllgaaHaB
import Derived.Test.YtgbbigokbbllgaaMkSI
import Derived.Test.YtgbbigokbbllgaaLwS
import Derived.Test.YtgbbigokbbllgaaRows
namespace Go.Proofs.Ytgbbigokbbllgaa
open Go.ChangeShapes Go.WideShapes Go.ChangeAt Go.RowKit Go.Joins
set_option linter.unusedVariables false
set_option linter.unusedSimpArgs false

theorem own : ownKnob Try.prog.godebug = none := by kernel_rfl
theorem laidOut : laidOutB Try.prog = true := by kernel_rfl

set_option maxRecDepth 10000 in
set_option maxHeartbeats 25600000 in
theorem law_eo20 {w : World}  (cz0 : Int) {sa0 : Option Addr} {sn0 sc0 : Nat} (s0 : List Int) {ta0 : Option Addr} {tn0 tc0 : Nat} (t0 : List Int) (hm0 : sn0 ≤ maxLen ∧ tn0 ≤ maxLen) (hr0 : RdL w (.slice sa0 sn0 sc0) (.slice ta0 tn0 tc0) s0 t0) {sa1 : Option Addr} {sn1 sc1 : Nat} (s1 : List Hau) (hm1 : s1.length ≤ maxLen) (hr1 : RG 4 haC w (.slice sa1 sn1 sc1) s1) :
    Calls Try.prog 4 #[.agg #[.slice sa0 sn0 sc0, .int .i64 cz0, .slice ta0 tn0 tc0], .slice sa1 sn1 sc1] w fun e w' => e = .returned (.bool true) ∧ Below w.heap.size w w' := by
  have HM0 : Hid (sn0 ≤ maxLen ∧ tn0 ≤ maxLen) := hm0
  have HR0 : Hid (RdL w (.slice sa0 sn0 sc0) (.slice ta0 tn0 tc0) s0 t0) := hr0
  have HE0 : Hid (sn0 = s0.length ∧ tn0 = t0.length) := ⟨hr0.1.len, hr0.2.len⟩
  have HM1 : Hid (sn1 ≤ maxLen) := by unfold Hid; rw [hr1.len]; exact hm1
  have HR1 : Hid (RG 4 haC w (.slice sa1 sn1 sc1) s1) := hr1
  have HE1 : Hid (sn1 = s1.length) := hr1.len
  clear hm0 hr0 hm1 hr1
  obtain ⟨BX0, hBX0⟩ : ∃ BX, BX = Obj.cells #[.slice sa0 sn0 sc0, .int .i64 cz0, .slice ta0 tn0 tc0] 24 := ⟨_, rfl⟩
  have Z0 : Hid (LS w [(w.heap.size, w.heap.size + 1, fun V : World => V.heap[w.heap.size]? = some BX0)] (w.alloc (Obj.cells #[.slice sa0 sn0 sc0, .int .i64 cz0, .slice ta0 tn0 tc0] 24))) := by
    have p0 := LS.start w
    have p1 := LS.push (V' := (w.alloc (Obj.cells #[.slice sa0 sn0 sc0, .int .i64 cz0, .slice ta0 tn0 tc0] 24))) p0 (by (repeat' (first | (with_reducible exact Below.refl _ _) | (with_reducible assumption) | (with_reducible refine Below.setCell ?_ ?_ _) | (with_reducible refine Below.alloc ?_ ?_ _) | (with_reducible refine below_drewN ?_ _) | (with_reducible refine Below.drew ?_) | (with_reducible exact Nat.le_refl _) | omega | (simp; done) | (simp; omega)))) (Ow.block (k := w.heap.size) (o := BX0) (by rw [hBX0]; have := heap_alloc_new w (Obj.cells #[.slice sa0 sn0 sc0, .int .i64 cz0, .slice ta0 tn0 tc0] 24); simpa using this)) (by simp)
    exact p1
  have TB0 : Hid (BX0 = Obj.cells #[.slice sa0 sn0 sc0, .int .i64 cz0, .slice ta0 tn0 tc0] 24) := hBX0
  clear hBX0
  go_enter Try.func4, Try.ntmps4
  go_wp2_with (fail)
  obtain ⟨W0, hW0⟩ : ∃ V, V = (w.alloc (Obj.cells #[.slice sa0 sn0 sc0, .int .i64 cz0, .slice ta0 tn0 tc0] 24)) := ⟨_, rfl⟩
  rw [← hW0] at Z0 ⊢
  clear hW0
  refine (szCluster_gen cz0 sa0 sn0 sc0 ta0 tn0 tc0 1048576 _ (by omega) (by omega) HM0.out).mono ?_
  rintro e w1 ⟨r0, rfl, hq0, hb⟩
  have Z1 : Hid (LS w [(w.heap.size, w.heap.size + 1, fun V : World => V.heap[w.heap.size]? = some BX0)] w1) := Z0.out.next hb
  clear Z0 hb
  rcases hq0 with hneg | ⟨u0, v0, tt0⟩
  · go_wp2
    go_returns
    exact ⟨rfl, Z1.out.bl⟩
  have hl0 : ¬ r0 < 0 := by omega
  have HL0 : Hid (s0.length ≤ 1048576 ∧ t0.length ≤ 1048576) := by unfold Hid; rw [← HE0.out.1, ← HE0.out.2]; omega
  go_wp2_with (fail)
  refine (szHaulS_gen sa1 sn1 sc1 r0 _ (by omega) (by omega) HM1.out).mono ?_
  rintro e w2 ⟨r1, rfl, hq1, hb⟩
  have Z2 : Hid (LS w [(w.heap.size, w.heap.size + 1, fun V : World => V.heap[w.heap.size]? = some BX0)] w2) := Z1.out.next hb
  clear Z1 hb
  rcases hq1 with hneg | ⟨u1, v1, tt1⟩
  · go_wp2
    go_returns
    exact ⟨rfl, Z2.out.bl⟩
  have hl1 : ¬ r1 < 0 := by omega
  have HL1 : Hid (s1.length ≤ 1048576) := by unfold Hid; rw [← HE1.out]; omega
  obtain ⟨C0, hC0⟩ : ∃ X, X = eoC cz0 s0 t0 (s1.map Hau.t) := ⟨_, rfl⟩
  obtain ⟨C1, hC1⟩ : ∃ X, X = eoV cz0 s0 t0 (s1.map Hau.t) := ⟨_, rfl⟩
  have HSP : Hid (∀ (W : World) (g0 : Nat × Nat) (g1 : Nat), (RdL W (.slice (some ⟨g0.1, 0, none⟩) s0.length s0.length) (.slice (some ⟨g0.2, 0, none⟩) t0.length t0.length) s0 t0) → (RG 4 haC W (.slice (some ⟨g1, 0, none⟩) s1.length s1.length) s1) → Calls Try.prog 15 #[.agg #[.slice (some ⟨g0.1, 0, none⟩) s0.length s0.length, .int .i64 cz0, .slice (some ⟨g0.2, 0, none⟩) t0.length t0.length], .slice (some ⟨g1, 0, none⟩) s1.length s1.length] W fun e w' => e = .returned (.agg #[.int .i64 C0, .int .i64 C1]) ∧ Below W.heap.size W w') := fun W g0 g1 h0 h1 => by
    rw [hC1, hC0]
    exact spec_eo cz0 HL0.out h0 h1
  have HIM : Hid (∀ (W : World) (g0 : Nat × Nat) (g1 : Nat), (RdL W (.slice (some ⟨g0.1, 0, none⟩) s0.length s0.length) (.slice (some ⟨g0.2, 0, none⟩) t0.length t0.length) s0 t0) → (RG 4 haC W (.slice (some ⟨g1, 0, none⟩) s1.length s1.length) s1) → Calls Try.prog 17 #[.agg #[.slice (some ⟨g0.1, 0, none⟩) s0.length s0.length, .int .i64 cz0, .slice (some ⟨g0.2, 0, none⟩) t0.length t0.length], .slice (some ⟨g1, 0, none⟩) s1.length s1.length] W fun e w' => e = .returned (.agg #[.int .i64 C0, .int .i64 C1]) ∧ Below W.heap.size W w') := fun W g0 g1 h0 h1 => by
    rw [hC1, hC0]
    exact impl_eo cz0 HL0.out h0 h1
  clear hC0 hC1 u0 v0 tt0 u1 v1 tt1
  have kp0 := Z2.out.get 0 rfl
  rw [TB0.out] at kp0
  have cp0_0 : w2.cell? ⟨w.heap.size, 0, none⟩ = some (.slice sa0 sn0 sc0) := cellOf kp0 0 rfl
  have cp0_1 : w2.cell? ⟨w.heap.size, 1, none⟩ = some (.int .i64 cz0) := cellOf kp0 1 rfl
  have cp0_2 : w2.cell? ⟨w.heap.size, 2, none⟩ = some (.slice ta0 tn0 tc0) := cellOf kp0 2 rfl
  have lp0 : w.heap.size < w2.heap.size := ltOf kp0
  clear kp0
  go_wp2_with (fail)
  clear cp0_0 cp0_1 cp0_2 lp0
  refine (toCluster_any cz0 HL0.out (HR0.out.below Z2.out.bl)).mono ?_
  rintro e w3 ⟨ga0, rfl, ho, hb⟩
  have Z3 : Hid (LS w [(w.heap.size, w.heap.size + 1, fun V : World => V.heap[w.heap.size]? = some BX0), (w2.heap.size, w3.heap.size, fun V : World => OwL V w2.heap.size (.slice (some ⟨ga0.1, 0, none⟩) s0.length s0.length) (.slice (some ⟨ga0.2, 0, none⟩) t0.length t0.length) s0 t0)] w3) := Z2.out.push hb (Ow.rAllL2 ho hb) (Nat.le_refl _)
  clear Z2 hb ho
  go_wp2_with (fail)
  refine (toHaulS_any HL1.out (HR1.out.below Z3.out.bl)).mono ?_
  rintro e w4 ⟨ga1, rfl, ho, hb⟩
  have Z4 : Hid (LS w [(w.heap.size, w.heap.size + 1, fun V : World => V.heap[w.heap.size]? = some BX0), (w2.heap.size, w3.heap.size, fun V : World => OwL V w2.heap.size (.slice (some ⟨ga0.1, 0, none⟩) s0.length s0.length) (.slice (some ⟨ga0.2, 0, none⟩) t0.length t0.length) s0 t0), (w3.heap.size, w4.heap.size, fun V : World => V.ownsRow w3.heap.size 68 4 (.slice (some ⟨ga1, 0, none⟩) s1.length s1.length) s1.length (s1.flatMap haC))] w4) := Z3.out.push hb (Ow.rowAll ho hb) (Nat.le_refl _)
  clear Z3 hb ho
  go_wp2_with (fail)
  refine (HSP.out w4 ga0 ga1 (OwL.rd (B := w2.heap.size) (show OwL w4 w2.heap.size (.slice (some ⟨ga0.1, 0, none⟩) s0.length s0.length) (.slice (some ⟨ga0.2, 0, none⟩) t0.length t0.length) s0 t0 from Z4.out.get 1 rfl)) (OG.rg (T := 68) (B := w3.heap.size) haC_len (show w4.ownsRow w3.heap.size 68 4 (.slice (some ⟨ga1, 0, none⟩) s1.length s1.length) s1.length (s1.flatMap haC) from Z4.out.get 2 rfl))).mono ?_
  rintro e w5 ⟨rfl, hb⟩
  have Z5 : Hid (LS w [(w.heap.size, w.heap.size + 1, fun V : World => V.heap[w.heap.size]? = some BX0), (w2.heap.size, w3.heap.size, fun V : World => OwL V w2.heap.size (.slice (some ⟨ga0.1, 0, none⟩) s0.length s0.length) (.slice (some ⟨ga0.2, 0, none⟩) t0.length t0.length) s0 t0), (w3.heap.size, w4.heap.size, fun V : World => V.ownsRow w3.heap.size 68 4 (.slice (some ⟨ga1, 0, none⟩) s1.length s1.length) s1.length (s1.flatMap haC))] w5) := Z4.out.next hb
  clear Z4 hb
  have kp0 := Z5.out.get 0 rfl
  rw [TB0.out] at kp0
  have cp0_0 : w5.cell? ⟨w.heap.size, 0, none⟩ = some (.slice sa0 sn0 sc0) := cellOf kp0 0 rfl
  have cp0_1 : w5.cell? ⟨w.heap.size, 1, none⟩ = some (.int .i64 cz0) := cellOf kp0 1 rfl
  have cp0_2 : w5.cell? ⟨w.heap.size, 2, none⟩ = some (.slice ta0 tn0 tc0) := cellOf kp0 2 rfl
  have lp0 : w.heap.size < w5.heap.size := ltOf kp0
  clear kp0
  have Z6 : Hid (LS w [(w.heap.size, w.heap.size + 1, fun V : World => V.heap[w.heap.size]? = some BX0), (w2.heap.size, w3.heap.size, fun V : World => OwL V w2.heap.size (.slice (some ⟨ga0.1, 0, none⟩) s0.length s0.length) (.slice (some ⟨ga0.2, 0, none⟩) t0.length t0.length) s0 t0), (w3.heap.size, w4.heap.size, fun V : World => V.ownsRow w3.heap.size 68 4 (.slice (some ⟨ga1, 0, none⟩) s1.length s1.length) s1.length (s1.flatMap haC)), (w5.heap.size, w5.heap.size + 1, fun V : World => V.heap[w5.heap.size]? = some (Obj.cells #[.int .i64 C0, .int .i64 C1] 34))] (w5.alloc (Obj.cells #[.int .i64 C0, .int .i64 C1] 34))) := Z5.out.push (by (repeat' (first | (with_reducible exact Below.refl _ _) | (with_reducible assumption) | (with_reducible refine Below.setCell ?_ ?_ _) | (with_reducible refine Below.alloc ?_ ?_ _) | (with_reducible refine below_drewN ?_ _) | (with_reducible refine Below.drew ?_) | (with_reducible exact Nat.le_refl _) | omega | (simp; done) | (simp; omega)))) (Ow.block (heap_alloc_new _ _)) (Nat.le_refl _)
  clear Z5
  go_wp2_with (fail)
  obtain ⟨Va, hV⟩ : ∃ V, V = w5.alloc (Obj.cells #[.int .i64 C0, .int .i64 C1] 34) := ⟨_, rfl⟩
  rw [← hV] at Z6 ⊢
  obtain ⟨Ka, hK⟩ : ∃ K, K = w5.heap.size := ⟨_, rfl⟩
  rw [← hK] at Z6  ⊢
  clear hV hK
  clear cp0_0 cp0_1 cp0_2 lp0
  refine (toCluster_any cz0 HL0.out (HR0.out.below Z6.out.bl)).mono ?_
  rintro e w6 ⟨x0, rfl, ho, hb⟩
  have Z7 : Hid (LS w [(w.heap.size, w.heap.size + 1, fun V : World => V.heap[w.heap.size]? = some BX0), (w2.heap.size, w3.heap.size, fun V : World => OwL V w2.heap.size (.slice (some ⟨ga0.1, 0, none⟩) s0.length s0.length) (.slice (some ⟨ga0.2, 0, none⟩) t0.length t0.length) s0 t0), (w3.heap.size, w4.heap.size, fun V : World => V.ownsRow w3.heap.size 68 4 (.slice (some ⟨ga1, 0, none⟩) s1.length s1.length) s1.length (s1.flatMap haC)), (Ka, Ka + 1, fun V : World => V.heap[Ka]? = some (Obj.cells #[.int .i64 C0, .int .i64 C1] 34)), (Va.heap.size, w6.heap.size, fun V : World => OwL V Va.heap.size (.slice (some ⟨x0.1, 0, none⟩) s0.length s0.length) (.slice (some ⟨x0.2, 0, none⟩) t0.length t0.length) s0 t0)] w6) := Z6.out.push hb (Ow.rAllL2 ho hb) (Nat.le_refl _)
  clear Z6 hb ho
  have Z8 : Hid (LS w [(w.heap.size, w.heap.size + 1, fun V : World => V.heap[w.heap.size]? = some BX0), (w2.heap.size, w3.heap.size, fun V : World => OwL V w2.heap.size (.slice (some ⟨ga0.1, 0, none⟩) s0.length s0.length) (.slice (some ⟨ga0.2, 0, none⟩) t0.length t0.length) s0 t0), (w3.heap.size, w4.heap.size, fun V : World => V.ownsRow w3.heap.size 68 4 (.slice (some ⟨ga1, 0, none⟩) s1.length s1.length) s1.length (s1.flatMap haC)), (Ka, Ka + 1, fun V : World => V.heap[Ka]? = some (Obj.cells #[.int .i64 C0, .int .i64 C1] 34)), (Va.heap.size, w6.heap.size, fun V : World => OwL V Va.heap.size (.slice (some ⟨x0.1, 0, none⟩) s0.length s0.length) (.slice (some ⟨x0.2, 0, none⟩) t0.length t0.length) s0 t0), (w6.heap.size, w6.heap.size + 1, fun V : World => V.heap[w6.heap.size]? = some (Obj.cells #[.slice (some ⟨x0.1, 0, none⟩) s0.length s0.length, .int .i64 cz0, .slice (some ⟨x0.2, 0, none⟩) t0.length t0.length] 27))] (w6.alloc (Obj.cells #[.slice (some ⟨x0.1, 0, none⟩) s0.length s0.length, .int .i64 cz0, .slice (some ⟨x0.2, 0, none⟩) t0.length t0.length] 27))) := Z7.out.push (by (repeat' (first | (with_reducible exact Below.refl _ _) | (with_reducible assumption) | (with_reducible refine Below.setCell ?_ ?_ _) | (with_reducible refine Below.alloc ?_ ?_ _) | (with_reducible refine below_drewN ?_ _) | (with_reducible refine Below.drew ?_) | (with_reducible exact Nat.le_refl _) | omega | (simp; done) | (simp; omega)))) (Ow.block (heap_alloc_new _ _)) (Nat.le_refl _)
  clear Z7
  go_wp2_with (fail)
  obtain ⟨Vx0, hV⟩ : ∃ V, V = w6.alloc (Obj.cells #[.slice (some ⟨x0.1, 0, none⟩) s0.length s0.length, .int .i64 cz0, .slice (some ⟨x0.2, 0, none⟩) t0.length t0.length] 27) := ⟨_, rfl⟩
  rw [← hV] at Z8 ⊢
  obtain ⟨Kx0, hK⟩ : ∃ K, K = w6.heap.size := ⟨_, rfl⟩
  rw [← hK] at Z8  ⊢
  clear hV hK
  refine (toHaulS_any HL1.out (HR1.out.below Z8.out.bl)).mono ?_
  rintro e w7 ⟨x1, rfl, ho, hb⟩
  have Z9 : Hid (LS w [(w.heap.size, w.heap.size + 1, fun V : World => V.heap[w.heap.size]? = some BX0), (w2.heap.size, w3.heap.size, fun V : World => OwL V w2.heap.size (.slice (some ⟨ga0.1, 0, none⟩) s0.length s0.length) (.slice (some ⟨ga0.2, 0, none⟩) t0.length t0.length) s0 t0), (w3.heap.size, w4.heap.size, fun V : World => V.ownsRow w3.heap.size 68 4 (.slice (some ⟨ga1, 0, none⟩) s1.length s1.length) s1.length (s1.flatMap haC)), (Ka, Ka + 1, fun V : World => V.heap[Ka]? = some (Obj.cells #[.int .i64 C0, .int .i64 C1] 34)), (Va.heap.size, Kx0, fun V : World => OwL V Va.heap.size (.slice (some ⟨x0.1, 0, none⟩) s0.length s0.length) (.slice (some ⟨x0.2, 0, none⟩) t0.length t0.length) s0 t0), (Kx0, Kx0 + 1, fun V : World => V.heap[Kx0]? = some (Obj.cells #[.slice (some ⟨x0.1, 0, none⟩) s0.length s0.length, .int .i64 cz0, .slice (some ⟨x0.2, 0, none⟩) t0.length t0.length] 27)), (Vx0.heap.size, w7.heap.size, fun V : World => V.ownsRow Vx0.heap.size 68 4 (.slice (some ⟨x1, 0, none⟩) s1.length s1.length) s1.length (s1.flatMap haC))] w7) := Z8.out.push hb (Ow.rowAll ho hb) (Nat.le_refl _)
  clear Z8 hb ho
  have kvx0 := Z9.out.get 5 rfl
  have cvx0_0 : w7.cell? ⟨Kx0, 0, none⟩ = some (.slice (some ⟨x0.1, 0, none⟩) s0.length s0.length) := cellOf kvx0 0 rfl
  have cvx0_1 : w7.cell? ⟨Kx0, 1, none⟩ = some (.int .i64 cz0) := cellOf kvx0 1 rfl
  have cvx0_2 : w7.cell? ⟨Kx0, 2, none⟩ = some (.slice (some ⟨x0.2, 0, none⟩) t0.length t0.length) := cellOf kvx0 2 rfl
  have lvx0 : Kx0 < w7.heap.size := ltOf kvx0
  clear kvx0
  go_wp2_with (fail)
  clear cvx0_0 cvx0_1 cvx0_2 lvx0
  refine (HIM.out w7 x0 x1 (OwL.rd (B := Va.heap.size) (show OwL w7 Va.heap.size (.slice (some ⟨x0.1, 0, none⟩) s0.length s0.length) (.slice (some ⟨x0.2, 0, none⟩) t0.length t0.length) s0 t0 from Z9.out.get 4 rfl)) (OG.rg (T := 68) (B := Vx0.heap.size) haC_len (show w7.ownsRow Vx0.heap.size 68 4 (.slice (some ⟨x1, 0, none⟩) s1.length s1.length) s1.length (s1.flatMap haC) from Z9.out.get 6 rfl))).mono ?_
  rintro e w8 ⟨rfl, hb⟩
  have Z10 : Hid (LS w [(w.heap.size, w.heap.size + 1, fun V : World => V.heap[w.heap.size]? = some BX0), (w2.heap.size, w3.heap.size, fun V : World => OwL V w2.heap.size (.slice (some ⟨ga0.1, 0, none⟩) s0.length s0.length) (.slice (some ⟨ga0.2, 0, none⟩) t0.length t0.length) s0 t0), (w3.heap.size, w4.heap.size, fun V : World => V.ownsRow w3.heap.size 68 4 (.slice (some ⟨ga1, 0, none⟩) s1.length s1.length) s1.length (s1.flatMap haC)), (Ka, Ka + 1, fun V : World => V.heap[Ka]? = some (Obj.cells #[.int .i64 C0, .int .i64 C1] 34)), (Va.heap.size, Kx0, fun V : World => OwL V Va.heap.size (.slice (some ⟨x0.1, 0, none⟩) s0.length s0.length) (.slice (some ⟨x0.2, 0, none⟩) t0.length t0.length) s0 t0), (Kx0, Kx0 + 1, fun V : World => V.heap[Kx0]? = some (Obj.cells #[.slice (some ⟨x0.1, 0, none⟩) s0.length s0.length, .int .i64 cz0, .slice (some ⟨x0.2, 0, none⟩) t0.length t0.length] 27)), (Vx0.heap.size, w7.heap.size, fun V : World => V.ownsRow Vx0.heap.size 68 4 (.slice (some ⟨x1, 0, none⟩) s1.length s1.length) s1.length (s1.flatMap haC))] w8) := Z9.out.next hb
  clear Z9 hb
  have kva := Z10.out.get 3 rfl
  have cva_0 : w8.cell? ⟨Ka, 0, none⟩ = some (.int .i64 C0) := cellOf kva 0 rfl
  have cva_1 : w8.cell? ⟨Ka, 1, none⟩ = some (.int .i64 C1) := cellOf kva 1 rfl
  have lva : Ka < w8.heap.size := ltOf kva
  clear kva
  have Z11 : Hid (LS w [(w.heap.size, w.heap.size + 1, fun V : World => V.heap[w.heap.size]? = some BX0), (w2.heap.size, w3.heap.size, fun V : World => OwL V w2.heap.size (.slice (some ⟨ga0.1, 0, none⟩) s0.length s0.length) (.slice (some ⟨ga0.2, 0, none⟩) t0.length t0.length) s0 t0), (w3.heap.size, w4.heap.size, fun V : World => V.ownsRow w3.heap.size 68 4 (.slice (some ⟨ga1, 0, none⟩) s1.length s1.length) s1.length (s1.flatMap haC)), (Ka, Ka + 1, fun V : World => V.heap[Ka]? = some (Obj.cells #[.int .i64 C0, .int .i64 C1] 34)), (Va.heap.size, Kx0, fun V : World => OwL V Va.heap.size (.slice (some ⟨x0.1, 0, none⟩) s0.length s0.length) (.slice (some ⟨x0.2, 0, none⟩) t0.length t0.length) s0 t0), (Kx0, Kx0 + 1, fun V : World => V.heap[Kx0]? = some (Obj.cells #[.slice (some ⟨x0.1, 0, none⟩) s0.length s0.length, .int .i64 cz0, .slice (some ⟨x0.2, 0, none⟩) t0.length t0.length] 27)), (Vx0.heap.size, w7.heap.size, fun V : World => V.ownsRow Vx0.heap.size 68 4 (.slice (some ⟨x1, 0, none⟩) s1.length s1.length) s1.length (s1.flatMap haC)), (w8.heap.size, w8.heap.size + 1, fun V : World => V.heap[w8.heap.size]? = some (Obj.cells #[.int .i64 C0, .int .i64 C1] 34))] (w8.alloc (Obj.cells #[.int .i64 C0, .int .i64 C1] 34))) := Z10.out.push (by (repeat' (first | (with_reducible exact Below.refl _ _) | (with_reducible assumption) | (with_reducible refine Below.setCell ?_ ?_ _) | (with_reducible refine Below.alloc ?_ ?_ _) | (with_reducible refine below_drewN ?_ _) | (with_reducible refine Below.drew ?_) | (with_reducible exact Nat.le_refl _) | omega | (simp; done) | (simp; omega)))) (Ow.block (heap_alloc_new _ _)) (Nat.le_refl _)
  clear Z10
  go_wp2_with (fail)
  obtain ⟨Vg, hV⟩ : ∃ V, V = w8.alloc (Obj.cells #[.int .i64 C0, .int .i64 C1] 34) := ⟨_, rfl⟩
  rw [← hV] at Z11 ⊢
  obtain ⟨Kg, hK⟩ : ∃ K, K = w8.heap.size := ⟨_, rfl⟩
  rw [← hK] at Z11  ⊢
  clear hV hK
  clear cva_0 cva_1 lva
  refine (eqShapeInt_to C0 C1 _).mono ?_
  rintro e w9 ⟨rfl, hb⟩
  have Z12 : Hid (LS w [(w.heap.size, w.heap.size + 1, fun V : World => V.heap[w.heap.size]? = some BX0), (w2.heap.size, w3.heap.size, fun V : World => OwL V w2.heap.size (.slice (some ⟨ga0.1, 0, none⟩) s0.length s0.length) (.slice (some ⟨ga0.2, 0, none⟩) t0.length t0.length) s0 t0), (w3.heap.size, w4.heap.size, fun V : World => V.ownsRow w3.heap.size 68 4 (.slice (some ⟨ga1, 0, none⟩) s1.length s1.length) s1.length (s1.flatMap haC)), (Ka, Ka + 1, fun V : World => V.heap[Ka]? = some (Obj.cells #[.int .i64 C0, .int .i64 C1] 34)), (Va.heap.size, Kx0, fun V : World => OwL V Va.heap.size (.slice (some ⟨x0.1, 0, none⟩) s0.length s0.length) (.slice (some ⟨x0.2, 0, none⟩) t0.length t0.length) s0 t0), (Kx0, Kx0 + 1, fun V : World => V.heap[Kx0]? = some (Obj.cells #[.slice (some ⟨x0.1, 0, none⟩) s0.length s0.length, .int .i64 cz0, .slice (some ⟨x0.2, 0, none⟩) t0.length t0.length] 27)), (Vx0.heap.size, w7.heap.size, fun V : World => V.ownsRow Vx0.heap.size 68 4 (.slice (some ⟨x1, 0, none⟩) s1.length s1.length) s1.length (s1.flatMap haC)), (Kg, Kg + 1, fun V : World => V.heap[Kg]? = some (Obj.cells #[.int .i64 C0, .int .i64 C1] 34))] w9) := Z11.out.next hb
  clear Z11 hb
  have kvx0 := Z12.out.get 5 rfl
  have cvx0_0 : w9.cell? ⟨Kx0, 0, none⟩ = some (.slice (some ⟨x0.1, 0, none⟩) s0.length s0.length) := cellOf kvx0 0 rfl
  have cvx0_1 : w9.cell? ⟨Kx0, 1, none⟩ = some (.int .i64 cz0) := cellOf kvx0 1 rfl
  have cvx0_2 : w9.cell? ⟨Kx0, 2, none⟩ = some (.slice (some ⟨x0.2, 0, none⟩) t0.length t0.length) := cellOf kvx0 2 rfl
  have lvx0 : Kx0 < w9.heap.size := ltOf kvx0
  clear kvx0
  have kp0 := Z12.out.get 0 rfl
  rw [TB0.out] at kp0
  have cp0_0 : w9.cell? ⟨w.heap.size, 0, none⟩ = some (.slice sa0 sn0 sc0) := cellOf kp0 0 rfl
  have cp0_1 : w9.cell? ⟨w.heap.size, 1, none⟩ = some (.int .i64 cz0) := cellOf kp0 1 rfl
  have cp0_2 : w9.cell? ⟨w.heap.size, 2, none⟩ = some (.slice ta0 tn0 tc0) := cellOf kp0 2 rfl
  have lp0 : w.heap.size < w9.heap.size := ltOf kp0
  clear kp0
  go_wp2_with (fail)
  refine wp_region_float (by kernel_rfl) (fun hS => ?_)
  refine fl_take (i := 0) (d := 36) (v := .agg #[.slice (some ⟨x0.1, 0, none⟩) s0.length s0.length, .int .i64 cz0, .slice (some ⟨x0.2, 0, none⟩) t0.length t0.length]) rfl rfl rfl (by kernel_rfl) (by kernel_rfl) (by kernel_rfl) hS ?_ ?_
  · intro w' hk; go_simp
  simp only [Act.put, List.setIfInBounds_toArray, List.set_cons_zero, List.set_cons_succ]
  refine fl_take (i := 1) (d := 37) (v := .agg #[.slice sa0 sn0 sc0, .int .i64 cz0, .slice ta0 tn0 tc0]) rfl rfl rfl (by kernel_rfl) (by kernel_rfl) (by kernel_rfl) hS ?_ ?_
  · intro w' hk; go_simp
  simp only [Act.put, List.setIfInBounds_toArray, List.set_cons_zero, List.set_cons_succ]
  refine wpAnyH_all (rs := [2]) (by kernel_rfl) (by simp) ?_
  intro i hi
  obtain rfl : i = 2 := by simpa using hi
  refine op_call (d := 38) rfl rfl rfl (by go_simp) ((toCluster_any cz0 HL0.out ((HR0.out.below Z12.out.bl).below (Below.refl _ _).drew)).mono ?_)
  rintro e ya0 ⟨gy0, rfl, hk5, hb5⟩
  have hK5 : KS w9 ya0 := hS.call hb5
  refine ⟨_, rfl, hK5, ?_⟩
  simp only [Act.put, List.setIfInBounds_toArray, List.set_cons_zero, List.set_cons_succ]
  refine wpAnyH_all (rs := [3]) (by kernel_rfl) (by simp) ?_
  intro i hi
  obtain rfl : i = 3 := by simpa using hi
  refine op_call (d := 39) rfl rfl rfl (by go_simp) ((eqCluster_same cz0 HL0.out (RdL.below (OwL.rd (B := Va.heap.size) (show OwL w9 Va.heap.size (.slice (some ⟨x0.1, 0, none⟩) s0.length s0.length) (.slice (some ⟨x0.2, 0, none⟩) t0.length t0.length) s0 t0 from Z12.out.get 4 rfl)) hK5.2) ((OwL.rd hk5))).mono ?_)
  rintro e yb0 ⟨rfl, hb6⟩
  have hK6 : KS w9 yb0 := hK5.call hb6
  refine ⟨_, rfl, hK6, ?_⟩
  simp only [Act.put, List.setIfInBounds_toArray, List.set_cons_zero, List.set_cons_succ]
  refine wpAnyH_all (rs := [4]) (by kernel_rfl) (by simp) ?_
  intro i hi
  obtain rfl : i = 4 := by simpa using hi
  refine op_val (d := 40) (v := .bool false) (w' := yb0) rfl rfl rfl (by go_simp; try rfl) ?_
  simp only [Act.put, List.setIfInBounds_toArray, List.set_cons_zero, List.set_cons_succ]
  refine ⟨hK6, wpAnyH_done (by kernel_rfl) (NoPanic.normal ?_) _⟩
  have Z13 : Hid (LS w [(w.heap.size, w.heap.size + 1, fun V : World => V.heap[w.heap.size]? = some BX0), (w2.heap.size, w3.heap.size, fun V : World => OwL V w2.heap.size (.slice (some ⟨ga0.1, 0, none⟩) s0.length s0.length) (.slice (some ⟨ga0.2, 0, none⟩) t0.length t0.length) s0 t0), (w3.heap.size, w4.heap.size, fun V : World => V.ownsRow w3.heap.size 68 4 (.slice (some ⟨ga1, 0, none⟩) s1.length s1.length) s1.length (s1.flatMap haC)), (Ka, Ka + 1, fun V : World => V.heap[Ka]? = some (Obj.cells #[.int .i64 C0, .int .i64 C1] 34)), (Va.heap.size, Kx0, fun V : World => OwL V Va.heap.size (.slice (some ⟨x0.1, 0, none⟩) s0.length s0.length) (.slice (some ⟨x0.2, 0, none⟩) t0.length t0.length) s0 t0), (Kx0, Kx0 + 1, fun V : World => V.heap[Kx0]? = some (Obj.cells #[.slice (some ⟨x0.1, 0, none⟩) s0.length s0.length, .int .i64 cz0, .slice (some ⟨x0.2, 0, none⟩) t0.length t0.length] 27)), (Vx0.heap.size, w7.heap.size, fun V : World => V.ownsRow Vx0.heap.size 68 4 (.slice (some ⟨x1, 0, none⟩) s1.length s1.length) s1.length (s1.flatMap haC)), (Kg, Kg + 1, fun V : World => V.heap[Kg]? = some (Obj.cells #[.int .i64 C0, .int .i64 C1] 34))] yb0) := Z12.out.next hK6.2
  clear Z12 hK6 hK5 hb6 hb5 hk5 hS cvx0_0 cvx0_1 cvx0_2 lvx0 cp0_0 cp0_1 cp0_2 lp0
  go_wp2_with (fail)
  refine (toHaulS_any HL1.out (HR1.out.below Z13.out.bl)).mono ?_
  rintro e w10 ⟨e1, rfl, ho, hb⟩
  have Z14 : Hid (LS w [(w.heap.size, w.heap.size + 1, fun V : World => V.heap[w.heap.size]? = some BX0), (w2.heap.size, w3.heap.size, fun V : World => OwL V w2.heap.size (.slice (some ⟨ga0.1, 0, none⟩) s0.length s0.length) (.slice (some ⟨ga0.2, 0, none⟩) t0.length t0.length) s0 t0), (w3.heap.size, w4.heap.size, fun V : World => V.ownsRow w3.heap.size 68 4 (.slice (some ⟨ga1, 0, none⟩) s1.length s1.length) s1.length (s1.flatMap haC)), (Ka, Ka + 1, fun V : World => V.heap[Ka]? = some (Obj.cells #[.int .i64 C0, .int .i64 C1] 34)), (Va.heap.size, Kx0, fun V : World => OwL V Va.heap.size (.slice (some ⟨x0.1, 0, none⟩) s0.length s0.length) (.slice (some ⟨x0.2, 0, none⟩) t0.length t0.length) s0 t0), (Kx0, Kx0 + 1, fun V : World => V.heap[Kx0]? = some (Obj.cells #[.slice (some ⟨x0.1, 0, none⟩) s0.length s0.length, .int .i64 cz0, .slice (some ⟨x0.2, 0, none⟩) t0.length t0.length] 27)), (Vx0.heap.size, w7.heap.size, fun V : World => V.ownsRow Vx0.heap.size 68 4 (.slice (some ⟨x1, 0, none⟩) s1.length s1.length) s1.length (s1.flatMap haC)), (Kg, Kg + 1, fun V : World => V.heap[Kg]? = some (Obj.cells #[.int .i64 C0, .int .i64 C1] 34)), (yb0.heap.size, w10.heap.size, fun V : World => V.ownsRow yb0.heap.size 68 4 (.slice (some ⟨e1, 0, none⟩) s1.length s1.length) s1.length (s1.flatMap haC))] w10) := Z13.out.push hb (Ow.rowAll ho hb) (Nat.le_refl _)
  clear Z13 hb ho
  go_wp2_with (fail)
  refine (eqHaulS_same (by have := HL1.out; omega) (OG.rg (T := 68) (B := Vx0.heap.size) haC_len (show w10.ownsRow Vx0.heap.size 68 4 (.slice (some ⟨x1, 0, none⟩) s1.length s1.length) s1.length (s1.flatMap haC) from Z14.out.get 6 rfl)) (OG.rg (T := 68) (B := yb0.heap.size) haC_len (show w10.ownsRow yb0.heap.size 68 4 (.slice (some ⟨e1, 0, none⟩) s1.length s1.length) s1.length (s1.flatMap haC) from Z14.out.get 8 rfl))).mono ?_
  rintro e w11 ⟨rfl, hb⟩
  have Z15 : Hid (LS w [(w.heap.size, w.heap.size + 1, fun V : World => V.heap[w.heap.size]? = some BX0), (w2.heap.size, w3.heap.size, fun V : World => OwL V w2.heap.size (.slice (some ⟨ga0.1, 0, none⟩) s0.length s0.length) (.slice (some ⟨ga0.2, 0, none⟩) t0.length t0.length) s0 t0), (w3.heap.size, w4.heap.size, fun V : World => V.ownsRow w3.heap.size 68 4 (.slice (some ⟨ga1, 0, none⟩) s1.length s1.length) s1.length (s1.flatMap haC)), (Ka, Ka + 1, fun V : World => V.heap[Ka]? = some (Obj.cells #[.int .i64 C0, .int .i64 C1] 34)), (Va.heap.size, Kx0, fun V : World => OwL V Va.heap.size (.slice (some ⟨x0.1, 0, none⟩) s0.length s0.length) (.slice (some ⟨x0.2, 0, none⟩) t0.length t0.length) s0 t0), (Kx0, Kx0 + 1, fun V : World => V.heap[Kx0]? = some (Obj.cells #[.slice (some ⟨x0.1, 0, none⟩) s0.length s0.length, .int .i64 cz0, .slice (some ⟨x0.2, 0, none⟩) t0.length t0.length] 27)), (Vx0.heap.size, w7.heap.size, fun V : World => V.ownsRow Vx0.heap.size 68 4 (.slice (some ⟨x1, 0, none⟩) s1.length s1.length) s1.length (s1.flatMap haC)), (Kg, Kg + 1, fun V : World => V.heap[Kg]? = some (Obj.cells #[.int .i64 C0, .int .i64 C1] 34)), (yb0.heap.size, w10.heap.size, fun V : World => V.ownsRow yb0.heap.size 68 4 (.slice (some ⟨e1, 0, none⟩) s1.length s1.length) s1.length (s1.flatMap haC))] w11) := Z14.out.next hb
  clear Z14 hb
  go_wp2
  go_returns
  exact ⟨rfl, Z15.out.bl⟩

set_option maxRecDepth 100000 in
theorem eo20_lifted (os : Os) (started : os.Started) (H : Type) (enc : TypeId × Value → H) :
    ReturnsInHanded {} Try.checked os 4 .any (Rows.fnExactEndOfSpec.pre6 enc Try.prog Try.f4 Rows.fnExactEndOfRow.domain false) (Rows.fnExactEndOfSpec.post enc Try.prog Try.f4 false true false false) := by
  refine returnsInHanded_of_change (C := Try.checked) own started (by kernel_rfl) Try.func4
    (ChangeSpec.witness6 (enc := enc) (C := Try.checked) false ⟨#[], #[.agg #[.slice none 0 0, .int .i64 0, .slice none 0 0], .slice none 0 0], []⟩ 8 (by kernel_rfl) (by kernel_rfl) (by kernel_rfl) (by kernel_rfl)) ?_
  intro W base args ds gs before hval0 hW hcnd _
  have hval : ∀ (j : Nat) t v, Try.f4.params[j]? = some t → args[j]? = some v → Value.okWide Try.prog W .any base t v := hval0
  have hW' := hW
  obtain ⟨p, q, hA0, hV, rfl, hfz, hnd⟩ := hW
  have hA : DataW.TrodAll enc Try.prog W 0 (fun _ => true) true Try.f4.params.toList args.toList ds p := hA0
  rw [Try.params4] at hA hval
  obtain ⟨v0, vs0, d0, ds0, p0, q0, hargs, rfl, rfl, h0, r0⟩ := trodAll_cons hA
  obtain ⟨v1, vs1, d1, ds1, p1, q1, rfl, rfl, rfl, h1, r1⟩ := trodAll_cons r0
  obtain ⟨rfl, rfl, rfl⟩ := trodAll_nil r1
  obtain rfl : args = #[v0, v1] := by cases args; simp_all
  obtain ⟨rfl, rfl⟩ := trodVars_none hV
  have k0 := h0
  have lt0 : ∀ x ∈ p0, x.block < W.heap.size := by obtain ⟨m, hm⟩ := k0; exact DataW.trod_lt m _ _ _ hm
  obtain ⟨C0, sa0, sn0, sc0, s0, ta0, tn0, tc0, t0, rfl, ri0, sl0⟩ := cluster_open (hval 0 24 v0 rfl rfl) h0
  have k1 := h1
  have lt1 : ∀ x ∈ p1, x.block < W.heap.size := by obtain ⟨m, hm⟩ := k1; exact DataW.trod_lt m _ _ _ hm
  obtain ⟨sa1, sn1, sc1, s1, rfl, rb1, sl1⟩ := hauls_open (hval 1 31 v1 rfl rfl) h1
  clear hA0 hval0
  refine (law_eo20 C0 s0 t0 sl0 ri0 s1 sl1 rb1).mono fun e W' ⟨he, hg⟩ => ?_
  subst he
  exact ⟨_, rfl, _, _, _, [], _, [], hW', trodAll_mk1 (shut_bool Try.underlying4 _), (trodAll_cons_mk (Below.trod laidOut (by kernel_rfl) (of_decide_eq_true (by kernel_rfl)) k0 hg lt0) (trodAll_cons_mk (Below.trod laidOut (by kernel_rfl) (of_decide_eq_true (by kernel_rfl)) k1 hg lt1) trodAll_mk0)), rfl, hg.frame _, fun h => by cases h⟩

theorem eo20_over : Rows.fnExactEndOfRow.holds Try.pinned (OpenSpec.ofChange Rows.fnExactEndOfSpec) :=
  OpenClaim.holds_of_wide 4 Try.f4 rfl rfl rfl rfl rfl rfl rfl ⟨rfl, rfl, rfl, rfl, rfl⟩ rfl rfl rfl rfl rfl (by kernel_rfl) Try.func4 (by kernel_rfl)
    (of_decide_eq_true (by kernel_rfl)) (by unfold Func.isWrapper; first | (rw [if_pos (by decide +kernel)]; kernel_rfl) | (rw [if_neg (by decide +kernel)]; exact ⟨rfl, rfl⟩))
    (fun os started H enc _ => eo20_lifted os started H enc)

theorem eo20_proved : Rows.FnExactEndOfSaid :=
  eo20_over
#print axioms eo20_proved

end Go.Proofs.Ytgbbigokbbllgaa
