/- Proved here: 'the program's PrintError answers as the model's; it writes into no argument', without a condition. -/
import Derived.Test.YtfjcebgknpccbaaLnR
import Derived.Test.YtfjcebgknpccbaaMkLn
import Derived.Test.YtfjcebgknpccbaaMkKn
import Derived.Test.YtfjcebgknpccbaaMkSI
import Derived.Test.YtfjcebgknpccbaaLwS
import Derived.Test.YtfjcebgknpccbaaRows
namespace Go.Proofs.Ytfjcebgknpccbaa
open Go.ChangeShapes Go.WideShapes Go.ChangeAt Go.RowKit Go.Joins
set_option linter.unusedVariables false
set_option linter.unusedSimpArgs false

theorem own : ownKnob Try.prog.godebug = none := by kernel_rfl
theorem laidOut : laidOutB Try.prog = true := by kernel_rfl

set_option maxRecDepth 10000 in
set_option maxHeartbeats 25600000 in
theorem law_pe8 {w : World} {sa0 : Option Addr} {sn0 sc0 : Nat} (s0 : List Ln) (hm0 : s0.length ≤ maxLen) (hr0 : RG 2 lnC w (.slice sa0 sn0 sc0) s0) {sa1 : Option Addr} {sn1 sc1 : Nat} (s1 : List Ln) (hm1 : s1.length ≤ maxLen) (hr1 : RG 2 lnC w (.slice sa1 sn1 sc1) s1) (n2 : Int) (L3 : Int) {sa3 : Option Addr} {sn3 sc3 : Nat} (s3 : List Int) (hm3 : sn3 ≤ maxLen) (hr3 : RdI w (.slice sa3 sn3 sc3) s3) :
    Calls Try.prog 7 #[.slice sa0 sn0 sc0, .slice sa1 sn1 sc1, .int .i64 n2, .agg #[.slice sa3 sn3 sc3, .int .i64 L3]] w fun e w' => e = .returned (.bool true) ∧ Below w.heap.size w w' := by
  have HM0 : Hid (sn0 ≤ maxLen) := by unfold Hid; rw [hr0.len]; exact hm0
  have HR0 : Hid (RG 2 lnC w (.slice sa0 sn0 sc0) s0) := hr0
  have HE0 : Hid (sn0 = s0.length) := hr0.len
  have HM1 : Hid (sn1 ≤ maxLen) := by unfold Hid; rw [hr1.len]; exact hm1
  have HR1 : Hid (RG 2 lnC w (.slice sa1 sn1 sc1) s1) := hr1
  have HE1 : Hid (sn1 = s1.length) := hr1.len
  have HM3 : Hid (sn3 ≤ maxLen) := hm3
  have HR3 : Hid (RdI w (.slice sa3 sn3 sc3) s3) := hr3
  have HE3 : Hid (sn3 = s3.length) := hr3.len
  clear hm0 hr0 hm1 hr1 hm3 hr3
  obtain ⟨BX3, hBX3⟩ : ∃ BX, BX = Obj.cells #[.slice sa3 sn3 sc3, .int .i64 L3] 31 := ⟨_, rfl⟩
  have Z0 : Hid (LS w [(w.heap.size, w.heap.size + 1, fun V : World => V.heap[w.heap.size]? = some BX3)] (w.alloc (Obj.cells #[.slice sa3 sn3 sc3, .int .i64 L3] 31))) := by
    have p0 := LS.start w
    have p1 := LS.push (V' := (w.alloc (Obj.cells #[.slice sa3 sn3 sc3, .int .i64 L3] 31))) p0 (by (repeat' (first | (with_reducible exact Below.refl _ _) | (with_reducible assumption) | (with_reducible refine Below.setCell ?_ ?_ _) | (with_reducible refine Below.alloc ?_ ?_ _) | (with_reducible refine below_drewN ?_ _) | (with_reducible refine Below.drew ?_) | (with_reducible exact Nat.le_refl _) | omega | (simp; done) | (simp; omega)))) (Ow.block (k := w.heap.size) (o := BX3) (by rw [hBX3]; have := heap_alloc_new w (Obj.cells #[.slice sa3 sn3 sc3, .int .i64 L3] 31); simpa using this)) (by simp)
    exact p1
  have TB3 : Hid (BX3 = Obj.cells #[.slice sa3 sn3 sc3, .int .i64 L3] 31) := hBX3
  clear hBX3
  go_enter Try.func7, Try.ntmps7
  go_wp2_with (fail)
  obtain ⟨W0, hW0⟩ : ∃ V, V = (w.alloc (Obj.cells #[.slice sa3 sn3 sc3, .int .i64 L3] 31)) := ⟨_, rfl⟩
  rw [← hW0] at Z0 ⊢
  clear hW0
  refine (szLineS_gen sa0 sn0 sc0 1048576 _ (by omega) (by omega) HM0.out).mono ?_
  rintro e w1 ⟨r0, rfl, hq0, hb⟩
  have Z1 : Hid (LS w [(w.heap.size, w.heap.size + 1, fun V : World => V.heap[w.heap.size]? = some BX3)] w1) := Z0.out.next hb
  clear Z0 hb
  rcases hq0 with hneg | ⟨u0, v0, t0⟩
  · go_wp2
    go_returns
    exact ⟨rfl, Z1.out.bl⟩
  have hl0 : ¬ r0 < 0 := by omega
  have HL0 : Hid (s0.length ≤ 1048576) := by unfold Hid; rw [← HE0.out]; omega
  go_wp2_with (fail)
  refine (szLineS_gen sa1 sn1 sc1 r0 _ (by omega) (by omega) HM1.out).mono ?_
  rintro e w2 ⟨r1, rfl, hq1, hb⟩
  have Z2 : Hid (LS w [(w.heap.size, w.heap.size + 1, fun V : World => V.heap[w.heap.size]? = some BX3)] w2) := Z1.out.next hb
  clear Z1 hb
  rcases hq1 with hneg | ⟨u1, v1, t1⟩
  · go_wp2
    go_returns
    exact ⟨rfl, Z2.out.bl⟩
  have hl1 : ¬ r1 < 0 := by omega
  have HL1 : Hid (s1.length ≤ 1048576) := by unfold Hid; rw [← HE1.out]; omega
  have kp3 := Z2.out.get 0 rfl
  rw [TB3.out] at kp3
  have cp3_0 : w2.cell? ⟨w.heap.size, 0, none⟩ = some (.slice sa3 sn3 sc3) := cellOf kp3 0 rfl
  have cp3_1 : w2.cell? ⟨w.heap.size, 1, none⟩ = some (.int .i64 L3) := cellOf kp3 1 rfl
  have lp3 : w.heap.size < w2.heap.size := ltOf kp3
  clear kp3
  go_wp2_with (fail)
  clear cp3_0 cp3_1 lp3
  refine (szKernel_gen L3 sa3 sn3 sc3 r1 _ (by omega) (by omega) HM3.out).mono ?_
  rintro e w3 ⟨r3, rfl, hq3, hb⟩
  have Z3 : Hid (LS w [(w.heap.size, w.heap.size + 1, fun V : World => V.heap[w.heap.size]? = some BX3)] w3) := Z2.out.next hb
  clear Z2 hb
  rcases hq3 with hneg | ⟨u3, v3, t3⟩
  · go_wp2
    go_returns
    exact ⟨rfl, Z3.out.bl⟩
  have hl3 : ¬ r3 < 0 := by omega
  have HL3 : Hid (s3.length ≤ 1048576) := by unfold Hid; rw [← HE3.out]; omega
  obtain ⟨C0, hC0⟩ : ∃ X, X = peC s0 s1 n2 s3 L3 := ⟨_, rfl⟩
  obtain ⟨C1, hC1⟩ : ∃ X, X = peV s0 s1 n2 s3 L3 := ⟨_, rfl⟩
  have HSP : Hid (∀ (W : World) (g0 g1 g3 : Nat), (RG 2 lnC W (.slice (some ⟨g0, 0, none⟩) s0.length s0.length) s0) → (RG 2 lnC W (.slice (some ⟨g1, 0, none⟩) s1.length s1.length) s1) → (RdI W (.slice (some ⟨g3, 0, none⟩) s3.length s3.length) s3) → Calls Try.prog 31 #[.slice (some ⟨g0, 0, none⟩) s0.length s0.length, .slice (some ⟨g1, 0, none⟩) s1.length s1.length, .int .i64 n2, .agg #[.slice (some ⟨g3, 0, none⟩) s3.length s3.length, .int .i64 L3]] W fun e w' => e = .returned (.agg #[.int .i64 C0, .int .i64 C1]) ∧ Below W.heap.size W w') := fun W g0 g1 g3 h0 h1 h3 => by
    rw [hC1, hC0]
    exact spec_pe L3 n2 HL0.out HL1.out h0 h1 h3
  have HIM : Hid (∀ (W : World) (g0 g1 g3 : Nat), (RG 2 lnC W (.slice (some ⟨g0, 0, none⟩) s0.length s0.length) s0) → (RG 2 lnC W (.slice (some ⟨g1, 0, none⟩) s1.length s1.length) s1) → (RdI W (.slice (some ⟨g3, 0, none⟩) s3.length s3.length) s3) → Calls Try.prog 32 #[.slice (some ⟨g0, 0, none⟩) s0.length s0.length, .slice (some ⟨g1, 0, none⟩) s1.length s1.length, .int .i64 n2, .agg #[.slice (some ⟨g3, 0, none⟩) s3.length s3.length, .int .i64 L3]] W fun e w' => e = .returned (.agg #[.int .i64 C0, .int .i64 C1]) ∧ Below W.heap.size W w') := fun W g0 g1 g3 h0 h1 h3 => by
    rw [hC1, hC0]
    exact impl_pe L3 n2 HL0.out HL1.out h0 h1 h3
  clear hC0 hC1 u0 v0 t0 u1 v1 t1 u3 v3 t3
  have kp3 := Z3.out.get 0 rfl
  rw [TB3.out] at kp3
  have cp3_0 : w3.cell? ⟨w.heap.size, 0, none⟩ = some (.slice sa3 sn3 sc3) := cellOf kp3 0 rfl
  have cp3_1 : w3.cell? ⟨w.heap.size, 1, none⟩ = some (.int .i64 L3) := cellOf kp3 1 rfl
  have lp3 : w.heap.size < w3.heap.size := ltOf kp3
  clear kp3
  go_wp2_with (fail)
  have HWB : Below w.heap.size w w3 := Z3.out.bl
  refine wp_region_float (by kernel_rfl) (fun hS => ?_)
  refine fl_take (i := 0) (d := 30) (v := .slice sa0 sn0 sc0) rfl rfl rfl (by kernel_rfl) (by kernel_rfl) (by kernel_rfl) hS ?_ ?_
  · intro w' hk; go_simp
  simp only [Act.put, List.setIfInBounds_toArray, List.set_cons_zero, List.set_cons_succ]
  refine fl_take (i := 2) (d := 32) (v := .slice sa1 sn1 sc1) rfl rfl rfl (by kernel_rfl) (by kernel_rfl) (by kernel_rfl) hS ?_ ?_
  · intro w' hk; go_simp
  simp only [Act.put, List.setIfInBounds_toArray, List.set_cons_zero, List.set_cons_succ]
  refine fl_take (i := 4) (d := 34) (v := .int .i64 n2) rfl rfl rfl (by kernel_rfl) (by kernel_rfl) (by kernel_rfl) hS ?_ ?_
  · intro w' hk; go_simp
  simp only [Act.put, List.setIfInBounds_toArray, List.set_cons_zero, List.set_cons_succ]
  refine fl_take (i := 5) (d := 35) (v := .agg #[.slice sa3 sn3 sc3, .int .i64 L3]) rfl rfl rfl (by kernel_rfl) (by kernel_rfl) (by kernel_rfl) hS ?_ ?_
  · intro w' hk; go_simp
  simp only [Act.put, List.setIfInBounds_toArray, List.set_cons_zero, List.set_cons_succ]
  refine float_pend (z := #[.int .i64 0, .int .i64 0]) (T := 52) (ja := 8) (js := 9) rfl rfl rfl rfl rfl (fun a w => by go_simp) [1, 3, 6, 7] _ _ _ (fun _ => False) (by kernel_rfl) (by kernel_rfl) ?_ (Nat.le_refl _) (fun _ h => h.elim) hS
  intro ya0 hW0
  have hB0 : Below w3.heap.size w3 ya0 := hS.2.trans (hW0.mono hS.2.size)
  refine ⟨_, 31, _, _, rfl, rfl, by go_simp, (toLineS_any HL0.out ((HR0.out.below HWB).below hB0)).mono ?_⟩
  rintro e qa0 ⟨ga0, rfl, ho0, hb0⟩
  have hC0 : Below w3.heap.size w3 qa0 := hB0.trans (hb0.mono hB0.size)
  refine ⟨_, rfl, hb0, ?_⟩
  simp only [Act.put, List.setIfInBounds_toArray, List.set_cons_zero, List.set_cons_succ]
  intro ya1 hW1
  have hB1 : Below w3.heap.size w3 ya1 := hC0.trans (hW1.mono hC0.size)
  refine ⟨_, 33, _, _, rfl, rfl, by go_simp, (toLineS_any HL1.out ((HR1.out.below HWB).below hB1)).mono ?_⟩
  rintro e qa1 ⟨ga1, rfl, ho1, hb1⟩
  have hC1 : Below w3.heap.size w3 qa1 := hB1.trans (hb1.mono hB1.size)
  refine ⟨_, rfl, hb1, ?_⟩
  simp only [Act.put, List.setIfInBounds_toArray, List.set_cons_zero, List.set_cons_succ]
  intro ya2 hW2
  have hB2 : Below w3.heap.size w3 ya2 := hC1.trans (hW2.mono hC1.size)
  refine ⟨_, 36, _, _, rfl, rfl, by go_simp, (toKernel_any L3 HL3.out ((HR3.out.below HWB).below hB2)).mono ?_⟩
  rintro e qa2 ⟨ga2, rfl, ho2, hb2⟩
  have hC2 : Below w3.heap.size w3 qa2 := hB2.trans (hb2.mono hB2.size)
  refine ⟨_, rfl, hb2, ?_⟩
  simp only [Act.put, List.setIfInBounds_toArray, List.set_cons_zero, List.set_cons_succ]
  intro ya3 hW3
  have hB3 : Below w3.heap.size w3 ya3 := hC2.trans (hW3.mono hC2.size)
  refine ⟨_, 37, _, _, rfl, rfl, by go_simp, (HSP.out ya3 ga0 ga1 ga2 (RG.below (RG.below (RG.below (RG.below (RG.below ((OG.rg lnC_len ho0)) hW1) hb1) hW2) hb2) hW3) (RG.below (RG.below (RG.below ((OG.rg lnC_len ho1)) hW2) hb2) hW3) (RG.below (ho2.rg) hW3)).mono ?_⟩
  rintro e yea ⟨rfl, hbq⟩
  refine ⟨_, rfl, hbq, ?_⟩
  simp only [Act.put, List.setIfInBounds_toArray, List.set_cons_zero, List.set_cons_succ]
  unfold Fl
  refine after_store ?_ _ _ _ #[.int .i64 C0, .int .i64 C1] (by rfl) (by rfl) (fun _ => by rfl) (fun _ => by rfl) (by simp) (by kernel_rfl) (by simp [Value.oneCell']) ?_
  · exact Nat.le_refl _
  intro Ka Va hK hk1 hk2 hF hoth hsz hcell
  simp only [Act.put, List.setIfInBounds_toArray, List.set_cons_zero, List.set_cons_succ]
  refine NoPanic.normal ?_
  obtain ⟨oqa, hoq⟩ : ∃ oq, Va.heap[Ka]? = some oq := ⟨_, Array.getElem?_eq_getElem hk2⟩
  have TCa : Hid (∀ W : World, W.heap[Ka]? = some oqa → W.cell? ⟨Ka, 0, none⟩ = some (.int .i64 C0) ∧ W.cell? ⟨Ka, 1, none⟩ = some (.int .i64 C1) ∧ Ka < W.heap.size) := fun W h => ⟨(cellSame hoq h 0).trans (hcell 0 _ rfl), (cellSame hoq h 1).trans (hcell 1 _ rfl), ltOf h⟩
  have Z4 : Hid (LS w [(w.heap.size, w.heap.size + 1, fun V : World => V.heap[w.heap.size]? = some BX3), (w3.heap.size, Va.heap.size, fun V : World => V.heap[Ka]? = some oqa)] Va) := Z3.out.push hK.2 (Ow.wide (Ow.block hoq) hk1 hk2 (Nat.le_refl _)) (Nat.le_refl _)
  clear Z3 HWB hK hk1 hk2 hF hoth hsz hcell hoq hbq hS hW0 hB0 hC0 ho0 hb0 hW1 hB1 hC1 ho1 hb1 hW2 hB2 hC2 ho2 hb2 hW3 hB3 cp3_0 cp3_1 lp3
  go_wp2_with (fail)
  refine (toLineS_any HL0.out (HR0.out.below Z4.out.bl)).mono ?_
  rintro e w4 ⟨x0, rfl, ho, hb⟩
  have Z5 : Hid (LS w [(w.heap.size, w.heap.size + 1, fun V : World => V.heap[w.heap.size]? = some BX3), (w3.heap.size, Va.heap.size, fun V : World => V.heap[Ka]? = some oqa), (Va.heap.size, w4.heap.size, fun V : World => V.ownsRow Va.heap.size 60 2 (.slice (some ⟨x0, 0, none⟩) s0.length s0.length) s0.length (s0.flatMap lnC))] w4) := Z4.out.push hb (Ow.rowAll ho hb) (Nat.le_refl _)
  clear Z4 hb ho
  go_wp2_with (fail)
  refine (toLineS_any HL1.out (HR1.out.below Z5.out.bl)).mono ?_
  rintro e w5 ⟨x1, rfl, ho, hb⟩
  have Z6 : Hid (LS w [(w.heap.size, w.heap.size + 1, fun V : World => V.heap[w.heap.size]? = some BX3), (w3.heap.size, Va.heap.size, fun V : World => V.heap[Ka]? = some oqa), (Va.heap.size, w4.heap.size, fun V : World => V.ownsRow Va.heap.size 60 2 (.slice (some ⟨x0, 0, none⟩) s0.length s0.length) s0.length (s0.flatMap lnC)), (w4.heap.size, w5.heap.size, fun V : World => V.ownsRow w4.heap.size 60 2 (.slice (some ⟨x1, 0, none⟩) s1.length s1.length) s1.length (s1.flatMap lnC))] w5) := Z5.out.push hb (Ow.rowAll ho hb) (Nat.le_refl _)
  clear Z5 hb ho
  have kp3 := Z6.out.get 0 rfl
  rw [TB3.out] at kp3
  have cp3_0 : w5.cell? ⟨w.heap.size, 0, none⟩ = some (.slice sa3 sn3 sc3) := cellOf kp3 0 rfl
  have cp3_1 : w5.cell? ⟨w.heap.size, 1, none⟩ = some (.int .i64 L3) := cellOf kp3 1 rfl
  have lp3 : w.heap.size < w5.heap.size := ltOf kp3
  clear kp3
  go_wp2_with (fail)
  clear cp3_0 cp3_1 lp3
  refine (toKernel_any L3 HL3.out (HR3.out.below Z6.out.bl)).mono ?_
  rintro e w6 ⟨x3, rfl, ho, hb⟩
  have Z7 : Hid (LS w [(w.heap.size, w.heap.size + 1, fun V : World => V.heap[w.heap.size]? = some BX3), (w3.heap.size, Va.heap.size, fun V : World => V.heap[Ka]? = some oqa), (Va.heap.size, w4.heap.size, fun V : World => V.ownsRow Va.heap.size 60 2 (.slice (some ⟨x0, 0, none⟩) s0.length s0.length) s0.length (s0.flatMap lnC)), (w4.heap.size, w5.heap.size, fun V : World => V.ownsRow w4.heap.size 60 2 (.slice (some ⟨x1, 0, none⟩) s1.length s1.length) s1.length (s1.flatMap lnC)), (w5.heap.size, w6.heap.size, fun V : World => V.ownsRow w5.heap.size 2 1 (.slice (some ⟨x3, 0, none⟩) s3.length s3.length) s3.length (s3.map (Value.int .i64)))] w6) := Z6.out.push hb (Ow.rowAll ho hb) (Nat.le_refl _)
  clear Z6 hb ho
  have Z8 : Hid (LS w [(w.heap.size, w.heap.size + 1, fun V : World => V.heap[w.heap.size]? = some BX3), (w3.heap.size, Va.heap.size, fun V : World => V.heap[Ka]? = some oqa), (Va.heap.size, w4.heap.size, fun V : World => V.ownsRow Va.heap.size 60 2 (.slice (some ⟨x0, 0, none⟩) s0.length s0.length) s0.length (s0.flatMap lnC)), (w4.heap.size, w5.heap.size, fun V : World => V.ownsRow w4.heap.size 60 2 (.slice (some ⟨x1, 0, none⟩) s1.length s1.length) s1.length (s1.flatMap lnC)), (w5.heap.size, w6.heap.size, fun V : World => V.ownsRow w5.heap.size 2 1 (.slice (some ⟨x3, 0, none⟩) s3.length s3.length) s3.length (s3.map (Value.int .i64))), (w6.heap.size, w6.heap.size + 1, fun V : World => V.heap[w6.heap.size]? = some (Obj.cells #[.slice (some ⟨x3, 0, none⟩) s3.length s3.length, .int .i64 L3] 34))] (w6.alloc (Obj.cells #[.slice (some ⟨x3, 0, none⟩) s3.length s3.length, .int .i64 L3] 34))) := Z7.out.push (by (repeat' (first | (with_reducible exact Below.refl _ _) | (with_reducible assumption) | (with_reducible refine Below.setCell ?_ ?_ _) | (with_reducible refine Below.alloc ?_ ?_ _) | (with_reducible refine below_drewN ?_ _) | (with_reducible refine Below.drew ?_) | (with_reducible exact Nat.le_refl _) | omega | (simp; done) | (simp; omega)))) (Ow.block (heap_alloc_new _ _)) (Nat.le_refl _)
  clear Z7
  go_wp2_with (fail)
  obtain ⟨Vx3, hV⟩ : ∃ V, V = w6.alloc (Obj.cells #[.slice (some ⟨x3, 0, none⟩) s3.length s3.length, .int .i64 L3] 34) := ⟨_, rfl⟩
  rw [← hV] at Z8 ⊢
  obtain ⟨Kx3, hK⟩ : ∃ K, K = w6.heap.size := ⟨_, rfl⟩
  rw [← hK] at Z8  ⊢
  clear hV hK
  refine (HIM.out Vx3 x0 x1 x3 (OG.rg (T := 60) (B := Va.heap.size) lnC_len (show Vx3.ownsRow Va.heap.size 60 2 (.slice (some ⟨x0, 0, none⟩) s0.length s0.length) s0.length (s0.flatMap lnC) from Z8.out.get 2 rfl)) (OG.rg (T := 60) (B := w4.heap.size) lnC_len (show Vx3.ownsRow w4.heap.size 60 2 (.slice (some ⟨x1, 0, none⟩) s1.length s1.length) s1.length (s1.flatMap lnC) from Z8.out.get 3 rfl)) (IS.rg (B := w5.heap.size) (show Vx3.ownsRow w5.heap.size 2 1 (.slice (some ⟨x3, 0, none⟩) s3.length s3.length) s3.length (s3.map (Value.int .i64)) from Z8.out.get 4 rfl))).mono ?_
  rintro e w7 ⟨rfl, hb⟩
  have Z9 : Hid (LS w [(w.heap.size, w.heap.size + 1, fun V : World => V.heap[w.heap.size]? = some BX3), (w3.heap.size, Va.heap.size, fun V : World => V.heap[Ka]? = some oqa), (Va.heap.size, w4.heap.size, fun V : World => V.ownsRow Va.heap.size 60 2 (.slice (some ⟨x0, 0, none⟩) s0.length s0.length) s0.length (s0.flatMap lnC)), (w4.heap.size, w5.heap.size, fun V : World => V.ownsRow w4.heap.size 60 2 (.slice (some ⟨x1, 0, none⟩) s1.length s1.length) s1.length (s1.flatMap lnC)), (w5.heap.size, Kx3, fun V : World => V.ownsRow w5.heap.size 2 1 (.slice (some ⟨x3, 0, none⟩) s3.length s3.length) s3.length (s3.map (Value.int .i64))), (Kx3, Kx3 + 1, fun V : World => V.heap[Kx3]? = some (Obj.cells #[.slice (some ⟨x3, 0, none⟩) s3.length s3.length, .int .i64 L3] 34))] w7) := Z8.out.next hb
  clear Z8 hb
  obtain ⟨cva_0, cva_1, lva⟩ := TCa.out w7 (Z9.out.get 1 rfl)
  have Z10 : Hid (LS w [(w.heap.size, w.heap.size + 1, fun V : World => V.heap[w.heap.size]? = some BX3), (w3.heap.size, Va.heap.size, fun V : World => V.heap[Ka]? = some oqa), (Va.heap.size, w4.heap.size, fun V : World => V.ownsRow Va.heap.size 60 2 (.slice (some ⟨x0, 0, none⟩) s0.length s0.length) s0.length (s0.flatMap lnC)), (w4.heap.size, w5.heap.size, fun V : World => V.ownsRow w4.heap.size 60 2 (.slice (some ⟨x1, 0, none⟩) s1.length s1.length) s1.length (s1.flatMap lnC)), (w5.heap.size, Kx3, fun V : World => V.ownsRow w5.heap.size 2 1 (.slice (some ⟨x3, 0, none⟩) s3.length s3.length) s3.length (s3.map (Value.int .i64))), (Kx3, Kx3 + 1, fun V : World => V.heap[Kx3]? = some (Obj.cells #[.slice (some ⟨x3, 0, none⟩) s3.length s3.length, .int .i64 L3] 34)), (w7.heap.size, w7.heap.size + 1, fun V : World => V.heap[w7.heap.size]? = some (Obj.cells #[.int .i64 C0, .int .i64 C1] 52))] (w7.alloc (Obj.cells #[.int .i64 C0, .int .i64 C1] 52))) := Z9.out.push (by (repeat' (first | (with_reducible exact Below.refl _ _) | (with_reducible assumption) | (with_reducible refine Below.setCell ?_ ?_ _) | (with_reducible refine Below.alloc ?_ ?_ _) | (with_reducible refine below_drewN ?_ _) | (with_reducible refine Below.drew ?_) | (with_reducible exact Nat.le_refl _) | omega | (simp; done) | (simp; omega)))) (Ow.block (heap_alloc_new _ _)) (Nat.le_refl _)
  clear Z9
  go_wp2_with (fail)
  obtain ⟨Vg, hV⟩ : ∃ V, V = w7.alloc (Obj.cells #[.int .i64 C0, .int .i64 C1] 52) := ⟨_, rfl⟩
  rw [← hV] at Z10 ⊢
  obtain ⟨Kg, hK⟩ : ∃ K, K = w7.heap.size := ⟨_, rfl⟩
  rw [← hK] at Z10  ⊢
  clear hV hK
  clear cva_0 cva_1 lva
  refine (eqShapeInt_to C0 C1 _).mono ?_
  rintro e w8 ⟨rfl, hb⟩
  have Z11 : Hid (LS w [(w.heap.size, w.heap.size + 1, fun V : World => V.heap[w.heap.size]? = some BX3), (w3.heap.size, Va.heap.size, fun V : World => V.heap[Ka]? = some oqa), (Va.heap.size, w4.heap.size, fun V : World => V.ownsRow Va.heap.size 60 2 (.slice (some ⟨x0, 0, none⟩) s0.length s0.length) s0.length (s0.flatMap lnC)), (w4.heap.size, w5.heap.size, fun V : World => V.ownsRow w4.heap.size 60 2 (.slice (some ⟨x1, 0, none⟩) s1.length s1.length) s1.length (s1.flatMap lnC)), (w5.heap.size, Kx3, fun V : World => V.ownsRow w5.heap.size 2 1 (.slice (some ⟨x3, 0, none⟩) s3.length s3.length) s3.length (s3.map (Value.int .i64))), (Kx3, Kx3 + 1, fun V : World => V.heap[Kx3]? = some (Obj.cells #[.slice (some ⟨x3, 0, none⟩) s3.length s3.length, .int .i64 L3] 34)), (Kg, Kg + 1, fun V : World => V.heap[Kg]? = some (Obj.cells #[.int .i64 C0, .int .i64 C1] 52))] w8) := Z10.out.next hb
  clear Z10 hb
  go_wp2_with (fail)
  refine (toLineS_any HL0.out (HR0.out.below Z11.out.bl)).mono ?_
  rintro e w9 ⟨e0, rfl, ho, hb⟩
  have Z12 : Hid (LS w [(w.heap.size, w.heap.size + 1, fun V : World => V.heap[w.heap.size]? = some BX3), (w3.heap.size, Va.heap.size, fun V : World => V.heap[Ka]? = some oqa), (Va.heap.size, w4.heap.size, fun V : World => V.ownsRow Va.heap.size 60 2 (.slice (some ⟨x0, 0, none⟩) s0.length s0.length) s0.length (s0.flatMap lnC)), (w4.heap.size, w5.heap.size, fun V : World => V.ownsRow w4.heap.size 60 2 (.slice (some ⟨x1, 0, none⟩) s1.length s1.length) s1.length (s1.flatMap lnC)), (w5.heap.size, Kx3, fun V : World => V.ownsRow w5.heap.size 2 1 (.slice (some ⟨x3, 0, none⟩) s3.length s3.length) s3.length (s3.map (Value.int .i64))), (Kx3, Kx3 + 1, fun V : World => V.heap[Kx3]? = some (Obj.cells #[.slice (some ⟨x3, 0, none⟩) s3.length s3.length, .int .i64 L3] 34)), (Kg, Kg + 1, fun V : World => V.heap[Kg]? = some (Obj.cells #[.int .i64 C0, .int .i64 C1] 52)), (w8.heap.size, w9.heap.size, fun V : World => V.ownsRow w8.heap.size 60 2 (.slice (some ⟨e0, 0, none⟩) s0.length s0.length) s0.length (s0.flatMap lnC))] w9) := Z11.out.push hb (Ow.rowAll ho hb) (Nat.le_refl _)
  clear Z11 hb ho
  go_wp2_with (fail)
  refine (eqLineS_same (by have := HL0.out; omega) (OG.rg (T := 60) (B := Va.heap.size) lnC_len (show w9.ownsRow Va.heap.size 60 2 (.slice (some ⟨x0, 0, none⟩) s0.length s0.length) s0.length (s0.flatMap lnC) from Z12.out.get 2 rfl)) (OG.rg (T := 60) (B := w8.heap.size) lnC_len (show w9.ownsRow w8.heap.size 60 2 (.slice (some ⟨e0, 0, none⟩) s0.length s0.length) s0.length (s0.flatMap lnC) from Z12.out.get 7 rfl))).mono ?_
  rintro e w10 ⟨rfl, hb⟩
  have Z13 : Hid (LS w [(w.heap.size, w.heap.size + 1, fun V : World => V.heap[w.heap.size]? = some BX3), (w3.heap.size, Va.heap.size, fun V : World => V.heap[Ka]? = some oqa), (Va.heap.size, w4.heap.size, fun V : World => V.ownsRow Va.heap.size 60 2 (.slice (some ⟨x0, 0, none⟩) s0.length s0.length) s0.length (s0.flatMap lnC)), (w4.heap.size, w5.heap.size, fun V : World => V.ownsRow w4.heap.size 60 2 (.slice (some ⟨x1, 0, none⟩) s1.length s1.length) s1.length (s1.flatMap lnC)), (w5.heap.size, Kx3, fun V : World => V.ownsRow w5.heap.size 2 1 (.slice (some ⟨x3, 0, none⟩) s3.length s3.length) s3.length (s3.map (Value.int .i64))), (Kx3, Kx3 + 1, fun V : World => V.heap[Kx3]? = some (Obj.cells #[.slice (some ⟨x3, 0, none⟩) s3.length s3.length, .int .i64 L3] 34)), (Kg, Kg + 1, fun V : World => V.heap[Kg]? = some (Obj.cells #[.int .i64 C0, .int .i64 C1] 52)), (w8.heap.size, w9.heap.size, fun V : World => V.ownsRow w8.heap.size 60 2 (.slice (some ⟨e0, 0, none⟩) s0.length s0.length) s0.length (s0.flatMap lnC))] w10) := Z12.out.next hb
  clear Z12 hb
  go_wp2_with (fail)
  refine (toLineS_any HL1.out (HR1.out.below Z13.out.bl)).mono ?_
  rintro e w11 ⟨e1, rfl, ho, hb⟩
  have Z14 : Hid (LS w [(w.heap.size, w.heap.size + 1, fun V : World => V.heap[w.heap.size]? = some BX3), (w3.heap.size, Va.heap.size, fun V : World => V.heap[Ka]? = some oqa), (Va.heap.size, w4.heap.size, fun V : World => V.ownsRow Va.heap.size 60 2 (.slice (some ⟨x0, 0, none⟩) s0.length s0.length) s0.length (s0.flatMap lnC)), (w4.heap.size, w5.heap.size, fun V : World => V.ownsRow w4.heap.size 60 2 (.slice (some ⟨x1, 0, none⟩) s1.length s1.length) s1.length (s1.flatMap lnC)), (w5.heap.size, Kx3, fun V : World => V.ownsRow w5.heap.size 2 1 (.slice (some ⟨x3, 0, none⟩) s3.length s3.length) s3.length (s3.map (Value.int .i64))), (Kx3, Kx3 + 1, fun V : World => V.heap[Kx3]? = some (Obj.cells #[.slice (some ⟨x3, 0, none⟩) s3.length s3.length, .int .i64 L3] 34)), (Kg, Kg + 1, fun V : World => V.heap[Kg]? = some (Obj.cells #[.int .i64 C0, .int .i64 C1] 52)), (w8.heap.size, w9.heap.size, fun V : World => V.ownsRow w8.heap.size 60 2 (.slice (some ⟨e0, 0, none⟩) s0.length s0.length) s0.length (s0.flatMap lnC)), (w10.heap.size, w11.heap.size, fun V : World => V.ownsRow w10.heap.size 60 2 (.slice (some ⟨e1, 0, none⟩) s1.length s1.length) s1.length (s1.flatMap lnC))] w11) := Z13.out.push hb (Ow.rowAll ho hb) (Nat.le_refl _)
  clear Z13 hb ho
  go_wp2_with (fail)
  refine (eqLineS_same (by have := HL1.out; omega) (OG.rg (T := 60) (B := w4.heap.size) lnC_len (show w11.ownsRow w4.heap.size 60 2 (.slice (some ⟨x1, 0, none⟩) s1.length s1.length) s1.length (s1.flatMap lnC) from Z14.out.get 3 rfl)) (OG.rg (T := 60) (B := w10.heap.size) lnC_len (show w11.ownsRow w10.heap.size 60 2 (.slice (some ⟨e1, 0, none⟩) s1.length s1.length) s1.length (s1.flatMap lnC) from Z14.out.get 8 rfl))).mono ?_
  rintro e w12 ⟨rfl, hb⟩
  have Z15 : Hid (LS w [(w.heap.size, w.heap.size + 1, fun V : World => V.heap[w.heap.size]? = some BX3), (w3.heap.size, Va.heap.size, fun V : World => V.heap[Ka]? = some oqa), (Va.heap.size, w4.heap.size, fun V : World => V.ownsRow Va.heap.size 60 2 (.slice (some ⟨x0, 0, none⟩) s0.length s0.length) s0.length (s0.flatMap lnC)), (w4.heap.size, w5.heap.size, fun V : World => V.ownsRow w4.heap.size 60 2 (.slice (some ⟨x1, 0, none⟩) s1.length s1.length) s1.length (s1.flatMap lnC)), (w5.heap.size, Kx3, fun V : World => V.ownsRow w5.heap.size 2 1 (.slice (some ⟨x3, 0, none⟩) s3.length s3.length) s3.length (s3.map (Value.int .i64))), (Kx3, Kx3 + 1, fun V : World => V.heap[Kx3]? = some (Obj.cells #[.slice (some ⟨x3, 0, none⟩) s3.length s3.length, .int .i64 L3] 34)), (Kg, Kg + 1, fun V : World => V.heap[Kg]? = some (Obj.cells #[.int .i64 C0, .int .i64 C1] 52)), (w8.heap.size, w9.heap.size, fun V : World => V.ownsRow w8.heap.size 60 2 (.slice (some ⟨e0, 0, none⟩) s0.length s0.length) s0.length (s0.flatMap lnC)), (w10.heap.size, w11.heap.size, fun V : World => V.ownsRow w10.heap.size 60 2 (.slice (some ⟨e1, 0, none⟩) s1.length s1.length) s1.length (s1.flatMap lnC))] w12) := Z14.out.next hb
  clear Z14 hb
  have kvx3 := Z15.out.get 5 rfl
  have cvx3_0 : w12.cell? ⟨Kx3, 0, none⟩ = some (.slice (some ⟨x3, 0, none⟩) s3.length s3.length) := cellOf kvx3 0 rfl
  have cvx3_1 : w12.cell? ⟨Kx3, 1, none⟩ = some (.int .i64 L3) := cellOf kvx3 1 rfl
  have lvx3 : Kx3 < w12.heap.size := ltOf kvx3
  clear kvx3
  have kp3 := Z15.out.get 0 rfl
  rw [TB3.out] at kp3
  have cp3_0 : w12.cell? ⟨w.heap.size, 0, none⟩ = some (.slice sa3 sn3 sc3) := cellOf kp3 0 rfl
  have cp3_1 : w12.cell? ⟨w.heap.size, 1, none⟩ = some (.int .i64 L3) := cellOf kp3 1 rfl
  have lp3 : w.heap.size < w12.heap.size := ltOf kp3
  clear kp3
  go_wp2_with (fail)
  refine wp_region_float (by kernel_rfl) (fun hS => ?_)
  refine fl_take (i := 0) (d := 63) (v := .agg #[.slice (some ⟨x3, 0, none⟩) s3.length s3.length, .int .i64 L3]) rfl rfl rfl (by kernel_rfl) (by kernel_rfl) (by kernel_rfl) hS ?_ ?_
  · intro w' hk; go_simp
  simp only [Act.put, List.setIfInBounds_toArray, List.set_cons_zero, List.set_cons_succ]
  refine fl_take (i := 1) (d := 64) (v := .agg #[.slice sa3 sn3 sc3, .int .i64 L3]) rfl rfl rfl (by kernel_rfl) (by kernel_rfl) (by kernel_rfl) hS ?_ ?_
  · intro w' hk; go_simp
  simp only [Act.put, List.setIfInBounds_toArray, List.set_cons_zero, List.set_cons_succ]
  refine wpAnyH_all (rs := [2]) (by kernel_rfl) (by simp) ?_
  intro i hi
  obtain rfl : i = 2 := by simpa using hi
  refine op_call (d := 65) rfl rfl rfl (by go_simp) ((toKernel_any L3 HL3.out ((HR3.out.below Z15.out.bl).below (Below.refl _ _).drew)).mono ?_)
  rintro e ya3 ⟨gy3, rfl, hk5, hb5⟩
  have hK5 : KS w12 ya3 := hS.call hb5
  refine ⟨_, rfl, hK5, ?_⟩
  simp only [Act.put, List.setIfInBounds_toArray, List.set_cons_zero, List.set_cons_succ]
  refine wpAnyH_all (rs := [3]) (by kernel_rfl) (by simp) ?_
  intro i hi
  obtain rfl : i = 3 := by simpa using hi
  refine op_call (d := 66) rfl rfl rfl (by go_simp) ((eqKernel_same L3 (by have := HL3.out; omega) (RG.below (IS.rg (B := w5.heap.size) (show w12.ownsRow w5.heap.size 2 1 (.slice (some ⟨x3, 0, none⟩) s3.length s3.length) s3.length (s3.map (Value.int .i64)) from Z15.out.get 4 rfl)) hK5.2) (hk5.rg)).mono ?_)
  rintro e yb3 ⟨rfl, hb6⟩
  have hK6 : KS w12 yb3 := hK5.call hb6
  refine ⟨_, rfl, hK6, ?_⟩
  simp only [Act.put, List.setIfInBounds_toArray, List.set_cons_zero, List.set_cons_succ]
  refine wpAnyH_all (rs := [4]) (by kernel_rfl) (by simp) ?_
  intro i hi
  obtain rfl : i = 4 := by simpa using hi
  refine op_val (d := 67) (v := .bool false) (w' := yb3) rfl rfl rfl (by go_simp; try rfl) ?_
  simp only [Act.put, List.setIfInBounds_toArray, List.set_cons_zero, List.set_cons_succ]
  refine ⟨hK6, wpAnyH_done (by kernel_rfl) (NoPanic.normal ?_) _⟩
  have Z16 : Hid (LS w [(w.heap.size, w.heap.size + 1, fun V : World => V.heap[w.heap.size]? = some BX3), (w3.heap.size, Va.heap.size, fun V : World => V.heap[Ka]? = some oqa), (Va.heap.size, w4.heap.size, fun V : World => V.ownsRow Va.heap.size 60 2 (.slice (some ⟨x0, 0, none⟩) s0.length s0.length) s0.length (s0.flatMap lnC)), (w4.heap.size, w5.heap.size, fun V : World => V.ownsRow w4.heap.size 60 2 (.slice (some ⟨x1, 0, none⟩) s1.length s1.length) s1.length (s1.flatMap lnC)), (w5.heap.size, Kx3, fun V : World => V.ownsRow w5.heap.size 2 1 (.slice (some ⟨x3, 0, none⟩) s3.length s3.length) s3.length (s3.map (Value.int .i64))), (Kx3, Kx3 + 1, fun V : World => V.heap[Kx3]? = some (Obj.cells #[.slice (some ⟨x3, 0, none⟩) s3.length s3.length, .int .i64 L3] 34)), (Kg, Kg + 1, fun V : World => V.heap[Kg]? = some (Obj.cells #[.int .i64 C0, .int .i64 C1] 52)), (w8.heap.size, w9.heap.size, fun V : World => V.ownsRow w8.heap.size 60 2 (.slice (some ⟨e0, 0, none⟩) s0.length s0.length) s0.length (s0.flatMap lnC)), (w10.heap.size, w11.heap.size, fun V : World => V.ownsRow w10.heap.size 60 2 (.slice (some ⟨e1, 0, none⟩) s1.length s1.length) s1.length (s1.flatMap lnC))] yb3) := Z15.out.next hK6.2
  clear Z15 hK6 hK5 hb6 hb5 hk5 hS cvx3_0 cvx3_1 lvx3 cp3_0 cp3_1 lp3
  go_wp2
  go_returns
  exact ⟨rfl, Z16.out.bl⟩

set_option maxRecDepth 100000 in
theorem pe8_lifted (os : Os) (started : os.Started) (H : Type) (enc : TypeId × Value → H) :
    ReturnsInHanded {} Try.checked os 7 .any (Rows.fnExactPrintErrorSpec.pre6 enc Try.prog Try.f7 Rows.fnExactPrintErrorRow.domain false) (Rows.fnExactPrintErrorSpec.post enc Try.prog Try.f7 false true false false) := by
  refine returnsInHanded_of_change (C := Try.checked) own started (by kernel_rfl) Try.func7
    (ChangeSpec.witness6 (enc := enc) (C := Try.checked) false ⟨#[], #[.slice none 0 0, .slice none 0 0, .int .i64 0, .agg #[.slice none 0 0, .int .i64 0]], []⟩ 8 (by kernel_rfl) (by kernel_rfl) (by kernel_rfl) (by kernel_rfl)) ?_
  intro W base args ds gs before hval0 hW hcnd _
  have hval : ∀ (j : Nat) t v, Try.f7.params[j]? = some t → args[j]? = some v → Value.okWide Try.prog W .any base t v := hval0
  have hW' := hW
  obtain ⟨p, q, hA0, hV, rfl, hfz, hnd⟩ := hW
  have hA : DataW.TrodAll enc Try.prog W 0 (fun _ => true) true Try.f7.params.toList args.toList ds p := hA0
  rw [Try.params7] at hA hval
  obtain ⟨v0, vs0, d0, ds0, p0, q0, hargs, rfl, rfl, h0, r0⟩ := trodAll_cons hA
  obtain ⟨v1, vs1, d1, ds1, p1, q1, rfl, rfl, rfl, h1, r1⟩ := trodAll_cons r0
  obtain ⟨v2, vs2, d2, ds2, p2, q2, rfl, rfl, rfl, h2, r2⟩ := trodAll_cons r1
  obtain ⟨v3, vs3, d3, ds3, p3, q3, rfl, rfl, rfl, h3, r3⟩ := trodAll_cons r2
  obtain ⟨rfl, rfl, rfl⟩ := trodAll_nil r3
  obtain rfl : args = #[v0, v1, v2, v3] := by cases args; simp_all
  obtain ⟨rfl, rfl⟩ := trodVars_none hV
  have k0 := h0
  have lt0 : ∀ x ∈ p0, x.block < W.heap.size := by obtain ⟨m, hm⟩ := k0; exact DataW.trod_lt m _ _ _ hm
  obtain ⟨sa0, sn0, sc0, s0, rfl, rb0, sl0⟩ := lines_open (hval 0 22 v0 rfl rfl) h0
  have k1 := h1
  have lt1 : ∀ x ∈ p1, x.block < W.heap.size := by obtain ⟨m, hm⟩ := k1; exact DataW.trod_lt m _ _ _ hm
  obtain ⟨sa1, sn1, sc1, s1, rfl, rb1, sl1⟩ := lines_open (hval 1 22 v1 rfl rfl) h1
  obtain ⟨n2, rfl, rfl, rfl, wn2⟩ := open_int Try.underlying2 (hval 2 2 v2 rfl rfl) h2
  have k3 := h3
  have lt3 : ∀ x ∈ p3, x.block < W.heap.size := by obtain ⟨m, hm⟩ := k3; exact DataW.trod_lt m _ _ _ hm
  obtain ⟨L3, sa3, sn3, sc3, s3, rfl, ri3, sl3⟩ := kernel_open (hval 3 31 v3 rfl rfl) h3
  clear hA0 hval0
  refine (law_pe8 s0 sl0 rb0 s1 sl1 rb1 n2 L3 s3 sl3 ri3).mono fun e W' ⟨he, hg⟩ => ?_
  subst he
  exact ⟨_, rfl, _, _, _, [], _, [], hW', trodAll_mk1 (shut_bool Try.underlying4 _), (trodAll_cons_mk (Below.trod laidOut (by kernel_rfl) (of_decide_eq_true (by kernel_rfl)) k0 hg lt0) (trodAll_cons_mk (Below.trod laidOut (by kernel_rfl) (of_decide_eq_true (by kernel_rfl)) k1 hg lt1) (trodAll_cons_mk (shut_int Try.underlying2 wn2) (trodAll_cons_mk (Below.trod laidOut (by kernel_rfl) (of_decide_eq_true (by kernel_rfl)) k3 hg lt3) trodAll_mk0)))), rfl, hg.frame _, fun h => by cases h⟩

theorem pe8_over : Rows.fnExactPrintErrorRow.holds Try.pinned (OpenSpec.ofChange Rows.fnExactPrintErrorSpec) :=
  OpenClaim.holds_of_wide 7 Try.f7 rfl rfl rfl rfl rfl rfl rfl ⟨rfl, rfl, rfl, rfl, rfl⟩ rfl rfl rfl rfl rfl (by kernel_rfl) Try.func7 (by kernel_rfl)
    (of_decide_eq_true (by kernel_rfl)) (by unfold Func.isWrapper; first | (rw [if_pos (by decide +kernel)]; kernel_rfl) | (rw [if_neg (by decide +kernel)]; exact ⟨rfl, rfl⟩))
    (fun os started H enc _ => pe8_lifted os started H enc)

theorem pe8_proved : Rows.FnExactPrintErrorSaid :=
  pe8_over
#print axioms pe8_proved

end Go.Proofs.Ytfjcebgknpccbaa
