/- Proved here: 'the program's CheckCorrection answers as the model's; it writes into no argument', without a condition. -/
import Derived.Test.YtfjcebgknpccbabCkD
import Derived.Test.YtfjcebgknpccbabCkE
import Derived.Test.YtfjcebgknpccbabMkLn
import Derived.Test.YtfjcebgknpccbabMkKn
import Derived.Test.YtfjcebgknpccbabLwS
import Derived.Test.YtfjcebgknpccbabRows
namespace Go.Proofs.Ytfjcebgknpccbab
open Go.ChangeShapes Go.WideShapes Go.ChangeAt Go.RowKit Go.Joins
set_option linter.unusedVariables false
set_option linter.unusedSimpArgs false

theorem own : ownKnob Try.prog.godebug = none := by kernel_rfl
theorem laidOut : laidOutB Try.prog = true := by kernel_rfl

set_option maxRecDepth 10000 in
set_option maxHeartbeats 25600000 in
theorem law_ck8 {w : World} {sa0 : Option Addr} {sn0 sc0 : Nat} (s0 : List Ln) (hm0 : s0.length ≤ maxLen) (hr0 : RG 2 lnC w (.slice sa0 sn0 sc0) s0) (n1 : Int) (L2 : Int) {sa2 : Option Addr} {sn2 sc2 : Nat} (s2 : List Int) (hm2 : sn2 ≤ maxLen) (hr2 : RdI w (.slice sa2 sn2 sc2) s2) (C3 : Int) {sa3 : Option Addr} {sn3 sc3 : Nat} (s3 : List Ln) {ta3 : Option Addr} {tn3 tc3 : Nat} (t3 : List Int) (hm3 : sn3 ≤ maxLen ∧ tn3 ≤ maxLen) (hr3 : RdCR w (.slice sa3 sn3 sc3) (.slice ta3 tn3 tc3) s3 t3) :
    Calls Try.prog 4 #[.slice sa0 sn0 sc0, .int .i64 n1, .agg #[.slice sa2 sn2 sc2, .int .i64 L2], .agg #[.int .i64 C3, .slice sa3 sn3 sc3, .slice ta3 tn3 tc3]] w fun e w' => e = .returned (.bool true) ∧ Below w.heap.size w w' := by
  have HM0 : Hid (sn0 ≤ maxLen) := by unfold Hid; rw [hr0.len]; exact hm0
  have HR0 : Hid (RG 2 lnC w (.slice sa0 sn0 sc0) s0) := hr0
  have HE0 : Hid (sn0 = s0.length) := hr0.len
  have HM2 : Hid (sn2 ≤ maxLen) := hm2
  have HR2 : Hid (RdI w (.slice sa2 sn2 sc2) s2) := hr2
  have HE2 : Hid (sn2 = s2.length) := hr2.len
  have HM3 : Hid (sn3 ≤ maxLen ∧ tn3 ≤ maxLen) := hm3
  have HR3 : Hid (RdCR w (.slice sa3 sn3 sc3) (.slice ta3 tn3 tc3) s3 t3) := hr3
  have HE3 : Hid (sn3 = s3.length ∧ tn3 = t3.length) := ⟨hr3.ln.len, hr3.er.len⟩
  clear hm0 hr0 hm2 hr2 hm3 hr3
  obtain ⟨BX2, hBX2⟩ : ∃ BX, BX = Obj.cells #[.slice sa2 sn2 sc2, .int .i64 L2] 25 := ⟨_, rfl⟩
  obtain ⟨BX3, hBX3⟩ : ∃ BX, BX = Obj.cells #[.int .i64 C3, .slice sa3 sn3 sc3, .slice ta3 tn3 tc3] 43 := ⟨_, rfl⟩
  have Z0 : Hid (LS w [(w.heap.size, w.heap.size + 1, fun V : World => V.heap[w.heap.size]? = some BX2), ((w.heap.size + 1), (w.heap.size + 1) + 1, fun V : World => V.heap[(w.heap.size + 1)]? = some BX3)] ((w.alloc (Obj.cells #[.slice sa2 sn2 sc2, .int .i64 L2] 25)).alloc (Obj.cells #[.int .i64 C3, .slice sa3 sn3 sc3, .slice ta3 tn3 tc3] 43))) := by
    have p0 := LS.start w
    have p1 := LS.push (V' := (w.alloc (Obj.cells #[.slice sa2 sn2 sc2, .int .i64 L2] 25))) p0 (by (repeat' (first | (with_reducible exact Below.refl _ _) | (with_reducible assumption) | (with_reducible refine Below.setCell ?_ ?_ _) | (with_reducible refine Below.alloc ?_ ?_ _) | (with_reducible refine below_drewN ?_ _) | (with_reducible refine Below.drew ?_) | (with_reducible exact Nat.le_refl _) | omega | (simp; done) | (simp; omega)))) (Ow.block (k := w.heap.size) (o := BX2) (by rw [hBX2]; have := heap_alloc_new w (Obj.cells #[.slice sa2 sn2 sc2, .int .i64 L2] 25); simpa using this)) (by simp)
    have p2 := LS.push (V' := ((w.alloc (Obj.cells #[.slice sa2 sn2 sc2, .int .i64 L2] 25)).alloc (Obj.cells #[.int .i64 C3, .slice sa3 sn3 sc3, .slice ta3 tn3 tc3] 43))) p1 (by (repeat' (first | (with_reducible exact Below.refl _ _) | (with_reducible assumption) | (with_reducible refine Below.setCell ?_ ?_ _) | (with_reducible refine Below.alloc ?_ ?_ _) | (with_reducible refine below_drewN ?_ _) | (with_reducible refine Below.drew ?_) | (with_reducible exact Nat.le_refl _) | omega | (simp; done) | (simp; omega)))) (Ow.block (k := (w.heap.size + 1)) (o := BX3) (by rw [hBX3]; have := heap_alloc_new (w.alloc (Obj.cells #[.slice sa2 sn2 sc2, .int .i64 L2] 25)) (Obj.cells #[.int .i64 C3, .slice sa3 sn3 sc3, .slice ta3 tn3 tc3] 43); simpa using this)) (by simp)
    exact p2
  have TB2 : Hid (BX2 = Obj.cells #[.slice sa2 sn2 sc2, .int .i64 L2] 25) := hBX2
  have TB3 : Hid (BX3 = Obj.cells #[.int .i64 C3, .slice sa3 sn3 sc3, .slice ta3 tn3 tc3] 43) := hBX3
  clear hBX2 hBX3
  go_enter Try.func4, Try.ntmps4
  go_wp2_with (fail)
  obtain ⟨W0, hW0⟩ : ∃ V, V = ((w.alloc (Obj.cells #[.slice sa2 sn2 sc2, .int .i64 L2] 25)).alloc (Obj.cells #[.int .i64 C3, .slice sa3 sn3 sc3, .slice ta3 tn3 tc3] 43)) := ⟨_, rfl⟩
  rw [← hW0] at Z0 ⊢
  clear hW0
  refine (szLineS_gen sa0 sn0 sc0 1048576 _ (by omega) (by omega) HM0.out).mono ?_
  rintro e w1 ⟨r0, rfl, hq0, hb⟩
  have Z1 : Hid (LS w [(w.heap.size, w.heap.size + 1, fun V : World => V.heap[w.heap.size]? = some BX2), ((w.heap.size + 1), (w.heap.size + 1) + 1, fun V : World => V.heap[(w.heap.size + 1)]? = some BX3)] w1) := Z0.out.next hb
  clear Z0 hb
  rcases hq0 with hneg | ⟨u0, v0, tt0⟩
  · go_wp2
    go_returns
    exact ⟨rfl, Z1.out.bl⟩
  have hl0 : ¬ r0 < 0 := by omega
  have HL0 : Hid (s0.length ≤ 1048576) := by unfold Hid; rw [← HE0.out]; omega
  have kp2 := Z1.out.get 0 rfl
  rw [TB2.out] at kp2
  have cp2_0 : w1.cell? ⟨w.heap.size, 0, none⟩ = some (.slice sa2 sn2 sc2) := cellOf kp2 0 rfl
  have cp2_1 : w1.cell? ⟨w.heap.size, 1, none⟩ = some (.int .i64 L2) := cellOf kp2 1 rfl
  have lp2 : w.heap.size < w1.heap.size := ltOf kp2
  clear kp2
  go_wp2_with (fail)
  clear cp2_0 cp2_1 lp2
  refine (szKernel_gen L2 sa2 sn2 sc2 r0 _ (by omega) (by omega) HM2.out).mono ?_
  rintro e w2 ⟨r2, rfl, hq2, hb⟩
  have Z2 : Hid (LS w [(w.heap.size, w.heap.size + 1, fun V : World => V.heap[w.heap.size]? = some BX2), ((w.heap.size + 1), (w.heap.size + 1) + 1, fun V : World => V.heap[(w.heap.size + 1)]? = some BX3)] w2) := Z1.out.next hb
  clear Z1 hb
  rcases hq2 with hneg | ⟨u2, v2, tt2⟩
  · go_wp2
    go_returns
    exact ⟨rfl, Z2.out.bl⟩
  have hl2 : ¬ r2 < 0 := by omega
  have HL2 : Hid (s2.length ≤ 1048576) := by unfold Hid; rw [← HE2.out]; omega
  have kp3 := Z2.out.get 1 rfl
  rw [TB3.out] at kp3
  have cp3_0 : w2.cell? ⟨(w.heap.size + 1), 0, none⟩ = some (.int .i64 C3) := cellOf kp3 0 rfl
  have cp3_1 : w2.cell? ⟨(w.heap.size + 1), 1, none⟩ = some (.slice sa3 sn3 sc3) := cellOf kp3 1 rfl
  have cp3_2 : w2.cell? ⟨(w.heap.size + 1), 2, none⟩ = some (.slice ta3 tn3 tc3) := cellOf kp3 2 rfl
  have lp3 : (w.heap.size + 1) < w2.heap.size := ltOf kp3
  clear kp3
  go_wp2_with (fail)
  clear cp3_0 cp3_1 cp3_2 lp3
  refine (szCorrectResult_gen C3 sa3 sn3 sc3 ta3 tn3 tc3 r2 _ (by omega) (by omega) HM3.out).mono ?_
  rintro e w3 ⟨r3, rfl, hq3, hb⟩
  have Z3 : Hid (LS w [(w.heap.size, w.heap.size + 1, fun V : World => V.heap[w.heap.size]? = some BX2), ((w.heap.size + 1), (w.heap.size + 1) + 1, fun V : World => V.heap[(w.heap.size + 1)]? = some BX3)] w3) := Z2.out.next hb
  clear Z2 hb
  rcases hq3 with hneg | ⟨u3, v3, tt3⟩
  · go_wp2
    go_returns
    exact ⟨rfl, Z3.out.bl⟩
  have hl3 : ¬ r3 < 0 := by omega
  have HL3 : Hid (s3.length ≤ 1048576 ∧ t3.length ≤ 1048576) := by unfold Hid; rw [← HE3.out.1, ← HE3.out.2]; omega
  obtain ⟨C, hC⟩ : ∃ X, X = ckB s0 s3 n1 s2 L2 C3 t3 := ⟨_, rfl⟩
  have HSP : Hid (∀ (W : World) (g0 : Nat) (g2 : Nat) (g3 : Nat × Nat), (RG 2 lnC W (.slice (some ⟨g0, 0, none⟩) s0.length s0.length) s0) → (RdI W (.slice (some ⟨g2, 0, none⟩) s2.length s2.length) s2) → (RdCR W (.slice (some ⟨g3.1, 0, none⟩) s3.length s3.length) (.slice (some ⟨g3.2, 0, none⟩) t3.length t3.length) s3 t3) → Calls Try.prog 19 #[.slice (some ⟨g0, 0, none⟩) s0.length s0.length, .int .i64 n1, .agg #[.slice (some ⟨g2, 0, none⟩) s2.length s2.length, .int .i64 L2], .agg #[.int .i64 C3, .slice (some ⟨g3.1, 0, none⟩) s3.length s3.length, .slice (some ⟨g3.2, 0, none⟩) t3.length t3.length]] W fun e w' => e = .returned (.bool C) ∧ Below W.heap.size W w') := fun W g0 g2 g3 h0 h2 h3 => by
    rw [hC]
    exact spec_ck L2 n1 C3 HL0.out HL3.out.1 HL3.out.2 h0 h2 h3
  have HIM : Hid (∀ (W : World) (g0 : Nat) (g2 : Nat) (g3 : Nat × Nat), (RG 2 lnC W (.slice (some ⟨g0, 0, none⟩) s0.length s0.length) s0) → (RdI W (.slice (some ⟨g2, 0, none⟩) s2.length s2.length) s2) → (RdCR W (.slice (some ⟨g3.1, 0, none⟩) s3.length s3.length) (.slice (some ⟨g3.2, 0, none⟩) t3.length t3.length) s3 t3) → Calls Try.prog 21 #[.slice (some ⟨g0, 0, none⟩) s0.length s0.length, .int .i64 n1, .agg #[.slice (some ⟨g2, 0, none⟩) s2.length s2.length, .int .i64 L2], .agg #[.int .i64 C3, .slice (some ⟨g3.1, 0, none⟩) s3.length s3.length, .slice (some ⟨g3.2, 0, none⟩) t3.length t3.length]] W fun e w' => e = .returned (.bool C) ∧ Below W.heap.size W w') := fun W g0 g2 g3 h0 h2 h3 => by
    rw [hC]
    exact impl_ck L2 n1 C3 HL0.out HL3.out.1 HL3.out.2 h0 h2 h3
  clear hC u0 v0 tt0 u2 v2 tt2 u3 v3 tt3
  have kp2 := Z3.out.get 0 rfl
  rw [TB2.out] at kp2
  have cp2_0 : w3.cell? ⟨w.heap.size, 0, none⟩ = some (.slice sa2 sn2 sc2) := cellOf kp2 0 rfl
  have cp2_1 : w3.cell? ⟨w.heap.size, 1, none⟩ = some (.int .i64 L2) := cellOf kp2 1 rfl
  have lp2 : w.heap.size < w3.heap.size := ltOf kp2
  clear kp2
  have kp3 := Z3.out.get 1 rfl
  rw [TB3.out] at kp3
  have cp3_0 : w3.cell? ⟨(w.heap.size + 1), 0, none⟩ = some (.int .i64 C3) := cellOf kp3 0 rfl
  have cp3_1 : w3.cell? ⟨(w.heap.size + 1), 1, none⟩ = some (.slice sa3 sn3 sc3) := cellOf kp3 1 rfl
  have cp3_2 : w3.cell? ⟨(w.heap.size + 1), 2, none⟩ = some (.slice ta3 tn3 tc3) := cellOf kp3 2 rfl
  have lp3 : (w.heap.size + 1) < w3.heap.size := ltOf kp3
  clear kp3
  go_wp2_with (fail)
  have HWB : Below w.heap.size w w3 := Z3.out.bl
  refine wp_region_float (by kernel_rfl) (fun hS => ?_)
  refine fl_take (i := 0) (d := 30) (v := .slice sa0 sn0 sc0) rfl rfl rfl (by kernel_rfl) (by kernel_rfl) (by kernel_rfl) hS ?_ ?_
  · intro w' hk; go_simp
  simp only [Act.put, List.setIfInBounds_toArray, List.set_cons_zero, List.set_cons_succ]
  refine fl_take (i := 2) (d := 32) (v := .int .i64 n1) rfl rfl rfl (by kernel_rfl) (by kernel_rfl) (by kernel_rfl) hS ?_ ?_
  · intro w' hk; go_simp
  simp only [Act.put, List.setIfInBounds_toArray, List.set_cons_zero, List.set_cons_succ]
  refine fl_take (i := 3) (d := 33) (v := .agg #[.slice sa2 sn2 sc2, .int .i64 L2]) rfl rfl rfl (by kernel_rfl) (by kernel_rfl) (by kernel_rfl) hS ?_ ?_
  · intro w' hk; go_simp
  simp only [Act.put, List.setIfInBounds_toArray, List.set_cons_zero, List.set_cons_succ]
  refine fl_take (i := 5) (d := 35) (v := .agg #[.int .i64 C3, .slice sa3 sn3 sc3, .slice ta3 tn3 tc3]) rfl rfl rfl (by kernel_rfl) (by kernel_rfl) (by kernel_rfl) hS ?_ ?_
  · intro w' hk; go_simp
  simp only [Act.put, List.setIfInBounds_toArray, List.set_cons_zero, List.set_cons_succ]
  refine wpAnyH_all (rs := [1]) (by kernel_rfl) (by simp) ?_
  intro i hi
  obtain rfl : i = 1 := by simpa using hi
  refine op_call (d := 31) rfl rfl rfl (by go_simp) ((toLineS_any HL0.out ((HR0.out.below HWB).below ((Below.refl _ _).drew))).mono ?_)
  rintro e ya0 ⟨ga0, rfl, ho0, hb0⟩
  have hK0 : KS w3 ya0 := hS.call hb0
  refine ⟨_, rfl, hK0, ?_⟩
  simp only [Act.put, List.setIfInBounds_toArray, List.set_cons_zero, List.set_cons_succ]
  refine wpAnyH_all (rs := [4]) (by kernel_rfl) (by simp) ?_
  intro i hi
  obtain rfl : i = 4 := by simpa using hi
  refine op_call (d := 34) rfl rfl rfl (by go_simp) ((toKernel_any L2 HL2.out ((HR2.out.below HWB).below (hK0.2))).mono ?_)
  rintro e ya1 ⟨ga1, rfl, ho1, hb1⟩
  have hK1 : KS w3 ya1 := hK0.call hb1
  refine ⟨_, rfl, hK1, ?_⟩
  simp only [Act.put, List.setIfInBounds_toArray, List.set_cons_zero, List.set_cons_succ]
  refine wpAnyH_all (rs := [6]) (by kernel_rfl) (by simp) ?_
  intro i hi
  obtain rfl : i = 6 := by simpa using hi
  refine op_call (d := 36) rfl rfl rfl (by go_simp) ((toCorrectResult_any C3 HL3.out ((HR3.out.below HWB).below (hK1.2))).mono ?_)
  rintro e ya2 ⟨ga2, rfl, ho2, hb2⟩
  have hK2 : KS w3 ya2 := hK1.call hb2
  refine ⟨_, rfl, hK2, ?_⟩
  simp only [Act.put, List.setIfInBounds_toArray, List.set_cons_zero, List.set_cons_succ]
  refine wpAnyH_all (rs := [7]) (by kernel_rfl) (by simp) ?_
  intro i hi
  obtain rfl : i = 7 := by simpa using hi
  refine op_call (d := 37) rfl rfl rfl (by go_simp) ((HSP.out _ ga0 ga1 ga2 (RG.below (RG.below ((OG.rg lnC_len ho0)) hb1) hb2) (RG.below (ho1.rg) hb2) ((OwCR.rd ho2))).mono ?_)
  rintro e yea ⟨rfl, hbq⟩
  have hKq : KS w3 yea := hK2.call hbq
  refine ⟨_, rfl, hKq, ?_⟩
  simp only [Act.put, List.setIfInBounds_toArray, List.set_cons_zero, List.set_cons_succ]
  refine wpAnyH_all (rs := [8]) (by kernel_rfl) (by simp) ?_
  intro i hi
  obtain rfl : i = 8 := by simpa using hi
  refine op_val (d := 10) (v := .bool C) (w' := yea) rfl rfl rfl (by go_simp; try rfl) ?_
  simp only [Act.put, List.setIfInBounds_toArray, List.set_cons_zero, List.set_cons_succ]
  refine ⟨hKq, wpAnyH_done (by kernel_rfl) (NoPanic.normal ?_) _⟩
  have Z4 : Hid (LS w [(w.heap.size, w.heap.size + 1, fun V : World => V.heap[w.heap.size]? = some BX2), ((w.heap.size + 1), (w.heap.size + 1) + 1, fun V : World => V.heap[(w.heap.size + 1)]? = some BX3)] yea) := Z3.out.next hKq.2
  clear Z3 HWB hKq hbq hS hK0 ho0 hb0 hK1 ho1 hb1 hK2 ho2 hb2 cp2_0 cp2_1 lp2 cp3_0 cp3_1 cp3_2 lp3
  go_wp2_with (fail)
  refine (toLineS_any HL0.out (HR0.out.below Z4.out.bl)).mono ?_
  rintro e w4 ⟨x0, rfl, ho, hb⟩
  have Z5 : Hid (LS w [(w.heap.size, w.heap.size + 1, fun V : World => V.heap[w.heap.size]? = some BX2), ((w.heap.size + 1), (w.heap.size + 1) + 1, fun V : World => V.heap[(w.heap.size + 1)]? = some BX3), (yea.heap.size, w4.heap.size, fun V : World => V.ownsRow yea.heap.size 57 2 (.slice (some ⟨x0, 0, none⟩) s0.length s0.length) s0.length (s0.flatMap lnC))] w4) := Z4.out.push hb (Ow.rowAll ho hb) (Nat.le_refl _)
  clear Z4 hb ho
  have kp2 := Z5.out.get 0 rfl
  rw [TB2.out] at kp2
  have cp2_0 : w4.cell? ⟨w.heap.size, 0, none⟩ = some (.slice sa2 sn2 sc2) := cellOf kp2 0 rfl
  have cp2_1 : w4.cell? ⟨w.heap.size, 1, none⟩ = some (.int .i64 L2) := cellOf kp2 1 rfl
  have lp2 : w.heap.size < w4.heap.size := ltOf kp2
  clear kp2
  go_wp2_with (fail)
  clear cp2_0 cp2_1 lp2
  refine (toKernel_any L2 HL2.out (HR2.out.below Z5.out.bl)).mono ?_
  rintro e w5 ⟨x2, rfl, ho, hb⟩
  have Z6 : Hid (LS w [(w.heap.size, w.heap.size + 1, fun V : World => V.heap[w.heap.size]? = some BX2), ((w.heap.size + 1), (w.heap.size + 1) + 1, fun V : World => V.heap[(w.heap.size + 1)]? = some BX3), (yea.heap.size, w4.heap.size, fun V : World => V.ownsRow yea.heap.size 57 2 (.slice (some ⟨x0, 0, none⟩) s0.length s0.length) s0.length (s0.flatMap lnC)), (w4.heap.size, w5.heap.size, fun V : World => V.ownsRow w4.heap.size 2 1 (.slice (some ⟨x2, 0, none⟩) s2.length s2.length) s2.length (s2.map (Value.int .i64)))] w5) := Z5.out.push hb (Ow.rowAll ho hb) (Nat.le_refl _)
  clear Z5 hb ho
  have kp3 := Z6.out.get 1 rfl
  rw [TB3.out] at kp3
  have cp3_0 : w5.cell? ⟨(w.heap.size + 1), 0, none⟩ = some (.int .i64 C3) := cellOf kp3 0 rfl
  have cp3_1 : w5.cell? ⟨(w.heap.size + 1), 1, none⟩ = some (.slice sa3 sn3 sc3) := cellOf kp3 1 rfl
  have cp3_2 : w5.cell? ⟨(w.heap.size + 1), 2, none⟩ = some (.slice ta3 tn3 tc3) := cellOf kp3 2 rfl
  have lp3 : (w.heap.size + 1) < w5.heap.size := ltOf kp3
  clear kp3
  have Z7 : Hid (LS w [(w.heap.size, w.heap.size + 1, fun V : World => V.heap[w.heap.size]? = some BX2), ((w.heap.size + 1), (w.heap.size + 1) + 1, fun V : World => V.heap[(w.heap.size + 1)]? = some BX3), (yea.heap.size, w4.heap.size, fun V : World => V.ownsRow yea.heap.size 57 2 (.slice (some ⟨x0, 0, none⟩) s0.length s0.length) s0.length (s0.flatMap lnC)), (w4.heap.size, w5.heap.size, fun V : World => V.ownsRow w4.heap.size 2 1 (.slice (some ⟨x2, 0, none⟩) s2.length s2.length) s2.length (s2.map (Value.int .i64))), (w5.heap.size, w5.heap.size + 1, fun V : World => V.heap[w5.heap.size]? = some (Obj.cells #[.slice (some ⟨x2, 0, none⟩) s2.length s2.length, .int .i64 L2] 33))] (w5.alloc (Obj.cells #[.slice (some ⟨x2, 0, none⟩) s2.length s2.length, .int .i64 L2] 33))) := Z6.out.push (by (repeat' (first | (with_reducible exact Below.refl _ _) | (with_reducible assumption) | (with_reducible refine Below.setCell ?_ ?_ _) | (with_reducible refine Below.alloc ?_ ?_ _) | (with_reducible refine below_drewN ?_ _) | (with_reducible refine Below.drew ?_) | (with_reducible exact Nat.le_refl _) | omega | (simp; done) | (simp; omega)))) (Ow.block (heap_alloc_new _ _)) (Nat.le_refl _)
  clear Z6
  go_wp2_with (fail)
  obtain ⟨Vx2, hV⟩ : ∃ V, V = w5.alloc (Obj.cells #[.slice (some ⟨x2, 0, none⟩) s2.length s2.length, .int .i64 L2] 33) := ⟨_, rfl⟩
  rw [← hV] at Z7 ⊢
  obtain ⟨Kx2, hK⟩ : ∃ K, K = w5.heap.size := ⟨_, rfl⟩
  rw [← hK] at Z7  ⊢
  clear hV hK
  clear cp3_0 cp3_1 cp3_2 lp3
  refine (toCorrectResult_any C3 HL3.out (HR3.out.below Z7.out.bl)).mono ?_
  rintro e w6 ⟨x3, rfl, ho, hb⟩
  have Z8 : Hid (LS w [(w.heap.size, w.heap.size + 1, fun V : World => V.heap[w.heap.size]? = some BX2), ((w.heap.size + 1), (w.heap.size + 1) + 1, fun V : World => V.heap[(w.heap.size + 1)]? = some BX3), (yea.heap.size, w4.heap.size, fun V : World => V.ownsRow yea.heap.size 57 2 (.slice (some ⟨x0, 0, none⟩) s0.length s0.length) s0.length (s0.flatMap lnC)), (w4.heap.size, Kx2, fun V : World => V.ownsRow w4.heap.size 2 1 (.slice (some ⟨x2, 0, none⟩) s2.length s2.length) s2.length (s2.map (Value.int .i64))), (Kx2, Kx2 + 1, fun V : World => V.heap[Kx2]? = some (Obj.cells #[.slice (some ⟨x2, 0, none⟩) s2.length s2.length, .int .i64 L2] 33)), (Vx2.heap.size, w6.heap.size, fun V : World => OwCR V Vx2.heap.size (.slice (some ⟨x3.1, 0, none⟩) s3.length s3.length) (.slice (some ⟨x3.2, 0, none⟩) t3.length t3.length) s3 t3)] w6) := Z7.out.push hb (Ow.rowCR ho hb) (Nat.le_refl _)
  clear Z7 hb ho
  have kvx2 := Z8.out.get 4 rfl
  have cvx2_0 : w6.cell? ⟨Kx2, 0, none⟩ = some (.slice (some ⟨x2, 0, none⟩) s2.length s2.length) := cellOf kvx2 0 rfl
  have cvx2_1 : w6.cell? ⟨Kx2, 1, none⟩ = some (.int .i64 L2) := cellOf kvx2 1 rfl
  have lvx2 : Kx2 < w6.heap.size := ltOf kvx2
  clear kvx2
  have Z9 : Hid (LS w [(w.heap.size, w.heap.size + 1, fun V : World => V.heap[w.heap.size]? = some BX2), ((w.heap.size + 1), (w.heap.size + 1) + 1, fun V : World => V.heap[(w.heap.size + 1)]? = some BX3), (yea.heap.size, w4.heap.size, fun V : World => V.ownsRow yea.heap.size 57 2 (.slice (some ⟨x0, 0, none⟩) s0.length s0.length) s0.length (s0.flatMap lnC)), (w4.heap.size, Kx2, fun V : World => V.ownsRow w4.heap.size 2 1 (.slice (some ⟨x2, 0, none⟩) s2.length s2.length) s2.length (s2.map (Value.int .i64))), (Kx2, Kx2 + 1, fun V : World => V.heap[Kx2]? = some (Obj.cells #[.slice (some ⟨x2, 0, none⟩) s2.length s2.length, .int .i64 L2] 33)), (Vx2.heap.size, w6.heap.size, fun V : World => OwCR V Vx2.heap.size (.slice (some ⟨x3.1, 0, none⟩) s3.length s3.length) (.slice (some ⟨x3.2, 0, none⟩) t3.length t3.length) s3 t3), (w6.heap.size, w6.heap.size + 1, fun V : World => V.heap[w6.heap.size]? = some (Obj.cells #[.int .i64 C3, .slice (some ⟨x3.1, 0, none⟩) s3.length s3.length, .slice (some ⟨x3.2, 0, none⟩) t3.length t3.length] 30))] (w6.alloc (Obj.cells #[.int .i64 C3, .slice (some ⟨x3.1, 0, none⟩) s3.length s3.length, .slice (some ⟨x3.2, 0, none⟩) t3.length t3.length] 30))) := Z8.out.push (by (repeat' (first | (with_reducible exact Below.refl _ _) | (with_reducible assumption) | (with_reducible refine Below.setCell ?_ ?_ _) | (with_reducible refine Below.alloc ?_ ?_ _) | (with_reducible refine below_drewN ?_ _) | (with_reducible refine Below.drew ?_) | (with_reducible exact Nat.le_refl _) | omega | (simp; done) | (simp; omega)))) (Ow.block (heap_alloc_new _ _)) (Nat.le_refl _)
  clear Z8
  go_wp2_with (fail)
  obtain ⟨Vx3, hV⟩ : ∃ V, V = w6.alloc (Obj.cells #[.int .i64 C3, .slice (some ⟨x3.1, 0, none⟩) s3.length s3.length, .slice (some ⟨x3.2, 0, none⟩) t3.length t3.length] 30) := ⟨_, rfl⟩
  rw [← hV] at Z9 ⊢
  obtain ⟨Kx3, hK⟩ : ∃ K, K = w6.heap.size := ⟨_, rfl⟩
  rw [← hK] at Z9  ⊢
  clear hV hK
  clear cvx2_0 cvx2_1 lvx2
  refine (HIM.out Vx3 x0 x2 x3 (OG.rg (T := 57) (B := yea.heap.size) lnC_len (show Vx3.ownsRow yea.heap.size 57 2 (.slice (some ⟨x0, 0, none⟩) s0.length s0.length) s0.length (s0.flatMap lnC) from Z9.out.get 2 rfl)) (IS.rg (B := w4.heap.size) (show Vx3.ownsRow w4.heap.size 2 1 (.slice (some ⟨x2, 0, none⟩) s2.length s2.length) s2.length (s2.map (Value.int .i64)) from Z9.out.get 3 rfl)) (OwCR.rd (B := Vx2.heap.size) (show OwCR Vx3 Vx2.heap.size (.slice (some ⟨x3.1, 0, none⟩) s3.length s3.length) (.slice (some ⟨x3.2, 0, none⟩) t3.length t3.length) s3 t3 from Z9.out.get 5 rfl))).mono ?_
  rintro e w7 ⟨rfl, hb⟩
  have Z10 : Hid (LS w [(w.heap.size, w.heap.size + 1, fun V : World => V.heap[w.heap.size]? = some BX2), ((w.heap.size + 1), (w.heap.size + 1) + 1, fun V : World => V.heap[(w.heap.size + 1)]? = some BX3), (yea.heap.size, w4.heap.size, fun V : World => V.ownsRow yea.heap.size 57 2 (.slice (some ⟨x0, 0, none⟩) s0.length s0.length) s0.length (s0.flatMap lnC)), (w4.heap.size, Kx2, fun V : World => V.ownsRow w4.heap.size 2 1 (.slice (some ⟨x2, 0, none⟩) s2.length s2.length) s2.length (s2.map (Value.int .i64))), (Kx2, Kx2 + 1, fun V : World => V.heap[Kx2]? = some (Obj.cells #[.slice (some ⟨x2, 0, none⟩) s2.length s2.length, .int .i64 L2] 33)), (Vx2.heap.size, Kx3, fun V : World => OwCR V Vx2.heap.size (.slice (some ⟨x3.1, 0, none⟩) s3.length s3.length) (.slice (some ⟨x3.2, 0, none⟩) t3.length t3.length) s3 t3), (Kx3, Kx3 + 1, fun V : World => V.heap[Kx3]? = some (Obj.cells #[.int .i64 C3, .slice (some ⟨x3.1, 0, none⟩) s3.length s3.length, .slice (some ⟨x3.2, 0, none⟩) t3.length t3.length] 30))] w7) := Z9.out.next hb
  clear Z9 hb
  go_wp2_with (fail)
  refine (toLineS_any HL0.out (HR0.out.below Z10.out.bl)).mono ?_
  rintro e w8 ⟨e0, rfl, ho, hb⟩
  have Z11 : Hid (LS w [(w.heap.size, w.heap.size + 1, fun V : World => V.heap[w.heap.size]? = some BX2), ((w.heap.size + 1), (w.heap.size + 1) + 1, fun V : World => V.heap[(w.heap.size + 1)]? = some BX3), (yea.heap.size, w4.heap.size, fun V : World => V.ownsRow yea.heap.size 57 2 (.slice (some ⟨x0, 0, none⟩) s0.length s0.length) s0.length (s0.flatMap lnC)), (w4.heap.size, Kx2, fun V : World => V.ownsRow w4.heap.size 2 1 (.slice (some ⟨x2, 0, none⟩) s2.length s2.length) s2.length (s2.map (Value.int .i64))), (Kx2, Kx2 + 1, fun V : World => V.heap[Kx2]? = some (Obj.cells #[.slice (some ⟨x2, 0, none⟩) s2.length s2.length, .int .i64 L2] 33)), (Vx2.heap.size, Kx3, fun V : World => OwCR V Vx2.heap.size (.slice (some ⟨x3.1, 0, none⟩) s3.length s3.length) (.slice (some ⟨x3.2, 0, none⟩) t3.length t3.length) s3 t3), (Kx3, Kx3 + 1, fun V : World => V.heap[Kx3]? = some (Obj.cells #[.int .i64 C3, .slice (some ⟨x3.1, 0, none⟩) s3.length s3.length, .slice (some ⟨x3.2, 0, none⟩) t3.length t3.length] 30)), (w7.heap.size, w8.heap.size, fun V : World => V.ownsRow w7.heap.size 57 2 (.slice (some ⟨e0, 0, none⟩) s0.length s0.length) s0.length (s0.flatMap lnC))] w8) := Z10.out.push hb (Ow.rowAll ho hb) (Nat.le_refl _)
  clear Z10 hb ho
  go_wp2_with (fail)
  refine (eqLineS_same (by have := HL0.out; omega) (OG.rg (T := 57) (B := yea.heap.size) lnC_len (show w8.ownsRow yea.heap.size 57 2 (.slice (some ⟨x0, 0, none⟩) s0.length s0.length) s0.length (s0.flatMap lnC) from Z11.out.get 2 rfl)) (OG.rg (T := 57) (B := w7.heap.size) lnC_len (show w8.ownsRow w7.heap.size 57 2 (.slice (some ⟨e0, 0, none⟩) s0.length s0.length) s0.length (s0.flatMap lnC) from Z11.out.get 7 rfl))).mono ?_
  rintro e w9 ⟨rfl, hb⟩
  have Z12 : Hid (LS w [(w.heap.size, w.heap.size + 1, fun V : World => V.heap[w.heap.size]? = some BX2), ((w.heap.size + 1), (w.heap.size + 1) + 1, fun V : World => V.heap[(w.heap.size + 1)]? = some BX3), (yea.heap.size, w4.heap.size, fun V : World => V.ownsRow yea.heap.size 57 2 (.slice (some ⟨x0, 0, none⟩) s0.length s0.length) s0.length (s0.flatMap lnC)), (w4.heap.size, Kx2, fun V : World => V.ownsRow w4.heap.size 2 1 (.slice (some ⟨x2, 0, none⟩) s2.length s2.length) s2.length (s2.map (Value.int .i64))), (Kx2, Kx2 + 1, fun V : World => V.heap[Kx2]? = some (Obj.cells #[.slice (some ⟨x2, 0, none⟩) s2.length s2.length, .int .i64 L2] 33)), (Vx2.heap.size, Kx3, fun V : World => OwCR V Vx2.heap.size (.slice (some ⟨x3.1, 0, none⟩) s3.length s3.length) (.slice (some ⟨x3.2, 0, none⟩) t3.length t3.length) s3 t3), (Kx3, Kx3 + 1, fun V : World => V.heap[Kx3]? = some (Obj.cells #[.int .i64 C3, .slice (some ⟨x3.1, 0, none⟩) s3.length s3.length, .slice (some ⟨x3.2, 0, none⟩) t3.length t3.length] 30)), (w7.heap.size, w8.heap.size, fun V : World => V.ownsRow w7.heap.size 57 2 (.slice (some ⟨e0, 0, none⟩) s0.length s0.length) s0.length (s0.flatMap lnC))] w9) := Z11.out.next hb
  clear Z11 hb
  have kvx2 := Z12.out.get 4 rfl
  have cvx2_0 : w9.cell? ⟨Kx2, 0, none⟩ = some (.slice (some ⟨x2, 0, none⟩) s2.length s2.length) := cellOf kvx2 0 rfl
  have cvx2_1 : w9.cell? ⟨Kx2, 1, none⟩ = some (.int .i64 L2) := cellOf kvx2 1 rfl
  have lvx2 : Kx2 < w9.heap.size := ltOf kvx2
  clear kvx2
  have kp2 := Z12.out.get 0 rfl
  rw [TB2.out] at kp2
  have cp2_0 : w9.cell? ⟨w.heap.size, 0, none⟩ = some (.slice sa2 sn2 sc2) := cellOf kp2 0 rfl
  have cp2_1 : w9.cell? ⟨w.heap.size, 1, none⟩ = some (.int .i64 L2) := cellOf kp2 1 rfl
  have lp2 : w.heap.size < w9.heap.size := ltOf kp2
  clear kp2
  go_wp2_with (fail)
  refine wp_region_float (by kernel_rfl) (fun hS => ?_)
  refine fl_take (i := 0) (d := 57) (v := .agg #[.slice (some ⟨x2, 0, none⟩) s2.length s2.length, .int .i64 L2]) rfl rfl rfl (by kernel_rfl) (by kernel_rfl) (by kernel_rfl) hS ?_ ?_
  · intro w' hk; go_simp
  simp only [Act.put, List.setIfInBounds_toArray, List.set_cons_zero, List.set_cons_succ]
  refine fl_take (i := 1) (d := 58) (v := .agg #[.slice sa2 sn2 sc2, .int .i64 L2]) rfl rfl rfl (by kernel_rfl) (by kernel_rfl) (by kernel_rfl) hS ?_ ?_
  · intro w' hk; go_simp
  simp only [Act.put, List.setIfInBounds_toArray, List.set_cons_zero, List.set_cons_succ]
  refine wpAnyH_all (rs := [2]) (by kernel_rfl) (by simp) ?_
  intro i hi
  obtain rfl : i = 2 := by simpa using hi
  refine op_call (d := 59) rfl rfl rfl (by go_simp) ((toKernel_any L2 HL2.out ((HR2.out.below Z12.out.bl).below (Below.refl _ _).drew)).mono ?_)
  rintro e ya2 ⟨gy2, rfl, hk5, hb5⟩
  have hK5 : KS w9 ya2 := hS.call hb5
  refine ⟨_, rfl, hK5, ?_⟩
  simp only [Act.put, List.setIfInBounds_toArray, List.set_cons_zero, List.set_cons_succ]
  refine wpAnyH_all (rs := [3]) (by kernel_rfl) (by simp) ?_
  intro i hi
  obtain rfl : i = 3 := by simpa using hi
  refine op_call (d := 60) rfl rfl rfl (by go_simp) ((eqKernel_same L2 (by have := HL2.out; omega) (RG.below (IS.rg (B := w4.heap.size) (show w9.ownsRow w4.heap.size 2 1 (.slice (some ⟨x2, 0, none⟩) s2.length s2.length) s2.length (s2.map (Value.int .i64)) from Z12.out.get 3 rfl)) hK5.2) (hk5.rg)).mono ?_)
  rintro e yb2 ⟨rfl, hb6⟩
  have hK6 : KS w9 yb2 := hK5.call hb6
  refine ⟨_, rfl, hK6, ?_⟩
  simp only [Act.put, List.setIfInBounds_toArray, List.set_cons_zero, List.set_cons_succ]
  refine wpAnyH_all (rs := [4]) (by kernel_rfl) (by simp) ?_
  intro i hi
  obtain rfl : i = 4 := by simpa using hi
  refine op_val (d := 61) (v := .bool false) (w' := yb2) rfl rfl rfl (by go_simp; try rfl) ?_
  simp only [Act.put, List.setIfInBounds_toArray, List.set_cons_zero, List.set_cons_succ]
  refine ⟨hK6, wpAnyH_done (by kernel_rfl) (NoPanic.normal ?_) _⟩
  have Z13 : Hid (LS w [(w.heap.size, w.heap.size + 1, fun V : World => V.heap[w.heap.size]? = some BX2), ((w.heap.size + 1), (w.heap.size + 1) + 1, fun V : World => V.heap[(w.heap.size + 1)]? = some BX3), (yea.heap.size, w4.heap.size, fun V : World => V.ownsRow yea.heap.size 57 2 (.slice (some ⟨x0, 0, none⟩) s0.length s0.length) s0.length (s0.flatMap lnC)), (w4.heap.size, Kx2, fun V : World => V.ownsRow w4.heap.size 2 1 (.slice (some ⟨x2, 0, none⟩) s2.length s2.length) s2.length (s2.map (Value.int .i64))), (Kx2, Kx2 + 1, fun V : World => V.heap[Kx2]? = some (Obj.cells #[.slice (some ⟨x2, 0, none⟩) s2.length s2.length, .int .i64 L2] 33)), (Vx2.heap.size, Kx3, fun V : World => OwCR V Vx2.heap.size (.slice (some ⟨x3.1, 0, none⟩) s3.length s3.length) (.slice (some ⟨x3.2, 0, none⟩) t3.length t3.length) s3 t3), (Kx3, Kx3 + 1, fun V : World => V.heap[Kx3]? = some (Obj.cells #[.int .i64 C3, .slice (some ⟨x3.1, 0, none⟩) s3.length s3.length, .slice (some ⟨x3.2, 0, none⟩) t3.length t3.length] 30)), (w7.heap.size, w8.heap.size, fun V : World => V.ownsRow w7.heap.size 57 2 (.slice (some ⟨e0, 0, none⟩) s0.length s0.length) s0.length (s0.flatMap lnC))] yb2) := Z12.out.next hK6.2
  clear Z12 hK6 hK5 hb6 hb5 hk5 hS cvx2_0 cvx2_1 lvx2 cp2_0 cp2_1 lp2
  have kvx3 := Z13.out.get 6 rfl
  have cvx3_0 : yb2.cell? ⟨Kx3, 0, none⟩ = some (.int .i64 C3) := cellOf kvx3 0 rfl
  have cvx3_1 : yb2.cell? ⟨Kx3, 1, none⟩ = some (.slice (some ⟨x3.1, 0, none⟩) s3.length s3.length) := cellOf kvx3 1 rfl
  have cvx3_2 : yb2.cell? ⟨Kx3, 2, none⟩ = some (.slice (some ⟨x3.2, 0, none⟩) t3.length t3.length) := cellOf kvx3 2 rfl
  have lvx3 : Kx3 < yb2.heap.size := ltOf kvx3
  clear kvx3
  have kp3 := Z13.out.get 1 rfl
  rw [TB3.out] at kp3
  have cp3_0 : yb2.cell? ⟨(w.heap.size + 1), 0, none⟩ = some (.int .i64 C3) := cellOf kp3 0 rfl
  have cp3_1 : yb2.cell? ⟨(w.heap.size + 1), 1, none⟩ = some (.slice sa3 sn3 sc3) := cellOf kp3 1 rfl
  have cp3_2 : yb2.cell? ⟨(w.heap.size + 1), 2, none⟩ = some (.slice ta3 tn3 tc3) := cellOf kp3 2 rfl
  have lp3 : (w.heap.size + 1) < yb2.heap.size := ltOf kp3
  clear kp3
  go_wp2_with (fail)
  refine wp_region_float (by kernel_rfl) (fun hS => ?_)
  refine fl_take (i := 0) (d := 62) (v := .agg #[.int .i64 C3, .slice (some ⟨x3.1, 0, none⟩) s3.length s3.length, .slice (some ⟨x3.2, 0, none⟩) t3.length t3.length]) rfl rfl rfl (by kernel_rfl) (by kernel_rfl) (by kernel_rfl) hS ?_ ?_
  · intro w' hk; go_simp
  simp only [Act.put, List.setIfInBounds_toArray, List.set_cons_zero, List.set_cons_succ]
  refine fl_take (i := 1) (d := 63) (v := .agg #[.int .i64 C3, .slice sa3 sn3 sc3, .slice ta3 tn3 tc3]) rfl rfl rfl (by kernel_rfl) (by kernel_rfl) (by kernel_rfl) hS ?_ ?_
  · intro w' hk; go_simp
  simp only [Act.put, List.setIfInBounds_toArray, List.set_cons_zero, List.set_cons_succ]
  refine wpAnyH_all (rs := [2]) (by kernel_rfl) (by simp) ?_
  intro i hi
  obtain rfl : i = 2 := by simpa using hi
  refine op_call (d := 64) rfl rfl rfl (by go_simp) ((toCorrectResult_any C3 HL3.out ((HR3.out.below Z13.out.bl).below (Below.refl _ _).drew)).mono ?_)
  rintro e ya3 ⟨gy3, rfl, hk5, hb5⟩
  have hK5 : KS yb2 ya3 := hS.call hb5
  refine ⟨_, rfl, hK5, ?_⟩
  simp only [Act.put, List.setIfInBounds_toArray, List.set_cons_zero, List.set_cons_succ]
  refine wpAnyH_all (rs := [3]) (by kernel_rfl) (by simp) ?_
  intro i hi
  obtain rfl : i = 3 := by simpa using hi
  refine op_call (d := 65) rfl rfl rfl (by go_simp) ((eqCorrectResult_same C3 (by have := HL3.out; omega) (RdCR.below (OwCR.rd (B := Vx2.heap.size) (show OwCR yb2 Vx2.heap.size (.slice (some ⟨x3.1, 0, none⟩) s3.length s3.length) (.slice (some ⟨x3.2, 0, none⟩) t3.length t3.length) s3 t3 from Z13.out.get 5 rfl)) hK5.2) ((OwCR.rd hk5))).mono ?_)
  rintro e yb3 ⟨rfl, hb6⟩
  have hK6 : KS yb2 yb3 := hK5.call hb6
  refine ⟨_, rfl, hK6, ?_⟩
  simp only [Act.put, List.setIfInBounds_toArray, List.set_cons_zero, List.set_cons_succ]
  refine wpAnyH_all (rs := [4]) (by kernel_rfl) (by simp) ?_
  intro i hi
  obtain rfl : i = 4 := by simpa using hi
  refine op_val (d := 66) (v := .bool false) (w' := yb3) rfl rfl rfl (by go_simp; try rfl) ?_
  simp only [Act.put, List.setIfInBounds_toArray, List.set_cons_zero, List.set_cons_succ]
  refine ⟨hK6, wpAnyH_done (by kernel_rfl) (NoPanic.normal ?_) _⟩
  have Z14 : Hid (LS w [(w.heap.size, w.heap.size + 1, fun V : World => V.heap[w.heap.size]? = some BX2), ((w.heap.size + 1), (w.heap.size + 1) + 1, fun V : World => V.heap[(w.heap.size + 1)]? = some BX3), (yea.heap.size, w4.heap.size, fun V : World => V.ownsRow yea.heap.size 57 2 (.slice (some ⟨x0, 0, none⟩) s0.length s0.length) s0.length (s0.flatMap lnC)), (w4.heap.size, Kx2, fun V : World => V.ownsRow w4.heap.size 2 1 (.slice (some ⟨x2, 0, none⟩) s2.length s2.length) s2.length (s2.map (Value.int .i64))), (Kx2, Kx2 + 1, fun V : World => V.heap[Kx2]? = some (Obj.cells #[.slice (some ⟨x2, 0, none⟩) s2.length s2.length, .int .i64 L2] 33)), (Vx2.heap.size, Kx3, fun V : World => OwCR V Vx2.heap.size (.slice (some ⟨x3.1, 0, none⟩) s3.length s3.length) (.slice (some ⟨x3.2, 0, none⟩) t3.length t3.length) s3 t3), (Kx3, Kx3 + 1, fun V : World => V.heap[Kx3]? = some (Obj.cells #[.int .i64 C3, .slice (some ⟨x3.1, 0, none⟩) s3.length s3.length, .slice (some ⟨x3.2, 0, none⟩) t3.length t3.length] 30)), (w7.heap.size, w8.heap.size, fun V : World => V.ownsRow w7.heap.size 57 2 (.slice (some ⟨e0, 0, none⟩) s0.length s0.length) s0.length (s0.flatMap lnC))] yb3) := Z13.out.next hK6.2
  clear Z13 hK6 hK5 hb6 hb5 hk5 hS cvx3_0 cvx3_1 cvx3_2 lvx3 cp3_0 cp3_1 cp3_2 lp3
  go_wp2
  go_returns
  exact ⟨rfl, Z14.out.bl⟩

set_option maxRecDepth 100000 in
theorem ck8_lifted (os : Os) (started : os.Started) (H : Type) (enc : TypeId × Value → H) :
    ReturnsInHanded {} Try.checked os 4 .any (Rows.fnExactCheckCorrectionSpec.pre6 enc Try.prog Try.f4 Rows.fnExactCheckCorrectionRow.domain false) (Rows.fnExactCheckCorrectionSpec.post enc Try.prog Try.f4 false true false false) := by
  refine returnsInHanded_of_change (C := Try.checked) own started (by kernel_rfl) Try.func4
    (ChangeSpec.witness6 (enc := enc) (C := Try.checked) false ⟨#[], #[.slice none 0 0, .int .i64 0, .agg #[.slice none 0 0, .int .i64 0], .agg #[.int .i64 0, .slice none 0 0, .slice none 0 0]], []⟩ 8 (by kernel_rfl) (by kernel_rfl) (by kernel_rfl) (by kernel_rfl)) ?_
  intro W base args ds gs before hval0 hW hcnd _
  have hval : ∀ (j : Nat) t v, Try.f4.params[j]? = some t → args[j]? = some v → Value.okWide Try.prog W .any base t v := hval0
  have hW' := hW
  obtain ⟨p, q, hA0, hV, rfl, hfz, hnd⟩ := hW
  have hA : DataW.TrodAll enc Try.prog W 0 (fun _ => true) true Try.f4.params.toList args.toList ds p := hA0
  rw [Try.params4] at hA hval
  obtain ⟨v0, vs0, d0, ds0, p0, q0, hargs, rfl, rfl, h0, r0⟩ := trodAll_cons hA
  obtain ⟨v1, vs1, d1, ds1, p1, q1, rfl, rfl, rfl, h1, r1⟩ := trodAll_cons r0
  obtain ⟨v2, vs2, d2, ds2, p2, q2, rfl, rfl, rfl, h2, r2⟩ := trodAll_cons r1
  obtain ⟨v3, vs3, d3, ds3, p3, q3, rfl, rfl, rfl, h3, r3⟩ := trodAll_cons r2
  obtain ⟨rfl, rfl, rfl⟩ := trodAll_nil r3
  obtain rfl : args = #[v0, v1, v2, v3] := by cases args; simp_all
  obtain ⟨rfl, rfl⟩ := trodVars_none hV
  have k0 := h0
  have lt0 : ∀ x ∈ p0, x.block < W.heap.size := by obtain ⟨m, hm⟩ := k0; exact DataW.trod_lt m _ _ _ hm
  obtain ⟨sa0, sn0, sc0, s0, rfl, rb0, sl0⟩ := lines_open (hval 0 22 v0 rfl rfl) h0
  obtain ⟨n1, rfl, rfl, rfl, wn1⟩ := open_int Try.underlying2 (hval 1 2 v1 rfl rfl) h1
  have k2 := h2
  have lt2 : ∀ x ∈ p2, x.block < W.heap.size := by obtain ⟨m, hm⟩ := k2; exact DataW.trod_lt m _ _ _ hm
  obtain ⟨L2, sa2, sn2, sc2, s2, rfl, ri2, sl2⟩ := kernel_open (hval 2 25 v2 rfl rfl) h2
  have k3 := h3
  have lt3 : ∀ x ∈ p3, x.block < W.heap.size := by obtain ⟨m, hm⟩ := k3; exact DataW.trod_lt m _ _ _ hm
  obtain ⟨C3, sa3, sn3, sc3, s3, ta3, tn3, tc3, t3, rfl, ri3, sl3⟩ := correct_open (hval 3 43 v3 rfl rfl) h3
  clear hA0 hval0
  refine (law_ck8 s0 sl0 rb0 n1 L2 s2 sl2 ri2 C3 s3 t3 sl3 ri3).mono fun e W' ⟨he, hg⟩ => ?_
  subst he
  exact ⟨_, rfl, _, _, _, [], _, [], hW', trodAll_mk1 (shut_bool Try.underlying4 _), (trodAll_cons_mk (Below.trod laidOut (by kernel_rfl) (of_decide_eq_true (by kernel_rfl)) k0 hg lt0) (trodAll_cons_mk (shut_int Try.underlying2 wn1) (trodAll_cons_mk (Below.trod laidOut (by kernel_rfl) (of_decide_eq_true (by kernel_rfl)) k2 hg lt2) (trodAll_cons_mk (Below.trod laidOut (by kernel_rfl) (of_decide_eq_true (by kernel_rfl)) k3 hg lt3) trodAll_mk0)))), rfl, hg.frame _, fun h => by cases h⟩

theorem ck8_over : Rows.fnExactCheckCorrectionRow.holds Try.pinned (OpenSpec.ofChange Rows.fnExactCheckCorrectionSpec) :=
  OpenClaim.holds_of_wide 4 Try.f4 rfl rfl rfl rfl rfl rfl rfl ⟨rfl, rfl, rfl, rfl, rfl⟩ rfl rfl rfl rfl rfl (by kernel_rfl) Try.func4 (by kernel_rfl)
    (of_decide_eq_true (by kernel_rfl)) (by unfold Func.isWrapper; first | (rw [if_pos (by decide +kernel)]; kernel_rfl) | (rw [if_neg (by decide +kernel)]; exact ⟨rfl, rfl⟩))
    (fun os started H enc _ => ck8_lifted os started H enc)

theorem ck8_proved : Rows.FnExactCheckCorrectionSaid :=
  ck8_over
#print axioms ck8_proved

end Go.Proofs.Ytfjcebgknpccbab
