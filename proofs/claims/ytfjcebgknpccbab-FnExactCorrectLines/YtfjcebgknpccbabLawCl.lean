/- Proved here: 'the program's CorrectLines answers as the model's; it writes into no argument and keeps nothing of one; its answer owns its memory, behind another call too', without a condition. -/
import Derived.Test.YtfjcebgknpccbabClS
import Derived.Test.YtfjcebgknpccbabClI
import Derived.Test.YtfjcebgknpccbabMkCR
import Derived.Test.YtfjcebgknpccbabMkKn
import Derived.Test.YtfjcebgknpccbabLwS
import Derived.Test.YtfjcebgknpccbabRows
namespace Go.Proofs.Ytfjcebgknpccbab
open Go.ChangeShapes Go.WideShapes Go.ChangeAt Go.RowKit Go.Joins
set_option linter.unusedVariables false
set_option linter.unusedSimpArgs false

theorem own : ownKnob Try.prog.godebug = none := by kernel_rfl
theorem laidOut : laidOutB Try.prog = true := by kernel_rfl

set_option maxRecDepth 10000 in
set_option maxHeartbeats 25600000 in
theorem law_cl8 {w : World} {sa0 : Option Addr} {sn0 sc0 : Nat} (s0 : List Ln) (hm0 : s0.length ≤ maxLen) (hr0 : RG 2 lnC w (.slice sa0 sn0 sc0) s0) (n1 : Int) (L2 : Int) {sa2 : Option Addr} {sn2 sc2 : Nat} (s2 : List Int) (hm2 : sn2 ≤ maxLen) (hr2 : RdI w (.slice sa2 sn2 sc2) s2) (n3 : Int) :
    Calls Try.prog 3 #[.slice sa0 sn0 sc0, .int .i64 n1, .agg #[.slice sa2 sn2 sc2, .int .i64 L2], .int .i64 n3] w fun e w' => e = .returned (.bool true) ∧ Below w.heap.size w w' := by
  have HM0 : Hid (sn0 ≤ maxLen) := by unfold Hid; rw [hr0.len]; exact hm0
  have HR0 : Hid (RG 2 lnC w (.slice sa0 sn0 sc0) s0) := hr0
  have HE0 : Hid (sn0 = s0.length) := hr0.len
  have HM2 : Hid (sn2 ≤ maxLen) := hm2
  have HR2 : Hid (RdI w (.slice sa2 sn2 sc2) s2) := hr2
  have HE2 : Hid (sn2 = s2.length) := hr2.len
  clear hm0 hr0 hm2 hr2
  obtain ⟨BX2, hBX2⟩ : ∃ BX, BX = Obj.cells #[.slice sa2 sn2 sc2, .int .i64 L2] 25 := ⟨_, rfl⟩
  have Z0 : Hid (LS w [(w.heap.size, w.heap.size + 1, fun V : World => V.heap[w.heap.size]? = some BX2)] (w.alloc (Obj.cells #[.slice sa2 sn2 sc2, .int .i64 L2] 25))) := by
    have p0 := LS.start w
    have p1 := LS.push (V' := (w.alloc (Obj.cells #[.slice sa2 sn2 sc2, .int .i64 L2] 25))) p0 (by (repeat' (first | (with_reducible exact Below.refl _ _) | (with_reducible assumption) | (with_reducible refine Below.setCell ?_ ?_ _) | (with_reducible refine Below.alloc ?_ ?_ _) | (with_reducible refine below_drewN ?_ _) | (with_reducible refine Below.drew ?_) | (with_reducible exact Nat.le_refl _) | omega | (simp; done) | (simp; omega)))) (Ow.block (k := w.heap.size) (o := BX2) (by rw [hBX2]; have := heap_alloc_new w (Obj.cells #[.slice sa2 sn2 sc2, .int .i64 L2] 25); simpa using this)) (by simp)
    exact p1
  have TB2 : Hid (BX2 = Obj.cells #[.slice sa2 sn2 sc2, .int .i64 L2] 25) := hBX2
  clear hBX2
  go_enter Try.func3, Try.ntmps3
  go_wp2_with (fail)
  obtain ⟨W0, hW0⟩ : ∃ V, V = (w.alloc (Obj.cells #[.slice sa2 sn2 sc2, .int .i64 L2] 25)) := ⟨_, rfl⟩
  rw [← hW0] at Z0 ⊢
  clear hW0
  refine (szLineS_gen sa0 sn0 sc0 1048576 _ (by omega) (by omega) HM0.out).mono ?_
  rintro e w1 ⟨r0, rfl, hq0, hb⟩
  have Z1 : Hid (LS w [(w.heap.size, w.heap.size + 1, fun V : World => V.heap[w.heap.size]? = some BX2)] w1) := Z0.out.next hb
  clear Z0 hb
  rcases hq0 with hneg | ⟨u0, v0, tt0⟩
  · go_wp2
    go_returns
    exact ⟨rfl, Z1.out.bl⟩
  have hl0 : ¬ r0 < 0 := by omega
  have HL0 : Hid (s0.length ≤ 1048576) := by unfold Hid; rw [← HE0.out]; omega
  have kp2 := Z1.out.get 0 rfl
  rw [TB2.out] at kp2
  have cp2_0 : w1.cell? ⟨w.heap.size, 0, none⟩ = some (.slice sa2 sn2 sc2) := cellOf kp2 0 rfl
  have cp2_1 : w1.cell? ⟨w.heap.size, 1, none⟩ = some (.int .i64 L2) := cellOf kp2 1 rfl
  have lp2 : w.heap.size < w1.heap.size := ltOf kp2
  clear kp2
  go_wp2_with (fail)
  clear cp2_0 cp2_1 lp2
  refine (szKernel_gen L2 sa2 sn2 sc2 r0 _ (by omega) (by omega) HM2.out).mono ?_
  rintro e w2 ⟨r2, rfl, hq2, hb⟩
  have Z2 : Hid (LS w [(w.heap.size, w.heap.size + 1, fun V : World => V.heap[w.heap.size]? = some BX2)] w2) := Z1.out.next hb
  clear Z1 hb
  rcases hq2 with hneg | ⟨u2, v2, tt2⟩
  · go_wp2
    go_returns
    exact ⟨rfl, Z2.out.bl⟩
  have hl2 : ¬ r2 < 0 := by omega
  have HL2 : Hid (s2.length ≤ 1048576) := by unfold Hid; rw [← HE2.out]; omega
  obtain ⟨C, hC⟩ : ∃ X, X = clC s0 n1 s2 L2 n3 := ⟨_, rfl⟩
  obtain ⟨L, hL⟩ : ∃ X, X = (clS s0 n1 s2 L2 n3).1 := ⟨_, rfl⟩
  obtain ⟨ES, hES⟩ : ∃ X, X = (clS s0 n1 s2 L2 n3).2 := ⟨_, rfl⟩
  have HLN : Hid (L.length ≤ 12 ∧ ES.length ≤ 721) := by unfold Hid; rw [hL, hES]; exact runS_len
  have HSP : Hid (∀ (W : World) (g0 : Nat) (g2 : Nat), (RG 2 lnC W (.slice (some ⟨g0, 0, none⟩) s0.length s0.length) s0) → (RdI W (.slice (some ⟨g2, 0, none⟩) s2.length s2.length) s2) → Calls Try.prog 7 #[.slice (some ⟨g0, 0, none⟩) s0.length s0.length, .int .i64 n1, .agg #[.slice (some ⟨g2, 0, none⟩) s2.length s2.length, .int .i64 L2], .int .i64 n3] W fun e w' => ∃ v v2, e = .returned (.agg #[.int .i64 C, v, v2]) ∧ OwCR w' W.heap.size v v2 L ES ∧ Below W.heap.size W w') := fun W g0 g2 h0 h2 => by
    rw [hES, hL, hC]
    exact (spec_cr L2 n1 n3 HL0.out h0 h2).mono (by rintro e w' ⟨r, r2, h1, h2, h3, h4⟩; exact ⟨r, r2, h1, ⟨h2, h3⟩, h4⟩)
  have HIM : Hid (∀ (W : World) (g0 : Nat) (g2 : Nat), (RG 2 lnC W (.slice (some ⟨g0, 0, none⟩) s0.length s0.length) s0) → (RdI W (.slice (some ⟨g2, 0, none⟩) s2.length s2.length) s2) → Calls Try.prog 10 #[.slice (some ⟨g0, 0, none⟩) s0.length s0.length, .int .i64 n1, .agg #[.slice (some ⟨g2, 0, none⟩) s2.length s2.length, .int .i64 L2], .int .i64 n3] W fun e w' => ∃ v v2, e = .returned (.agg #[.int .i64 C, v, v2]) ∧ OwCR w' W.heap.size v v2 L ES ∧ Below W.heap.size W w') := fun W g0 g2 h0 h2 => by
    rw [hES, hL, hC]
    exact (impl_cr L2 n1 n3 HL0.out h0 h2).mono (by rintro e w' ⟨r, r2, h1, h2, h3, h4⟩; exact ⟨r, r2, h1, ⟨h2, h3⟩, h4⟩)
  clear hC hL hES u0 v0 tt0 u2 v2 tt2
  have kp2 := Z2.out.get 0 rfl
  rw [TB2.out] at kp2
  have cp2_0 : w2.cell? ⟨w.heap.size, 0, none⟩ = some (.slice sa2 sn2 sc2) := cellOf kp2 0 rfl
  have cp2_1 : w2.cell? ⟨w.heap.size, 1, none⟩ = some (.int .i64 L2) := cellOf kp2 1 rfl
  have lp2 : w.heap.size < w2.heap.size := ltOf kp2
  clear kp2
  go_wp2_with (fail)
  have HWB : Below w.heap.size w w2 := Z2.out.bl
  refine wp_region_float (by kernel_rfl) (fun hS => ?_)
  refine fl_take (i := 0) (d := 28) (v := .slice sa0 sn0 sc0) rfl rfl rfl (by kernel_rfl) (by kernel_rfl) (by kernel_rfl) hS ?_ ?_
  · intro w' hk; go_simp
  simp only [Act.put, List.setIfInBounds_toArray, List.set_cons_zero, List.set_cons_succ]
  refine fl_take (i := 2) (d := 30) (v := .int .i64 n1) rfl rfl rfl (by kernel_rfl) (by kernel_rfl) (by kernel_rfl) hS ?_ ?_
  · intro w' hk; go_simp
  simp only [Act.put, List.setIfInBounds_toArray, List.set_cons_zero, List.set_cons_succ]
  refine fl_take (i := 3) (d := 31) (v := .agg #[.slice sa2 sn2 sc2, .int .i64 L2]) rfl rfl rfl (by kernel_rfl) (by kernel_rfl) (by kernel_rfl) hS ?_ ?_
  · intro w' hk; go_simp
  simp only [Act.put, List.setIfInBounds_toArray, List.set_cons_zero, List.set_cons_succ]
  refine fl_take (i := 5) (d := 33) (v := .int .i64 n3) rfl rfl rfl (by kernel_rfl) (by kernel_rfl) (by kernel_rfl) hS ?_ ?_
  · intro w' hk; go_simp
  simp only [Act.put, List.setIfInBounds_toArray, List.set_cons_zero, List.set_cons_succ]
  refine float_pend (z := #[.int .i64 0, .slice none 0 0, .slice none 0 0]) (T := 30) (ja := 7) (js := 8) rfl rfl rfl rfl rfl (fun a w => by go_simp) [1, 4, 6] _ _ _ (fun _ => False) (by kernel_rfl) (by kernel_rfl) ?_ (Nat.le_refl _) (fun _ h => h.elim) hS
  intro ya0 hW0
  have hB0 : Below w2.heap.size w2 ya0 := hS.2.trans (hW0.mono hS.2.size)
  refine ⟨_, 29, _, _, rfl, rfl, by go_simp, (toLineS_any HL0.out ((HR0.out.below HWB).below hB0)).mono ?_⟩
  rintro e qa0 ⟨ga0, rfl, ho0, hb0⟩
  have hC0 : Below w2.heap.size w2 qa0 := hB0.trans (hb0.mono hB0.size)
  refine ⟨_, rfl, hb0, ?_⟩
  simp only [Act.put, List.setIfInBounds_toArray, List.set_cons_zero, List.set_cons_succ]
  intro ya1 hW1
  have hB1 : Below w2.heap.size w2 ya1 := hC0.trans (hW1.mono hC0.size)
  refine ⟨_, 32, _, _, rfl, rfl, by go_simp, (toKernel_any L2 HL2.out ((HR2.out.below HWB).below hB1)).mono ?_⟩
  rintro e qa1 ⟨ga1, rfl, ho1, hb1⟩
  have hC1 : Below w2.heap.size w2 qa1 := hB1.trans (hb1.mono hB1.size)
  refine ⟨_, rfl, hb1, ?_⟩
  simp only [Act.put, List.setIfInBounds_toArray, List.set_cons_zero, List.set_cons_succ]
  intro ya2 hW2
  have hB2 : Below w2.heap.size w2 ya2 := hC1.trans (hW2.mono hC1.size)
  refine ⟨_, 34, _, _, rfl, rfl, by go_simp, (HSP.out ya2 ga0 ga1 (RG.below (RG.below (RG.below ((OG.rg lnC_len ho0)) hW1) hb1) hW2) (RG.below (ho1.rg) hW2)).mono ?_⟩
  rintro e yea ⟨vq, vr, rfl, hrq, hbq⟩
  obtain ⟨vaa, vca, rfl⟩ := (OwCR.rd hrq).ln.form
  obtain ⟨uaa, uca, rfl⟩ := (OwCR.rd hrq).er.form
  refine ⟨_, rfl, hbq, ?_⟩
  simp only [Act.put, List.setIfInBounds_toArray, List.set_cons_zero, List.set_cons_succ]
  unfold Fl
  refine after_store ?_ _ _ _ #[.int .i64 C, .slice vaa L.length vca, .slice uaa ES.length uca] (by rfl) (by rfl) (fun _ => by rfl) (fun _ => by rfl) (by simp) (by kernel_rfl) (by simp [Value.oneCell']) ?_
  · exact Nat.le_refl _
  intro Ka Va hK hk1 hk2 hF hoth hsz hcell
  simp only [Act.put, List.setIfInBounds_toArray, List.set_cons_zero, List.set_cons_succ]
  refine NoPanic.normal ?_
  obtain ⟨oqa, hoq⟩ : ∃ oq, Va.heap[Ka]? = some oq := ⟨_, Array.getElem?_eq_getElem hk2⟩
  have TCa : Hid (∀ W : World, W.heap[Ka]? = some oqa → W.cell? ⟨Ka, 0, none⟩ = some (.int .i64 C) ∧ W.cell? ⟨Ka, 1, none⟩ = some (.slice vaa L.length vca) ∧ W.cell? ⟨Ka, 2, none⟩ = some (.slice uaa ES.length uca) ∧ Ka < W.heap.size) := fun W h => ⟨(cellSame hoq h 0).trans (hcell 0 _ rfl), (cellSame hoq h 1).trans (hcell 1 _ rfl), (cellSame hoq h 2).trans (hcell 2 _ rfl), ltOf h⟩
  have hRV : OwCR Va w2.heap.size (.slice vaa L.length vca) (.slice uaa ES.length uca) L ES := by
    refine ⟨?_, ?_⟩
    · have h8 := ownsRow_keep (V' := Va) hrq.1 fun q hq => by
        have h9 := World.ownsRow.lt hrq.1 q hq
        exact hoth q (fun e => hF (by subst e; exact Or.inr ⟨h9.1, h9.2⟩)) h9.2
      refine ⟨h8.1, ?_⟩
      rcases h8.2 with h9 | ⟨g, cap, cur, h10, h11, h12⟩
      · exact Or.inl h9
      · exact Or.inr ⟨g, cap, cur, h10, Nat.le_trans hB2.size h11, h12⟩
    · have h8 := ownsRow_keep (V' := Va) hrq.2 fun q hq => by
        have h9 := World.ownsRow.lt hrq.2 q hq
        exact hoth q (fun e => hF (by subst e; exact Or.inr ⟨h9.1, h9.2⟩)) h9.2
      refine ⟨h8.1, ?_⟩
      rcases h8.2 with h9 | ⟨g, cap, cur, h10, h11, h12⟩
      · exact Or.inl h9
      · exact Or.inr ⟨g, cap, cur, h10, Nat.le_trans hB2.size h11, h12⟩
  have Z3 : Hid (LS w [(w.heap.size, w.heap.size + 1, fun V : World => V.heap[w.heap.size]? = some BX2), (w2.heap.size, Va.heap.size, fun V : World => V.heap[Ka]? = some oqa ∧ OwCR V w2.heap.size (.slice vaa L.length vca) (.slice uaa ES.length uca) L ES)] Va) := Z2.out.push hK.2 (Ow.and (Ow.wide (Ow.block hoq) hk1 hk2 (Nat.le_refl _)) (Ow.and (Ow.row hRV.1 hK.2.size (Nat.le_refl _) fun g hg => (World.ownsRow.lt hRV.1 g hg).2) (Ow.row hRV.2 hK.2.size (Nat.le_refl _) fun g hg => (World.ownsRow.lt hRV.2 g hg).2))) (Nat.le_refl _)
  clear Z2 HWB hK hk1 hk2 hF hoth hsz hcell hoq hbq hS hW0 hB0 hC0 ho0 hb0 hW1 hB1 hC1 ho1 hb1 hW2 hB2 hrq hRV cp2_0 cp2_1 lp2
  go_wp2_with (fail)
  refine (toLineS_any HL0.out (HR0.out.below Z3.out.bl)).mono ?_
  rintro e w3 ⟨x0, rfl, ho, hb⟩
  have HX0 : Hid (∀ g, (.slice (some ⟨x0, 0, none⟩) s0.length s0.length : Value).ownBlock = some g → g < w3.heap.size) := fun g hg => (World.ownsRow.lt ho g hg).2
  have Z4 : Hid (LS w [(w.heap.size, w.heap.size + 1, fun V : World => V.heap[w.heap.size]? = some BX2), (w2.heap.size, Va.heap.size, fun V : World => V.heap[Ka]? = some oqa ∧ OwCR V w2.heap.size (.slice vaa L.length vca) (.slice uaa ES.length uca) L ES), (Va.heap.size, w3.heap.size, fun V : World => V.ownsRow Va.heap.size 57 2 (.slice (some ⟨x0, 0, none⟩) s0.length s0.length) s0.length (s0.flatMap lnC))] w3) := Z3.out.push hb (Ow.rowAll ho hb) (Nat.le_refl _)
  clear Z3 hb ho
  have kp2 := Z4.out.get 0 rfl
  rw [TB2.out] at kp2
  have cp2_0 : w3.cell? ⟨w.heap.size, 0, none⟩ = some (.slice sa2 sn2 sc2) := cellOf kp2 0 rfl
  have cp2_1 : w3.cell? ⟨w.heap.size, 1, none⟩ = some (.int .i64 L2) := cellOf kp2 1 rfl
  have lp2 : w.heap.size < w3.heap.size := ltOf kp2
  clear kp2
  go_wp2_with (fail)
  clear cp2_0 cp2_1 lp2
  refine (toKernel_any L2 HL2.out (HR2.out.below Z4.out.bl)).mono ?_
  rintro e w4 ⟨x2, rfl, ho, hb⟩
  have HX2 : Hid (∀ g, (.slice (some ⟨x2, 0, none⟩) s2.length s2.length : Value).ownBlock = some g → g < w4.heap.size) := fun g hg => (World.ownsRow.lt ho g hg).2
  have Z5 : Hid (LS w [(w.heap.size, w.heap.size + 1, fun V : World => V.heap[w.heap.size]? = some BX2), (w2.heap.size, Va.heap.size, fun V : World => V.heap[Ka]? = some oqa ∧ OwCR V w2.heap.size (.slice vaa L.length vca) (.slice uaa ES.length uca) L ES), (Va.heap.size, w3.heap.size, fun V : World => V.ownsRow Va.heap.size 57 2 (.slice (some ⟨x0, 0, none⟩) s0.length s0.length) s0.length (s0.flatMap lnC)), (w3.heap.size, w4.heap.size, fun V : World => V.ownsRow w3.heap.size 2 1 (.slice (some ⟨x2, 0, none⟩) s2.length s2.length) s2.length (s2.map (Value.int .i64)))] w4) := Z4.out.push hb (Ow.rowAll ho hb) (Nat.le_refl _)
  clear Z4 hb ho
  have Z6 : Hid (LS w [(w.heap.size, w.heap.size + 1, fun V : World => V.heap[w.heap.size]? = some BX2), (w2.heap.size, Va.heap.size, fun V : World => V.heap[Ka]? = some oqa ∧ OwCR V w2.heap.size (.slice vaa L.length vca) (.slice uaa ES.length uca) L ES), (Va.heap.size, w3.heap.size, fun V : World => V.ownsRow Va.heap.size 57 2 (.slice (some ⟨x0, 0, none⟩) s0.length s0.length) s0.length (s0.flatMap lnC)), (w3.heap.size, w4.heap.size, fun V : World => V.ownsRow w3.heap.size 2 1 (.slice (some ⟨x2, 0, none⟩) s2.length s2.length) s2.length (s2.map (Value.int .i64))), (w4.heap.size, w4.heap.size + 1, fun V : World => V.heap[w4.heap.size]? = some (Obj.cells #[.slice (some ⟨x2, 0, none⟩) s2.length s2.length, .int .i64 L2] 33))] (w4.alloc (Obj.cells #[.slice (some ⟨x2, 0, none⟩) s2.length s2.length, .int .i64 L2] 33))) := Z5.out.push (by (repeat' (first | (with_reducible exact Below.refl _ _) | (with_reducible assumption) | (with_reducible refine Below.setCell ?_ ?_ _) | (with_reducible refine Below.alloc ?_ ?_ _) | (with_reducible refine below_drewN ?_ _) | (with_reducible refine Below.drew ?_) | (with_reducible exact Nat.le_refl _) | omega | (simp; done) | (simp; omega)))) (Ow.block (heap_alloc_new _ _)) (Nat.le_refl _)
  clear Z5
  go_wp2_with (fail)
  obtain ⟨Vx2, hV⟩ : ∃ V, V = w4.alloc (Obj.cells #[.slice (some ⟨x2, 0, none⟩) s2.length s2.length, .int .i64 L2] 33) := ⟨_, rfl⟩
  rw [← hV] at Z6 ⊢
  obtain ⟨Kx2, hK⟩ : ∃ K, K = w4.heap.size := ⟨_, rfl⟩
  rw [← hK] at Z6 HX2 ⊢
  clear hV hK
  refine (HIM.out Vx2 x0 x2 (OG.rg (T := 57) (B := Va.heap.size) lnC_len (show Vx2.ownsRow Va.heap.size 57 2 (.slice (some ⟨x0, 0, none⟩) s0.length s0.length) s0.length (s0.flatMap lnC) from Z6.out.get 2 rfl)) (IS.rg (B := w3.heap.size) (show Vx2.ownsRow w3.heap.size 2 1 (.slice (some ⟨x2, 0, none⟩) s2.length s2.length) s2.length (s2.map (Value.int .i64)) from Z6.out.get 3 rfl))).mono ?_
  rintro e w5 ⟨vq, vr, rfl, hrq, hb⟩
  obtain ⟨vag, vcg, rfl⟩ := (OwCR.rd hrq).ln.form
  obtain ⟨uag, ucg, rfl⟩ := (OwCR.rd hrq).er.form
  have HXg : Hid ((∀ g, (.slice vag L.length vcg : Value).ownBlock = some g → g < w5.heap.size) ∧ (∀ g, (.slice uag ES.length ucg : Value).ownBlock = some g → g < w5.heap.size)) := ⟨fun g hg => (World.ownsRow.lt hrq.1 g hg).2, fun g hg => (World.ownsRow.lt hrq.2 g hg).2⟩
  have Z7 : Hid (LS w [(w.heap.size, w.heap.size + 1, fun V : World => V.heap[w.heap.size]? = some BX2), (w2.heap.size, Va.heap.size, fun V : World => V.heap[Ka]? = some oqa ∧ OwCR V w2.heap.size (.slice vaa L.length vca) (.slice uaa ES.length uca) L ES), (Va.heap.size, w3.heap.size, fun V : World => V.ownsRow Va.heap.size 57 2 (.slice (some ⟨x0, 0, none⟩) s0.length s0.length) s0.length (s0.flatMap lnC)), (w3.heap.size, Kx2, fun V : World => V.ownsRow w3.heap.size 2 1 (.slice (some ⟨x2, 0, none⟩) s2.length s2.length) s2.length (s2.map (Value.int .i64))), (Kx2, Kx2 + 1, fun V : World => V.heap[Kx2]? = some (Obj.cells #[.slice (some ⟨x2, 0, none⟩) s2.length s2.length, .int .i64 L2] 33)), (Vx2.heap.size, w5.heap.size, fun V : World => OwCR V Vx2.heap.size (.slice vag L.length vcg) (.slice uag ES.length ucg) L ES)] w5) := Z6.out.push hb (Ow.rowCR hrq hb) (Nat.le_refl _)
  clear Z6 hb hrq
  obtain ⟨cva_0, cva_1, cva_2, lva⟩ := TCa.out w5 (Z7.out.get 1 rfl).1
  have Z8 : Hid (LS w [(w.heap.size, w.heap.size + 1, fun V : World => V.heap[w.heap.size]? = some BX2), (w2.heap.size, Va.heap.size, fun V : World => V.heap[Ka]? = some oqa ∧ OwCR V w2.heap.size (.slice vaa L.length vca) (.slice uaa ES.length uca) L ES), (Va.heap.size, w3.heap.size, fun V : World => V.ownsRow Va.heap.size 57 2 (.slice (some ⟨x0, 0, none⟩) s0.length s0.length) s0.length (s0.flatMap lnC)), (w3.heap.size, Kx2, fun V : World => V.ownsRow w3.heap.size 2 1 (.slice (some ⟨x2, 0, none⟩) s2.length s2.length) s2.length (s2.map (Value.int .i64))), (Kx2, Kx2 + 1, fun V : World => V.heap[Kx2]? = some (Obj.cells #[.slice (some ⟨x2, 0, none⟩) s2.length s2.length, .int .i64 L2] 33)), (Vx2.heap.size, w5.heap.size, fun V : World => OwCR V Vx2.heap.size (.slice vag L.length vcg) (.slice uag ES.length ucg) L ES), (w5.heap.size, w5.heap.size + 1, fun V : World => V.heap[w5.heap.size]? = some (Obj.cells #[.int .i64 C, .slice vag L.length vcg, .slice uag ES.length ucg] 30))] (w5.alloc (Obj.cells #[.int .i64 C, .slice vag L.length vcg, .slice uag ES.length ucg] 30))) := Z7.out.push (by (repeat' (first | (with_reducible exact Below.refl _ _) | (with_reducible assumption) | (with_reducible refine Below.setCell ?_ ?_ _) | (with_reducible refine Below.alloc ?_ ?_ _) | (with_reducible refine below_drewN ?_ _) | (with_reducible refine Below.drew ?_) | (with_reducible exact Nat.le_refl _) | omega | (simp; done) | (simp; omega)))) (Ow.block (heap_alloc_new _ _)) (Nat.le_refl _)
  clear Z7
  go_wp2_with (fail)
  obtain ⟨Vg, hV⟩ : ∃ V, V = w5.alloc (Obj.cells #[.int .i64 C, .slice vag L.length vcg, .slice uag ES.length ucg] 30) := ⟨_, rfl⟩
  rw [← hV] at Z8 ⊢
  obtain ⟨Kg, hK⟩ : ∃ K, K = w5.heap.size := ⟨_, rfl⟩
  rw [← hK] at Z8 HXg ⊢
  clear hV hK
  clear cva_0 cva_1 cva_2 lva
  refine (eqCorrectResult_same C (by have := HLN.out; omega) (OwCR.rd (B := Vx2.heap.size) (show OwCR Vg Vx2.heap.size (.slice vag L.length vcg) (.slice uag ES.length ucg) L ES from (Z8.out.get 5 rfl))) (OwCR.rd (B := w2.heap.size) (show OwCR Vg w2.heap.size (.slice vaa L.length vca) (.slice uaa ES.length uca) L ES from (Z8.out.get 1 rfl).2))).mono ?_
  rintro e w6 ⟨rfl, hb⟩
  have Z9 : Hid (LS w [(w.heap.size, w.heap.size + 1, fun V : World => V.heap[w.heap.size]? = some BX2), (w2.heap.size, Va.heap.size, fun V : World => V.heap[Ka]? = some oqa ∧ OwCR V w2.heap.size (.slice vaa L.length vca) (.slice uaa ES.length uca) L ES), (Va.heap.size, w3.heap.size, fun V : World => V.ownsRow Va.heap.size 57 2 (.slice (some ⟨x0, 0, none⟩) s0.length s0.length) s0.length (s0.flatMap lnC)), (w3.heap.size, Kx2, fun V : World => V.ownsRow w3.heap.size 2 1 (.slice (some ⟨x2, 0, none⟩) s2.length s2.length) s2.length (s2.map (Value.int .i64))), (Kx2, Kx2 + 1, fun V : World => V.heap[Kx2]? = some (Obj.cells #[.slice (some ⟨x2, 0, none⟩) s2.length s2.length, .int .i64 L2] 33)), (Vx2.heap.size, Kg, fun V : World => OwCR V Vx2.heap.size (.slice vag L.length vcg) (.slice uag ES.length ucg) L ES), (Kg, Kg + 1, fun V : World => V.heap[Kg]? = some (Obj.cells #[.int .i64 C, .slice vag L.length vcg, .slice uag ES.length ucg] 30))] w6) := Z8.out.next hb
  clear Z8 hb
  go_wp2_with (fail)
  refine (toLineS_any HL0.out (HR0.out.below Z9.out.bl)).mono ?_
  rintro e w7 ⟨e0, rfl, ho, hb⟩
  have Z10 : Hid (LS w [(w.heap.size, w.heap.size + 1, fun V : World => V.heap[w.heap.size]? = some BX2), (w2.heap.size, Va.heap.size, fun V : World => V.heap[Ka]? = some oqa ∧ OwCR V w2.heap.size (.slice vaa L.length vca) (.slice uaa ES.length uca) L ES), (Va.heap.size, w3.heap.size, fun V : World => V.ownsRow Va.heap.size 57 2 (.slice (some ⟨x0, 0, none⟩) s0.length s0.length) s0.length (s0.flatMap lnC)), (w3.heap.size, Kx2, fun V : World => V.ownsRow w3.heap.size 2 1 (.slice (some ⟨x2, 0, none⟩) s2.length s2.length) s2.length (s2.map (Value.int .i64))), (Kx2, Kx2 + 1, fun V : World => V.heap[Kx2]? = some (Obj.cells #[.slice (some ⟨x2, 0, none⟩) s2.length s2.length, .int .i64 L2] 33)), (Vx2.heap.size, Kg, fun V : World => OwCR V Vx2.heap.size (.slice vag L.length vcg) (.slice uag ES.length ucg) L ES), (Kg, Kg + 1, fun V : World => V.heap[Kg]? = some (Obj.cells #[.int .i64 C, .slice vag L.length vcg, .slice uag ES.length ucg] 30)), (w6.heap.size, w7.heap.size, fun V : World => V.ownsRow w6.heap.size 57 2 (.slice (some ⟨e0, 0, none⟩) s0.length s0.length) s0.length (s0.flatMap lnC))] w7) := Z9.out.push hb (Ow.rowAll ho hb) (Nat.le_refl _)
  clear Z9 hb ho
  go_wp2_with (fail)
  refine (eqLineS_same (by have := HL0.out; omega) (OG.rg (T := 57) (B := Va.heap.size) lnC_len (show w7.ownsRow Va.heap.size 57 2 (.slice (some ⟨x0, 0, none⟩) s0.length s0.length) s0.length (s0.flatMap lnC) from Z10.out.get 2 rfl)) (OG.rg (T := 57) (B := w6.heap.size) lnC_len (show w7.ownsRow w6.heap.size 57 2 (.slice (some ⟨e0, 0, none⟩) s0.length s0.length) s0.length (s0.flatMap lnC) from Z10.out.get 7 rfl))).mono ?_
  rintro e w8 ⟨rfl, hb⟩
  have Z11 : Hid (LS w [(w.heap.size, w.heap.size + 1, fun V : World => V.heap[w.heap.size]? = some BX2), (w2.heap.size, Va.heap.size, fun V : World => V.heap[Ka]? = some oqa ∧ OwCR V w2.heap.size (.slice vaa L.length vca) (.slice uaa ES.length uca) L ES), (Va.heap.size, w3.heap.size, fun V : World => V.ownsRow Va.heap.size 57 2 (.slice (some ⟨x0, 0, none⟩) s0.length s0.length) s0.length (s0.flatMap lnC)), (w3.heap.size, Kx2, fun V : World => V.ownsRow w3.heap.size 2 1 (.slice (some ⟨x2, 0, none⟩) s2.length s2.length) s2.length (s2.map (Value.int .i64))), (Kx2, Kx2 + 1, fun V : World => V.heap[Kx2]? = some (Obj.cells #[.slice (some ⟨x2, 0, none⟩) s2.length s2.length, .int .i64 L2] 33)), (Vx2.heap.size, Kg, fun V : World => OwCR V Vx2.heap.size (.slice vag L.length vcg) (.slice uag ES.length ucg) L ES), (Kg, Kg + 1, fun V : World => V.heap[Kg]? = some (Obj.cells #[.int .i64 C, .slice vag L.length vcg, .slice uag ES.length ucg] 30)), (w6.heap.size, w7.heap.size, fun V : World => V.ownsRow w6.heap.size 57 2 (.slice (some ⟨e0, 0, none⟩) s0.length s0.length) s0.length (s0.flatMap lnC))] w8) := Z10.out.next hb
  clear Z10 hb
  have kvx2 := Z11.out.get 4 rfl
  have cvx2_0 : w8.cell? ⟨Kx2, 0, none⟩ = some (.slice (some ⟨x2, 0, none⟩) s2.length s2.length) := cellOf kvx2 0 rfl
  have cvx2_1 : w8.cell? ⟨Kx2, 1, none⟩ = some (.int .i64 L2) := cellOf kvx2 1 rfl
  have lvx2 : Kx2 < w8.heap.size := ltOf kvx2
  clear kvx2
  have kp2 := Z11.out.get 0 rfl
  rw [TB2.out] at kp2
  have cp2_0 : w8.cell? ⟨w.heap.size, 0, none⟩ = some (.slice sa2 sn2 sc2) := cellOf kp2 0 rfl
  have cp2_1 : w8.cell? ⟨w.heap.size, 1, none⟩ = some (.int .i64 L2) := cellOf kp2 1 rfl
  have lp2 : w.heap.size < w8.heap.size := ltOf kp2
  clear kp2
  go_wp2_with (fail)
  refine wp_region_float (by kernel_rfl) (fun hS => ?_)
  refine fl_take (i := 0) (d := 53) (v := .agg #[.slice (some ⟨x2, 0, none⟩) s2.length s2.length, .int .i64 L2]) rfl rfl rfl (by kernel_rfl) (by kernel_rfl) (by kernel_rfl) hS ?_ ?_
  · intro w' hk; go_simp
  simp only [Act.put, List.setIfInBounds_toArray, List.set_cons_zero, List.set_cons_succ]
  refine fl_take (i := 1) (d := 54) (v := .agg #[.slice sa2 sn2 sc2, .int .i64 L2]) rfl rfl rfl (by kernel_rfl) (by kernel_rfl) (by kernel_rfl) hS ?_ ?_
  · intro w' hk; go_simp
  simp only [Act.put, List.setIfInBounds_toArray, List.set_cons_zero, List.set_cons_succ]
  refine wpAnyH_all (rs := [2]) (by kernel_rfl) (by simp) ?_
  intro i hi
  obtain rfl : i = 2 := by simpa using hi
  refine op_call (d := 55) rfl rfl rfl (by go_simp) ((toKernel_any L2 HL2.out ((HR2.out.below Z11.out.bl).below (Below.refl _ _).drew)).mono ?_)
  rintro e ya2 ⟨gy2, rfl, hk5, hb5⟩
  have hK5 : KS w8 ya2 := hS.call hb5
  refine ⟨_, rfl, hK5, ?_⟩
  simp only [Act.put, List.setIfInBounds_toArray, List.set_cons_zero, List.set_cons_succ]
  refine wpAnyH_all (rs := [3]) (by kernel_rfl) (by simp) ?_
  intro i hi
  obtain rfl : i = 3 := by simpa using hi
  refine op_call (d := 56) rfl rfl rfl (by go_simp) ((eqKernel_same L2 (by have := HL2.out; omega) (RG.below (IS.rg (B := w3.heap.size) (show w8.ownsRow w3.heap.size 2 1 (.slice (some ⟨x2, 0, none⟩) s2.length s2.length) s2.length (s2.map (Value.int .i64)) from Z11.out.get 3 rfl)) hK5.2) (hk5.rg)).mono ?_)
  rintro e yb2 ⟨rfl, hb6⟩
  have hK6 : KS w8 yb2 := hK5.call hb6
  refine ⟨_, rfl, hK6, ?_⟩
  simp only [Act.put, List.setIfInBounds_toArray, List.set_cons_zero, List.set_cons_succ]
  refine wpAnyH_all (rs := [4]) (by kernel_rfl) (by simp) ?_
  intro i hi
  obtain rfl : i = 4 := by simpa using hi
  refine op_val (d := 57) (v := .bool false) (w' := yb2) rfl rfl rfl (by go_simp; try rfl) ?_
  simp only [Act.put, List.setIfInBounds_toArray, List.set_cons_zero, List.set_cons_succ]
  refine ⟨hK6, wpAnyH_done (by kernel_rfl) (NoPanic.normal ?_) _⟩
  have Z12 : Hid (LS w [(w.heap.size, w.heap.size + 1, fun V : World => V.heap[w.heap.size]? = some BX2), (w2.heap.size, Va.heap.size, fun V : World => V.heap[Ka]? = some oqa ∧ OwCR V w2.heap.size (.slice vaa L.length vca) (.slice uaa ES.length uca) L ES), (Va.heap.size, w3.heap.size, fun V : World => V.ownsRow Va.heap.size 57 2 (.slice (some ⟨x0, 0, none⟩) s0.length s0.length) s0.length (s0.flatMap lnC)), (w3.heap.size, Kx2, fun V : World => V.ownsRow w3.heap.size 2 1 (.slice (some ⟨x2, 0, none⟩) s2.length s2.length) s2.length (s2.map (Value.int .i64))), (Kx2, Kx2 + 1, fun V : World => V.heap[Kx2]? = some (Obj.cells #[.slice (some ⟨x2, 0, none⟩) s2.length s2.length, .int .i64 L2] 33)), (Vx2.heap.size, Kg, fun V : World => OwCR V Vx2.heap.size (.slice vag L.length vcg) (.slice uag ES.length ucg) L ES), (Kg, Kg + 1, fun V : World => V.heap[Kg]? = some (Obj.cells #[.int .i64 C, .slice vag L.length vcg, .slice uag ES.length ucg] 30)), (w6.heap.size, w7.heap.size, fun V : World => V.ownsRow w6.heap.size 57 2 (.slice (some ⟨e0, 0, none⟩) s0.length s0.length) s0.length (s0.flatMap lnC))] yb2) := Z11.out.next hK6.2
  clear Z11 hK6 hK5 hb6 hb5 hk5 hS cvx2_0 cvx2_1 lvx2 cp2_0 cp2_1 lp2
  go_wp2_with (fail)
  refine (markLineS_to 1 HL0.out (by omega) (by omega) (show yb2.ownsRow Va.heap.size 57 2 (.slice (some ⟨x0, 0, none⟩) s0.length s0.length) s0.length (s0.flatMap lnC) from Z12.out.get 2 rfl) (HX0.out)).mono ?_
  rintro e w9 ⟨rfl, hm, hc⟩
  have Z13 : Hid (LS w [(w.heap.size, w.heap.size + 1, fun V : World => V.heap[w.heap.size]? = some BX2), (w2.heap.size, Va.heap.size, fun V : World => V.heap[Ka]? = some oqa ∧ OwCR V w2.heap.size (.slice vaa L.length vca) (.slice uaa ES.length uca) L ES), (Va.heap.size, w3.heap.size, fun V : World => True), (w3.heap.size, Kx2, fun V : World => V.ownsRow w3.heap.size 2 1 (.slice (some ⟨x2, 0, none⟩) s2.length s2.length) s2.length (s2.map (Value.int .i64))), (Kx2, Kx2 + 1, fun V : World => V.heap[Kx2]? = some (Obj.cells #[.slice (some ⟨x2, 0, none⟩) s2.length s2.length, .int .i64 L2] 33)), (Vx2.heap.size, Kg, fun V : World => OwCR V Vx2.heap.size (.slice vag L.length vcg) (.slice uag ES.length ucg) L ES), (Kg, Kg + 1, fun V : World => V.heap[Kg]? = some (Obj.cells #[.int .i64 C, .slice vag L.length vcg, .slice uag ES.length ucg] 30)), (w6.heap.size, w7.heap.size, fun V : World => V.ownsRow w6.heap.size 57 2 (.slice (some ⟨e0, 0, none⟩) s0.length s0.length) s0.length (s0.flatMap lnC))] w9) := Z12.out.put 2 rfl hc ((Z12.out.own 2 rfl).true hc.size)
  clear Z12 hm hc
  obtain ⟨N0, hN⟩ : ∃ N, N = 1 + 2 * (s0.length : Int) := ⟨_, rfl⟩
  rw [← hN]
  have hN0 : 0 ≤ N0 ∧ N0 ≤ 10000000 ∧ ¬ N0 < 0 := by have := HL0.out; omega
  have hN0a := hN0.2.2
  clear hN
  have kvx2 := Z13.out.get 4 rfl
  have cvx2_0 : w9.cell? ⟨Kx2, 0, none⟩ = some (.slice (some ⟨x2, 0, none⟩) s2.length s2.length) := cellOf kvx2 0 rfl
  have cvx2_1 : w9.cell? ⟨Kx2, 1, none⟩ = some (.int .i64 L2) := cellOf kvx2 1 rfl
  have lvx2 : Kx2 < w9.heap.size := ltOf kvx2
  clear kvx2
  go_wp2_with (fail)
  clear cvx2_0 cvx2_1 lvx2
  refine (markKernel_to L2 N0 HL2.out hN0.1 (by omega) (show w9.ownsRow w3.heap.size 2 1 (.slice (some ⟨x2, 0, none⟩) s2.length s2.length) s2.length (s2.map (Value.int .i64)) from Z13.out.get 3 rfl) (HX2.out)).mono ?_
  rintro e w10 ⟨rfl, hm, hc⟩
  have Z14 : Hid (LS w [(w.heap.size, w.heap.size + 1, fun V : World => V.heap[w.heap.size]? = some BX2), (w2.heap.size, Va.heap.size, fun V : World => V.heap[Ka]? = some oqa ∧ OwCR V w2.heap.size (.slice vaa L.length vca) (.slice uaa ES.length uca) L ES), (Va.heap.size, w3.heap.size, fun V : World => True), (w3.heap.size, Kx2, fun V : World => True), (Kx2, Kx2 + 1, fun V : World => V.heap[Kx2]? = some (Obj.cells #[.slice (some ⟨x2, 0, none⟩) s2.length s2.length, .int .i64 L2] 33)), (Vx2.heap.size, Kg, fun V : World => OwCR V Vx2.heap.size (.slice vag L.length vcg) (.slice uag ES.length ucg) L ES), (Kg, Kg + 1, fun V : World => V.heap[Kg]? = some (Obj.cells #[.int .i64 C, .slice vag L.length vcg, .slice uag ES.length ucg] 30)), (w6.heap.size, w7.heap.size, fun V : World => V.ownsRow w6.heap.size 57 2 (.slice (some ⟨e0, 0, none⟩) s0.length s0.length) s0.length (s0.flatMap lnC))] w10) := Z13.out.put 3 rfl hc ((Z13.out.own 3 rfl).true hc.size)
  clear Z13 hm hc
  obtain ⟨N2, hN⟩ : ∃ N, N = N0 + (s2.length : Int) := ⟨_, rfl⟩
  rw [← hN]
  have hN2 : 0 ≤ N2 ∧ N2 ≤ 20000000 ∧ ¬ N2 < 0 := by have := HL2.out; omega
  have hN2a := hN2.2.2
  clear hN
  have kvg := Z14.out.get 6 rfl
  have cvg_0 : w10.cell? ⟨Kg, 0, none⟩ = some (.int .i64 C) := cellOf kvg 0 rfl
  have cvg_1 : w10.cell? ⟨Kg, 1, none⟩ = some (.slice vag L.length vcg) := cellOf kvg 1 rfl
  have cvg_2 : w10.cell? ⟨Kg, 2, none⟩ = some (.slice uag ES.length ucg) := cellOf kvg 2 rfl
  have lvg : Kg < w10.heap.size := ltOf kvg
  clear kvg
  obtain ⟨cva_0, cva_1, cva_2, lva⟩ := TCa.out w10 (Z14.out.get 1 rfl).1
  go_wp2_with (fail)
  clear cvg_0 cvg_1 cvg_2 lvg cva_0 cva_1 cva_2 lva
  refine (eqCorrectResult_same C (by have := HLN.out; omega) (OwCR.rd (B := Vx2.heap.size) (show OwCR w10 Vx2.heap.size (.slice vag L.length vcg) (.slice uag ES.length ucg) L ES from (Z14.out.get 5 rfl))) (OwCR.rd (B := w2.heap.size) (show OwCR w10 w2.heap.size (.slice vaa L.length vca) (.slice uaa ES.length uca) L ES from (Z14.out.get 1 rfl).2))).mono ?_
  rintro e w11 ⟨rfl, hb⟩
  have Z15 : Hid (LS w [(w.heap.size, w.heap.size + 1, fun V : World => V.heap[w.heap.size]? = some BX2), (w2.heap.size, Va.heap.size, fun V : World => V.heap[Ka]? = some oqa ∧ OwCR V w2.heap.size (.slice vaa L.length vca) (.slice uaa ES.length uca) L ES), (Va.heap.size, w3.heap.size, fun V : World => True), (w3.heap.size, Kx2, fun V : World => True), (Kx2, Kx2 + 1, fun V : World => V.heap[Kx2]? = some (Obj.cells #[.slice (some ⟨x2, 0, none⟩) s2.length s2.length, .int .i64 L2] 33)), (Vx2.heap.size, Kg, fun V : World => OwCR V Vx2.heap.size (.slice vag L.length vcg) (.slice uag ES.length ucg) L ES), (Kg, Kg + 1, fun V : World => V.heap[Kg]? = some (Obj.cells #[.int .i64 C, .slice vag L.length vcg, .slice uag ES.length ucg] 30)), (w6.heap.size, w7.heap.size, fun V : World => V.ownsRow w6.heap.size 57 2 (.slice (some ⟨e0, 0, none⟩) s0.length s0.length) s0.length (s0.flatMap lnC))] w11) := Z14.out.next hb
  clear Z14 hb
  have kvg := Z15.out.get 6 rfl
  have cvg_0 : w11.cell? ⟨Kg, 0, none⟩ = some (.int .i64 C) := cellOf kvg 0 rfl
  have cvg_1 : w11.cell? ⟨Kg, 1, none⟩ = some (.slice vag L.length vcg) := cellOf kvg 1 rfl
  have cvg_2 : w11.cell? ⟨Kg, 2, none⟩ = some (.slice uag ES.length ucg) := cellOf kvg 2 rfl
  have lvg : Kg < w11.heap.size := ltOf kvg
  clear kvg
  go_wp2_with (fail)
  clear cvg_0 cvg_1 cvg_2 lvg
  refine (markCorrectResult_to C 1 (by have := HLN.out; omega) (by omega) (by omega) (show OwCR w11 Vx2.heap.size (.slice vag L.length vcg) (.slice uag ES.length ucg) L ES from (Z15.out.get 5 rfl)) HXg.out).mono ?_
  rintro e w12 ⟨rfl, hm, hc⟩
  have Z16 : Hid (LS w [(w.heap.size, w.heap.size + 1, fun V : World => V.heap[w.heap.size]? = some BX2), (w2.heap.size, Va.heap.size, fun V : World => V.heap[Ka]? = some oqa ∧ OwCR V w2.heap.size (.slice vaa L.length vca) (.slice uaa ES.length uca) L ES), (Va.heap.size, w3.heap.size, fun V : World => True), (w3.heap.size, Kx2, fun V : World => True), (Kx2, Kx2 + 1, fun V : World => V.heap[Kx2]? = some (Obj.cells #[.slice (some ⟨x2, 0, none⟩) s2.length s2.length, .int .i64 L2] 33)), (Vx2.heap.size, Kg, fun V : World => MkCR V Vx2.heap.size (.slice vag L.length vcg) (.slice uag ES.length ucg) L.length ES.length 1), (Kg, Kg + 1, fun V : World => V.heap[Kg]? = some (Obj.cells #[.int .i64 C, .slice vag L.length vcg, .slice uag ES.length ucg] 30)), (w6.heap.size, w7.heap.size, fun V : World => V.ownsRow w6.heap.size 57 2 (.slice (some ⟨e0, 0, none⟩) s0.length s0.length) s0.length (s0.flatMap lnC))] w12) := Z15.out.put 5 rfl hc (Ow.and (Ow.row hm.1 (Z15.out.own 5 rfl).le.1 (Nat.le_trans (Z15.out.own 5 rfl).le.2 hc.size) HXg.out.1) (Ow.row hm.2 (Z15.out.own 5 rfl).le.1 (Nat.le_trans (Z15.out.own 5 rfl).le.2 hc.size) HXg.out.2))
  clear Z15 hm hc
  obtain ⟨TT, hTT⟩ : ∃ TT, TT = 1 + 2 * (L.length : Int) + (ES.length : Int) := ⟨_, rfl⟩
  have hT0 : ¬ TT < 0 := by omega
  have HTT : Hid (TT = 1 + 2 * (L.length : Int) + (ES.length : Int)) := hTT
  rw [← hTT]
  clear hTT
  have kvg := Z16.out.get 6 rfl
  have cvg_0 : w12.cell? ⟨Kg, 0, none⟩ = some (.int .i64 C) := cellOf kvg 0 rfl
  have cvg_1 : w12.cell? ⟨Kg, 1, none⟩ = some (.slice vag L.length vcg) := cellOf kvg 1 rfl
  have cvg_2 : w12.cell? ⟨Kg, 2, none⟩ = some (.slice uag ES.length ucg) := cellOf kvg 2 rfl
  have lvg : Kg < w12.heap.size := ltOf kvg
  clear kvg
  go_wp2_with (fail)
  clear cvg_0 cvg_1 cvg_2 lvg
  refine (heldCorrectResult_to C 1 (by have := HLN.out; omega) (by omega) (by omega) (show MkCR w12 Vx2.heap.size (.slice vag L.length vcg) (.slice uag ES.length ucg) L.length ES.length 1 from Z16.out.get 5 rfl)).mono ?_
  rintro e w13 ⟨rfl, hb⟩
  have Z17 : Hid (LS w [(w.heap.size, w.heap.size + 1, fun V : World => V.heap[w.heap.size]? = some BX2), (w2.heap.size, Va.heap.size, fun V : World => V.heap[Ka]? = some oqa ∧ OwCR V w2.heap.size (.slice vaa L.length vca) (.slice uaa ES.length uca) L ES), (Va.heap.size, w3.heap.size, fun V : World => True), (w3.heap.size, Kx2, fun V : World => True), (Kx2, Kx2 + 1, fun V : World => V.heap[Kx2]? = some (Obj.cells #[.slice (some ⟨x2, 0, none⟩) s2.length s2.length, .int .i64 L2] 33)), (Vx2.heap.size, Kg, fun V : World => MkCR V Vx2.heap.size (.slice vag L.length vcg) (.slice uag ES.length ucg) L.length ES.length 1), (Kg, Kg + 1, fun V : World => V.heap[Kg]? = some (Obj.cells #[.int .i64 C, .slice vag L.length vcg, .slice uag ES.length ucg] 30)), (w6.heap.size, w7.heap.size, fun V : World => V.ownsRow w6.heap.size 57 2 (.slice (some ⟨e0, 0, none⟩) s0.length s0.length) s0.length (s0.flatMap lnC))] w13) := Z16.out.next hb
  clear Z16 hb
  rw [← HTT.out]
  have kp2 := Z17.out.get 0 rfl
  rw [TB2.out] at kp2
  have cp2_0 : w13.cell? ⟨w.heap.size, 0, none⟩ = some (.slice sa2 sn2 sc2) := cellOf kp2 0 rfl
  have cp2_1 : w13.cell? ⟨w.heap.size, 1, none⟩ = some (.int .i64 L2) := cellOf kp2 1 rfl
  have lp2 : w.heap.size < w13.heap.size := ltOf kp2
  clear kp2
  go_wp2_with (fail)
  have HWB : Below w.heap.size w w13 := Z17.out.bl
  refine wp_region_float (by kernel_rfl) (fun hS => ?_)
  refine fl_take (i := 0) (d := 83) (v := .slice sa0 sn0 sc0) rfl rfl rfl (by kernel_rfl) (by kernel_rfl) (by kernel_rfl) hS ?_ ?_
  · intro w' hk; go_simp
  simp only [Act.put, List.setIfInBounds_toArray, List.set_cons_zero, List.set_cons_succ]
  refine fl_take (i := 2) (d := 85) (v := .int .i64 n1) rfl rfl rfl (by kernel_rfl) (by kernel_rfl) (by kernel_rfl) hS ?_ ?_
  · intro w' hk; go_simp
  simp only [Act.put, List.setIfInBounds_toArray, List.set_cons_zero, List.set_cons_succ]
  refine fl_take (i := 3) (d := 86) (v := .agg #[.slice sa2 sn2 sc2, .int .i64 L2]) rfl rfl rfl (by kernel_rfl) (by kernel_rfl) (by kernel_rfl) hS ?_ ?_
  · intro w' hk; go_simp
  simp only [Act.put, List.setIfInBounds_toArray, List.set_cons_zero, List.set_cons_succ]
  refine fl_take (i := 5) (d := 88) (v := .int .i64 n3) rfl rfl rfl (by kernel_rfl) (by kernel_rfl) (by kernel_rfl) hS ?_ ?_
  · intro w' hk; go_simp
  simp only [Act.put, List.setIfInBounds_toArray, List.set_cons_zero, List.set_cons_succ]
  refine float_pend (z := #[.int .i64 0, .slice none 0 0, .slice none 0 0]) (T := 30) (ja := 7) (js := 8) rfl rfl rfl rfl rfl (fun a w => by go_simp) [1, 4, 6] _ _ _ (fun _ => False) (by kernel_rfl) (by kernel_rfl) ?_ (Nat.le_refl _) (fun _ h => h.elim) hS
  intro yh0 hW0
  have hB0 : Below w13.heap.size w13 yh0 := hS.2.trans (hW0.mono hS.2.size)
  refine ⟨_, 84, _, _, rfl, rfl, by go_simp, (toLineS_any HL0.out ((HR0.out.below HWB).below hB0)).mono ?_⟩
  rintro e qh0 ⟨gh0, rfl, ho0, hb0⟩
  have hC0 : Below w13.heap.size w13 qh0 := hB0.trans (hb0.mono hB0.size)
  refine ⟨_, rfl, hb0, ?_⟩
  simp only [Act.put, List.setIfInBounds_toArray, List.set_cons_zero, List.set_cons_succ]
  intro yh1 hW1
  have hB1 : Below w13.heap.size w13 yh1 := hC0.trans (hW1.mono hC0.size)
  refine ⟨_, 87, _, _, rfl, rfl, by go_simp, (toKernel_any L2 HL2.out ((HR2.out.below HWB).below hB1)).mono ?_⟩
  rintro e qh1 ⟨gh1, rfl, ho1, hb1⟩
  have hC1 : Below w13.heap.size w13 qh1 := hB1.trans (hb1.mono hB1.size)
  refine ⟨_, rfl, hb1, ?_⟩
  simp only [Act.put, List.setIfInBounds_toArray, List.set_cons_zero, List.set_cons_succ]
  intro yh2 hW2
  have hB2 : Below w13.heap.size w13 yh2 := hC1.trans (hW2.mono hC1.size)
  refine ⟨_, 89, _, _, rfl, rfl, by go_simp, (HIM.out yh2 gh0 gh1 (RG.below (RG.below (RG.below ((OG.rg lnC_len ho0)) hW1) hb1) hW2) (RG.below (ho1.rg) hW2)).mono ?_⟩
  rintro e yeh ⟨vq, vr, rfl, hrq, hbq⟩
  obtain ⟨vah, vch, rfl⟩ := (OwCR.rd hrq).ln.form
  obtain ⟨uah, uch, rfl⟩ := (OwCR.rd hrq).er.form
  refine ⟨_, rfl, hbq, ?_⟩
  simp only [Act.put, List.setIfInBounds_toArray, List.set_cons_zero, List.set_cons_succ]
  unfold Fl
  refine after_store ?_ _ _ _ #[.int .i64 C, .slice vah L.length vch, .slice uah ES.length uch] (by rfl) (by rfl) (fun _ => by rfl) (fun _ => by rfl) (by simp) (by kernel_rfl) (by simp [Value.oneCell']) ?_
  · exact Nat.le_refl _
  intro Kh Vh hK hk1 hk2 hF hoth hsz hcell
  simp only [Act.put, List.setIfInBounds_toArray, List.set_cons_zero, List.set_cons_succ]
  refine NoPanic.normal ?_
  obtain ⟨oqh, hoq⟩ : ∃ oq, Vh.heap[Kh]? = some oq := ⟨_, Array.getElem?_eq_getElem hk2⟩
  have TCh : Hid (∀ W : World, W.heap[Kh]? = some oqh → W.cell? ⟨Kh, 0, none⟩ = some (.int .i64 C) ∧ W.cell? ⟨Kh, 1, none⟩ = some (.slice vah L.length vch) ∧ W.cell? ⟨Kh, 2, none⟩ = some (.slice uah ES.length uch) ∧ Kh < W.heap.size) := fun W h => ⟨(cellSame hoq h 0).trans (hcell 0 _ rfl), (cellSame hoq h 1).trans (hcell 1 _ rfl), (cellSame hoq h 2).trans (hcell 2 _ rfl), ltOf h⟩
  have hRV : OwCR Vh w13.heap.size (.slice vah L.length vch) (.slice uah ES.length uch) L ES := by
    refine ⟨?_, ?_⟩
    · have h8 := ownsRow_keep (V' := Vh) hrq.1 fun q hq => by
        have h9 := World.ownsRow.lt hrq.1 q hq
        exact hoth q (fun e => hF (by subst e; exact Or.inr ⟨h9.1, h9.2⟩)) h9.2
      refine ⟨h8.1, ?_⟩
      rcases h8.2 with h9 | ⟨g, cap, cur, h10, h11, h12⟩
      · exact Or.inl h9
      · exact Or.inr ⟨g, cap, cur, h10, Nat.le_trans hB2.size h11, h12⟩
    · have h8 := ownsRow_keep (V' := Vh) hrq.2 fun q hq => by
        have h9 := World.ownsRow.lt hrq.2 q hq
        exact hoth q (fun e => hF (by subst e; exact Or.inr ⟨h9.1, h9.2⟩)) h9.2
      refine ⟨h8.1, ?_⟩
      rcases h8.2 with h9 | ⟨g, cap, cur, h10, h11, h12⟩
      · exact Or.inl h9
      · exact Or.inr ⟨g, cap, cur, h10, Nat.le_trans hB2.size h11, h12⟩
  have Z18 : Hid (LS w [(w.heap.size, w.heap.size + 1, fun V : World => V.heap[w.heap.size]? = some BX2), (w2.heap.size, Va.heap.size, fun V : World => V.heap[Ka]? = some oqa ∧ OwCR V w2.heap.size (.slice vaa L.length vca) (.slice uaa ES.length uca) L ES), (Va.heap.size, w3.heap.size, fun V : World => True), (w3.heap.size, Kx2, fun V : World => True), (Kx2, Kx2 + 1, fun V : World => V.heap[Kx2]? = some (Obj.cells #[.slice (some ⟨x2, 0, none⟩) s2.length s2.length, .int .i64 L2] 33)), (Vx2.heap.size, Kg, fun V : World => MkCR V Vx2.heap.size (.slice vag L.length vcg) (.slice uag ES.length ucg) L.length ES.length 1), (Kg, Kg + 1, fun V : World => V.heap[Kg]? = some (Obj.cells #[.int .i64 C, .slice vag L.length vcg, .slice uag ES.length ucg] 30)), (w6.heap.size, w7.heap.size, fun V : World => V.ownsRow w6.heap.size 57 2 (.slice (some ⟨e0, 0, none⟩) s0.length s0.length) s0.length (s0.flatMap lnC)), (w13.heap.size, Vh.heap.size, fun V : World => V.heap[Kh]? = some oqh ∧ OwCR V w13.heap.size (.slice vah L.length vch) (.slice uah ES.length uch) L ES)] Vh) := Z17.out.push hK.2 (Ow.and (Ow.wide (Ow.block hoq) hk1 hk2 (Nat.le_refl _)) (Ow.and (Ow.row hRV.1 hK.2.size (Nat.le_refl _) fun g hg => (World.ownsRow.lt hRV.1 g hg).2) (Ow.row hRV.2 hK.2.size (Nat.le_refl _) fun g hg => (World.ownsRow.lt hRV.2 g hg).2))) (Nat.le_refl _)
  clear Z17 HWB hK hk1 hk2 hF hoth hsz hcell hoq hbq hS hW0 hB0 hC0 ho0 hb0 hW1 hB1 hC1 ho1 hb1 hW2 hB2 hrq hRV cp2_0 cp2_1 lp2
  obtain ⟨cvh_0, cvh_1, cvh_2, lvh⟩ := TCh.out Vh (Z18.out.get 8 rfl).1
  obtain ⟨cva_0, cva_1, cva_2, lva⟩ := TCa.out Vh (Z18.out.get 1 rfl).1
  go_wp2_with (fail)
  clear cvh_0 cvh_1 cvh_2 lvh cva_0 cva_1 cva_2 lva
  refine (eqCorrectResult_same C (by have := HLN.out; omega) (OwCR.rd (B := w13.heap.size) (show OwCR Vh w13.heap.size (.slice vah L.length vch) (.slice uah ES.length uch) L ES from (Z18.out.get 8 rfl).2)) (OwCR.rd (B := w2.heap.size) (show OwCR Vh w2.heap.size (.slice vaa L.length vca) (.slice uaa ES.length uca) L ES from (Z18.out.get 1 rfl).2))).mono ?_
  rintro e w14 ⟨rfl, hb⟩
  have Z19 : Hid (LS w [(w.heap.size, w.heap.size + 1, fun V : World => V.heap[w.heap.size]? = some BX2), (w2.heap.size, Va.heap.size, fun V : World => V.heap[Ka]? = some oqa ∧ OwCR V w2.heap.size (.slice vaa L.length vca) (.slice uaa ES.length uca) L ES), (Va.heap.size, w3.heap.size, fun V : World => True), (w3.heap.size, Kx2, fun V : World => True), (Kx2, Kx2 + 1, fun V : World => V.heap[Kx2]? = some (Obj.cells #[.slice (some ⟨x2, 0, none⟩) s2.length s2.length, .int .i64 L2] 33)), (Vx2.heap.size, Kg, fun V : World => MkCR V Vx2.heap.size (.slice vag L.length vcg) (.slice uag ES.length ucg) L.length ES.length 1), (Kg, Kg + 1, fun V : World => V.heap[Kg]? = some (Obj.cells #[.int .i64 C, .slice vag L.length vcg, .slice uag ES.length ucg] 30)), (w6.heap.size, w7.heap.size, fun V : World => V.ownsRow w6.heap.size 57 2 (.slice (some ⟨e0, 0, none⟩) s0.length s0.length) s0.length (s0.flatMap lnC)), (w13.heap.size, Vh.heap.size, fun V : World => V.heap[Kh]? = some oqh ∧ OwCR V w13.heap.size (.slice vah L.length vch) (.slice uah ES.length uch) L ES)] w14) := Z18.out.next hb
  clear Z18 hb
  have kvg := Z19.out.get 6 rfl
  have cvg_0 : w14.cell? ⟨Kg, 0, none⟩ = some (.int .i64 C) := cellOf kvg 0 rfl
  have cvg_1 : w14.cell? ⟨Kg, 1, none⟩ = some (.slice vag L.length vcg) := cellOf kvg 1 rfl
  have cvg_2 : w14.cell? ⟨Kg, 2, none⟩ = some (.slice uag ES.length ucg) := cellOf kvg 2 rfl
  have lvg : Kg < w14.heap.size := ltOf kvg
  clear kvg
  go_wp2_with (fail)
  clear cvg_0 cvg_1 cvg_2 lvg
  refine (heldCorrectResult_to C 1 (by have := HLN.out; omega) (by omega) (by omega) (show MkCR w14 Vx2.heap.size (.slice vag L.length vcg) (.slice uag ES.length ucg) L.length ES.length 1 from Z19.out.get 5 rfl)).mono ?_
  rintro e w15 ⟨rfl, hb⟩
  have Z20 : Hid (LS w [(w.heap.size, w.heap.size + 1, fun V : World => V.heap[w.heap.size]? = some BX2), (w2.heap.size, Va.heap.size, fun V : World => V.heap[Ka]? = some oqa ∧ OwCR V w2.heap.size (.slice vaa L.length vca) (.slice uaa ES.length uca) L ES), (Va.heap.size, w3.heap.size, fun V : World => True), (w3.heap.size, Kx2, fun V : World => True), (Kx2, Kx2 + 1, fun V : World => V.heap[Kx2]? = some (Obj.cells #[.slice (some ⟨x2, 0, none⟩) s2.length s2.length, .int .i64 L2] 33)), (Vx2.heap.size, Kg, fun V : World => MkCR V Vx2.heap.size (.slice vag L.length vcg) (.slice uag ES.length ucg) L.length ES.length 1), (Kg, Kg + 1, fun V : World => V.heap[Kg]? = some (Obj.cells #[.int .i64 C, .slice vag L.length vcg, .slice uag ES.length ucg] 30)), (w6.heap.size, w7.heap.size, fun V : World => V.ownsRow w6.heap.size 57 2 (.slice (some ⟨e0, 0, none⟩) s0.length s0.length) s0.length (s0.flatMap lnC)), (w13.heap.size, Vh.heap.size, fun V : World => V.heap[Kh]? = some oqh ∧ OwCR V w13.heap.size (.slice vah L.length vch) (.slice uah ES.length uch) L ES)] w15) := Z19.out.next hb
  clear Z19 hb
  rw [← HTT.out]
  go_wp2
  go_returns
  exact ⟨rfl, Z20.out.bl⟩

set_option maxRecDepth 100000 in
theorem cl8_lifted (os : Os) (started : os.Started) (H : Type) (enc : TypeId × Value → H) :
    ReturnsInHanded {} Try.checked os 3 .any (Rows.fnExactCorrectLinesSpec.pre6 enc Try.prog Try.f3 Rows.fnExactCorrectLinesRow.domain false) (Rows.fnExactCorrectLinesSpec.post enc Try.prog Try.f3 false true false false) := by
  refine returnsInHanded_of_change (C := Try.checked) own started (by kernel_rfl) Try.func3
    (ChangeSpec.witness6 (enc := enc) (C := Try.checked) false ⟨#[], #[.slice none 0 0, .int .i64 0, .agg #[.slice none 0 0, .int .i64 0], .int .i64 0], []⟩ 8 (by kernel_rfl) (by kernel_rfl) (by kernel_rfl) (by kernel_rfl)) ?_
  intro W base args ds gs before hval0 hW hcnd _
  have hval : ∀ (j : Nat) t v, Try.f3.params[j]? = some t → args[j]? = some v → Value.okWide Try.prog W .any base t v := hval0
  have hW' := hW
  obtain ⟨p, q, hA0, hV, rfl, hfz, hnd⟩ := hW
  have hA : DataW.TrodAll enc Try.prog W 0 (fun _ => true) true Try.f3.params.toList args.toList ds p := hA0
  rw [Try.params3] at hA hval
  obtain ⟨v0, vs0, d0, ds0, p0, q0, hargs, rfl, rfl, h0, r0⟩ := trodAll_cons hA
  obtain ⟨v1, vs1, d1, ds1, p1, q1, rfl, rfl, rfl, h1, r1⟩ := trodAll_cons r0
  obtain ⟨v2, vs2, d2, ds2, p2, q2, rfl, rfl, rfl, h2, r2⟩ := trodAll_cons r1
  obtain ⟨v3, vs3, d3, ds3, p3, q3, rfl, rfl, rfl, h3, r3⟩ := trodAll_cons r2
  obtain ⟨rfl, rfl, rfl⟩ := trodAll_nil r3
  obtain rfl : args = #[v0, v1, v2, v3] := by cases args; simp_all
  obtain ⟨rfl, rfl⟩ := trodVars_none hV
  have k0 := h0
  have lt0 : ∀ x ∈ p0, x.block < W.heap.size := by obtain ⟨m, hm⟩ := k0; exact DataW.trod_lt m _ _ _ hm
  obtain ⟨sa0, sn0, sc0, s0, rfl, rb0, sl0⟩ := lines_open (hval 0 22 v0 rfl rfl) h0
  obtain ⟨n1, rfl, rfl, rfl, wn1⟩ := open_int Try.underlying2 (hval 1 2 v1 rfl rfl) h1
  have k2 := h2
  have lt2 : ∀ x ∈ p2, x.block < W.heap.size := by obtain ⟨m, hm⟩ := k2; exact DataW.trod_lt m _ _ _ hm
  obtain ⟨L2, sa2, sn2, sc2, s2, rfl, ri2, sl2⟩ := kernel_open (hval 2 25 v2 rfl rfl) h2
  obtain ⟨n3, rfl, rfl, rfl, wn3⟩ := open_int Try.underlying2 (hval 3 2 v3 rfl rfl) h3
  clear hA0 hval0
  refine (law_cl8 s0 sl0 rb0 n1 L2 s2 sl2 ri2 n3).mono fun e W' ⟨he, hg⟩ => ?_
  subst he
  exact ⟨_, rfl, _, _, _, [], _, [], hW', trodAll_mk1 (shut_bool Try.underlying4 _), (trodAll_cons_mk (Below.trod laidOut (by kernel_rfl) (of_decide_eq_true (by kernel_rfl)) k0 hg lt0) (trodAll_cons_mk (shut_int Try.underlying2 wn1) (trodAll_cons_mk (Below.trod laidOut (by kernel_rfl) (of_decide_eq_true (by kernel_rfl)) k2 hg lt2) (trodAll_cons_mk (shut_int Try.underlying2 wn3) trodAll_mk0)))), rfl, hg.frame _, fun h => by cases h⟩

theorem cl8_over : Rows.fnExactCorrectLinesRow.holds Try.pinned (OpenSpec.ofChange Rows.fnExactCorrectLinesSpec) :=
  OpenClaim.holds_of_wide 3 Try.f3 rfl rfl rfl rfl rfl rfl rfl ⟨rfl, rfl, rfl, rfl, rfl⟩ rfl rfl rfl rfl rfl (by kernel_rfl) Try.func3 (by kernel_rfl)
    (of_decide_eq_true (by kernel_rfl)) (by unfold Func.isWrapper; first | (rw [if_pos (by decide +kernel)]; kernel_rfl) | (rw [if_neg (by decide +kernel)]; exact ⟨rfl, rfl⟩))
    (fun os started H enc _ => cl8_lifted os started H enc)

theorem cl8_proved : Rows.FnExactCorrectLinesSaid :=
  cl8_over
#print axioms cl8_proved

end Go.Proofs.Ytfjcebgknpccbab
