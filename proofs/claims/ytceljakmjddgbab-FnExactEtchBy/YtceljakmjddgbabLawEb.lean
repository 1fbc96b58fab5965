/- Proved here: 'the program's EtchBy answers as the model's; it writes into no argument and keeps nothing of one; its answer owns its memory, behind another call too', without a condition. -/
import Derived.Test.YtceljakmjddgbabEbK
import Derived.Test.YtceljakmjddgbabEbT
import Derived.Test.YtceljakmjddgbabBlL
import Derived.Test.YtceljakmjddgbabFsT
import Derived.Test.YtceljakmjddgbabFiO
import Derived.Test.YtceljakmjddgbabFsH
import Derived.Test.YtceljakmjddgbabFsG
import Derived.Test.YtceljakmjddgbabLwS
import Derived.Test.YtceljakmjddgbabRows
namespace Go.Proofs.Ytceljakmjddgbab
open Go.ChangeShapes Go.WideShapes Go.ChangeAt Go.RowKit Go.Joins
set_option linter.unusedVariables false
set_option linter.unusedSimpArgs false

theorem own : ownKnob Try.prog.godebug = none := by kernel_rfl
theorem laidOut : laidOutB Try.prog = true := by kernel_rfl

set_option maxRecDepth 10000 in
set_option maxHeartbeats 25600000 in
theorem law_eb12 {w : World} {sa0 : Option Addr} {sn0 sc0 : Nat} (s0 : List (List Flm)) (hm0 : sn0 ≤ maxLen ∧ ∀ j, (s0.getD j []).length ≤ maxLen) (hr0 : RsF w (.slice sa0 sn0 sc0) s0) {sa1 : Option Addr} {sn1 sc1 : Nat} (s1 : List Int) (hm1 : s1.length ≤ maxLen) (hr1 : RdI w (.slice sa1 sn1 sc1) s1) (n2 : Int) {sa3 : Option Addr} {sn3 sc3 : Nat} (s3 : List Bool) (hm3 : s3.length ≤ maxLen) (hr3 : RG 1 boC w (.slice sa3 sn3 sc3) s3) :
    Calls Try.prog 3 #[.agg #[.slice sa0 sn0 sc0], .slice sa1 sn1 sc1, .int .i64 n2, .slice sa3 sn3 sc3] w fun e w' => e = .returned (.bool true) ∧ Below w.heap.size w w' := by
  have HM0 : Hid (sn0 ≤ maxLen ∧ ∀ j, (s0.getD j []).length ≤ maxLen) := hm0
  have HR0 : Hid (RsF w (.slice sa0 sn0 sc0) s0) := hr0
  have HE0 : Hid (sn0 = s0.length) := hr0.len
  have HM1 : Hid (sn1 ≤ maxLen) := by unfold Hid; rw [hr1.len]; exact hm1
  have HR1 : Hid (RdI w (.slice sa1 sn1 sc1) s1) := hr1
  have HE1 : Hid (sn1 = s1.length) := hr1.len
  have HM3 : Hid (sn3 ≤ maxLen) := by unfold Hid; rw [hr3.len]; exact hm3
  have HR3 : Hid (RG 1 boC w (.slice sa3 sn3 sc3) s3) := hr3
  have HE3 : Hid (sn3 = s3.length) := hr3.len
  clear hm0 hr0 hm1 hr1 hm3 hr3
  obtain ⟨BX0, hBX0⟩ : ∃ BX, BX = Obj.cells #[.slice sa0 sn0 sc0] 24 := ⟨_, rfl⟩
  have Z0 : Hid (LS w [(w.heap.size, w.heap.size + 1, fun V : World => V.heap[w.heap.size]? = some BX0)] (w.alloc (Obj.cells #[.slice sa0 sn0 sc0] 24))) := by
    have p0 := LS.start w
    have p1 := LS.push (V' := (w.alloc (Obj.cells #[.slice sa0 sn0 sc0] 24))) p0 (by (repeat' (first | (with_reducible exact Below.refl _ _) | (with_reducible assumption) | (with_reducible refine Below.setCell ?_ ?_ _) | (with_reducible refine Below.alloc ?_ ?_ _) | (with_reducible refine below_drewN ?_ _) | (with_reducible refine Below.drew ?_) | (with_reducible exact Nat.le_refl _) | omega | (simp; done) | (simp; omega)))) (Ow.block (k := w.heap.size) (o := BX0) (by rw [hBX0]; have := heap_alloc_new w (Obj.cells #[.slice sa0 sn0 sc0] 24); simpa using this)) (by simp)
    exact p1
  have TB0 : Hid (BX0 = Obj.cells #[.slice sa0 sn0 sc0] 24) := hBX0
  clear hBX0
  go_enter Try.func3, Try.ntmps3
  by_cases hf1 : (1048576 : Int) < (sn1 : Int)
  · go_wp2
    go_returns
    exact ⟨rfl, by (repeat' (first | (with_reducible exact Below.refl _ _) | (with_reducible assumption) | (with_reducible refine Below.setCell ?_ ?_ _) | (with_reducible refine Below.alloc ?_ ?_ _) | (with_reducible refine below_drewN ?_ _) | (with_reducible refine Below.drew ?_) | (with_reducible exact Nat.le_refl _) | omega | (simp; done) | (simp; omega)))⟩
  have HL1 : Hid (s1.length ≤ 1048576) := by unfold Hid; rw [← HE1.out]; omega
  by_cases hf3 : (1048576 : Int) < (sn3 : Int)
  · go_wp2
    go_returns
    exact ⟨rfl, by (repeat' (first | (with_reducible exact Below.refl _ _) | (with_reducible assumption) | (with_reducible refine Below.setCell ?_ ?_ _) | (with_reducible refine Below.alloc ?_ ?_ _) | (with_reducible refine below_drewN ?_ _) | (with_reducible refine Below.drew ?_) | (with_reducible exact Nat.le_refl _) | omega | (simp; done) | (simp; omega)))⟩
  have HL3 : Hid (s3.length ≤ 1048576) := by unfold Hid; rw [← HE3.out]; omega
  go_wp2_with (fail)
  obtain ⟨W0, hW0⟩ : ∃ V, V = (w.alloc (Obj.cells #[.slice sa0 sn0 sc0] 24)) := ⟨_, rfl⟩
  rw [← hW0] at Z0 ⊢
  clear hW0
  refine (szSection_gen s0 sa0 sn0 sc0 1048576 _ (by omega) (by omega) HM0.out.1 (HR0.out.below Z0.out.bl) HM0.out.2).mono ?_
  rintro e w1 ⟨r0, rfl, hq0, hb⟩
  have Z1 : Hid (LS w [(w.heap.size, w.heap.size + 1, fun V : World => V.heap[w.heap.size]? = some BX0)] w1) := Z0.out.next hb
  clear Z0 hb
  rcases hq0 with hneg | ⟨u0, v0, tt0⟩
  · go_wp2
    go_returns
    exact ⟨rfl, Z1.out.bl⟩
  have hl0 : ¬ r0 < 0 := by omega
  have HL0 : Hid (SmF s0) := tt0
  obtain ⟨C, hC⟩ : ∃ X, X = ebC s0 s1 n2 s3 := ⟨_, rfl⟩
  obtain ⟨L, hL⟩ : ∃ X, X = etL (ebC s0 s1 n2 s3) (ebY s0 s1 n2 s3) s0.length := ⟨_, rfl⟩
  obtain ⟨ES, hES⟩ : ∃ X, X = etG (ebC s0 s1 n2 s3) (ebY s0 s1 n2 s3) s0.length := ⟨_, rfl⟩
  have HLN : Hid (SmF L ∧ ES.length ≤ 1048576) := by unfold Hid; rw [hL, hES]; exact (et_sm fun h => ⟨(ebC_ok h).1, eb_ly (ebC_ok h).1 (fun f => (erF_ok (ebC_ok h).2.2.2.1 f).1) (ebC_ok h).2.2.2.2.1 _⟩)
  have HSP : Hid (∀ (W : World) (g0 : Nat × List Value) (g1 : Nat) (g3 : Nat), (RsC W (.slice (some ⟨g0.1, 0, none⟩) s0.length s0.length) s0) → (RdI W (.slice (some ⟨g1, 0, none⟩) s1.length s1.length) s1) → (RG 1 boC W (.slice (some ⟨g3, 0, none⟩) s3.length s3.length) s3) → Calls Try.prog 9 #[.agg #[.slice (some ⟨g0.1, 0, none⟩) s0.length s0.length], .slice (some ⟨g1, 0, none⟩) s1.length s1.length, .int .i64 n2, .slice (some ⟨g3, 0, none⟩) s3.length s3.length] W fun e w' => ∃ (vq : Value × Value) (vs : List Value), e = .returned (.agg #[.int .i64 C, vq.1, vq.2]) ∧ RoE w' W.heap.size vq.1 vq.2 L ES vs ∧ Below W.heap.size W w') := fun W g0 g1 g3 h0 h1 h3 => by
    rw [hES, hL, hC]
    exact spec_etchBy n2 HL0.out h0 h1 h3 HL1.out HL3.out
  have HIM : Hid (∀ (W : World) (g0 : Nat × List Value) (g1 : Nat) (g3 : Nat), (RsC W (.slice (some ⟨g0.1, 0, none⟩) s0.length s0.length) s0) → (RdI W (.slice (some ⟨g1, 0, none⟩) s1.length s1.length) s1) → (RG 1 boC W (.slice (some ⟨g3, 0, none⟩) s3.length s3.length) s3) → Calls Try.prog 13 #[.agg #[.slice (some ⟨g0.1, 0, none⟩) s0.length s0.length], .slice (some ⟨g1, 0, none⟩) s1.length s1.length, .int .i64 n2, .slice (some ⟨g3, 0, none⟩) s3.length s3.length] W fun e w' => ∃ (vq : Value × Value) (vs : List Value), e = .returned (.agg #[.int .i64 C, vq.1, vq.2]) ∧ RoE w' W.heap.size vq.1 vq.2 L ES vs ∧ Below W.heap.size W w') := fun W g0 g1 g3 h0 h1 h3 => by
    rw [hES, hL, hC]
    exact impl_etchBy n2 HL0.out h0.rs h1 h3 HL1.out HL3.out
  clear hC hL hES u0 v0 tt0
  have kp0 := Z1.out.get 0 rfl
  rw [TB0.out] at kp0
  have cp0_0 : w1.cell? ⟨w.heap.size, 0, none⟩ = some (.slice sa0 sn0 sc0) := cellOf kp0 0 rfl
  have lp0 : w.heap.size < w1.heap.size := ltOf kp0
  clear kp0
  go_wp2_with (fail)
  clear cp0_0 lp0
  refine (toSection_any HL0.out (HR0.out.below Z1.out.bl)).mono ?_
  rintro e w2 ⟨ga0, rfl, ho, hb⟩
  have Z2 : Hid (LS w [(w.heap.size, w.heap.size + 1, fun V : World => V.heap[w.heap.size]? = some BX0), (w1.heap.size, w2.heap.size, fun V : World => RoF V w1.heap.size (.slice (some ⟨ga0.1, 0, none⟩) s0.length s0.length) s0 ga0.2)] w2) := Z1.out.push hb (Ow.rAllF ho hb) (Nat.le_refl _)
  clear Z1 hb ho
  go_wp2_with (fail)
  refine (toInt64S_any HL1.out (HR1.out.below Z2.out.bl)).mono ?_
  rintro e w3 ⟨ga1, rfl, ho, hb⟩
  have Z3 : Hid (LS w [(w.heap.size, w.heap.size + 1, fun V : World => V.heap[w.heap.size]? = some BX0), (w1.heap.size, w2.heap.size, fun V : World => RoF V w1.heap.size (.slice (some ⟨ga0.1, 0, none⟩) s0.length s0.length) s0 ga0.2), (w2.heap.size, w3.heap.size, fun V : World => V.ownsRow w2.heap.size 2 1 (.slice (some ⟨ga1, 0, none⟩) s1.length s1.length) s1.length (s1.map (Value.int .i64)))] w3) := Z2.out.push hb (Ow.rowAll ho hb) (Nat.le_refl _)
  clear Z2 hb ho
  go_wp2_with (fail)
  refine (toBoolS_any HL3.out (HR3.out.below Z3.out.bl)).mono ?_
  rintro e w4 ⟨ga3, rfl, ho, hb⟩
  have Z4 : Hid (LS w [(w.heap.size, w.heap.size + 1, fun V : World => V.heap[w.heap.size]? = some BX0), (w1.heap.size, w2.heap.size, fun V : World => RoF V w1.heap.size (.slice (some ⟨ga0.1, 0, none⟩) s0.length s0.length) s0 ga0.2), (w2.heap.size, w3.heap.size, fun V : World => V.ownsRow w2.heap.size 2 1 (.slice (some ⟨ga1, 0, none⟩) s1.length s1.length) s1.length (s1.map (Value.int .i64))), (w3.heap.size, w4.heap.size, fun V : World => V.ownsRow w3.heap.size 4 1 (.slice (some ⟨ga3, 0, none⟩) s3.length s3.length) s3.length (s3.flatMap boC))] w4) := Z3.out.push hb (Ow.rowAll ho hb) (Nat.le_refl _)
  clear Z3 hb ho
  go_wp2_with (fail)
  refine (HSP.out w4 ga0 ga1 ga3 (RoF.rdc (show RoF w4 w1.heap.size (.slice (some ⟨ga0.1, 0, none⟩) s0.length s0.length) s0 ga0.2 from Z4.out.get 1 rfl)) (IS.rg (B := w2.heap.size) (show w4.ownsRow w2.heap.size 2 1 (.slice (some ⟨ga1, 0, none⟩) s1.length s1.length) s1.length (s1.map (Value.int .i64)) from Z4.out.get 2 rfl)) (OG.rg (T := 4) (B := w3.heap.size) boC_len (show w4.ownsRow w3.heap.size 4 1 (.slice (some ⟨ga3, 0, none⟩) s3.length s3.length) s3.length (s3.flatMap boC) from Z4.out.get 3 rfl))).mono ?_
  rintro e w5 ⟨vq, vr, rfl, hrq, hb⟩
  obtain ⟨vq1, vq2⟩ := vq
  obtain ⟨vaa, vca, he1⟩ := hrq.form1
  obtain ⟨uaa, uca, he2⟩ := hrq.form2
  simp only at he1 he2 hrq
  subst he1 he2
  obtain ⟨vsa, rfl⟩ : ∃ x, x = vr := ⟨_, rfl⟩
  have Z5 : Hid (LS w [(w.heap.size, w.heap.size + 1, fun V : World => V.heap[w.heap.size]? = some BX0), (w1.heap.size, w2.heap.size, fun V : World => RoF V w1.heap.size (.slice (some ⟨ga0.1, 0, none⟩) s0.length s0.length) s0 ga0.2), (w2.heap.size, w3.heap.size, fun V : World => V.ownsRow w2.heap.size 2 1 (.slice (some ⟨ga1, 0, none⟩) s1.length s1.length) s1.length (s1.map (Value.int .i64))), (w3.heap.size, w4.heap.size, fun V : World => V.ownsRow w3.heap.size 4 1 (.slice (some ⟨ga3, 0, none⟩) s3.length s3.length) s3.length (s3.flatMap boC)), (w4.heap.size, w5.heap.size, fun V : World => RoE V w4.heap.size (.slice vaa L.length vca) (.slice uaa ES.length uca) L ES vsa)] w5) := Z4.out.push hb (Ow.rAllE hrq hb) (Nat.le_refl _)
  clear Z4 hb hrq
  have kp0 := Z5.out.get 0 rfl
  rw [TB0.out] at kp0
  have cp0_0 : w5.cell? ⟨w.heap.size, 0, none⟩ = some (.slice sa0 sn0 sc0) := cellOf kp0 0 rfl
  have lp0 : w.heap.size < w5.heap.size := ltOf kp0
  clear kp0
  have Z6 : Hid (LS w [(w.heap.size, w.heap.size + 1, fun V : World => V.heap[w.heap.size]? = some BX0), (w1.heap.size, w2.heap.size, fun V : World => RoF V w1.heap.size (.slice (some ⟨ga0.1, 0, none⟩) s0.length s0.length) s0 ga0.2), (w2.heap.size, w3.heap.size, fun V : World => V.ownsRow w2.heap.size 2 1 (.slice (some ⟨ga1, 0, none⟩) s1.length s1.length) s1.length (s1.map (Value.int .i64))), (w3.heap.size, w4.heap.size, fun V : World => V.ownsRow w3.heap.size 4 1 (.slice (some ⟨ga3, 0, none⟩) s3.length s3.length) s3.length (s3.flatMap boC)), (w4.heap.size, w5.heap.size, fun V : World => RoE V w4.heap.size (.slice vaa L.length vca) (.slice uaa ES.length uca) L ES vsa), (w5.heap.size, w5.heap.size + 1, fun V : World => V.heap[w5.heap.size]? = some (Obj.cells #[.int .i64 C, .slice vaa L.length vca, .slice uaa ES.length uca] 32))] (w5.alloc (Obj.cells #[.int .i64 C, .slice vaa L.length vca, .slice uaa ES.length uca] 32))) := Z5.out.push (by (repeat' (first | (with_reducible exact Below.refl _ _) | (with_reducible assumption) | (with_reducible refine Below.setCell ?_ ?_ _) | (with_reducible refine Below.alloc ?_ ?_ _) | (with_reducible refine below_drewN ?_ _) | (with_reducible refine Below.drew ?_) | (with_reducible exact Nat.le_refl _) | omega | (simp; done) | (simp; omega)))) (Ow.block (heap_alloc_new _ _)) (Nat.le_refl _)
  clear Z5
  go_wp2_with (fail)
  obtain ⟨Va, hV⟩ : ∃ V, V = w5.alloc (Obj.cells #[.int .i64 C, .slice vaa L.length vca, .slice uaa ES.length uca] 32) := ⟨_, rfl⟩
  rw [← hV] at Z6 ⊢
  obtain ⟨Ka, hK⟩ : ∃ K, K = w5.heap.size := ⟨_, rfl⟩
  rw [← hK] at Z6  ⊢
  clear hV hK
  clear cp0_0 lp0
  refine (toSection_any HL0.out (HR0.out.below Z6.out.bl)).mono ?_
  rintro e w6 ⟨x0, rfl, ho, hb⟩
  have HX0 : Hid (LtF (.slice (some ⟨x0.1, 0, none⟩) s0.length s0.length) x0.2 s0.length w6.heap.size) := ho.lt
  have Z7 : Hid (LS w [(w.heap.size, w.heap.size + 1, fun V : World => V.heap[w.heap.size]? = some BX0), (w1.heap.size, w2.heap.size, fun V : World => RoF V w1.heap.size (.slice (some ⟨ga0.1, 0, none⟩) s0.length s0.length) s0 ga0.2), (w2.heap.size, w3.heap.size, fun V : World => V.ownsRow w2.heap.size 2 1 (.slice (some ⟨ga1, 0, none⟩) s1.length s1.length) s1.length (s1.map (Value.int .i64))), (w3.heap.size, w4.heap.size, fun V : World => V.ownsRow w3.heap.size 4 1 (.slice (some ⟨ga3, 0, none⟩) s3.length s3.length) s3.length (s3.flatMap boC)), (w4.heap.size, Ka, fun V : World => RoE V w4.heap.size (.slice vaa L.length vca) (.slice uaa ES.length uca) L ES vsa), (Ka, Ka + 1, fun V : World => V.heap[Ka]? = some (Obj.cells #[.int .i64 C, .slice vaa L.length vca, .slice uaa ES.length uca] 32)), (Va.heap.size, w6.heap.size, fun V : World => RoF V Va.heap.size (.slice (some ⟨x0.1, 0, none⟩) s0.length s0.length) s0 x0.2)] w6) := Z6.out.push hb (Ow.rAllF ho hb) (Nat.le_refl _)
  clear Z6 hb ho
  have Z8 : Hid (LS w [(w.heap.size, w.heap.size + 1, fun V : World => V.heap[w.heap.size]? = some BX0), (w1.heap.size, w2.heap.size, fun V : World => RoF V w1.heap.size (.slice (some ⟨ga0.1, 0, none⟩) s0.length s0.length) s0 ga0.2), (w2.heap.size, w3.heap.size, fun V : World => V.ownsRow w2.heap.size 2 1 (.slice (some ⟨ga1, 0, none⟩) s1.length s1.length) s1.length (s1.map (Value.int .i64))), (w3.heap.size, w4.heap.size, fun V : World => V.ownsRow w3.heap.size 4 1 (.slice (some ⟨ga3, 0, none⟩) s3.length s3.length) s3.length (s3.flatMap boC)), (w4.heap.size, Ka, fun V : World => RoE V w4.heap.size (.slice vaa L.length vca) (.slice uaa ES.length uca) L ES vsa), (Ka, Ka + 1, fun V : World => V.heap[Ka]? = some (Obj.cells #[.int .i64 C, .slice vaa L.length vca, .slice uaa ES.length uca] 32)), (Va.heap.size, w6.heap.size, fun V : World => RoF V Va.heap.size (.slice (some ⟨x0.1, 0, none⟩) s0.length s0.length) s0 x0.2), (w6.heap.size, w6.heap.size + 1, fun V : World => V.heap[w6.heap.size]? = some (Obj.cells #[.slice (some ⟨x0.1, 0, none⟩) s0.length s0.length] 30))] (w6.alloc (Obj.cells #[.slice (some ⟨x0.1, 0, none⟩) s0.length s0.length] 30))) := Z7.out.push (by (repeat' (first | (with_reducible exact Below.refl _ _) | (with_reducible assumption) | (with_reducible refine Below.setCell ?_ ?_ _) | (with_reducible refine Below.alloc ?_ ?_ _) | (with_reducible refine below_drewN ?_ _) | (with_reducible refine Below.drew ?_) | (with_reducible exact Nat.le_refl _) | omega | (simp; done) | (simp; omega)))) (Ow.block (heap_alloc_new _ _)) (Nat.le_refl _)
  clear Z7
  go_wp2_with (fail)
  obtain ⟨Vx0, hV⟩ : ∃ V, V = w6.alloc (Obj.cells #[.slice (some ⟨x0.1, 0, none⟩) s0.length s0.length] 30) := ⟨_, rfl⟩
  rw [← hV] at Z8 ⊢
  obtain ⟨Kx0, hK⟩ : ∃ K, K = w6.heap.size := ⟨_, rfl⟩
  rw [← hK] at Z8 HX0 ⊢
  clear hV hK
  refine (toInt64S_any HL1.out (HR1.out.below Z8.out.bl)).mono ?_
  rintro e w7 ⟨x1, rfl, ho, hb⟩
  have HX1 : Hid (∀ g, (.slice (some ⟨x1, 0, none⟩) s1.length s1.length : Value).ownBlock = some g → g < w7.heap.size) := fun g hg => (World.ownsRow.lt ho g hg).2
  have Z9 : Hid (LS w [(w.heap.size, w.heap.size + 1, fun V : World => V.heap[w.heap.size]? = some BX0), (w1.heap.size, w2.heap.size, fun V : World => RoF V w1.heap.size (.slice (some ⟨ga0.1, 0, none⟩) s0.length s0.length) s0 ga0.2), (w2.heap.size, w3.heap.size, fun V : World => V.ownsRow w2.heap.size 2 1 (.slice (some ⟨ga1, 0, none⟩) s1.length s1.length) s1.length (s1.map (Value.int .i64))), (w3.heap.size, w4.heap.size, fun V : World => V.ownsRow w3.heap.size 4 1 (.slice (some ⟨ga3, 0, none⟩) s3.length s3.length) s3.length (s3.flatMap boC)), (w4.heap.size, Ka, fun V : World => RoE V w4.heap.size (.slice vaa L.length vca) (.slice uaa ES.length uca) L ES vsa), (Ka, Ka + 1, fun V : World => V.heap[Ka]? = some (Obj.cells #[.int .i64 C, .slice vaa L.length vca, .slice uaa ES.length uca] 32)), (Va.heap.size, Kx0, fun V : World => RoF V Va.heap.size (.slice (some ⟨x0.1, 0, none⟩) s0.length s0.length) s0 x0.2), (Kx0, Kx0 + 1, fun V : World => V.heap[Kx0]? = some (Obj.cells #[.slice (some ⟨x0.1, 0, none⟩) s0.length s0.length] 30)), (Vx0.heap.size, w7.heap.size, fun V : World => V.ownsRow Vx0.heap.size 2 1 (.slice (some ⟨x1, 0, none⟩) s1.length s1.length) s1.length (s1.map (Value.int .i64)))] w7) := Z8.out.push hb (Ow.rowAll ho hb) (Nat.le_refl _)
  clear Z8 hb ho
  go_wp2_with (fail)
  refine (toBoolS_any HL3.out (HR3.out.below Z9.out.bl)).mono ?_
  rintro e w8 ⟨x3, rfl, ho, hb⟩
  have HX3 : Hid (∀ g, (.slice (some ⟨x3, 0, none⟩) s3.length s3.length : Value).ownBlock = some g → g < w8.heap.size) := fun g hg => (World.ownsRow.lt ho g hg).2
  have Z10 : Hid (LS w [(w.heap.size, w.heap.size + 1, fun V : World => V.heap[w.heap.size]? = some BX0), (w1.heap.size, w2.heap.size, fun V : World => RoF V w1.heap.size (.slice (some ⟨ga0.1, 0, none⟩) s0.length s0.length) s0 ga0.2), (w2.heap.size, w3.heap.size, fun V : World => V.ownsRow w2.heap.size 2 1 (.slice (some ⟨ga1, 0, none⟩) s1.length s1.length) s1.length (s1.map (Value.int .i64))), (w3.heap.size, w4.heap.size, fun V : World => V.ownsRow w3.heap.size 4 1 (.slice (some ⟨ga3, 0, none⟩) s3.length s3.length) s3.length (s3.flatMap boC)), (w4.heap.size, Ka, fun V : World => RoE V w4.heap.size (.slice vaa L.length vca) (.slice uaa ES.length uca) L ES vsa), (Ka, Ka + 1, fun V : World => V.heap[Ka]? = some (Obj.cells #[.int .i64 C, .slice vaa L.length vca, .slice uaa ES.length uca] 32)), (Va.heap.size, Kx0, fun V : World => RoF V Va.heap.size (.slice (some ⟨x0.1, 0, none⟩) s0.length s0.length) s0 x0.2), (Kx0, Kx0 + 1, fun V : World => V.heap[Kx0]? = some (Obj.cells #[.slice (some ⟨x0.1, 0, none⟩) s0.length s0.length] 30)), (Vx0.heap.size, w7.heap.size, fun V : World => V.ownsRow Vx0.heap.size 2 1 (.slice (some ⟨x1, 0, none⟩) s1.length s1.length) s1.length (s1.map (Value.int .i64))), (w7.heap.size, w8.heap.size, fun V : World => V.ownsRow w7.heap.size 4 1 (.slice (some ⟨x3, 0, none⟩) s3.length s3.length) s3.length (s3.flatMap boC))] w8) := Z9.out.push hb (Ow.rowAll ho hb) (Nat.le_refl _)
  clear Z9 hb ho
  have kvx0 := Z10.out.get 7 rfl
  have cvx0_0 : w8.cell? ⟨Kx0, 0, none⟩ = some (.slice (some ⟨x0.1, 0, none⟩) s0.length s0.length) := cellOf kvx0 0 rfl
  have lvx0 : Kx0 < w8.heap.size := ltOf kvx0
  clear kvx0
  go_wp2_with (fail)
  clear cvx0_0 lvx0
  refine (HIM.out w8 x0 x1 x3 (RoF.rdc (show RoF w8 Va.heap.size (.slice (some ⟨x0.1, 0, none⟩) s0.length s0.length) s0 x0.2 from Z10.out.get 6 rfl)) (IS.rg (B := Vx0.heap.size) (show w8.ownsRow Vx0.heap.size 2 1 (.slice (some ⟨x1, 0, none⟩) s1.length s1.length) s1.length (s1.map (Value.int .i64)) from Z10.out.get 8 rfl)) (OG.rg (T := 4) (B := w7.heap.size) boC_len (show w8.ownsRow w7.heap.size 4 1 (.slice (some ⟨x3, 0, none⟩) s3.length s3.length) s3.length (s3.flatMap boC) from Z10.out.get 9 rfl))).mono ?_
  rintro e w9 ⟨vq, vr, rfl, hrq, hb⟩
  obtain ⟨vq1, vq2⟩ := vq
  obtain ⟨vag, vcg, he1⟩ := hrq.form1
  obtain ⟨uag, ucg, he2⟩ := hrq.form2
  simp only at he1 he2 hrq
  subst he1 he2
  obtain ⟨vsg, rfl⟩ : ∃ x, x = vr := ⟨_, rfl⟩
  have HXg : Hid (LtE (.slice vag L.length vcg) (.slice uag ES.length ucg) vsg L.length w9.heap.size) := hrq.lt
  have Z11 : Hid (LS w [(w.heap.size, w.heap.size + 1, fun V : World => V.heap[w.heap.size]? = some BX0), (w1.heap.size, w2.heap.size, fun V : World => RoF V w1.heap.size (.slice (some ⟨ga0.1, 0, none⟩) s0.length s0.length) s0 ga0.2), (w2.heap.size, w3.heap.size, fun V : World => V.ownsRow w2.heap.size 2 1 (.slice (some ⟨ga1, 0, none⟩) s1.length s1.length) s1.length (s1.map (Value.int .i64))), (w3.heap.size, w4.heap.size, fun V : World => V.ownsRow w3.heap.size 4 1 (.slice (some ⟨ga3, 0, none⟩) s3.length s3.length) s3.length (s3.flatMap boC)), (w4.heap.size, Ka, fun V : World => RoE V w4.heap.size (.slice vaa L.length vca) (.slice uaa ES.length uca) L ES vsa), (Ka, Ka + 1, fun V : World => V.heap[Ka]? = some (Obj.cells #[.int .i64 C, .slice vaa L.length vca, .slice uaa ES.length uca] 32)), (Va.heap.size, Kx0, fun V : World => RoF V Va.heap.size (.slice (some ⟨x0.1, 0, none⟩) s0.length s0.length) s0 x0.2), (Kx0, Kx0 + 1, fun V : World => V.heap[Kx0]? = some (Obj.cells #[.slice (some ⟨x0.1, 0, none⟩) s0.length s0.length] 30)), (Vx0.heap.size, w7.heap.size, fun V : World => V.ownsRow Vx0.heap.size 2 1 (.slice (some ⟨x1, 0, none⟩) s1.length s1.length) s1.length (s1.map (Value.int .i64))), (w7.heap.size, w8.heap.size, fun V : World => V.ownsRow w7.heap.size 4 1 (.slice (some ⟨x3, 0, none⟩) s3.length s3.length) s3.length (s3.flatMap boC)), (w8.heap.size, w9.heap.size, fun V : World => RoE V w8.heap.size (.slice vag L.length vcg) (.slice uag ES.length ucg) L ES vsg)] w9) := Z10.out.push hb (Ow.rAllE hrq hb) (Nat.le_refl _)
  clear Z10 hb hrq
  have kva := Z11.out.get 5 rfl
  have cva_0 : w9.cell? ⟨Ka, 0, none⟩ = some (.int .i64 C) := cellOf kva 0 rfl
  have cva_1 : w9.cell? ⟨Ka, 1, none⟩ = some (.slice vaa L.length vca) := cellOf kva 1 rfl
  have cva_2 : w9.cell? ⟨Ka, 2, none⟩ = some (.slice uaa ES.length uca) := cellOf kva 2 rfl
  have lva : Ka < w9.heap.size := ltOf kva
  clear kva
  have Z12 : Hid (LS w [(w.heap.size, w.heap.size + 1, fun V : World => V.heap[w.heap.size]? = some BX0), (w1.heap.size, w2.heap.size, fun V : World => RoF V w1.heap.size (.slice (some ⟨ga0.1, 0, none⟩) s0.length s0.length) s0 ga0.2), (w2.heap.size, w3.heap.size, fun V : World => V.ownsRow w2.heap.size 2 1 (.slice (some ⟨ga1, 0, none⟩) s1.length s1.length) s1.length (s1.map (Value.int .i64))), (w3.heap.size, w4.heap.size, fun V : World => V.ownsRow w3.heap.size 4 1 (.slice (some ⟨ga3, 0, none⟩) s3.length s3.length) s3.length (s3.flatMap boC)), (w4.heap.size, Ka, fun V : World => RoE V w4.heap.size (.slice vaa L.length vca) (.slice uaa ES.length uca) L ES vsa), (Ka, Ka + 1, fun V : World => V.heap[Ka]? = some (Obj.cells #[.int .i64 C, .slice vaa L.length vca, .slice uaa ES.length uca] 32)), (Va.heap.size, Kx0, fun V : World => RoF V Va.heap.size (.slice (some ⟨x0.1, 0, none⟩) s0.length s0.length) s0 x0.2), (Kx0, Kx0 + 1, fun V : World => V.heap[Kx0]? = some (Obj.cells #[.slice (some ⟨x0.1, 0, none⟩) s0.length s0.length] 30)), (Vx0.heap.size, w7.heap.size, fun V : World => V.ownsRow Vx0.heap.size 2 1 (.slice (some ⟨x1, 0, none⟩) s1.length s1.length) s1.length (s1.map (Value.int .i64))), (w7.heap.size, w8.heap.size, fun V : World => V.ownsRow w7.heap.size 4 1 (.slice (some ⟨x3, 0, none⟩) s3.length s3.length) s3.length (s3.flatMap boC)), (w8.heap.size, w9.heap.size, fun V : World => RoE V w8.heap.size (.slice vag L.length vcg) (.slice uag ES.length ucg) L ES vsg), (w9.heap.size, w9.heap.size + 1, fun V : World => V.heap[w9.heap.size]? = some (Obj.cells #[.int .i64 C, .slice vag L.length vcg, .slice uag ES.length ucg] 32))] (w9.alloc (Obj.cells #[.int .i64 C, .slice vag L.length vcg, .slice uag ES.length ucg] 32))) := Z11.out.push (by (repeat' (first | (with_reducible exact Below.refl _ _) | (with_reducible assumption) | (with_reducible refine Below.setCell ?_ ?_ _) | (with_reducible refine Below.alloc ?_ ?_ _) | (with_reducible refine below_drewN ?_ _) | (with_reducible refine Below.drew ?_) | (with_reducible exact Nat.le_refl _) | omega | (simp; done) | (simp; omega)))) (Ow.block (heap_alloc_new _ _)) (Nat.le_refl _)
  clear Z11
  go_wp2_with (fail)
  obtain ⟨Vg, hV⟩ : ∃ V, V = w9.alloc (Obj.cells #[.int .i64 C, .slice vag L.length vcg, .slice uag ES.length ucg] 32) := ⟨_, rfl⟩
  rw [← hV] at Z12 ⊢
  obtain ⟨Kg, hK⟩ : ∃ K, K = w9.heap.size := ⟨_, rfl⟩
  rw [← hK] at Z12 HXg ⊢
  clear hV hK
  clear cva_0 cva_1 cva_2 lva
  refine (eqEtchResult_to C HLN.out (RoE.rd (B := w8.heap.size) (show RoE Vg w8.heap.size (.slice vag L.length vcg) (.slice uag ES.length ucg) L ES vsg from (Z12.out.get 10 rfl))) (RoE.rd (B := w4.heap.size) (show RoE Vg w4.heap.size (.slice vaa L.length vca) (.slice uaa ES.length uca) L ES vsa from (Z12.out.get 4 rfl)))).mono ?_
  rintro e w10 ⟨rfl, hb⟩
  have Z13 : Hid (LS w [(w.heap.size, w.heap.size + 1, fun V : World => V.heap[w.heap.size]? = some BX0), (w1.heap.size, w2.heap.size, fun V : World => RoF V w1.heap.size (.slice (some ⟨ga0.1, 0, none⟩) s0.length s0.length) s0 ga0.2), (w2.heap.size, w3.heap.size, fun V : World => V.ownsRow w2.heap.size 2 1 (.slice (some ⟨ga1, 0, none⟩) s1.length s1.length) s1.length (s1.map (Value.int .i64))), (w3.heap.size, w4.heap.size, fun V : World => V.ownsRow w3.heap.size 4 1 (.slice (some ⟨ga3, 0, none⟩) s3.length s3.length) s3.length (s3.flatMap boC)), (w4.heap.size, Ka, fun V : World => RoE V w4.heap.size (.slice vaa L.length vca) (.slice uaa ES.length uca) L ES vsa), (Ka, Ka + 1, fun V : World => V.heap[Ka]? = some (Obj.cells #[.int .i64 C, .slice vaa L.length vca, .slice uaa ES.length uca] 32)), (Va.heap.size, Kx0, fun V : World => RoF V Va.heap.size (.slice (some ⟨x0.1, 0, none⟩) s0.length s0.length) s0 x0.2), (Kx0, Kx0 + 1, fun V : World => V.heap[Kx0]? = some (Obj.cells #[.slice (some ⟨x0.1, 0, none⟩) s0.length s0.length] 30)), (Vx0.heap.size, w7.heap.size, fun V : World => V.ownsRow Vx0.heap.size 2 1 (.slice (some ⟨x1, 0, none⟩) s1.length s1.length) s1.length (s1.map (Value.int .i64))), (w7.heap.size, w8.heap.size, fun V : World => V.ownsRow w7.heap.size 4 1 (.slice (some ⟨x3, 0, none⟩) s3.length s3.length) s3.length (s3.flatMap boC)), (w8.heap.size, Kg, fun V : World => RoE V w8.heap.size (.slice vag L.length vcg) (.slice uag ES.length ucg) L ES vsg), (Kg, Kg + 1, fun V : World => V.heap[Kg]? = some (Obj.cells #[.int .i64 C, .slice vag L.length vcg, .slice uag ES.length ucg] 32))] w10) := Z12.out.next hb
  clear Z12 hb
  have kvx0 := Z13.out.get 7 rfl
  have cvx0_0 : w10.cell? ⟨Kx0, 0, none⟩ = some (.slice (some ⟨x0.1, 0, none⟩) s0.length s0.length) := cellOf kvx0 0 rfl
  have lvx0 : Kx0 < w10.heap.size := ltOf kvx0
  clear kvx0
  have kp0 := Z13.out.get 0 rfl
  rw [TB0.out] at kp0
  have cp0_0 : w10.cell? ⟨w.heap.size, 0, none⟩ = some (.slice sa0 sn0 sc0) := cellOf kp0 0 rfl
  have lp0 : w.heap.size < w10.heap.size := ltOf kp0
  clear kp0
  go_wp2_with (fail)
  refine wp_region_float (by kernel_rfl) (fun hS => ?_)
  refine fl_take (i := 0) (d := 53) (v := .agg #[.slice (some ⟨x0.1, 0, none⟩) s0.length s0.length]) rfl rfl rfl (by kernel_rfl) (by kernel_rfl) (by kernel_rfl) hS ?_ ?_
  · intro w' hk; go_simp
  simp only [Act.put, List.setIfInBounds_toArray, List.set_cons_zero, List.set_cons_succ]
  refine fl_take (i := 1) (d := 54) (v := .agg #[.slice sa0 sn0 sc0]) rfl rfl rfl (by kernel_rfl) (by kernel_rfl) (by kernel_rfl) hS ?_ ?_
  · intro w' hk; go_simp
  simp only [Act.put, List.setIfInBounds_toArray, List.set_cons_zero, List.set_cons_succ]
  refine wpAnyH_all (rs := [2]) (by kernel_rfl) (by simp) ?_
  intro i hi
  obtain rfl : i = 2 := by simpa using hi
  refine op_call (d := 55) rfl rfl rfl (by go_simp) ((toSection_any HL0.out ((HR0.out.below Z13.out.bl).below (Below.refl _ _).drew)).mono ?_)
  rintro e ya0 ⟨gy0, rfl, hk5, hb5⟩
  have hK5 : KS w10 ya0 := hS.call hb5
  refine ⟨_, rfl, hK5, ?_⟩
  simp only [Act.put, List.setIfInBounds_toArray, List.set_cons_zero, List.set_cons_succ]
  refine wpAnyH_all (rs := [3]) (by kernel_rfl) (by simp) ?_
  intro i hi
  obtain rfl : i = 3 := by simpa using hi
  refine op_call (d := 56) rfl rfl rfl (by go_simp) ((eqSection_same HL0.out (RsC.rs (RsC.below (RoF.rdc (show RoF w10 Va.heap.size (.slice (some ⟨x0.1, 0, none⟩) s0.length s0.length) s0 x0.2 from Z13.out.get 6 rfl)) hK5.2)) (RsC.rs (hk5.rdc))).mono ?_)
  rintro e yb0 ⟨rfl, hb6⟩
  have hK6 : KS w10 yb0 := hK5.call hb6
  refine ⟨_, rfl, hK6, ?_⟩
  simp only [Act.put, List.setIfInBounds_toArray, List.set_cons_zero, List.set_cons_succ]
  refine wpAnyH_all (rs := [4]) (by kernel_rfl) (by simp) ?_
  intro i hi
  obtain rfl : i = 4 := by simpa using hi
  refine op_val (d := 57) (v := .bool false) (w' := yb0) rfl rfl rfl (by go_simp; try rfl) ?_
  simp only [Act.put, List.setIfInBounds_toArray, List.set_cons_zero, List.set_cons_succ]
  refine ⟨hK6, wpAnyH_done (by kernel_rfl) (NoPanic.normal ?_) _⟩
  have Z14 : Hid (LS w [(w.heap.size, w.heap.size + 1, fun V : World => V.heap[w.heap.size]? = some BX0), (w1.heap.size, w2.heap.size, fun V : World => RoF V w1.heap.size (.slice (some ⟨ga0.1, 0, none⟩) s0.length s0.length) s0 ga0.2), (w2.heap.size, w3.heap.size, fun V : World => V.ownsRow w2.heap.size 2 1 (.slice (some ⟨ga1, 0, none⟩) s1.length s1.length) s1.length (s1.map (Value.int .i64))), (w3.heap.size, w4.heap.size, fun V : World => V.ownsRow w3.heap.size 4 1 (.slice (some ⟨ga3, 0, none⟩) s3.length s3.length) s3.length (s3.flatMap boC)), (w4.heap.size, Ka, fun V : World => RoE V w4.heap.size (.slice vaa L.length vca) (.slice uaa ES.length uca) L ES vsa), (Ka, Ka + 1, fun V : World => V.heap[Ka]? = some (Obj.cells #[.int .i64 C, .slice vaa L.length vca, .slice uaa ES.length uca] 32)), (Va.heap.size, Kx0, fun V : World => RoF V Va.heap.size (.slice (some ⟨x0.1, 0, none⟩) s0.length s0.length) s0 x0.2), (Kx0, Kx0 + 1, fun V : World => V.heap[Kx0]? = some (Obj.cells #[.slice (some ⟨x0.1, 0, none⟩) s0.length s0.length] 30)), (Vx0.heap.size, w7.heap.size, fun V : World => V.ownsRow Vx0.heap.size 2 1 (.slice (some ⟨x1, 0, none⟩) s1.length s1.length) s1.length (s1.map (Value.int .i64))), (w7.heap.size, w8.heap.size, fun V : World => V.ownsRow w7.heap.size 4 1 (.slice (some ⟨x3, 0, none⟩) s3.length s3.length) s3.length (s3.flatMap boC)), (w8.heap.size, Kg, fun V : World => RoE V w8.heap.size (.slice vag L.length vcg) (.slice uag ES.length ucg) L ES vsg), (Kg, Kg + 1, fun V : World => V.heap[Kg]? = some (Obj.cells #[.int .i64 C, .slice vag L.length vcg, .slice uag ES.length ucg] 32))] yb0) := Z13.out.next hK6.2
  clear Z13 hK6 hK5 hb6 hb5 hk5 hS cvx0_0 lvx0 cp0_0 lp0
  go_wp2_with (fail)
  refine (toInt64S_any HL1.out (HR1.out.below Z14.out.bl)).mono ?_
  rintro e w11 ⟨e1, rfl, ho, hb⟩
  have Z15 : Hid (LS w [(w.heap.size, w.heap.size + 1, fun V : World => V.heap[w.heap.size]? = some BX0), (w1.heap.size, w2.heap.size, fun V : World => RoF V w1.heap.size (.slice (some ⟨ga0.1, 0, none⟩) s0.length s0.length) s0 ga0.2), (w2.heap.size, w3.heap.size, fun V : World => V.ownsRow w2.heap.size 2 1 (.slice (some ⟨ga1, 0, none⟩) s1.length s1.length) s1.length (s1.map (Value.int .i64))), (w3.heap.size, w4.heap.size, fun V : World => V.ownsRow w3.heap.size 4 1 (.slice (some ⟨ga3, 0, none⟩) s3.length s3.length) s3.length (s3.flatMap boC)), (w4.heap.size, Ka, fun V : World => RoE V w4.heap.size (.slice vaa L.length vca) (.slice uaa ES.length uca) L ES vsa), (Ka, Ka + 1, fun V : World => V.heap[Ka]? = some (Obj.cells #[.int .i64 C, .slice vaa L.length vca, .slice uaa ES.length uca] 32)), (Va.heap.size, Kx0, fun V : World => RoF V Va.heap.size (.slice (some ⟨x0.1, 0, none⟩) s0.length s0.length) s0 x0.2), (Kx0, Kx0 + 1, fun V : World => V.heap[Kx0]? = some (Obj.cells #[.slice (some ⟨x0.1, 0, none⟩) s0.length s0.length] 30)), (Vx0.heap.size, w7.heap.size, fun V : World => V.ownsRow Vx0.heap.size 2 1 (.slice (some ⟨x1, 0, none⟩) s1.length s1.length) s1.length (s1.map (Value.int .i64))), (w7.heap.size, w8.heap.size, fun V : World => V.ownsRow w7.heap.size 4 1 (.slice (some ⟨x3, 0, none⟩) s3.length s3.length) s3.length (s3.flatMap boC)), (w8.heap.size, Kg, fun V : World => RoE V w8.heap.size (.slice vag L.length vcg) (.slice uag ES.length ucg) L ES vsg), (Kg, Kg + 1, fun V : World => V.heap[Kg]? = some (Obj.cells #[.int .i64 C, .slice vag L.length vcg, .slice uag ES.length ucg] 32)), (yb0.heap.size, w11.heap.size, fun V : World => V.ownsRow yb0.heap.size 2 1 (.slice (some ⟨e1, 0, none⟩) s1.length s1.length) s1.length (s1.map (Value.int .i64)))] w11) := Z14.out.push hb (Ow.rowAll ho hb) (Nat.le_refl _)
  clear Z14 hb ho
  go_wp2_with (fail)
  refine (eqInt64S_same (by have := HL1.out; omega) (IS.rg (B := Vx0.heap.size) (show w11.ownsRow Vx0.heap.size 2 1 (.slice (some ⟨x1, 0, none⟩) s1.length s1.length) s1.length (s1.map (Value.int .i64)) from Z15.out.get 8 rfl)) (IS.rg (B := yb0.heap.size) (show w11.ownsRow yb0.heap.size 2 1 (.slice (some ⟨e1, 0, none⟩) s1.length s1.length) s1.length (s1.map (Value.int .i64)) from Z15.out.get 12 rfl))).mono ?_
  rintro e w12 ⟨rfl, hb⟩
  have Z16 : Hid (LS w [(w.heap.size, w.heap.size + 1, fun V : World => V.heap[w.heap.size]? = some BX0), (w1.heap.size, w2.heap.size, fun V : World => RoF V w1.heap.size (.slice (some ⟨ga0.1, 0, none⟩) s0.length s0.length) s0 ga0.2), (w2.heap.size, w3.heap.size, fun V : World => V.ownsRow w2.heap.size 2 1 (.slice (some ⟨ga1, 0, none⟩) s1.length s1.length) s1.length (s1.map (Value.int .i64))), (w3.heap.size, w4.heap.size, fun V : World => V.ownsRow w3.heap.size 4 1 (.slice (some ⟨ga3, 0, none⟩) s3.length s3.length) s3.length (s3.flatMap boC)), (w4.heap.size, Ka, fun V : World => RoE V w4.heap.size (.slice vaa L.length vca) (.slice uaa ES.length uca) L ES vsa), (Ka, Ka + 1, fun V : World => V.heap[Ka]? = some (Obj.cells #[.int .i64 C, .slice vaa L.length vca, .slice uaa ES.length uca] 32)), (Va.heap.size, Kx0, fun V : World => RoF V Va.heap.size (.slice (some ⟨x0.1, 0, none⟩) s0.length s0.length) s0 x0.2), (Kx0, Kx0 + 1, fun V : World => V.heap[Kx0]? = some (Obj.cells #[.slice (some ⟨x0.1, 0, none⟩) s0.length s0.length] 30)), (Vx0.heap.size, w7.heap.size, fun V : World => V.ownsRow Vx0.heap.size 2 1 (.slice (some ⟨x1, 0, none⟩) s1.length s1.length) s1.length (s1.map (Value.int .i64))), (w7.heap.size, w8.heap.size, fun V : World => V.ownsRow w7.heap.size 4 1 (.slice (some ⟨x3, 0, none⟩) s3.length s3.length) s3.length (s3.flatMap boC)), (w8.heap.size, Kg, fun V : World => RoE V w8.heap.size (.slice vag L.length vcg) (.slice uag ES.length ucg) L ES vsg), (Kg, Kg + 1, fun V : World => V.heap[Kg]? = some (Obj.cells #[.int .i64 C, .slice vag L.length vcg, .slice uag ES.length ucg] 32)), (yb0.heap.size, w11.heap.size, fun V : World => V.ownsRow yb0.heap.size 2 1 (.slice (some ⟨e1, 0, none⟩) s1.length s1.length) s1.length (s1.map (Value.int .i64)))] w12) := Z15.out.next hb
  clear Z15 hb
  go_wp2_with (fail)
  refine (toBoolS_any HL3.out (HR3.out.below Z16.out.bl)).mono ?_
  rintro e w13 ⟨e3, rfl, ho, hb⟩
  have Z17 : Hid (LS w [(w.heap.size, w.heap.size + 1, fun V : World => V.heap[w.heap.size]? = some BX0), (w1.heap.size, w2.heap.size, fun V : World => RoF V w1.heap.size (.slice (some ⟨ga0.1, 0, none⟩) s0.length s0.length) s0 ga0.2), (w2.heap.size, w3.heap.size, fun V : World => V.ownsRow w2.heap.size 2 1 (.slice (some ⟨ga1, 0, none⟩) s1.length s1.length) s1.length (s1.map (Value.int .i64))), (w3.heap.size, w4.heap.size, fun V : World => V.ownsRow w3.heap.size 4 1 (.slice (some ⟨ga3, 0, none⟩) s3.length s3.length) s3.length (s3.flatMap boC)), (w4.heap.size, Ka, fun V : World => RoE V w4.heap.size (.slice vaa L.length vca) (.slice uaa ES.length uca) L ES vsa), (Ka, Ka + 1, fun V : World => V.heap[Ka]? = some (Obj.cells #[.int .i64 C, .slice vaa L.length vca, .slice uaa ES.length uca] 32)), (Va.heap.size, Kx0, fun V : World => RoF V Va.heap.size (.slice (some ⟨x0.1, 0, none⟩) s0.length s0.length) s0 x0.2), (Kx0, Kx0 + 1, fun V : World => V.heap[Kx0]? = some (Obj.cells #[.slice (some ⟨x0.1, 0, none⟩) s0.length s0.length] 30)), (Vx0.heap.size, w7.heap.size, fun V : World => V.ownsRow Vx0.heap.size 2 1 (.slice (some ⟨x1, 0, none⟩) s1.length s1.length) s1.length (s1.map (Value.int .i64))), (w7.heap.size, w8.heap.size, fun V : World => V.ownsRow w7.heap.size 4 1 (.slice (some ⟨x3, 0, none⟩) s3.length s3.length) s3.length (s3.flatMap boC)), (w8.heap.size, Kg, fun V : World => RoE V w8.heap.size (.slice vag L.length vcg) (.slice uag ES.length ucg) L ES vsg), (Kg, Kg + 1, fun V : World => V.heap[Kg]? = some (Obj.cells #[.int .i64 C, .slice vag L.length vcg, .slice uag ES.length ucg] 32)), (yb0.heap.size, w11.heap.size, fun V : World => V.ownsRow yb0.heap.size 2 1 (.slice (some ⟨e1, 0, none⟩) s1.length s1.length) s1.length (s1.map (Value.int .i64))), (w12.heap.size, w13.heap.size, fun V : World => V.ownsRow w12.heap.size 4 1 (.slice (some ⟨e3, 0, none⟩) s3.length s3.length) s3.length (s3.flatMap boC))] w13) := Z16.out.push hb (Ow.rowAll ho hb) (Nat.le_refl _)
  clear Z16 hb ho
  go_wp2_with (fail)
  refine (eqBoolS_same (by have := HL3.out; omega) (OG.rg (T := 4) (B := w7.heap.size) boC_len (show w13.ownsRow w7.heap.size 4 1 (.slice (some ⟨x3, 0, none⟩) s3.length s3.length) s3.length (s3.flatMap boC) from Z17.out.get 9 rfl)) (OG.rg (T := 4) (B := w12.heap.size) boC_len (show w13.ownsRow w12.heap.size 4 1 (.slice (some ⟨e3, 0, none⟩) s3.length s3.length) s3.length (s3.flatMap boC) from Z17.out.get 13 rfl))).mono ?_
  rintro e w14 ⟨rfl, hb⟩
  have Z18 : Hid (LS w [(w.heap.size, w.heap.size + 1, fun V : World => V.heap[w.heap.size]? = some BX0), (w1.heap.size, w2.heap.size, fun V : World => RoF V w1.heap.size (.slice (some ⟨ga0.1, 0, none⟩) s0.length s0.length) s0 ga0.2), (w2.heap.size, w3.heap.size, fun V : World => V.ownsRow w2.heap.size 2 1 (.slice (some ⟨ga1, 0, none⟩) s1.length s1.length) s1.length (s1.map (Value.int .i64))), (w3.heap.size, w4.heap.size, fun V : World => V.ownsRow w3.heap.size 4 1 (.slice (some ⟨ga3, 0, none⟩) s3.length s3.length) s3.length (s3.flatMap boC)), (w4.heap.size, Ka, fun V : World => RoE V w4.heap.size (.slice vaa L.length vca) (.slice uaa ES.length uca) L ES vsa), (Ka, Ka + 1, fun V : World => V.heap[Ka]? = some (Obj.cells #[.int .i64 C, .slice vaa L.length vca, .slice uaa ES.length uca] 32)), (Va.heap.size, Kx0, fun V : World => RoF V Va.heap.size (.slice (some ⟨x0.1, 0, none⟩) s0.length s0.length) s0 x0.2), (Kx0, Kx0 + 1, fun V : World => V.heap[Kx0]? = some (Obj.cells #[.slice (some ⟨x0.1, 0, none⟩) s0.length s0.length] 30)), (Vx0.heap.size, w7.heap.size, fun V : World => V.ownsRow Vx0.heap.size 2 1 (.slice (some ⟨x1, 0, none⟩) s1.length s1.length) s1.length (s1.map (Value.int .i64))), (w7.heap.size, w8.heap.size, fun V : World => V.ownsRow w7.heap.size 4 1 (.slice (some ⟨x3, 0, none⟩) s3.length s3.length) s3.length (s3.flatMap boC)), (w8.heap.size, Kg, fun V : World => RoE V w8.heap.size (.slice vag L.length vcg) (.slice uag ES.length ucg) L ES vsg), (Kg, Kg + 1, fun V : World => V.heap[Kg]? = some (Obj.cells #[.int .i64 C, .slice vag L.length vcg, .slice uag ES.length ucg] 32)), (yb0.heap.size, w11.heap.size, fun V : World => V.ownsRow yb0.heap.size 2 1 (.slice (some ⟨e1, 0, none⟩) s1.length s1.length) s1.length (s1.map (Value.int .i64))), (w12.heap.size, w13.heap.size, fun V : World => V.ownsRow w12.heap.size 4 1 (.slice (some ⟨e3, 0, none⟩) s3.length s3.length) s3.length (s3.flatMap boC))] w14) := Z17.out.next hb
  clear Z17 hb
  have kvx0 := Z18.out.get 7 rfl
  have cvx0_0 : w14.cell? ⟨Kx0, 0, none⟩ = some (.slice (some ⟨x0.1, 0, none⟩) s0.length s0.length) := cellOf kvx0 0 rfl
  have lvx0 : Kx0 < w14.heap.size := ltOf kvx0
  clear kvx0
  go_wp2_with (fail)
  clear cvx0_0 lvx0
  refine (markSection_to 1 HL0.out (by omega) (by omega) (show RoF w14 Va.heap.size (.slice (some ⟨x0.1, 0, none⟩) s0.length s0.length) s0 x0.2 from Z18.out.get 6 rfl) (HX0.out)).mono ?_
  rintro e w15 ⟨rfl, hm, hc⟩
  have Z19 : Hid (LS w [(w.heap.size, w.heap.size + 1, fun V : World => V.heap[w.heap.size]? = some BX0), (w1.heap.size, w2.heap.size, fun V : World => RoF V w1.heap.size (.slice (some ⟨ga0.1, 0, none⟩) s0.length s0.length) s0 ga0.2), (w2.heap.size, w3.heap.size, fun V : World => V.ownsRow w2.heap.size 2 1 (.slice (some ⟨ga1, 0, none⟩) s1.length s1.length) s1.length (s1.map (Value.int .i64))), (w3.heap.size, w4.heap.size, fun V : World => V.ownsRow w3.heap.size 4 1 (.slice (some ⟨ga3, 0, none⟩) s3.length s3.length) s3.length (s3.flatMap boC)), (w4.heap.size, Ka, fun V : World => RoE V w4.heap.size (.slice vaa L.length vca) (.slice uaa ES.length uca) L ES vsa), (Ka, Ka + 1, fun V : World => V.heap[Ka]? = some (Obj.cells #[.int .i64 C, .slice vaa L.length vca, .slice uaa ES.length uca] 32)), (Va.heap.size, Kx0, fun V : World => True), (Kx0, Kx0 + 1, fun V : World => V.heap[Kx0]? = some (Obj.cells #[.slice (some ⟨x0.1, 0, none⟩) s0.length s0.length] 30)), (Vx0.heap.size, w7.heap.size, fun V : World => V.ownsRow Vx0.heap.size 2 1 (.slice (some ⟨x1, 0, none⟩) s1.length s1.length) s1.length (s1.map (Value.int .i64))), (w7.heap.size, w8.heap.size, fun V : World => V.ownsRow w7.heap.size 4 1 (.slice (some ⟨x3, 0, none⟩) s3.length s3.length) s3.length (s3.flatMap boC)), (w8.heap.size, Kg, fun V : World => RoE V w8.heap.size (.slice vag L.length vcg) (.slice uag ES.length ucg) L ES vsg), (Kg, Kg + 1, fun V : World => V.heap[Kg]? = some (Obj.cells #[.int .i64 C, .slice vag L.length vcg, .slice uag ES.length ucg] 32)), (yb0.heap.size, w11.heap.size, fun V : World => V.ownsRow yb0.heap.size 2 1 (.slice (some ⟨e1, 0, none⟩) s1.length s1.length) s1.length (s1.map (Value.int .i64))), (w12.heap.size, w13.heap.size, fun V : World => V.ownsRow w12.heap.size 4 1 (.slice (some ⟨e3, 0, none⟩) s3.length s3.length) s3.length (s3.flatMap boC))] w15) := Z18.out.put 6 rfl hc ((Z18.out.own 6 rfl).true hc.size)
  clear Z18 hm hc
  obtain ⟨N0, hN⟩ : ∃ N, N = 1 + 2 * (totF s0 s0.length : Int) := ⟨_, rfl⟩
  rw [← hN]
  have hN0 : 0 ≤ N0 ∧ N0 ≤ 10000000 ∧ ¬ N0 < 0 := by have := HL0.out.tot; omega
  have hN0a := hN0.2.2
  clear hN
  go_wp2_with (fail)
  refine (markInt64S_to N0 HL1.out hN0.1 (by omega) (show w15.ownsRow Vx0.heap.size 2 1 (.slice (some ⟨x1, 0, none⟩) s1.length s1.length) s1.length (s1.map (Value.int .i64)) from Z19.out.get 8 rfl) (HX1.out)).mono ?_
  rintro e w16 ⟨rfl, hm, hc⟩
  have Z20 : Hid (LS w [(w.heap.size, w.heap.size + 1, fun V : World => V.heap[w.heap.size]? = some BX0), (w1.heap.size, w2.heap.size, fun V : World => RoF V w1.heap.size (.slice (some ⟨ga0.1, 0, none⟩) s0.length s0.length) s0 ga0.2), (w2.heap.size, w3.heap.size, fun V : World => V.ownsRow w2.heap.size 2 1 (.slice (some ⟨ga1, 0, none⟩) s1.length s1.length) s1.length (s1.map (Value.int .i64))), (w3.heap.size, w4.heap.size, fun V : World => V.ownsRow w3.heap.size 4 1 (.slice (some ⟨ga3, 0, none⟩) s3.length s3.length) s3.length (s3.flatMap boC)), (w4.heap.size, Ka, fun V : World => RoE V w4.heap.size (.slice vaa L.length vca) (.slice uaa ES.length uca) L ES vsa), (Ka, Ka + 1, fun V : World => V.heap[Ka]? = some (Obj.cells #[.int .i64 C, .slice vaa L.length vca, .slice uaa ES.length uca] 32)), (Va.heap.size, Kx0, fun V : World => True), (Kx0, Kx0 + 1, fun V : World => V.heap[Kx0]? = some (Obj.cells #[.slice (some ⟨x0.1, 0, none⟩) s0.length s0.length] 30)), (Vx0.heap.size, w7.heap.size, fun V : World => True), (w7.heap.size, w8.heap.size, fun V : World => V.ownsRow w7.heap.size 4 1 (.slice (some ⟨x3, 0, none⟩) s3.length s3.length) s3.length (s3.flatMap boC)), (w8.heap.size, Kg, fun V : World => RoE V w8.heap.size (.slice vag L.length vcg) (.slice uag ES.length ucg) L ES vsg), (Kg, Kg + 1, fun V : World => V.heap[Kg]? = some (Obj.cells #[.int .i64 C, .slice vag L.length vcg, .slice uag ES.length ucg] 32)), (yb0.heap.size, w11.heap.size, fun V : World => V.ownsRow yb0.heap.size 2 1 (.slice (some ⟨e1, 0, none⟩) s1.length s1.length) s1.length (s1.map (Value.int .i64))), (w12.heap.size, w13.heap.size, fun V : World => V.ownsRow w12.heap.size 4 1 (.slice (some ⟨e3, 0, none⟩) s3.length s3.length) s3.length (s3.flatMap boC))] w16) := Z19.out.put 8 rfl hc ((Z19.out.own 8 rfl).true hc.size)
  clear Z19 hm hc
  obtain ⟨N1, hN⟩ : ∃ N, N = N0 + (s1.length : Int) := ⟨_, rfl⟩
  rw [← hN]
  have hN1 : 0 ≤ N1 ∧ N1 ≤ 20000000 ∧ ¬ N1 < 0 := by have := HL1.out; omega
  have hN1a := hN1.2.2
  clear hN
  go_wp2_with (fail)
  refine (markBoolS_to N1 HL3.out hN1.1 (by omega) (show w16.ownsRow w7.heap.size 4 1 (.slice (some ⟨x3, 0, none⟩) s3.length s3.length) s3.length (s3.flatMap boC) from Z20.out.get 9 rfl) (HX3.out)).mono ?_
  rintro e w17 ⟨rfl, hm, hc⟩
  have Z21 : Hid (LS w [(w.heap.size, w.heap.size + 1, fun V : World => V.heap[w.heap.size]? = some BX0), (w1.heap.size, w2.heap.size, fun V : World => RoF V w1.heap.size (.slice (some ⟨ga0.1, 0, none⟩) s0.length s0.length) s0 ga0.2), (w2.heap.size, w3.heap.size, fun V : World => V.ownsRow w2.heap.size 2 1 (.slice (some ⟨ga1, 0, none⟩) s1.length s1.length) s1.length (s1.map (Value.int .i64))), (w3.heap.size, w4.heap.size, fun V : World => V.ownsRow w3.heap.size 4 1 (.slice (some ⟨ga3, 0, none⟩) s3.length s3.length) s3.length (s3.flatMap boC)), (w4.heap.size, Ka, fun V : World => RoE V w4.heap.size (.slice vaa L.length vca) (.slice uaa ES.length uca) L ES vsa), (Ka, Ka + 1, fun V : World => V.heap[Ka]? = some (Obj.cells #[.int .i64 C, .slice vaa L.length vca, .slice uaa ES.length uca] 32)), (Va.heap.size, Kx0, fun V : World => True), (Kx0, Kx0 + 1, fun V : World => V.heap[Kx0]? = some (Obj.cells #[.slice (some ⟨x0.1, 0, none⟩) s0.length s0.length] 30)), (Vx0.heap.size, w7.heap.size, fun V : World => True), (w7.heap.size, w8.heap.size, fun V : World => True), (w8.heap.size, Kg, fun V : World => RoE V w8.heap.size (.slice vag L.length vcg) (.slice uag ES.length ucg) L ES vsg), (Kg, Kg + 1, fun V : World => V.heap[Kg]? = some (Obj.cells #[.int .i64 C, .slice vag L.length vcg, .slice uag ES.length ucg] 32)), (yb0.heap.size, w11.heap.size, fun V : World => V.ownsRow yb0.heap.size 2 1 (.slice (some ⟨e1, 0, none⟩) s1.length s1.length) s1.length (s1.map (Value.int .i64))), (w12.heap.size, w13.heap.size, fun V : World => V.ownsRow w12.heap.size 4 1 (.slice (some ⟨e3, 0, none⟩) s3.length s3.length) s3.length (s3.flatMap boC))] w17) := Z20.out.put 9 rfl hc ((Z20.out.own 9 rfl).true hc.size)
  clear Z20 hm hc
  obtain ⟨N3, hN⟩ : ∃ N, N = N1 + (s3.length : Int) := ⟨_, rfl⟩
  rw [← hN]
  have hN3 : 0 ≤ N3 ∧ N3 ≤ 30000000 ∧ ¬ N3 < 0 := by have := HL3.out; omega
  have hN3a := hN3.2.2
  clear hN
  have kvg := Z21.out.get 11 rfl
  have cvg_0 : w17.cell? ⟨Kg, 0, none⟩ = some (.int .i64 C) := cellOf kvg 0 rfl
  have cvg_1 : w17.cell? ⟨Kg, 1, none⟩ = some (.slice vag L.length vcg) := cellOf kvg 1 rfl
  have cvg_2 : w17.cell? ⟨Kg, 2, none⟩ = some (.slice uag ES.length ucg) := cellOf kvg 2 rfl
  have lvg : Kg < w17.heap.size := ltOf kvg
  clear kvg
  have kva := Z21.out.get 5 rfl
  have cva_0 : w17.cell? ⟨Ka, 0, none⟩ = some (.int .i64 C) := cellOf kva 0 rfl
  have cva_1 : w17.cell? ⟨Ka, 1, none⟩ = some (.slice vaa L.length vca) := cellOf kva 1 rfl
  have cva_2 : w17.cell? ⟨Ka, 2, none⟩ = some (.slice uaa ES.length uca) := cellOf kva 2 rfl
  have lva : Ka < w17.heap.size := ltOf kva
  clear kva
  go_wp2_with (fail)
  clear cvg_0 cvg_1 cvg_2 lvg cva_0 cva_1 cva_2 lva
  refine (eqEtchResult_to C HLN.out (RoE.rd (B := w8.heap.size) (show RoE w17 w8.heap.size (.slice vag L.length vcg) (.slice uag ES.length ucg) L ES vsg from (Z21.out.get 10 rfl))) (RoE.rd (B := w4.heap.size) (show RoE w17 w4.heap.size (.slice vaa L.length vca) (.slice uaa ES.length uca) L ES vsa from (Z21.out.get 4 rfl)))).mono ?_
  rintro e w18 ⟨rfl, hb⟩
  have Z22 : Hid (LS w [(w.heap.size, w.heap.size + 1, fun V : World => V.heap[w.heap.size]? = some BX0), (w1.heap.size, w2.heap.size, fun V : World => RoF V w1.heap.size (.slice (some ⟨ga0.1, 0, none⟩) s0.length s0.length) s0 ga0.2), (w2.heap.size, w3.heap.size, fun V : World => V.ownsRow w2.heap.size 2 1 (.slice (some ⟨ga1, 0, none⟩) s1.length s1.length) s1.length (s1.map (Value.int .i64))), (w3.heap.size, w4.heap.size, fun V : World => V.ownsRow w3.heap.size 4 1 (.slice (some ⟨ga3, 0, none⟩) s3.length s3.length) s3.length (s3.flatMap boC)), (w4.heap.size, Ka, fun V : World => RoE V w4.heap.size (.slice vaa L.length vca) (.slice uaa ES.length uca) L ES vsa), (Ka, Ka + 1, fun V : World => V.heap[Ka]? = some (Obj.cells #[.int .i64 C, .slice vaa L.length vca, .slice uaa ES.length uca] 32)), (Va.heap.size, Kx0, fun V : World => True), (Kx0, Kx0 + 1, fun V : World => V.heap[Kx0]? = some (Obj.cells #[.slice (some ⟨x0.1, 0, none⟩) s0.length s0.length] 30)), (Vx0.heap.size, w7.heap.size, fun V : World => True), (w7.heap.size, w8.heap.size, fun V : World => True), (w8.heap.size, Kg, fun V : World => RoE V w8.heap.size (.slice vag L.length vcg) (.slice uag ES.length ucg) L ES vsg), (Kg, Kg + 1, fun V : World => V.heap[Kg]? = some (Obj.cells #[.int .i64 C, .slice vag L.length vcg, .slice uag ES.length ucg] 32)), (yb0.heap.size, w11.heap.size, fun V : World => V.ownsRow yb0.heap.size 2 1 (.slice (some ⟨e1, 0, none⟩) s1.length s1.length) s1.length (s1.map (Value.int .i64))), (w12.heap.size, w13.heap.size, fun V : World => V.ownsRow w12.heap.size 4 1 (.slice (some ⟨e3, 0, none⟩) s3.length s3.length) s3.length (s3.flatMap boC))] w18) := Z21.out.next hb
  clear Z21 hb
  have kvg := Z22.out.get 11 rfl
  have cvg_0 : w18.cell? ⟨Kg, 0, none⟩ = some (.int .i64 C) := cellOf kvg 0 rfl
  have cvg_1 : w18.cell? ⟨Kg, 1, none⟩ = some (.slice vag L.length vcg) := cellOf kvg 1 rfl
  have cvg_2 : w18.cell? ⟨Kg, 2, none⟩ = some (.slice uag ES.length ucg) := cellOf kvg 2 rfl
  have lvg : Kg < w18.heap.size := ltOf kvg
  clear kvg
  go_wp2_with (fail)
  clear cvg_0 cvg_1 cvg_2 lvg
  refine (markEtchResult_to C HLN.out (show RoE w18 w8.heap.size (.slice vag L.length vcg) (.slice uag ES.length ucg) L ES vsg from (Z22.out.get 10 rfl)) HXg.out).mono ?_
  rintro e w19 ⟨rfl, hm, hc⟩
  have Z23 : Hid (LS w [(w.heap.size, w.heap.size + 1, fun V : World => V.heap[w.heap.size]? = some BX0), (w1.heap.size, w2.heap.size, fun V : World => RoF V w1.heap.size (.slice (some ⟨ga0.1, 0, none⟩) s0.length s0.length) s0 ga0.2), (w2.heap.size, w3.heap.size, fun V : World => V.ownsRow w2.heap.size 2 1 (.slice (some ⟨ga1, 0, none⟩) s1.length s1.length) s1.length (s1.map (Value.int .i64))), (w3.heap.size, w4.heap.size, fun V : World => V.ownsRow w3.heap.size 4 1 (.slice (some ⟨ga3, 0, none⟩) s3.length s3.length) s3.length (s3.flatMap boC)), (w4.heap.size, Ka, fun V : World => RoE V w4.heap.size (.slice vaa L.length vca) (.slice uaa ES.length uca) L ES vsa), (Ka, Ka + 1, fun V : World => V.heap[Ka]? = some (Obj.cells #[.int .i64 C, .slice vaa L.length vca, .slice uaa ES.length uca] 32)), (Va.heap.size, Kx0, fun V : World => True), (Kx0, Kx0 + 1, fun V : World => V.heap[Kx0]? = some (Obj.cells #[.slice (some ⟨x0.1, 0, none⟩) s0.length s0.length] 30)), (Vx0.heap.size, w7.heap.size, fun V : World => True), (w7.heap.size, w8.heap.size, fun V : World => True), (w8.heap.size, Kg, fun V : World => MkE V w8.heap.size (.slice vag L.length vcg) (.slice uag ES.length ucg) L ES.length vsg), (Kg, Kg + 1, fun V : World => V.heap[Kg]? = some (Obj.cells #[.int .i64 C, .slice vag L.length vcg, .slice uag ES.length ucg] 32)), (yb0.heap.size, w11.heap.size, fun V : World => V.ownsRow yb0.heap.size 2 1 (.slice (some ⟨e1, 0, none⟩) s1.length s1.length) s1.length (s1.map (Value.int .i64))), (w12.heap.size, w13.heap.size, fun V : World => V.ownsRow w12.heap.size 4 1 (.slice (some ⟨e3, 0, none⟩) s3.length s3.length) s3.length (s3.flatMap boC))] w19) := Z22.out.put 10 rfl hc (Ow.mE hm (Z22.out.own 10 rfl).le.1 (Nat.le_trans (Z22.out.own 10 rfl).le.2 hc.size) HXg.out)
  clear Z22 hm hc
  obtain ⟨TT, hTT⟩ : ∃ TT, TT = 1 + 2 * (totF L L.length : Int) + (ES.length : Int) := ⟨_, rfl⟩
  have hT0 : ¬ TT < 0 := by omega
  have HTT : Hid (TT = 1 + 2 * (totF L L.length : Int) + (ES.length : Int)) := hTT
  rw [← hTT]
  clear hTT
  have kvg := Z23.out.get 11 rfl
  have cvg_0 : w19.cell? ⟨Kg, 0, none⟩ = some (.int .i64 C) := cellOf kvg 0 rfl
  have cvg_1 : w19.cell? ⟨Kg, 1, none⟩ = some (.slice vag L.length vcg) := cellOf kvg 1 rfl
  have cvg_2 : w19.cell? ⟨Kg, 2, none⟩ = some (.slice uag ES.length ucg) := cellOf kvg 2 rfl
  have lvg : Kg < w19.heap.size := ltOf kvg
  clear kvg
  go_wp2_with (fail)
  clear cvg_0 cvg_1 cvg_2 lvg
  refine (heldEtchResult_to C HLN.out (show MkE w19 w8.heap.size (.slice vag L.length vcg) (.slice uag ES.length ucg) L ES.length vsg from Z23.out.get 10 rfl)).mono ?_
  rintro e w20 ⟨rfl, hb⟩
  have Z24 : Hid (LS w [(w.heap.size, w.heap.size + 1, fun V : World => V.heap[w.heap.size]? = some BX0), (w1.heap.size, w2.heap.size, fun V : World => RoF V w1.heap.size (.slice (some ⟨ga0.1, 0, none⟩) s0.length s0.length) s0 ga0.2), (w2.heap.size, w3.heap.size, fun V : World => V.ownsRow w2.heap.size 2 1 (.slice (some ⟨ga1, 0, none⟩) s1.length s1.length) s1.length (s1.map (Value.int .i64))), (w3.heap.size, w4.heap.size, fun V : World => V.ownsRow w3.heap.size 4 1 (.slice (some ⟨ga3, 0, none⟩) s3.length s3.length) s3.length (s3.flatMap boC)), (w4.heap.size, Ka, fun V : World => RoE V w4.heap.size (.slice vaa L.length vca) (.slice uaa ES.length uca) L ES vsa), (Ka, Ka + 1, fun V : World => V.heap[Ka]? = some (Obj.cells #[.int .i64 C, .slice vaa L.length vca, .slice uaa ES.length uca] 32)), (Va.heap.size, Kx0, fun V : World => True), (Kx0, Kx0 + 1, fun V : World => V.heap[Kx0]? = some (Obj.cells #[.slice (some ⟨x0.1, 0, none⟩) s0.length s0.length] 30)), (Vx0.heap.size, w7.heap.size, fun V : World => True), (w7.heap.size, w8.heap.size, fun V : World => True), (w8.heap.size, Kg, fun V : World => MkE V w8.heap.size (.slice vag L.length vcg) (.slice uag ES.length ucg) L ES.length vsg), (Kg, Kg + 1, fun V : World => V.heap[Kg]? = some (Obj.cells #[.int .i64 C, .slice vag L.length vcg, .slice uag ES.length ucg] 32)), (yb0.heap.size, w11.heap.size, fun V : World => V.ownsRow yb0.heap.size 2 1 (.slice (some ⟨e1, 0, none⟩) s1.length s1.length) s1.length (s1.map (Value.int .i64))), (w12.heap.size, w13.heap.size, fun V : World => V.ownsRow w12.heap.size 4 1 (.slice (some ⟨e3, 0, none⟩) s3.length s3.length) s3.length (s3.flatMap boC))] w20) := Z23.out.next hb
  clear Z23 hb
  rw [← HTT.out]
  have kp0 := Z24.out.get 0 rfl
  rw [TB0.out] at kp0
  have cp0_0 : w20.cell? ⟨w.heap.size, 0, none⟩ = some (.slice sa0 sn0 sc0) := cellOf kp0 0 rfl
  have lp0 : w.heap.size < w20.heap.size := ltOf kp0
  clear kp0
  go_wp2_with (fail)
  clear cp0_0 lp0
  refine (toSection_any HL0.out (HR0.out.below Z24.out.bl)).mono ?_
  rintro e w21 ⟨gh0, rfl, ho, hb⟩
  have Z25 : Hid (LS w [(w.heap.size, w.heap.size + 1, fun V : World => V.heap[w.heap.size]? = some BX0), (w1.heap.size, w2.heap.size, fun V : World => RoF V w1.heap.size (.slice (some ⟨ga0.1, 0, none⟩) s0.length s0.length) s0 ga0.2), (w2.heap.size, w3.heap.size, fun V : World => V.ownsRow w2.heap.size 2 1 (.slice (some ⟨ga1, 0, none⟩) s1.length s1.length) s1.length (s1.map (Value.int .i64))), (w3.heap.size, w4.heap.size, fun V : World => V.ownsRow w3.heap.size 4 1 (.slice (some ⟨ga3, 0, none⟩) s3.length s3.length) s3.length (s3.flatMap boC)), (w4.heap.size, Ka, fun V : World => RoE V w4.heap.size (.slice vaa L.length vca) (.slice uaa ES.length uca) L ES vsa), (Ka, Ka + 1, fun V : World => V.heap[Ka]? = some (Obj.cells #[.int .i64 C, .slice vaa L.length vca, .slice uaa ES.length uca] 32)), (Va.heap.size, Kx0, fun V : World => True), (Kx0, Kx0 + 1, fun V : World => V.heap[Kx0]? = some (Obj.cells #[.slice (some ⟨x0.1, 0, none⟩) s0.length s0.length] 30)), (Vx0.heap.size, w7.heap.size, fun V : World => True), (w7.heap.size, w8.heap.size, fun V : World => True), (w8.heap.size, Kg, fun V : World => MkE V w8.heap.size (.slice vag L.length vcg) (.slice uag ES.length ucg) L ES.length vsg), (Kg, Kg + 1, fun V : World => V.heap[Kg]? = some (Obj.cells #[.int .i64 C, .slice vag L.length vcg, .slice uag ES.length ucg] 32)), (yb0.heap.size, w11.heap.size, fun V : World => V.ownsRow yb0.heap.size 2 1 (.slice (some ⟨e1, 0, none⟩) s1.length s1.length) s1.length (s1.map (Value.int .i64))), (w12.heap.size, w13.heap.size, fun V : World => V.ownsRow w12.heap.size 4 1 (.slice (some ⟨e3, 0, none⟩) s3.length s3.length) s3.length (s3.flatMap boC)), (w20.heap.size, w21.heap.size, fun V : World => RoF V w20.heap.size (.slice (some ⟨gh0.1, 0, none⟩) s0.length s0.length) s0 gh0.2)] w21) := Z24.out.push hb (Ow.rAllF ho hb) (Nat.le_refl _)
  clear Z24 hb ho
  go_wp2_with (fail)
  refine (toInt64S_any HL1.out (HR1.out.below Z25.out.bl)).mono ?_
  rintro e w22 ⟨gh1, rfl, ho, hb⟩
  have Z26 : Hid (LS w [(w.heap.size, w.heap.size + 1, fun V : World => V.heap[w.heap.size]? = some BX0), (w1.heap.size, w2.heap.size, fun V : World => RoF V w1.heap.size (.slice (some ⟨ga0.1, 0, none⟩) s0.length s0.length) s0 ga0.2), (w2.heap.size, w3.heap.size, fun V : World => V.ownsRow w2.heap.size 2 1 (.slice (some ⟨ga1, 0, none⟩) s1.length s1.length) s1.length (s1.map (Value.int .i64))), (w3.heap.size, w4.heap.size, fun V : World => V.ownsRow w3.heap.size 4 1 (.slice (some ⟨ga3, 0, none⟩) s3.length s3.length) s3.length (s3.flatMap boC)), (w4.heap.size, Ka, fun V : World => RoE V w4.heap.size (.slice vaa L.length vca) (.slice uaa ES.length uca) L ES vsa), (Ka, Ka + 1, fun V : World => V.heap[Ka]? = some (Obj.cells #[.int .i64 C, .slice vaa L.length vca, .slice uaa ES.length uca] 32)), (Va.heap.size, Kx0, fun V : World => True), (Kx0, Kx0 + 1, fun V : World => V.heap[Kx0]? = some (Obj.cells #[.slice (some ⟨x0.1, 0, none⟩) s0.length s0.length] 30)), (Vx0.heap.size, w7.heap.size, fun V : World => True), (w7.heap.size, w8.heap.size, fun V : World => True), (w8.heap.size, Kg, fun V : World => MkE V w8.heap.size (.slice vag L.length vcg) (.slice uag ES.length ucg) L ES.length vsg), (Kg, Kg + 1, fun V : World => V.heap[Kg]? = some (Obj.cells #[.int .i64 C, .slice vag L.length vcg, .slice uag ES.length ucg] 32)), (yb0.heap.size, w11.heap.size, fun V : World => V.ownsRow yb0.heap.size 2 1 (.slice (some ⟨e1, 0, none⟩) s1.length s1.length) s1.length (s1.map (Value.int .i64))), (w12.heap.size, w13.heap.size, fun V : World => V.ownsRow w12.heap.size 4 1 (.slice (some ⟨e3, 0, none⟩) s3.length s3.length) s3.length (s3.flatMap boC)), (w20.heap.size, w21.heap.size, fun V : World => RoF V w20.heap.size (.slice (some ⟨gh0.1, 0, none⟩) s0.length s0.length) s0 gh0.2), (w21.heap.size, w22.heap.size, fun V : World => V.ownsRow w21.heap.size 2 1 (.slice (some ⟨gh1, 0, none⟩) s1.length s1.length) s1.length (s1.map (Value.int .i64)))] w22) := Z25.out.push hb (Ow.rowAll ho hb) (Nat.le_refl _)
  clear Z25 hb ho
  go_wp2_with (fail)
  refine (toBoolS_any HL3.out (HR3.out.below Z26.out.bl)).mono ?_
  rintro e w23 ⟨gh3, rfl, ho, hb⟩
  have Z27 : Hid (LS w [(w.heap.size, w.heap.size + 1, fun V : World => V.heap[w.heap.size]? = some BX0), (w1.heap.size, w2.heap.size, fun V : World => RoF V w1.heap.size (.slice (some ⟨ga0.1, 0, none⟩) s0.length s0.length) s0 ga0.2), (w2.heap.size, w3.heap.size, fun V : World => V.ownsRow w2.heap.size 2 1 (.slice (some ⟨ga1, 0, none⟩) s1.length s1.length) s1.length (s1.map (Value.int .i64))), (w3.heap.size, w4.heap.size, fun V : World => V.ownsRow w3.heap.size 4 1 (.slice (some ⟨ga3, 0, none⟩) s3.length s3.length) s3.length (s3.flatMap boC)), (w4.heap.size, Ka, fun V : World => RoE V w4.heap.size (.slice vaa L.length vca) (.slice uaa ES.length uca) L ES vsa), (Ka, Ka + 1, fun V : World => V.heap[Ka]? = some (Obj.cells #[.int .i64 C, .slice vaa L.length vca, .slice uaa ES.length uca] 32)), (Va.heap.size, Kx0, fun V : World => True), (Kx0, Kx0 + 1, fun V : World => V.heap[Kx0]? = some (Obj.cells #[.slice (some ⟨x0.1, 0, none⟩) s0.length s0.length] 30)), (Vx0.heap.size, w7.heap.size, fun V : World => True), (w7.heap.size, w8.heap.size, fun V : World => True), (w8.heap.size, Kg, fun V : World => MkE V w8.heap.size (.slice vag L.length vcg) (.slice uag ES.length ucg) L ES.length vsg), (Kg, Kg + 1, fun V : World => V.heap[Kg]? = some (Obj.cells #[.int .i64 C, .slice vag L.length vcg, .slice uag ES.length ucg] 32)), (yb0.heap.size, w11.heap.size, fun V : World => V.ownsRow yb0.heap.size 2 1 (.slice (some ⟨e1, 0, none⟩) s1.length s1.length) s1.length (s1.map (Value.int .i64))), (w12.heap.size, w13.heap.size, fun V : World => V.ownsRow w12.heap.size 4 1 (.slice (some ⟨e3, 0, none⟩) s3.length s3.length) s3.length (s3.flatMap boC)), (w20.heap.size, w21.heap.size, fun V : World => RoF V w20.heap.size (.slice (some ⟨gh0.1, 0, none⟩) s0.length s0.length) s0 gh0.2), (w21.heap.size, w22.heap.size, fun V : World => V.ownsRow w21.heap.size 2 1 (.slice (some ⟨gh1, 0, none⟩) s1.length s1.length) s1.length (s1.map (Value.int .i64))), (w22.heap.size, w23.heap.size, fun V : World => V.ownsRow w22.heap.size 4 1 (.slice (some ⟨gh3, 0, none⟩) s3.length s3.length) s3.length (s3.flatMap boC))] w23) := Z26.out.push hb (Ow.rowAll ho hb) (Nat.le_refl _)
  clear Z26 hb ho
  go_wp2_with (fail)
  refine (HIM.out w23 gh0 gh1 gh3 (RoF.rdc (show RoF w23 w20.heap.size (.slice (some ⟨gh0.1, 0, none⟩) s0.length s0.length) s0 gh0.2 from Z27.out.get 14 rfl)) (IS.rg (B := w21.heap.size) (show w23.ownsRow w21.heap.size 2 1 (.slice (some ⟨gh1, 0, none⟩) s1.length s1.length) s1.length (s1.map (Value.int .i64)) from Z27.out.get 15 rfl)) (OG.rg (T := 4) (B := w22.heap.size) boC_len (show w23.ownsRow w22.heap.size 4 1 (.slice (some ⟨gh3, 0, none⟩) s3.length s3.length) s3.length (s3.flatMap boC) from Z27.out.get 16 rfl))).mono ?_
  rintro e w24 ⟨vq, vr, rfl, hrq, hb⟩
  obtain ⟨vq1, vq2⟩ := vq
  obtain ⟨vah, vch, he1⟩ := hrq.form1
  obtain ⟨uah, uch, he2⟩ := hrq.form2
  simp only at he1 he2 hrq
  subst he1 he2
  obtain ⟨vsh, rfl⟩ : ∃ x, x = vr := ⟨_, rfl⟩
  have Z28 : Hid (LS w [(w.heap.size, w.heap.size + 1, fun V : World => V.heap[w.heap.size]? = some BX0), (w1.heap.size, w2.heap.size, fun V : World => RoF V w1.heap.size (.slice (some ⟨ga0.1, 0, none⟩) s0.length s0.length) s0 ga0.2), (w2.heap.size, w3.heap.size, fun V : World => V.ownsRow w2.heap.size 2 1 (.slice (some ⟨ga1, 0, none⟩) s1.length s1.length) s1.length (s1.map (Value.int .i64))), (w3.heap.size, w4.heap.size, fun V : World => V.ownsRow w3.heap.size 4 1 (.slice (some ⟨ga3, 0, none⟩) s3.length s3.length) s3.length (s3.flatMap boC)), (w4.heap.size, Ka, fun V : World => RoE V w4.heap.size (.slice vaa L.length vca) (.slice uaa ES.length uca) L ES vsa), (Ka, Ka + 1, fun V : World => V.heap[Ka]? = some (Obj.cells #[.int .i64 C, .slice vaa L.length vca, .slice uaa ES.length uca] 32)), (Va.heap.size, Kx0, fun V : World => True), (Kx0, Kx0 + 1, fun V : World => V.heap[Kx0]? = some (Obj.cells #[.slice (some ⟨x0.1, 0, none⟩) s0.length s0.length] 30)), (Vx0.heap.size, w7.heap.size, fun V : World => True), (w7.heap.size, w8.heap.size, fun V : World => True), (w8.heap.size, Kg, fun V : World => MkE V w8.heap.size (.slice vag L.length vcg) (.slice uag ES.length ucg) L ES.length vsg), (Kg, Kg + 1, fun V : World => V.heap[Kg]? = some (Obj.cells #[.int .i64 C, .slice vag L.length vcg, .slice uag ES.length ucg] 32)), (yb0.heap.size, w11.heap.size, fun V : World => V.ownsRow yb0.heap.size 2 1 (.slice (some ⟨e1, 0, none⟩) s1.length s1.length) s1.length (s1.map (Value.int .i64))), (w12.heap.size, w13.heap.size, fun V : World => V.ownsRow w12.heap.size 4 1 (.slice (some ⟨e3, 0, none⟩) s3.length s3.length) s3.length (s3.flatMap boC)), (w20.heap.size, w21.heap.size, fun V : World => RoF V w20.heap.size (.slice (some ⟨gh0.1, 0, none⟩) s0.length s0.length) s0 gh0.2), (w21.heap.size, w22.heap.size, fun V : World => V.ownsRow w21.heap.size 2 1 (.slice (some ⟨gh1, 0, none⟩) s1.length s1.length) s1.length (s1.map (Value.int .i64))), (w22.heap.size, w23.heap.size, fun V : World => V.ownsRow w22.heap.size 4 1 (.slice (some ⟨gh3, 0, none⟩) s3.length s3.length) s3.length (s3.flatMap boC)), (w23.heap.size, w24.heap.size, fun V : World => RoE V w23.heap.size (.slice vah L.length vch) (.slice uah ES.length uch) L ES vsh)] w24) := Z27.out.push hb (Ow.rAllE hrq hb) (Nat.le_refl _)
  clear Z27 hb hrq
  have kva := Z28.out.get 5 rfl
  have cva_0 : w24.cell? ⟨Ka, 0, none⟩ = some (.int .i64 C) := cellOf kva 0 rfl
  have cva_1 : w24.cell? ⟨Ka, 1, none⟩ = some (.slice vaa L.length vca) := cellOf kva 1 rfl
  have cva_2 : w24.cell? ⟨Ka, 2, none⟩ = some (.slice uaa ES.length uca) := cellOf kva 2 rfl
  have lva : Ka < w24.heap.size := ltOf kva
  clear kva
  have Z29 : Hid (LS w [(w.heap.size, w.heap.size + 1, fun V : World => V.heap[w.heap.size]? = some BX0), (w1.heap.size, w2.heap.size, fun V : World => RoF V w1.heap.size (.slice (some ⟨ga0.1, 0, none⟩) s0.length s0.length) s0 ga0.2), (w2.heap.size, w3.heap.size, fun V : World => V.ownsRow w2.heap.size 2 1 (.slice (some ⟨ga1, 0, none⟩) s1.length s1.length) s1.length (s1.map (Value.int .i64))), (w3.heap.size, w4.heap.size, fun V : World => V.ownsRow w3.heap.size 4 1 (.slice (some ⟨ga3, 0, none⟩) s3.length s3.length) s3.length (s3.flatMap boC)), (w4.heap.size, Ka, fun V : World => RoE V w4.heap.size (.slice vaa L.length vca) (.slice uaa ES.length uca) L ES vsa), (Ka, Ka + 1, fun V : World => V.heap[Ka]? = some (Obj.cells #[.int .i64 C, .slice vaa L.length vca, .slice uaa ES.length uca] 32)), (Va.heap.size, Kx0, fun V : World => True), (Kx0, Kx0 + 1, fun V : World => V.heap[Kx0]? = some (Obj.cells #[.slice (some ⟨x0.1, 0, none⟩) s0.length s0.length] 30)), (Vx0.heap.size, w7.heap.size, fun V : World => True), (w7.heap.size, w8.heap.size, fun V : World => True), (w8.heap.size, Kg, fun V : World => MkE V w8.heap.size (.slice vag L.length vcg) (.slice uag ES.length ucg) L ES.length vsg), (Kg, Kg + 1, fun V : World => V.heap[Kg]? = some (Obj.cells #[.int .i64 C, .slice vag L.length vcg, .slice uag ES.length ucg] 32)), (yb0.heap.size, w11.heap.size, fun V : World => V.ownsRow yb0.heap.size 2 1 (.slice (some ⟨e1, 0, none⟩) s1.length s1.length) s1.length (s1.map (Value.int .i64))), (w12.heap.size, w13.heap.size, fun V : World => V.ownsRow w12.heap.size 4 1 (.slice (some ⟨e3, 0, none⟩) s3.length s3.length) s3.length (s3.flatMap boC)), (w20.heap.size, w21.heap.size, fun V : World => RoF V w20.heap.size (.slice (some ⟨gh0.1, 0, none⟩) s0.length s0.length) s0 gh0.2), (w21.heap.size, w22.heap.size, fun V : World => V.ownsRow w21.heap.size 2 1 (.slice (some ⟨gh1, 0, none⟩) s1.length s1.length) s1.length (s1.map (Value.int .i64))), (w22.heap.size, w23.heap.size, fun V : World => V.ownsRow w22.heap.size 4 1 (.slice (some ⟨gh3, 0, none⟩) s3.length s3.length) s3.length (s3.flatMap boC)), (w23.heap.size, w24.heap.size, fun V : World => RoE V w23.heap.size (.slice vah L.length vch) (.slice uah ES.length uch) L ES vsh), (w24.heap.size, w24.heap.size + 1, fun V : World => V.heap[w24.heap.size]? = some (Obj.cells #[.int .i64 C, .slice vah L.length vch, .slice uah ES.length uch] 32))] (w24.alloc (Obj.cells #[.int .i64 C, .slice vah L.length vch, .slice uah ES.length uch] 32))) := Z28.out.push (by (repeat' (first | (with_reducible exact Below.refl _ _) | (with_reducible assumption) | (with_reducible refine Below.setCell ?_ ?_ _) | (with_reducible refine Below.alloc ?_ ?_ _) | (with_reducible refine below_drewN ?_ _) | (with_reducible refine Below.drew ?_) | (with_reducible exact Nat.le_refl _) | omega | (simp; done) | (simp; omega)))) (Ow.block (heap_alloc_new _ _)) (Nat.le_refl _)
  clear Z28
  go_wp2_with (fail)
  obtain ⟨Vh, hV⟩ : ∃ V, V = w24.alloc (Obj.cells #[.int .i64 C, .slice vah L.length vch, .slice uah ES.length uch] 32) := ⟨_, rfl⟩
  rw [← hV] at Z29 ⊢
  obtain ⟨Kh, hK⟩ : ∃ K, K = w24.heap.size := ⟨_, rfl⟩
  rw [← hK] at Z29  ⊢
  clear hV hK
  clear cva_0 cva_1 cva_2 lva
  refine (eqEtchResult_to C HLN.out (RoE.rd (B := w23.heap.size) (show RoE Vh w23.heap.size (.slice vah L.length vch) (.slice uah ES.length uch) L ES vsh from (Z29.out.get 17 rfl))) (RoE.rd (B := w4.heap.size) (show RoE Vh w4.heap.size (.slice vaa L.length vca) (.slice uaa ES.length uca) L ES vsa from (Z29.out.get 4 rfl)))).mono ?_
  rintro e w25 ⟨rfl, hb⟩
  have Z30 : Hid (LS w [(w.heap.size, w.heap.size + 1, fun V : World => V.heap[w.heap.size]? = some BX0), (w1.heap.size, w2.heap.size, fun V : World => RoF V w1.heap.size (.slice (some ⟨ga0.1, 0, none⟩) s0.length s0.length) s0 ga0.2), (w2.heap.size, w3.heap.size, fun V : World => V.ownsRow w2.heap.size 2 1 (.slice (some ⟨ga1, 0, none⟩) s1.length s1.length) s1.length (s1.map (Value.int .i64))), (w3.heap.size, w4.heap.size, fun V : World => V.ownsRow w3.heap.size 4 1 (.slice (some ⟨ga3, 0, none⟩) s3.length s3.length) s3.length (s3.flatMap boC)), (w4.heap.size, Ka, fun V : World => RoE V w4.heap.size (.slice vaa L.length vca) (.slice uaa ES.length uca) L ES vsa), (Ka, Ka + 1, fun V : World => V.heap[Ka]? = some (Obj.cells #[.int .i64 C, .slice vaa L.length vca, .slice uaa ES.length uca] 32)), (Va.heap.size, Kx0, fun V : World => True), (Kx0, Kx0 + 1, fun V : World => V.heap[Kx0]? = some (Obj.cells #[.slice (some ⟨x0.1, 0, none⟩) s0.length s0.length] 30)), (Vx0.heap.size, w7.heap.size, fun V : World => True), (w7.heap.size, w8.heap.size, fun V : World => True), (w8.heap.size, Kg, fun V : World => MkE V w8.heap.size (.slice vag L.length vcg) (.slice uag ES.length ucg) L ES.length vsg), (Kg, Kg + 1, fun V : World => V.heap[Kg]? = some (Obj.cells #[.int .i64 C, .slice vag L.length vcg, .slice uag ES.length ucg] 32)), (yb0.heap.size, w11.heap.size, fun V : World => V.ownsRow yb0.heap.size 2 1 (.slice (some ⟨e1, 0, none⟩) s1.length s1.length) s1.length (s1.map (Value.int .i64))), (w12.heap.size, w13.heap.size, fun V : World => V.ownsRow w12.heap.size 4 1 (.slice (some ⟨e3, 0, none⟩) s3.length s3.length) s3.length (s3.flatMap boC)), (w20.heap.size, w21.heap.size, fun V : World => RoF V w20.heap.size (.slice (some ⟨gh0.1, 0, none⟩) s0.length s0.length) s0 gh0.2), (w21.heap.size, w22.heap.size, fun V : World => V.ownsRow w21.heap.size 2 1 (.slice (some ⟨gh1, 0, none⟩) s1.length s1.length) s1.length (s1.map (Value.int .i64))), (w22.heap.size, w23.heap.size, fun V : World => V.ownsRow w22.heap.size 4 1 (.slice (some ⟨gh3, 0, none⟩) s3.length s3.length) s3.length (s3.flatMap boC)), (w23.heap.size, Kh, fun V : World => RoE V w23.heap.size (.slice vah L.length vch) (.slice uah ES.length uch) L ES vsh), (Kh, Kh + 1, fun V : World => V.heap[Kh]? = some (Obj.cells #[.int .i64 C, .slice vah L.length vch, .slice uah ES.length uch] 32))] w25) := Z29.out.next hb
  clear Z29 hb
  have kvg := Z30.out.get 11 rfl
  have cvg_0 : w25.cell? ⟨Kg, 0, none⟩ = some (.int .i64 C) := cellOf kvg 0 rfl
  have cvg_1 : w25.cell? ⟨Kg, 1, none⟩ = some (.slice vag L.length vcg) := cellOf kvg 1 rfl
  have cvg_2 : w25.cell? ⟨Kg, 2, none⟩ = some (.slice uag ES.length ucg) := cellOf kvg 2 rfl
  have lvg : Kg < w25.heap.size := ltOf kvg
  clear kvg
  go_wp2_with (fail)
  clear cvg_0 cvg_1 cvg_2 lvg
  refine (heldEtchResult_to C HLN.out (show MkE w25 w8.heap.size (.slice vag L.length vcg) (.slice uag ES.length ucg) L ES.length vsg from Z30.out.get 10 rfl)).mono ?_
  rintro e w26 ⟨rfl, hb⟩
  have Z31 : Hid (LS w [(w.heap.size, w.heap.size + 1, fun V : World => V.heap[w.heap.size]? = some BX0), (w1.heap.size, w2.heap.size, fun V : World => RoF V w1.heap.size (.slice (some ⟨ga0.1, 0, none⟩) s0.length s0.length) s0 ga0.2), (w2.heap.size, w3.heap.size, fun V : World => V.ownsRow w2.heap.size 2 1 (.slice (some ⟨ga1, 0, none⟩) s1.length s1.length) s1.length (s1.map (Value.int .i64))), (w3.heap.size, w4.heap.size, fun V : World => V.ownsRow w3.heap.size 4 1 (.slice (some ⟨ga3, 0, none⟩) s3.length s3.length) s3.length (s3.flatMap boC)), (w4.heap.size, Ka, fun V : World => RoE V w4.heap.size (.slice vaa L.length vca) (.slice uaa ES.length uca) L ES vsa), (Ka, Ka + 1, fun V : World => V.heap[Ka]? = some (Obj.cells #[.int .i64 C, .slice vaa L.length vca, .slice uaa ES.length uca] 32)), (Va.heap.size, Kx0, fun V : World => True), (Kx0, Kx0 + 1, fun V : World => V.heap[Kx0]? = some (Obj.cells #[.slice (some ⟨x0.1, 0, none⟩) s0.length s0.length] 30)), (Vx0.heap.size, w7.heap.size, fun V : World => True), (w7.heap.size, w8.heap.size, fun V : World => True), (w8.heap.size, Kg, fun V : World => MkE V w8.heap.size (.slice vag L.length vcg) (.slice uag ES.length ucg) L ES.length vsg), (Kg, Kg + 1, fun V : World => V.heap[Kg]? = some (Obj.cells #[.int .i64 C, .slice vag L.length vcg, .slice uag ES.length ucg] 32)), (yb0.heap.size, w11.heap.size, fun V : World => V.ownsRow yb0.heap.size 2 1 (.slice (some ⟨e1, 0, none⟩) s1.length s1.length) s1.length (s1.map (Value.int .i64))), (w12.heap.size, w13.heap.size, fun V : World => V.ownsRow w12.heap.size 4 1 (.slice (some ⟨e3, 0, none⟩) s3.length s3.length) s3.length (s3.flatMap boC)), (w20.heap.size, w21.heap.size, fun V : World => RoF V w20.heap.size (.slice (some ⟨gh0.1, 0, none⟩) s0.length s0.length) s0 gh0.2), (w21.heap.size, w22.heap.size, fun V : World => V.ownsRow w21.heap.size 2 1 (.slice (some ⟨gh1, 0, none⟩) s1.length s1.length) s1.length (s1.map (Value.int .i64))), (w22.heap.size, w23.heap.size, fun V : World => V.ownsRow w22.heap.size 4 1 (.slice (some ⟨gh3, 0, none⟩) s3.length s3.length) s3.length (s3.flatMap boC)), (w23.heap.size, Kh, fun V : World => RoE V w23.heap.size (.slice vah L.length vch) (.slice uah ES.length uch) L ES vsh), (Kh, Kh + 1, fun V : World => V.heap[Kh]? = some (Obj.cells #[.int .i64 C, .slice vah L.length vch, .slice uah ES.length uch] 32))] w26) := Z30.out.next hb
  clear Z30 hb
  rw [← HTT.out]
  go_wp2
  go_returns
  exact ⟨rfl, Z31.out.bl⟩

set_option maxRecDepth 100000 in
theorem eb12_lifted (os : Os) (started : os.Started) (H : Type) (enc : TypeId × Value → H) :
    ReturnsInHanded {} Try.checked os 3 .any (Rows.fnExactEtchBySpec.pre6 enc Try.prog Try.f3 Rows.fnExactEtchByRow.domain false) (Rows.fnExactEtchBySpec.post enc Try.prog Try.f3 false true false false) := by
  refine returnsInHanded_of_change (C := Try.checked) own started (by kernel_rfl) Try.func3
    (ChangeSpec.witness6 (enc := enc) (C := Try.checked) false ⟨#[], #[.agg #[.slice none 0 0], .slice none 0 0, .int .i64 0, .slice none 0 0], []⟩ 8 (by kernel_rfl) (by kernel_rfl) (by kernel_rfl) (by kernel_rfl)) ?_
  intro W base args ds gs before hval0 hW hcnd _
  have hval : ∀ (j : Nat) t v, Try.f3.params[j]? = some t → args[j]? = some v → Value.okWide Try.prog W .any base t v := hval0
  have hW' := hW
  obtain ⟨p, q, hA0, hV, rfl, hfz, hnd⟩ := hW
  have hA : DataW.TrodAll enc Try.prog W 0 (fun _ => true) true Try.f3.params.toList args.toList ds p := hA0
  rw [Try.params3] at hA hval
  obtain ⟨v0, vs0, d0, ds0, p0, q0, hargs, rfl, rfl, h0, r0⟩ := trodAll_cons hA
  obtain ⟨v1, vs1, d1, ds1, p1, q1, rfl, rfl, rfl, h1, r1⟩ := trodAll_cons r0
  obtain ⟨v2, vs2, d2, ds2, p2, q2, rfl, rfl, rfl, h2, r2⟩ := trodAll_cons r1
  obtain ⟨v3, vs3, d3, ds3, p3, q3, rfl, rfl, rfl, h3, r3⟩ := trodAll_cons r2
  obtain ⟨rfl, rfl, rfl⟩ := trodAll_nil r3
  obtain rfl : args = #[v0, v1, v2, v3] := by cases args; simp_all
  obtain ⟨rfl, rfl⟩ := trodVars_none hV
  have k0 := h0
  have lt0 : ∀ x ∈ p0, x.block < W.heap.size := by obtain ⟨m, hm⟩ := k0; exact DataW.trod_lt m _ _ _ hm
  obtain ⟨sa0, sn0, sc0, s0, rfl, rb0, sl0⟩ := section_open (hval 0 24 v0 rfl rfl) h0
  have k1 := h1
  have lt1 : ∀ x ∈ p1, x.block < W.heap.size := by obtain ⟨m, hm⟩ := k1; exact DataW.trod_lt m _ _ _ hm
  obtain ⟨sa1, sn1, sc1, s1, rfl, ri1, sl1⟩ := ints_open (hval 1 25 v1 rfl rfl) h1
  obtain ⟨n2, rfl, rfl, rfl, wn2⟩ := open_int Try.underlying2 (hval 2 2 v2 rfl rfl) h2
  have k3 := h3
  have lt3 : ∀ x ∈ p3, x.block < W.heap.size := by obtain ⟨m, hm⟩ := k3; exact DataW.trod_lt m _ _ _ hm
  obtain ⟨sa3, sn3, sc3, s3, rfl, ri3, sl3⟩ := bools_open (hval 3 26 v3 rfl rfl) h3
  clear hA0 hval0
  refine (law_eb12 s0 sl0 rb0 s1 sl1 ri1 n2 s3 sl3 ri3).mono fun e W' ⟨he, hg⟩ => ?_
  subst he
  exact ⟨_, rfl, _, _, _, [], _, [], hW', trodAll_mk1 (shut_bool Try.underlying4 _), (trodAll_cons_mk (Below.trod laidOut (by kernel_rfl) (of_decide_eq_true (by kernel_rfl)) k0 hg lt0) (trodAll_cons_mk (Below.trod laidOut (by kernel_rfl) (of_decide_eq_true (by kernel_rfl)) k1 hg lt1) (trodAll_cons_mk (shut_int Try.underlying2 wn2) (trodAll_cons_mk (Below.trod laidOut (by kernel_rfl) (of_decide_eq_true (by kernel_rfl)) k3 hg lt3) trodAll_mk0)))), rfl, hg.frame _, fun h => by cases h⟩

theorem eb12_over : Rows.fnExactEtchByRow.holds Try.pinned (OpenSpec.ofChange Rows.fnExactEtchBySpec) :=
  OpenClaim.holds_of_wide 3 Try.f3 rfl rfl rfl rfl rfl rfl rfl ⟨rfl, rfl, rfl, rfl, rfl⟩ rfl rfl rfl rfl rfl (by kernel_rfl) Try.func3 (by kernel_rfl)
    (of_decide_eq_true (by kernel_rfl)) (by unfold Func.isWrapper; first | (rw [if_pos (by decide +kernel)]; kernel_rfl) | (rw [if_neg (by decide +kernel)]; exact ⟨rfl, rfl⟩))
    (fun os started H enc _ => eb12_lifted os started H enc)

theorem eb12_proved : Rows.FnExactEtchBySaid :=
  eb12_over
#print axioms eb12_proved

end Go.Proofs.Ytceljakmjddgbab
