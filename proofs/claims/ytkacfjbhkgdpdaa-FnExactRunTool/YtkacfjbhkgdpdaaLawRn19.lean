/- Proved here: 'the program's RunTool answers as the model's; it writes into no argument and keeps nothing of one; its answer owns its memory, behind another call too', without a condition. -/
import Derived.Test.YtkacfjbhkgdpdaaRnI
import Derived.Test.YtkacfjbhkgdpdaaRnS
import Derived.Test.YtkacfjbhkgdpdaaLgR
import Derived.Test.YtkacfjbhkgdpdaaTlB
import Derived.Test.YtkacfjbhkgdpdaaTvB
import Derived.Test.YtkacfjbhkgdpdaaMkTv
import Derived.Test.YtkacfjbhkgdpdaaOwT
import Derived.Test.YtkacfjbhkgdpdaaLwS
import Derived.ChangeMaps5
import Derived.Test.YtkacfjbhkgdpdaaRows
namespace Go.Proofs.Ytkacfjbhkgdpdaa
open Go.ChangeShapes Go.WideShapes Go.ChangeAt Go.RowKit Go.Joins Go.ChangeMaps
set_option linter.unusedVariables false
set_option linter.unusedSimpArgs false

theorem own : ownKnob Try.prog.godebug = none := by kernel_rfl
theorem laidOut : laidOutB Try.prog = true := by kernel_rfl

set_option maxRecDepth 10000 in
set_option maxHeartbeats 25600000 in
theorem law_rn19 {w : World}  (ta_0 : Int) (tr_0 : ByteArray) (ts_0 tu_0 tl_0 : Int) (tq_0 : Bool) {sa0 : Option Addr} {sn0 sc0 : Nat} (s0 : List Ap) (hm0 : okTl tr_0 s0) (hr0 : RG 2 apC w (.slice sa0 sn0 sc0) s0) {sa1 : Option Addr} {sn1 sc1 : Nat} (s1 : List Te) (hm1 : s1.length ≤ maxLen ∧ ∀ j (h : j < s1.length), okTe s1[j]) (hr1 : RG 3 teC w (.slice sa1 sn1 sc1) s1) :
    Calls Try.prog 4 #[.agg #[.int .i64 ta_0, .string tr_0, .int .i64 ts_0, .int .i64 tu_0, .int .i64 tl_0, .bool tq_0, .slice sa0 sn0 sc0], .slice sa1 sn1 sc1] w fun e w' => e = .returned (.bool true) ∧ Below w.heap.size w w' := by
  have HM0 : Hid (okTl tr_0 s0) := hm0
  have HR0 : Hid (RG 2 apC w (.slice sa0 sn0 sc0) s0) := hr0
  have HE0 : Hid (sn0 = s0.length) := hr0.len
  have HM1 : Hid (sn1 ≤ maxLen ∧ ∀ j (h : j < s1.length), okTe s1[j]) := ⟨by rw [hr1.len]; exact hm1.1, hm1.2⟩
  have HR1 : Hid (RG 3 teC w (.slice sa1 sn1 sc1) s1) := hr1
  have HE1 : Hid (sn1 = s1.length) := hr1.len
  clear hm0 hr0 hm1 hr1
  obtain ⟨BX0, hBX0⟩ : ∃ BX, BX = Obj.cells #[.int .i64 ta_0, .string tr_0, .int .i64 ts_0, .int .i64 tu_0, .int .i64 tl_0, .bool tq_0, .slice sa0 sn0 sc0] 24 := ⟨_, rfl⟩
  have Z0 : Hid (LS w [(w.heap.size, w.heap.size + 1, fun V : World => V.heap[w.heap.size]? = some BX0)] (w.alloc (Obj.cells #[.int .i64 ta_0, .string tr_0, .int .i64 ts_0, .int .i64 tu_0, .int .i64 tl_0, .bool tq_0, .slice sa0 sn0 sc0] 24))) := by
    have p0 := LS.start w
    have p1 := LS.push (V' := (w.alloc (Obj.cells #[.int .i64 ta_0, .string tr_0, .int .i64 ts_0, .int .i64 tu_0, .int .i64 tl_0, .bool tq_0, .slice sa0 sn0 sc0] 24))) p0 (by (repeat' (first | (with_reducible exact Below.refl _ _) | (with_reducible assumption) | (with_reducible refine Below.setCell ?_ ?_ _) | (with_reducible refine Below.alloc ?_ ?_ _) | (with_reducible refine below_drewN ?_ _) | (with_reducible refine Below.drew ?_) | (with_reducible exact Nat.le_refl _) | omega | (simp; done) | (simp; omega)))) (Ow.block (k := w.heap.size) (o := BX0) (by rw [hBX0]; have := heap_alloc_new w (Obj.cells #[.int .i64 ta_0, .string tr_0, .int .i64 ts_0, .int .i64 tu_0, .int .i64 tl_0, .bool tq_0, .slice sa0 sn0 sc0] 24); simpa using this)) (by simp)
    exact p1
  have TB0 : Hid (BX0 = Obj.cells #[.int .i64 ta_0, .string tr_0, .int .i64 ts_0, .int .i64 tu_0, .int .i64 tl_0, .bool tq_0, .slice sa0 sn0 sc0] 24) := hBX0
  clear hBX0
  go_enter Try.func4, Try.ntmps4
  go_wp2_with (fail)
  obtain ⟨W0, hW0⟩ : ∃ V, V = (w.alloc (Obj.cells #[.int .i64 ta_0, .string tr_0, .int .i64 ts_0, .int .i64 tu_0, .int .i64 tl_0, .bool tq_0, .slice sa0 sn0 sc0] 24)) := ⟨_, rfl⟩
  rw [← hW0] at Z0 ⊢
  clear hW0
  refine (szTool_gen ta_0 tr_0 ts_0 tu_0 tl_0 tq_0 sa0 sn0 sc0 1048576 s0 _ (by omega) (by omega) HM0.out (HR0.out.below Z0.out.bl)).mono ?_
  rintro e w1 ⟨r0, rfl, hq0, hb⟩
  have Z1 : Hid (LS w [(w.heap.size, w.heap.size + 1, fun V : World => V.heap[w.heap.size]? = some BX0)] w1) := Z0.out.next hb
  clear Z0 hb
  rcases hq0 with hneg | ⟨u0, v0, tt0⟩
  · go_wp2
    go_returns
    exact ⟨rfl, Z1.out.bl⟩
  have hl0 : ¬ r0 < 0 := by omega
  have HL0 : Hid (smTl 1048576 tr_0 s0) := smTl_mono (by omega) tt0
  go_wp2_with (fail)
  refine (szToolEventS_gen sa1 sn1 sc1 r0 s1 _ (by omega) (by omega) HM1.out.1 (HR1.out.below Z1.out.bl) HM1.out.2).mono ?_
  rintro e w2 ⟨r1, rfl, hq1, hb⟩
  have Z2 : Hid (LS w [(w.heap.size, w.heap.size + 1, fun V : World => V.heap[w.heap.size]? = some BX0)] w2) := Z1.out.next hb
  clear Z1 hb
  rcases hq1 with hneg | ⟨u1, v1, tt1⟩
  · go_wp2
    go_returns
    exact ⟨rfl, Z2.out.bl⟩
  have hl1 : ¬ r1 < 0 := by omega
  have HL1 : Hid (s1.length ≤ 1048576) := by unfold Hid; rw [← HE1.out]; have h9 := tt1.1; clear tt1; omega
  obtain ⟨C, hC⟩ : ∃ X, X = (rtC ⟨ta_0, tr_0, ts_0, tu_0, tl_0, tq_0⟩ s0 s1) := ⟨_, rfl⟩
  obtain ⟨TA, hTA⟩ : ∃ X, X = onI (rtC ⟨ta_0, tr_0, ts_0, tu_0, tl_0, tq_0⟩ s0 s1) (rnS ⟨ta_0, tr_0, ts_0, tu_0, tl_0, tq_0⟩ s0 s1 s1.length).A := ⟨_, rfl⟩
  obtain ⟨TR, hTR⟩ : ∃ X, X = onS (rtC ⟨ta_0, tr_0, ts_0, tu_0, tl_0, tq_0⟩ s0 s1) (rnS ⟨ta_0, tr_0, ts_0, tu_0, tl_0, tq_0⟩ s0 s1 s1.length).R := ⟨_, rfl⟩
  obtain ⟨TS, hTS⟩ : ∃ X, X = onI (rtC ⟨ta_0, tr_0, ts_0, tu_0, tl_0, tq_0⟩ s0 s1) (rnS ⟨ta_0, tr_0, ts_0, tu_0, tl_0, tq_0⟩ s0 s1 s1.length).S := ⟨_, rfl⟩
  obtain ⟨TU, hTU⟩ : ∃ X, X = onI (rtC ⟨ta_0, tr_0, ts_0, tu_0, tl_0, tq_0⟩ s0 s1) (rnS ⟨ta_0, tr_0, ts_0, tu_0, tl_0, tq_0⟩ s0 s1 s1.length).U := ⟨_, rfl⟩
  obtain ⟨TL, hTL⟩ : ∃ X, X = onI (rtC ⟨ta_0, tr_0, ts_0, tu_0, tl_0, tq_0⟩ s0 s1) (rnS ⟨ta_0, tr_0, ts_0, tu_0, tl_0, tq_0⟩ s0 s1 s1.length).L := ⟨_, rfl⟩
  obtain ⟨TQ, hTQ⟩ : ∃ X, X = onB (rtC ⟨ta_0, tr_0, ts_0, tu_0, tl_0, tq_0⟩ s0 s1) (rnS ⟨ta_0, tr_0, ts_0, tu_0, tl_0, tq_0⟩ s0 s1 s1.length).Q := ⟨_, rfl⟩
  obtain ⟨L, hL⟩ : ∃ X, X = onL (rtC ⟨ta_0, tr_0, ts_0, tu_0, tl_0, tq_0⟩ s0 s1) s0 := ⟨_, rfl⟩
  obtain ⟨ES, hES⟩ : ∃ X, X = onC (rtC ⟨ta_0, tr_0, ts_0, tu_0, tl_0, tq_0⟩ s0 s1) (rnC ⟨ta_0, tr_0, ts_0, tu_0, tl_0, tq_0⟩ s0 s1 s1.length) := ⟨_, rfl⟩
  obtain ⟨MS, hMS⟩ : ∃ X, X = onL (rtC ⟨ta_0, tr_0, ts_0, tu_0, tl_0, tq_0⟩ s0 s1) (rnR ⟨ta_0, tr_0, ts_0, tu_0, tl_0, tq_0⟩ s0 s1 s1.length) := ⟨_, rfl⟩
  have HLN : Hid (L.length ≤ 1048576 ∧ ES.length ≤ 1048576 ∧ MS.length ≤ 1048576) := by unfold Hid; rw [hL, hES, hMS]; exact rn_bound ⟨ta_0, tr_0, ts_0, tu_0, tl_0, tq_0⟩ (tl_len HL0.out) HL1.out
  have HSP : Hid (∀ (W : World) (g0 : Nat) (g1 : Nat), (RG 2 apC W (.slice (some ⟨g0, 0, none⟩) s0.length s0.length) s0) → (RG 3 teC W (.slice (some ⟨g1, 0, none⟩) s1.length s1.length) s1) → Calls Try.prog 17 #[.agg #[.int .i64 ta_0, .string tr_0, .int .i64 ts_0, .int .i64 tu_0, .int .i64 tl_0, .bool tq_0, .slice (some ⟨g0, 0, none⟩) s0.length s0.length], .slice (some ⟨g1, 0, none⟩) s1.length s1.length] W fun e w' => ∃ (vq : Value × Value × Value) (_ : Unit), e = .returned (.agg #[.int .i64 C, .int .i64 TA, .string TR, .int .i64 TS, .int .i64 TU, .int .i64 TL, .bool TQ, vq.1, vq.2.1, vq.2.2]) ∧ OwR w' W.heap.size vq.1 vq.2.1 vq.2.2 L ES MS ∧ Below W.heap.size W w') := fun W g0 g1 h0 h1 => by
    rw [hMS, hES, hL, hTQ, hTL, hTU, hTS, hTR, hTA, hC]
    exact spec_rn ⟨ta_0, tr_0, ts_0, tu_0, tl_0, tq_0⟩ (tl_len HL0.out) (fun j h => by have := HL0.out.ap j h; unfold smAp at this; omega) (Nat.le_refl _) h0 HL1.out h1
  have HIM : Hid (∀ (W : World) (g0 : Nat) (g1 : Nat), (RG 2 apC W (.slice (some ⟨g0, 0, none⟩) s0.length s0.length) s0) → (RG 3 teC W (.slice (some ⟨g1, 0, none⟩) s1.length s1.length) s1) → Calls Try.prog 19 #[.agg #[.int .i64 ta_0, .string tr_0, .int .i64 ts_0, .int .i64 tu_0, .int .i64 tl_0, .bool tq_0, .slice (some ⟨g0, 0, none⟩) s0.length s0.length], .slice (some ⟨g1, 0, none⟩) s1.length s1.length] W fun e w' => ∃ (vq : Value × Value × Value) (_ : Unit), e = .returned (.agg #[.int .i64 C, .int .i64 TA, .string TR, .int .i64 TS, .int .i64 TU, .int .i64 TL, .bool TQ, vq.1, vq.2.1, vq.2.2]) ∧ OwR w' W.heap.size vq.1 vq.2.1 vq.2.2 L ES MS ∧ Below W.heap.size W w') := fun W g0 g1 h0 h1 => by
    rw [hMS, hES, hL, hTQ, hTL, hTU, hTS, hTR, hTA, hC]
    exact impl_rn ⟨ta_0, tr_0, ts_0, tu_0, tl_0, tq_0⟩ (tl_len HL0.out) (fun j h => by have := HL0.out.ap j h; unfold smAp at this; omega) (Nat.le_refl _) h0 HL1.out h1
  clear hC hTA hTR hTS hTU hTL hTQ hL hES hMS u0 v0 tt0 u1 v1 tt1
  have kp0 := Z2.out.get 0 rfl
  rw [TB0.out] at kp0
  have cp0_0 : w2.cell? ⟨w.heap.size, 0, none⟩ = some (.int .i64 ta_0) := cellOf kp0 0 rfl
  have cp0_1 : w2.cell? ⟨w.heap.size, 1, none⟩ = some (.string tr_0) := cellOf kp0 1 rfl
  have cp0_2 : w2.cell? ⟨w.heap.size, 2, none⟩ = some (.int .i64 ts_0) := cellOf kp0 2 rfl
  have cp0_3 : w2.cell? ⟨w.heap.size, 3, none⟩ = some (.int .i64 tu_0) := cellOf kp0 3 rfl
  have cp0_4 : w2.cell? ⟨w.heap.size, 4, none⟩ = some (.int .i64 tl_0) := cellOf kp0 4 rfl
  have cp0_5 : w2.cell? ⟨w.heap.size, 5, none⟩ = some (.bool tq_0) := cellOf kp0 5 rfl
  have cp0_6 : w2.cell? ⟨w.heap.size, 6, none⟩ = some (.slice sa0 sn0 sc0) := cellOf kp0 6 rfl
  have lp0 : w.heap.size < w2.heap.size := ltOf kp0
  clear kp0
  go_wp2_with (fail)
  clear cp0_0 cp0_1 cp0_2 cp0_3 cp0_4 cp0_5 cp0_6 lp0
  refine (toTool_any ta_0 tr_0 ts_0 tu_0 tl_0 tq_0 (tl_len HL0.out) (HR0.out.below Z2.out.bl)).mono ?_
  rintro e w3 ⟨ga0, rfl, ho, hb⟩
  have Z3 : Hid (LS w [(w.heap.size, w.heap.size + 1, fun V : World => V.heap[w.heap.size]? = some BX0), (w2.heap.size, w3.heap.size, fun V : World => V.ownsRow w2.heap.size 72 2 (.slice (some ⟨ga0, 0, none⟩) s0.length s0.length) s0.length (s0.flatMap apC))] w3) := Z2.out.push hb (Ow.rowAll ho hb) (Nat.le_refl _)
  clear Z2 hb ho
  go_wp2_with (fail)
  refine (toToolEventS_any HL1.out (HR1.out.below Z3.out.bl)).mono ?_
  rintro e w4 ⟨ga1, rfl, ho, hb⟩
  have Z4 : Hid (LS w [(w.heap.size, w.heap.size + 1, fun V : World => V.heap[w.heap.size]? = some BX0), (w2.heap.size, w3.heap.size, fun V : World => V.ownsRow w2.heap.size 72 2 (.slice (some ⟨ga0, 0, none⟩) s0.length s0.length) s0.length (s0.flatMap apC)), (w3.heap.size, w4.heap.size, fun V : World => V.ownsRow w3.heap.size 36 3 (.slice (some ⟨ga1, 0, none⟩) s1.length s1.length) s1.length (s1.flatMap teC))] w4) := Z3.out.push hb (Ow.rowAll ho hb) (Nat.le_refl _)
  clear Z3 hb ho
  go_wp2_with (fail)
  refine (HSP.out w4 ga0 ga1 (OG.rg (T := 72) (B := w2.heap.size) apC_len (show w4.ownsRow w2.heap.size 72 2 (.slice (some ⟨ga0, 0, none⟩) s0.length s0.length) s0.length (s0.flatMap apC) from Z4.out.get 1 rfl)) (OG.rg (T := 36) (B := w3.heap.size) teC_len (show w4.ownsRow w3.heap.size 36 3 (.slice (some ⟨ga1, 0, none⟩) s1.length s1.length) s1.length (s1.flatMap teC) from Z4.out.get 2 rfl))).mono ?_
  rintro e w5 ⟨vq, vr, rfl, hrq, hb⟩
  obtain ⟨vq1, vq2, vq3⟩ := vq
  obtain ⟨vaa, vca, he1⟩ := own_form9 hrq.t
  obtain ⟨uaa, uca, he2⟩ := own_form9 hrq.c
  obtain ⟨waa, wca, he3⟩ := own_form9 hrq.r
  simp only at he1 he2 he3 hrq
  subst he1 he2 he3
  have Z5 : Hid (LS w [(w.heap.size, w.heap.size + 1, fun V : World => V.heap[w.heap.size]? = some BX0), (w2.heap.size, w3.heap.size, fun V : World => V.ownsRow w2.heap.size 72 2 (.slice (some ⟨ga0, 0, none⟩) s0.length s0.length) s0.length (s0.flatMap apC)), (w3.heap.size, w4.heap.size, fun V : World => V.ownsRow w3.heap.size 36 3 (.slice (some ⟨ga1, 0, none⟩) s1.length s1.length) s1.length (s1.flatMap teC)), (w4.heap.size, w5.heap.size, fun V : World => OwR V w4.heap.size (.slice vaa L.length vca) (.slice uaa ES.length uca) (.slice waa MS.length wca) L ES MS)] w5) := Z4.out.push hb (Ow.rAllR hrq hb) (Nat.le_refl _)
  clear Z4 hb hrq
  have kp0 := Z5.out.get 0 rfl
  rw [TB0.out] at kp0
  have cp0_0 : w5.cell? ⟨w.heap.size, 0, none⟩ = some (.int .i64 ta_0) := cellOf kp0 0 rfl
  have cp0_1 : w5.cell? ⟨w.heap.size, 1, none⟩ = some (.string tr_0) := cellOf kp0 1 rfl
  have cp0_2 : w5.cell? ⟨w.heap.size, 2, none⟩ = some (.int .i64 ts_0) := cellOf kp0 2 rfl
  have cp0_3 : w5.cell? ⟨w.heap.size, 3, none⟩ = some (.int .i64 tu_0) := cellOf kp0 3 rfl
  have cp0_4 : w5.cell? ⟨w.heap.size, 4, none⟩ = some (.int .i64 tl_0) := cellOf kp0 4 rfl
  have cp0_5 : w5.cell? ⟨w.heap.size, 5, none⟩ = some (.bool tq_0) := cellOf kp0 5 rfl
  have cp0_6 : w5.cell? ⟨w.heap.size, 6, none⟩ = some (.slice sa0 sn0 sc0) := cellOf kp0 6 rfl
  have lp0 : w.heap.size < w5.heap.size := ltOf kp0
  clear kp0
  have Z6 : Hid (LS w [(w.heap.size, w.heap.size + 1, fun V : World => V.heap[w.heap.size]? = some BX0), (w2.heap.size, w3.heap.size, fun V : World => V.ownsRow w2.heap.size 72 2 (.slice (some ⟨ga0, 0, none⟩) s0.length s0.length) s0.length (s0.flatMap apC)), (w3.heap.size, w4.heap.size, fun V : World => V.ownsRow w3.heap.size 36 3 (.slice (some ⟨ga1, 0, none⟩) s1.length s1.length) s1.length (s1.flatMap teC)), (w4.heap.size, w5.heap.size, fun V : World => OwR V w4.heap.size (.slice vaa L.length vca) (.slice uaa ES.length uca) (.slice waa MS.length wca) L ES MS), (w5.heap.size, w5.heap.size + 1, fun V : World => V.heap[w5.heap.size]? = some (Obj.cells #[.int .i64 C, .int .i64 TA, .string TR, .int .i64 TS, .int .i64 TU, .int .i64 TL, .bool TQ, .slice vaa L.length vca, .slice uaa ES.length uca, .slice waa MS.length wca] 47))] (w5.alloc (Obj.cells #[.int .i64 C, .int .i64 TA, .string TR, .int .i64 TS, .int .i64 TU, .int .i64 TL, .bool TQ, .slice vaa L.length vca, .slice uaa ES.length uca, .slice waa MS.length wca] 47))) := Z5.out.push (by (repeat' (first | (with_reducible exact Below.refl _ _) | (with_reducible assumption) | (with_reducible refine Below.setCell ?_ ?_ _) | (with_reducible refine Below.alloc ?_ ?_ _) | (with_reducible refine below_drewN ?_ _) | (with_reducible refine Below.drew ?_) | (with_reducible exact Nat.le_refl _) | omega | (simp; done) | (simp; omega)))) (Ow.block (heap_alloc_new _ _)) (Nat.le_refl _)
  clear Z5
  go_wp2_with (fail)
  obtain ⟨Va, hV⟩ : ∃ V, V = w5.alloc (Obj.cells #[.int .i64 C, .int .i64 TA, .string TR, .int .i64 TS, .int .i64 TU, .int .i64 TL, .bool TQ, .slice vaa L.length vca, .slice uaa ES.length uca, .slice waa MS.length wca] 47) := ⟨_, rfl⟩
  rw [← hV] at Z6 ⊢
  obtain ⟨Ka, hK⟩ : ∃ K, K = w5.heap.size := ⟨_, rfl⟩
  rw [← hK] at Z6  ⊢
  clear hV hK
  clear cp0_0 cp0_1 cp0_2 cp0_3 cp0_4 cp0_5 cp0_6 lp0
  refine (toTool_any ta_0 tr_0 ts_0 tu_0 tl_0 tq_0 (tl_len HL0.out) (HR0.out.below Z6.out.bl)).mono ?_
  rintro e w6 ⟨x0, rfl, ho, hb⟩
  have HX0 : Hid (∀ g, (.slice (some ⟨x0, 0, none⟩) s0.length s0.length : Value).ownBlock = some g → g < w6.heap.size) := fun g hg => (World.ownsRow.lt ho g hg).2
  have Z7 : Hid (LS w [(w.heap.size, w.heap.size + 1, fun V : World => V.heap[w.heap.size]? = some BX0), (w2.heap.size, w3.heap.size, fun V : World => V.ownsRow w2.heap.size 72 2 (.slice (some ⟨ga0, 0, none⟩) s0.length s0.length) s0.length (s0.flatMap apC)), (w3.heap.size, w4.heap.size, fun V : World => V.ownsRow w3.heap.size 36 3 (.slice (some ⟨ga1, 0, none⟩) s1.length s1.length) s1.length (s1.flatMap teC)), (w4.heap.size, Ka, fun V : World => OwR V w4.heap.size (.slice vaa L.length vca) (.slice uaa ES.length uca) (.slice waa MS.length wca) L ES MS), (Ka, Ka + 1, fun V : World => V.heap[Ka]? = some (Obj.cells #[.int .i64 C, .int .i64 TA, .string TR, .int .i64 TS, .int .i64 TU, .int .i64 TL, .bool TQ, .slice vaa L.length vca, .slice uaa ES.length uca, .slice waa MS.length wca] 47)), (Va.heap.size, w6.heap.size, fun V : World => V.ownsRow Va.heap.size 72 2 (.slice (some ⟨x0, 0, none⟩) s0.length s0.length) s0.length (s0.flatMap apC))] w6) := Z6.out.push hb (Ow.rowAll ho hb) (Nat.le_refl _)
  clear Z6 hb ho
  have Z8 : Hid (LS w [(w.heap.size, w.heap.size + 1, fun V : World => V.heap[w.heap.size]? = some BX0), (w2.heap.size, w3.heap.size, fun V : World => V.ownsRow w2.heap.size 72 2 (.slice (some ⟨ga0, 0, none⟩) s0.length s0.length) s0.length (s0.flatMap apC)), (w3.heap.size, w4.heap.size, fun V : World => V.ownsRow w3.heap.size 36 3 (.slice (some ⟨ga1, 0, none⟩) s1.length s1.length) s1.length (s1.flatMap teC)), (w4.heap.size, Ka, fun V : World => OwR V w4.heap.size (.slice vaa L.length vca) (.slice uaa ES.length uca) (.slice waa MS.length wca) L ES MS), (Ka, Ka + 1, fun V : World => V.heap[Ka]? = some (Obj.cells #[.int .i64 C, .int .i64 TA, .string TR, .int .i64 TS, .int .i64 TU, .int .i64 TL, .bool TQ, .slice vaa L.length vca, .slice uaa ES.length uca, .slice waa MS.length wca] 47)), (Va.heap.size, w6.heap.size, fun V : World => V.ownsRow Va.heap.size 72 2 (.slice (some ⟨x0, 0, none⟩) s0.length s0.length) s0.length (s0.flatMap apC)), (w6.heap.size, w6.heap.size + 1, fun V : World => V.heap[w6.heap.size]? = some (Obj.cells #[.int .i64 ta_0, .string tr_0, .int .i64 ts_0, .int .i64 tu_0, .int .i64 tl_0, .bool tq_0, .slice (some ⟨x0, 0, none⟩) s0.length s0.length] 31))] (w6.alloc (Obj.cells #[.int .i64 ta_0, .string tr_0, .int .i64 ts_0, .int .i64 tu_0, .int .i64 tl_0, .bool tq_0, .slice (some ⟨x0, 0, none⟩) s0.length s0.length] 31))) := Z7.out.push (by (repeat' (first | (with_reducible exact Below.refl _ _) | (with_reducible assumption) | (with_reducible refine Below.setCell ?_ ?_ _) | (with_reducible refine Below.alloc ?_ ?_ _) | (with_reducible refine below_drewN ?_ _) | (with_reducible refine Below.drew ?_) | (with_reducible exact Nat.le_refl _) | omega | (simp; done) | (simp; omega)))) (Ow.block (heap_alloc_new _ _)) (Nat.le_refl _)
  clear Z7
  go_wp2_with (fail)
  obtain ⟨Vx0, hV⟩ : ∃ V, V = w6.alloc (Obj.cells #[.int .i64 ta_0, .string tr_0, .int .i64 ts_0, .int .i64 tu_0, .int .i64 tl_0, .bool tq_0, .slice (some ⟨x0, 0, none⟩) s0.length s0.length] 31) := ⟨_, rfl⟩
  rw [← hV] at Z8 ⊢
  obtain ⟨Kx0, hK⟩ : ∃ K, K = w6.heap.size := ⟨_, rfl⟩
  rw [← hK] at Z8 HX0 ⊢
  clear hV hK
  refine (toToolEventS_any HL1.out (HR1.out.below Z8.out.bl)).mono ?_
  rintro e w7 ⟨x1, rfl, ho, hb⟩
  have HX1 : Hid (∀ g, (.slice (some ⟨x1, 0, none⟩) s1.length s1.length : Value).ownBlock = some g → g < w7.heap.size) := fun g hg => (World.ownsRow.lt ho g hg).2
  have Z9 : Hid (LS w [(w.heap.size, w.heap.size + 1, fun V : World => V.heap[w.heap.size]? = some BX0), (w2.heap.size, w3.heap.size, fun V : World => V.ownsRow w2.heap.size 72 2 (.slice (some ⟨ga0, 0, none⟩) s0.length s0.length) s0.length (s0.flatMap apC)), (w3.heap.size, w4.heap.size, fun V : World => V.ownsRow w3.heap.size 36 3 (.slice (some ⟨ga1, 0, none⟩) s1.length s1.length) s1.length (s1.flatMap teC)), (w4.heap.size, Ka, fun V : World => OwR V w4.heap.size (.slice vaa L.length vca) (.slice uaa ES.length uca) (.slice waa MS.length wca) L ES MS), (Ka, Ka + 1, fun V : World => V.heap[Ka]? = some (Obj.cells #[.int .i64 C, .int .i64 TA, .string TR, .int .i64 TS, .int .i64 TU, .int .i64 TL, .bool TQ, .slice vaa L.length vca, .slice uaa ES.length uca, .slice waa MS.length wca] 47)), (Va.heap.size, Kx0, fun V : World => V.ownsRow Va.heap.size 72 2 (.slice (some ⟨x0, 0, none⟩) s0.length s0.length) s0.length (s0.flatMap apC)), (Kx0, Kx0 + 1, fun V : World => V.heap[Kx0]? = some (Obj.cells #[.int .i64 ta_0, .string tr_0, .int .i64 ts_0, .int .i64 tu_0, .int .i64 tl_0, .bool tq_0, .slice (some ⟨x0, 0, none⟩) s0.length s0.length] 31)), (Vx0.heap.size, w7.heap.size, fun V : World => V.ownsRow Vx0.heap.size 36 3 (.slice (some ⟨x1, 0, none⟩) s1.length s1.length) s1.length (s1.flatMap teC))] w7) := Z8.out.push hb (Ow.rowAll ho hb) (Nat.le_refl _)
  clear Z8 hb ho
  have kvx0 := Z9.out.get 6 rfl
  have cvx0_0 : w7.cell? ⟨Kx0, 0, none⟩ = some (.int .i64 ta_0) := cellOf kvx0 0 rfl
  have cvx0_1 : w7.cell? ⟨Kx0, 1, none⟩ = some (.string tr_0) := cellOf kvx0 1 rfl
  have cvx0_2 : w7.cell? ⟨Kx0, 2, none⟩ = some (.int .i64 ts_0) := cellOf kvx0 2 rfl
  have cvx0_3 : w7.cell? ⟨Kx0, 3, none⟩ = some (.int .i64 tu_0) := cellOf kvx0 3 rfl
  have cvx0_4 : w7.cell? ⟨Kx0, 4, none⟩ = some (.int .i64 tl_0) := cellOf kvx0 4 rfl
  have cvx0_5 : w7.cell? ⟨Kx0, 5, none⟩ = some (.bool tq_0) := cellOf kvx0 5 rfl
  have cvx0_6 : w7.cell? ⟨Kx0, 6, none⟩ = some (.slice (some ⟨x0, 0, none⟩) s0.length s0.length) := cellOf kvx0 6 rfl
  have lvx0 : Kx0 < w7.heap.size := ltOf kvx0
  clear kvx0
  go_wp2_with (fail)
  clear cvx0_0 cvx0_1 cvx0_2 cvx0_3 cvx0_4 cvx0_5 cvx0_6 lvx0
  refine (HIM.out w7 x0 x1 (OG.rg (T := 72) (B := Va.heap.size) apC_len (show w7.ownsRow Va.heap.size 72 2 (.slice (some ⟨x0, 0, none⟩) s0.length s0.length) s0.length (s0.flatMap apC) from Z9.out.get 5 rfl)) (OG.rg (T := 36) (B := Vx0.heap.size) teC_len (show w7.ownsRow Vx0.heap.size 36 3 (.slice (some ⟨x1, 0, none⟩) s1.length s1.length) s1.length (s1.flatMap teC) from Z9.out.get 7 rfl))).mono ?_
  rintro e w8 ⟨vq, vr, rfl, hrq, hb⟩
  obtain ⟨vq1, vq2, vq3⟩ := vq
  obtain ⟨vag, vcg, he1⟩ := own_form9 hrq.t
  obtain ⟨uag, ucg, he2⟩ := own_form9 hrq.c
  obtain ⟨wag, wcg, he3⟩ := own_form9 hrq.r
  simp only at he1 he2 he3 hrq
  subst he1 he2 he3
  have HXg : Hid (LtR (.slice vag L.length vcg) (.slice uag ES.length ucg) (.slice wag MS.length wcg) w8.heap.size) := hrq.lt
  have Z10 : Hid (LS w [(w.heap.size, w.heap.size + 1, fun V : World => V.heap[w.heap.size]? = some BX0), (w2.heap.size, w3.heap.size, fun V : World => V.ownsRow w2.heap.size 72 2 (.slice (some ⟨ga0, 0, none⟩) s0.length s0.length) s0.length (s0.flatMap apC)), (w3.heap.size, w4.heap.size, fun V : World => V.ownsRow w3.heap.size 36 3 (.slice (some ⟨ga1, 0, none⟩) s1.length s1.length) s1.length (s1.flatMap teC)), (w4.heap.size, Ka, fun V : World => OwR V w4.heap.size (.slice vaa L.length vca) (.slice uaa ES.length uca) (.slice waa MS.length wca) L ES MS), (Ka, Ka + 1, fun V : World => V.heap[Ka]? = some (Obj.cells #[.int .i64 C, .int .i64 TA, .string TR, .int .i64 TS, .int .i64 TU, .int .i64 TL, .bool TQ, .slice vaa L.length vca, .slice uaa ES.length uca, .slice waa MS.length wca] 47)), (Va.heap.size, Kx0, fun V : World => V.ownsRow Va.heap.size 72 2 (.slice (some ⟨x0, 0, none⟩) s0.length s0.length) s0.length (s0.flatMap apC)), (Kx0, Kx0 + 1, fun V : World => V.heap[Kx0]? = some (Obj.cells #[.int .i64 ta_0, .string tr_0, .int .i64 ts_0, .int .i64 tu_0, .int .i64 tl_0, .bool tq_0, .slice (some ⟨x0, 0, none⟩) s0.length s0.length] 31)), (Vx0.heap.size, w7.heap.size, fun V : World => V.ownsRow Vx0.heap.size 36 3 (.slice (some ⟨x1, 0, none⟩) s1.length s1.length) s1.length (s1.flatMap teC)), (w7.heap.size, w8.heap.size, fun V : World => OwR V w7.heap.size (.slice vag L.length vcg) (.slice uag ES.length ucg) (.slice wag MS.length wcg) L ES MS)] w8) := Z9.out.push hb (Ow.rAllR hrq hb) (Nat.le_refl _)
  clear Z9 hb hrq
  have kva := Z10.out.get 4 rfl
  have cva_0 : w8.cell? ⟨Ka, 0, none⟩ = some (.int .i64 C) := cellOf kva 0 rfl
  have cva_1 : w8.cell? ⟨Ka, 1, none⟩ = some (.int .i64 TA) := cellOf kva 1 rfl
  have cva_2 : w8.cell? ⟨Ka, 2, none⟩ = some (.string TR) := cellOf kva 2 rfl
  have cva_3 : w8.cell? ⟨Ka, 3, none⟩ = some (.int .i64 TS) := cellOf kva 3 rfl
  have cva_4 : w8.cell? ⟨Ka, 4, none⟩ = some (.int .i64 TU) := cellOf kva 4 rfl
  have cva_5 : w8.cell? ⟨Ka, 5, none⟩ = some (.int .i64 TL) := cellOf kva 5 rfl
  have cva_6 : w8.cell? ⟨Ka, 6, none⟩ = some (.bool TQ) := cellOf kva 6 rfl
  have cva_7 : w8.cell? ⟨Ka, 7, none⟩ = some (.slice vaa L.length vca) := cellOf kva 7 rfl
  have cva_8 : w8.cell? ⟨Ka, 8, none⟩ = some (.slice uaa ES.length uca) := cellOf kva 8 rfl
  have cva_9 : w8.cell? ⟨Ka, 9, none⟩ = some (.slice waa MS.length wca) := cellOf kva 9 rfl
  have lva : Ka < w8.heap.size := ltOf kva
  clear kva
  have Z11 : Hid (LS w [(w.heap.size, w.heap.size + 1, fun V : World => V.heap[w.heap.size]? = some BX0), (w2.heap.size, w3.heap.size, fun V : World => V.ownsRow w2.heap.size 72 2 (.slice (some ⟨ga0, 0, none⟩) s0.length s0.length) s0.length (s0.flatMap apC)), (w3.heap.size, w4.heap.size, fun V : World => V.ownsRow w3.heap.size 36 3 (.slice (some ⟨ga1, 0, none⟩) s1.length s1.length) s1.length (s1.flatMap teC)), (w4.heap.size, Ka, fun V : World => OwR V w4.heap.size (.slice vaa L.length vca) (.slice uaa ES.length uca) (.slice waa MS.length wca) L ES MS), (Ka, Ka + 1, fun V : World => V.heap[Ka]? = some (Obj.cells #[.int .i64 C, .int .i64 TA, .string TR, .int .i64 TS, .int .i64 TU, .int .i64 TL, .bool TQ, .slice vaa L.length vca, .slice uaa ES.length uca, .slice waa MS.length wca] 47)), (Va.heap.size, Kx0, fun V : World => V.ownsRow Va.heap.size 72 2 (.slice (some ⟨x0, 0, none⟩) s0.length s0.length) s0.length (s0.flatMap apC)), (Kx0, Kx0 + 1, fun V : World => V.heap[Kx0]? = some (Obj.cells #[.int .i64 ta_0, .string tr_0, .int .i64 ts_0, .int .i64 tu_0, .int .i64 tl_0, .bool tq_0, .slice (some ⟨x0, 0, none⟩) s0.length s0.length] 31)), (Vx0.heap.size, w7.heap.size, fun V : World => V.ownsRow Vx0.heap.size 36 3 (.slice (some ⟨x1, 0, none⟩) s1.length s1.length) s1.length (s1.flatMap teC)), (w7.heap.size, w8.heap.size, fun V : World => OwR V w7.heap.size (.slice vag L.length vcg) (.slice uag ES.length ucg) (.slice wag MS.length wcg) L ES MS), (w8.heap.size, w8.heap.size + 1, fun V : World => V.heap[w8.heap.size]? = some (Obj.cells #[.int .i64 C, .int .i64 TA, .string TR, .int .i64 TS, .int .i64 TU, .int .i64 TL, .bool TQ, .slice vag L.length vcg, .slice uag ES.length ucg, .slice wag MS.length wcg] 47))] (w8.alloc (Obj.cells #[.int .i64 C, .int .i64 TA, .string TR, .int .i64 TS, .int .i64 TU, .int .i64 TL, .bool TQ, .slice vag L.length vcg, .slice uag ES.length ucg, .slice wag MS.length wcg] 47))) := Z10.out.push (by (repeat' (first | (with_reducible exact Below.refl _ _) | (with_reducible assumption) | (with_reducible refine Below.setCell ?_ ?_ _) | (with_reducible refine Below.alloc ?_ ?_ _) | (with_reducible refine below_drewN ?_ _) | (with_reducible refine Below.drew ?_) | (with_reducible exact Nat.le_refl _) | omega | (simp; done) | (simp; omega)))) (Ow.block (heap_alloc_new _ _)) (Nat.le_refl _)
  clear Z10
  go_wp2_with (fail)
  obtain ⟨Vg, hV⟩ : ∃ V, V = w8.alloc (Obj.cells #[.int .i64 C, .int .i64 TA, .string TR, .int .i64 TS, .int .i64 TU, .int .i64 TL, .bool TQ, .slice vag L.length vcg, .slice uag ES.length ucg, .slice wag MS.length wcg] 47) := ⟨_, rfl⟩
  rw [← hV] at Z11 ⊢
  obtain ⟨Kg, hK⟩ : ∃ K, K = w8.heap.size := ⟨_, rfl⟩
  rw [← hK] at Z11 HXg ⊢
  clear hV hK
  clear cva_0 cva_1 cva_2 cva_3 cva_4 cva_5 cva_6 cva_7 cva_8 cva_9 lva
  refine (eqToolLog_to C TA TR TS TU TL TQ HLN.out (OwR.rd (B := w7.heap.size) (show OwR Vg w7.heap.size (.slice vag L.length vcg) (.slice uag ES.length ucg) (.slice wag MS.length wcg) L ES MS from (Z11.out.get 8 rfl))) (OwR.rd (B := w4.heap.size) (show OwR Vg w4.heap.size (.slice vaa L.length vca) (.slice uaa ES.length uca) (.slice waa MS.length wca) L ES MS from (Z11.out.get 3 rfl)))).mono ?_
  rintro e w9 ⟨rfl, hb⟩
  have Z12 : Hid (LS w [(w.heap.size, w.heap.size + 1, fun V : World => V.heap[w.heap.size]? = some BX0), (w2.heap.size, w3.heap.size, fun V : World => V.ownsRow w2.heap.size 72 2 (.slice (some ⟨ga0, 0, none⟩) s0.length s0.length) s0.length (s0.flatMap apC)), (w3.heap.size, w4.heap.size, fun V : World => V.ownsRow w3.heap.size 36 3 (.slice (some ⟨ga1, 0, none⟩) s1.length s1.length) s1.length (s1.flatMap teC)), (w4.heap.size, Ka, fun V : World => OwR V w4.heap.size (.slice vaa L.length vca) (.slice uaa ES.length uca) (.slice waa MS.length wca) L ES MS), (Ka, Ka + 1, fun V : World => V.heap[Ka]? = some (Obj.cells #[.int .i64 C, .int .i64 TA, .string TR, .int .i64 TS, .int .i64 TU, .int .i64 TL, .bool TQ, .slice vaa L.length vca, .slice uaa ES.length uca, .slice waa MS.length wca] 47)), (Va.heap.size, Kx0, fun V : World => V.ownsRow Va.heap.size 72 2 (.slice (some ⟨x0, 0, none⟩) s0.length s0.length) s0.length (s0.flatMap apC)), (Kx0, Kx0 + 1, fun V : World => V.heap[Kx0]? = some (Obj.cells #[.int .i64 ta_0, .string tr_0, .int .i64 ts_0, .int .i64 tu_0, .int .i64 tl_0, .bool tq_0, .slice (some ⟨x0, 0, none⟩) s0.length s0.length] 31)), (Vx0.heap.size, w7.heap.size, fun V : World => V.ownsRow Vx0.heap.size 36 3 (.slice (some ⟨x1, 0, none⟩) s1.length s1.length) s1.length (s1.flatMap teC)), (w7.heap.size, Kg, fun V : World => OwR V w7.heap.size (.slice vag L.length vcg) (.slice uag ES.length ucg) (.slice wag MS.length wcg) L ES MS), (Kg, Kg + 1, fun V : World => V.heap[Kg]? = some (Obj.cells #[.int .i64 C, .int .i64 TA, .string TR, .int .i64 TS, .int .i64 TU, .int .i64 TL, .bool TQ, .slice vag L.length vcg, .slice uag ES.length ucg, .slice wag MS.length wcg] 47))] w9) := Z11.out.next hb
  clear Z11 hb
  have kvx0 := Z12.out.get 6 rfl
  have cvx0_0 : w9.cell? ⟨Kx0, 0, none⟩ = some (.int .i64 ta_0) := cellOf kvx0 0 rfl
  have cvx0_1 : w9.cell? ⟨Kx0, 1, none⟩ = some (.string tr_0) := cellOf kvx0 1 rfl
  have cvx0_2 : w9.cell? ⟨Kx0, 2, none⟩ = some (.int .i64 ts_0) := cellOf kvx0 2 rfl
  have cvx0_3 : w9.cell? ⟨Kx0, 3, none⟩ = some (.int .i64 tu_0) := cellOf kvx0 3 rfl
  have cvx0_4 : w9.cell? ⟨Kx0, 4, none⟩ = some (.int .i64 tl_0) := cellOf kvx0 4 rfl
  have cvx0_5 : w9.cell? ⟨Kx0, 5, none⟩ = some (.bool tq_0) := cellOf kvx0 5 rfl
  have cvx0_6 : w9.cell? ⟨Kx0, 6, none⟩ = some (.slice (some ⟨x0, 0, none⟩) s0.length s0.length) := cellOf kvx0 6 rfl
  have lvx0 : Kx0 < w9.heap.size := ltOf kvx0
  clear kvx0
  have kp0 := Z12.out.get 0 rfl
  rw [TB0.out] at kp0
  have cp0_0 : w9.cell? ⟨w.heap.size, 0, none⟩ = some (.int .i64 ta_0) := cellOf kp0 0 rfl
  have cp0_1 : w9.cell? ⟨w.heap.size, 1, none⟩ = some (.string tr_0) := cellOf kp0 1 rfl
  have cp0_2 : w9.cell? ⟨w.heap.size, 2, none⟩ = some (.int .i64 ts_0) := cellOf kp0 2 rfl
  have cp0_3 : w9.cell? ⟨w.heap.size, 3, none⟩ = some (.int .i64 tu_0) := cellOf kp0 3 rfl
  have cp0_4 : w9.cell? ⟨w.heap.size, 4, none⟩ = some (.int .i64 tl_0) := cellOf kp0 4 rfl
  have cp0_5 : w9.cell? ⟨w.heap.size, 5, none⟩ = some (.bool tq_0) := cellOf kp0 5 rfl
  have cp0_6 : w9.cell? ⟨w.heap.size, 6, none⟩ = some (.slice sa0 sn0 sc0) := cellOf kp0 6 rfl
  have lp0 : w.heap.size < w9.heap.size := ltOf kp0
  clear kp0
  go_wp2_with (fail)
  refine wp_region_float (by kernel_rfl) (fun hS => ?_)
  refine fl_take (i := 0) (d := 40) (v := .agg #[.int .i64 ta_0, .string tr_0, .int .i64 ts_0, .int .i64 tu_0, .int .i64 tl_0, .bool tq_0, .slice (some ⟨x0, 0, none⟩) s0.length s0.length]) rfl rfl rfl (by kernel_rfl) (by kernel_rfl) (by kernel_rfl) hS ?_ ?_
  · intro w' hk; go_simp
  simp only [Act.put, List.setIfInBounds_toArray, List.set_cons_zero, List.set_cons_succ]
  refine fl_take (i := 1) (d := 41) (v := .agg #[.int .i64 ta_0, .string tr_0, .int .i64 ts_0, .int .i64 tu_0, .int .i64 tl_0, .bool tq_0, .slice sa0 sn0 sc0]) rfl rfl rfl (by kernel_rfl) (by kernel_rfl) (by kernel_rfl) hS ?_ ?_
  · intro w' hk; go_simp
  simp only [Act.put, List.setIfInBounds_toArray, List.set_cons_zero, List.set_cons_succ]
  refine wpAnyH_all (rs := [2]) (by kernel_rfl) (by simp) ?_
  intro i hi
  obtain rfl : i = 2 := by simpa using hi
  refine op_call (d := 42) rfl rfl rfl (by go_simp) ((toTool_any ta_0 tr_0 ts_0 tu_0 tl_0 tq_0 (tl_len HL0.out) ((HR0.out.below Z12.out.bl).below (Below.refl _ _).drew)).mono ?_)
  rintro e ya0 ⟨gy0, rfl, hk5, hb5⟩
  have hK5 : KS w9 ya0 := hS.call hb5
  refine ⟨_, rfl, hK5, ?_⟩
  simp only [Act.put, List.setIfInBounds_toArray, List.set_cons_zero, List.set_cons_succ]
  refine wpAnyH_all (rs := [3]) (by kernel_rfl) (by simp) ?_
  intro i hi
  obtain rfl : i = 3 := by simpa using hi
  refine op_call (d := 43) rfl rfl rfl (by go_simp) ((eqTool_same ta_0 tr_0 ts_0 tu_0 tl_0 tq_0 (by have := tl_len HL0.out; omega) (RG.below (OG.rg (T := 72) (B := Va.heap.size) apC_len (show w9.ownsRow Va.heap.size 72 2 (.slice (some ⟨x0, 0, none⟩) s0.length s0.length) s0.length (s0.flatMap apC) from Z12.out.get 5 rfl)) hK5.2) ((OG.rg apC_len hk5))).mono ?_)
  rintro e yb0 ⟨rfl, hb6⟩
  have hK6 : KS w9 yb0 := hK5.call hb6
  refine ⟨_, rfl, hK6, ?_⟩
  simp only [Act.put, List.setIfInBounds_toArray, List.set_cons_zero, List.set_cons_succ]
  refine wpAnyH_all (rs := [4]) (by kernel_rfl) (by simp) ?_
  intro i hi
  obtain rfl : i = 4 := by simpa using hi
  refine op_val (d := 44) (v := .bool false) (w' := yb0) rfl rfl rfl (by go_simp; try rfl) ?_
  simp only [Act.put, List.setIfInBounds_toArray, List.set_cons_zero, List.set_cons_succ]
  refine ⟨hK6, wpAnyH_done (by kernel_rfl) (NoPanic.normal ?_) _⟩
  have Z13 : Hid (LS w [(w.heap.size, w.heap.size + 1, fun V : World => V.heap[w.heap.size]? = some BX0), (w2.heap.size, w3.heap.size, fun V : World => V.ownsRow w2.heap.size 72 2 (.slice (some ⟨ga0, 0, none⟩) s0.length s0.length) s0.length (s0.flatMap apC)), (w3.heap.size, w4.heap.size, fun V : World => V.ownsRow w3.heap.size 36 3 (.slice (some ⟨ga1, 0, none⟩) s1.length s1.length) s1.length (s1.flatMap teC)), (w4.heap.size, Ka, fun V : World => OwR V w4.heap.size (.slice vaa L.length vca) (.slice uaa ES.length uca) (.slice waa MS.length wca) L ES MS), (Ka, Ka + 1, fun V : World => V.heap[Ka]? = some (Obj.cells #[.int .i64 C, .int .i64 TA, .string TR, .int .i64 TS, .int .i64 TU, .int .i64 TL, .bool TQ, .slice vaa L.length vca, .slice uaa ES.length uca, .slice waa MS.length wca] 47)), (Va.heap.size, Kx0, fun V : World => V.ownsRow Va.heap.size 72 2 (.slice (some ⟨x0, 0, none⟩) s0.length s0.length) s0.length (s0.flatMap apC)), (Kx0, Kx0 + 1, fun V : World => V.heap[Kx0]? = some (Obj.cells #[.int .i64 ta_0, .string tr_0, .int .i64 ts_0, .int .i64 tu_0, .int .i64 tl_0, .bool tq_0, .slice (some ⟨x0, 0, none⟩) s0.length s0.length] 31)), (Vx0.heap.size, w7.heap.size, fun V : World => V.ownsRow Vx0.heap.size 36 3 (.slice (some ⟨x1, 0, none⟩) s1.length s1.length) s1.length (s1.flatMap teC)), (w7.heap.size, Kg, fun V : World => OwR V w7.heap.size (.slice vag L.length vcg) (.slice uag ES.length ucg) (.slice wag MS.length wcg) L ES MS), (Kg, Kg + 1, fun V : World => V.heap[Kg]? = some (Obj.cells #[.int .i64 C, .int .i64 TA, .string TR, .int .i64 TS, .int .i64 TU, .int .i64 TL, .bool TQ, .slice vag L.length vcg, .slice uag ES.length ucg, .slice wag MS.length wcg] 47))] yb0) := Z12.out.next hK6.2
  clear Z12 hK6 hK5 hb6 hb5 hk5 hS cvx0_0 cvx0_1 cvx0_2 cvx0_3 cvx0_4 cvx0_5 cvx0_6 lvx0 cp0_0 cp0_1 cp0_2 cp0_3 cp0_4 cp0_5 cp0_6 lp0
  go_wp2_with (fail)
  refine (toToolEventS_any HL1.out (HR1.out.below Z13.out.bl)).mono ?_
  rintro e w10 ⟨e1, rfl, ho, hb⟩
  have Z14 : Hid (LS w [(w.heap.size, w.heap.size + 1, fun V : World => V.heap[w.heap.size]? = some BX0), (w2.heap.size, w3.heap.size, fun V : World => V.ownsRow w2.heap.size 72 2 (.slice (some ⟨ga0, 0, none⟩) s0.length s0.length) s0.length (s0.flatMap apC)), (w3.heap.size, w4.heap.size, fun V : World => V.ownsRow w3.heap.size 36 3 (.slice (some ⟨ga1, 0, none⟩) s1.length s1.length) s1.length (s1.flatMap teC)), (w4.heap.size, Ka, fun V : World => OwR V w4.heap.size (.slice vaa L.length vca) (.slice uaa ES.length uca) (.slice waa MS.length wca) L ES MS), (Ka, Ka + 1, fun V : World => V.heap[Ka]? = some (Obj.cells #[.int .i64 C, .int .i64 TA, .string TR, .int .i64 TS, .int .i64 TU, .int .i64 TL, .bool TQ, .slice vaa L.length vca, .slice uaa ES.length uca, .slice waa MS.length wca] 47)), (Va.heap.size, Kx0, fun V : World => V.ownsRow Va.heap.size 72 2 (.slice (some ⟨x0, 0, none⟩) s0.length s0.length) s0.length (s0.flatMap apC)), (Kx0, Kx0 + 1, fun V : World => V.heap[Kx0]? = some (Obj.cells #[.int .i64 ta_0, .string tr_0, .int .i64 ts_0, .int .i64 tu_0, .int .i64 tl_0, .bool tq_0, .slice (some ⟨x0, 0, none⟩) s0.length s0.length] 31)), (Vx0.heap.size, w7.heap.size, fun V : World => V.ownsRow Vx0.heap.size 36 3 (.slice (some ⟨x1, 0, none⟩) s1.length s1.length) s1.length (s1.flatMap teC)), (w7.heap.size, Kg, fun V : World => OwR V w7.heap.size (.slice vag L.length vcg) (.slice uag ES.length ucg) (.slice wag MS.length wcg) L ES MS), (Kg, Kg + 1, fun V : World => V.heap[Kg]? = some (Obj.cells #[.int .i64 C, .int .i64 TA, .string TR, .int .i64 TS, .int .i64 TU, .int .i64 TL, .bool TQ, .slice vag L.length vcg, .slice uag ES.length ucg, .slice wag MS.length wcg] 47)), (yb0.heap.size, w10.heap.size, fun V : World => V.ownsRow yb0.heap.size 36 3 (.slice (some ⟨e1, 0, none⟩) s1.length s1.length) s1.length (s1.flatMap teC))] w10) := Z13.out.push hb (Ow.rowAll ho hb) (Nat.le_refl _)
  clear Z13 hb ho
  go_wp2_with (fail)
  refine (eqToolEventS_same (by have := HL1.out; omega) (OG.rg (T := 36) (B := Vx0.heap.size) teC_len (show w10.ownsRow Vx0.heap.size 36 3 (.slice (some ⟨x1, 0, none⟩) s1.length s1.length) s1.length (s1.flatMap teC) from Z14.out.get 7 rfl)) (OG.rg (T := 36) (B := yb0.heap.size) teC_len (show w10.ownsRow yb0.heap.size 36 3 (.slice (some ⟨e1, 0, none⟩) s1.length s1.length) s1.length (s1.flatMap teC) from Z14.out.get 10 rfl))).mono ?_
  rintro e w11 ⟨rfl, hb⟩
  have Z15 : Hid (LS w [(w.heap.size, w.heap.size + 1, fun V : World => V.heap[w.heap.size]? = some BX0), (w2.heap.size, w3.heap.size, fun V : World => V.ownsRow w2.heap.size 72 2 (.slice (some ⟨ga0, 0, none⟩) s0.length s0.length) s0.length (s0.flatMap apC)), (w3.heap.size, w4.heap.size, fun V : World => V.ownsRow w3.heap.size 36 3 (.slice (some ⟨ga1, 0, none⟩) s1.length s1.length) s1.length (s1.flatMap teC)), (w4.heap.size, Ka, fun V : World => OwR V w4.heap.size (.slice vaa L.length vca) (.slice uaa ES.length uca) (.slice waa MS.length wca) L ES MS), (Ka, Ka + 1, fun V : World => V.heap[Ka]? = some (Obj.cells #[.int .i64 C, .int .i64 TA, .string TR, .int .i64 TS, .int .i64 TU, .int .i64 TL, .bool TQ, .slice vaa L.length vca, .slice uaa ES.length uca, .slice waa MS.length wca] 47)), (Va.heap.size, Kx0, fun V : World => V.ownsRow Va.heap.size 72 2 (.slice (some ⟨x0, 0, none⟩) s0.length s0.length) s0.length (s0.flatMap apC)), (Kx0, Kx0 + 1, fun V : World => V.heap[Kx0]? = some (Obj.cells #[.int .i64 ta_0, .string tr_0, .int .i64 ts_0, .int .i64 tu_0, .int .i64 tl_0, .bool tq_0, .slice (some ⟨x0, 0, none⟩) s0.length s0.length] 31)), (Vx0.heap.size, w7.heap.size, fun V : World => V.ownsRow Vx0.heap.size 36 3 (.slice (some ⟨x1, 0, none⟩) s1.length s1.length) s1.length (s1.flatMap teC)), (w7.heap.size, Kg, fun V : World => OwR V w7.heap.size (.slice vag L.length vcg) (.slice uag ES.length ucg) (.slice wag MS.length wcg) L ES MS), (Kg, Kg + 1, fun V : World => V.heap[Kg]? = some (Obj.cells #[.int .i64 C, .int .i64 TA, .string TR, .int .i64 TS, .int .i64 TU, .int .i64 TL, .bool TQ, .slice vag L.length vcg, .slice uag ES.length ucg, .slice wag MS.length wcg] 47)), (yb0.heap.size, w10.heap.size, fun V : World => V.ownsRow yb0.heap.size 36 3 (.slice (some ⟨e1, 0, none⟩) s1.length s1.length) s1.length (s1.flatMap teC))] w11) := Z14.out.next hb
  clear Z14 hb
  have kvx0 := Z15.out.get 6 rfl
  have cvx0_0 : w11.cell? ⟨Kx0, 0, none⟩ = some (.int .i64 ta_0) := cellOf kvx0 0 rfl
  have cvx0_1 : w11.cell? ⟨Kx0, 1, none⟩ = some (.string tr_0) := cellOf kvx0 1 rfl
  have cvx0_2 : w11.cell? ⟨Kx0, 2, none⟩ = some (.int .i64 ts_0) := cellOf kvx0 2 rfl
  have cvx0_3 : w11.cell? ⟨Kx0, 3, none⟩ = some (.int .i64 tu_0) := cellOf kvx0 3 rfl
  have cvx0_4 : w11.cell? ⟨Kx0, 4, none⟩ = some (.int .i64 tl_0) := cellOf kvx0 4 rfl
  have cvx0_5 : w11.cell? ⟨Kx0, 5, none⟩ = some (.bool tq_0) := cellOf kvx0 5 rfl
  have cvx0_6 : w11.cell? ⟨Kx0, 6, none⟩ = some (.slice (some ⟨x0, 0, none⟩) s0.length s0.length) := cellOf kvx0 6 rfl
  have lvx0 : Kx0 < w11.heap.size := ltOf kvx0
  clear kvx0
  go_wp2_with (fail)
  clear cvx0_0 cvx0_1 cvx0_2 cvx0_3 cvx0_4 cvx0_5 cvx0_6 lvx0
  refine (markTool_to ta_0 tr_0 ts_0 tu_0 tl_0 tq_0 1 (tl_len HL0.out) (by omega) (by omega) (show w11.ownsRow Va.heap.size 72 2 (.slice (some ⟨x0, 0, none⟩) s0.length s0.length) s0.length (s0.flatMap apC) from Z15.out.get 5 rfl) (HX0.out)).mono ?_
  rintro e w12 ⟨rfl, hm, hc⟩
  have Z16 : Hid (LS w [(w.heap.size, w.heap.size + 1, fun V : World => V.heap[w.heap.size]? = some BX0), (w2.heap.size, w3.heap.size, fun V : World => V.ownsRow w2.heap.size 72 2 (.slice (some ⟨ga0, 0, none⟩) s0.length s0.length) s0.length (s0.flatMap apC)), (w3.heap.size, w4.heap.size, fun V : World => V.ownsRow w3.heap.size 36 3 (.slice (some ⟨ga1, 0, none⟩) s1.length s1.length) s1.length (s1.flatMap teC)), (w4.heap.size, Ka, fun V : World => OwR V w4.heap.size (.slice vaa L.length vca) (.slice uaa ES.length uca) (.slice waa MS.length wca) L ES MS), (Ka, Ka + 1, fun V : World => V.heap[Ka]? = some (Obj.cells #[.int .i64 C, .int .i64 TA, .string TR, .int .i64 TS, .int .i64 TU, .int .i64 TL, .bool TQ, .slice vaa L.length vca, .slice uaa ES.length uca, .slice waa MS.length wca] 47)), (Va.heap.size, Kx0, fun V : World => True), (Kx0, Kx0 + 1, fun V : World => V.heap[Kx0]? = some (Obj.cells #[.int .i64 ta_0, .string tr_0, .int .i64 ts_0, .int .i64 tu_0, .int .i64 tl_0, .bool tq_0, .slice (some ⟨x0, 0, none⟩) s0.length s0.length] 31)), (Vx0.heap.size, w7.heap.size, fun V : World => V.ownsRow Vx0.heap.size 36 3 (.slice (some ⟨x1, 0, none⟩) s1.length s1.length) s1.length (s1.flatMap teC)), (w7.heap.size, Kg, fun V : World => OwR V w7.heap.size (.slice vag L.length vcg) (.slice uag ES.length ucg) (.slice wag MS.length wcg) L ES MS), (Kg, Kg + 1, fun V : World => V.heap[Kg]? = some (Obj.cells #[.int .i64 C, .int .i64 TA, .string TR, .int .i64 TS, .int .i64 TU, .int .i64 TL, .bool TQ, .slice vag L.length vcg, .slice uag ES.length ucg, .slice wag MS.length wcg] 47)), (yb0.heap.size, w10.heap.size, fun V : World => V.ownsRow yb0.heap.size 36 3 (.slice (some ⟨e1, 0, none⟩) s1.length s1.length) s1.length (s1.flatMap teC))] w12) := Z15.out.put 5 rfl hc ((Z15.out.own 5 rfl).true hc.size)
  clear Z15 hm hc
  obtain ⟨N0, hN⟩ : ∃ N, N = 1 + 2 * (s0.length : Int) := ⟨_, rfl⟩
  rw [← hN]
  have hN0 : 0 ≤ N0 ∧ N0 ≤ 10000000 ∧ ¬ N0 < 0 := by have := (tl_len HL0.out); omega
  have hN0a := hN0.2.2
  clear hN
  go_wp2_with (fail)
  refine (markToolEventS_to N0 HL1.out hN0.1 (by omega) (show w12.ownsRow Vx0.heap.size 36 3 (.slice (some ⟨x1, 0, none⟩) s1.length s1.length) s1.length (s1.flatMap teC) from Z16.out.get 7 rfl) (HX1.out)).mono ?_
  rintro e w13 ⟨rfl, hm, hc⟩
  have Z17 : Hid (LS w [(w.heap.size, w.heap.size + 1, fun V : World => V.heap[w.heap.size]? = some BX0), (w2.heap.size, w3.heap.size, fun V : World => V.ownsRow w2.heap.size 72 2 (.slice (some ⟨ga0, 0, none⟩) s0.length s0.length) s0.length (s0.flatMap apC)), (w3.heap.size, w4.heap.size, fun V : World => V.ownsRow w3.heap.size 36 3 (.slice (some ⟨ga1, 0, none⟩) s1.length s1.length) s1.length (s1.flatMap teC)), (w4.heap.size, Ka, fun V : World => OwR V w4.heap.size (.slice vaa L.length vca) (.slice uaa ES.length uca) (.slice waa MS.length wca) L ES MS), (Ka, Ka + 1, fun V : World => V.heap[Ka]? = some (Obj.cells #[.int .i64 C, .int .i64 TA, .string TR, .int .i64 TS, .int .i64 TU, .int .i64 TL, .bool TQ, .slice vaa L.length vca, .slice uaa ES.length uca, .slice waa MS.length wca] 47)), (Va.heap.size, Kx0, fun V : World => True), (Kx0, Kx0 + 1, fun V : World => V.heap[Kx0]? = some (Obj.cells #[.int .i64 ta_0, .string tr_0, .int .i64 ts_0, .int .i64 tu_0, .int .i64 tl_0, .bool tq_0, .slice (some ⟨x0, 0, none⟩) s0.length s0.length] 31)), (Vx0.heap.size, w7.heap.size, fun V : World => True), (w7.heap.size, Kg, fun V : World => OwR V w7.heap.size (.slice vag L.length vcg) (.slice uag ES.length ucg) (.slice wag MS.length wcg) L ES MS), (Kg, Kg + 1, fun V : World => V.heap[Kg]? = some (Obj.cells #[.int .i64 C, .int .i64 TA, .string TR, .int .i64 TS, .int .i64 TU, .int .i64 TL, .bool TQ, .slice vag L.length vcg, .slice uag ES.length ucg, .slice wag MS.length wcg] 47)), (yb0.heap.size, w10.heap.size, fun V : World => V.ownsRow yb0.heap.size 36 3 (.slice (some ⟨e1, 0, none⟩) s1.length s1.length) s1.length (s1.flatMap teC))] w13) := Z16.out.put 7 rfl hc ((Z16.out.own 7 rfl).true hc.size)
  clear Z16 hm hc
  obtain ⟨N1, hN⟩ : ∃ N, N = N0 + 3 * (s1.length : Int) := ⟨_, rfl⟩
  rw [← hN]
  have hN1 : 0 ≤ N1 ∧ N1 ≤ 20000000 ∧ ¬ N1 < 0 := by have := HL1.out; omega
  have hN1a := hN1.2.2
  clear hN
  have kvg := Z17.out.get 9 rfl
  have cvg_0 : w13.cell? ⟨Kg, 0, none⟩ = some (.int .i64 C) := cellOf kvg 0 rfl
  have cvg_1 : w13.cell? ⟨Kg, 1, none⟩ = some (.int .i64 TA) := cellOf kvg 1 rfl
  have cvg_2 : w13.cell? ⟨Kg, 2, none⟩ = some (.string TR) := cellOf kvg 2 rfl
  have cvg_3 : w13.cell? ⟨Kg, 3, none⟩ = some (.int .i64 TS) := cellOf kvg 3 rfl
  have cvg_4 : w13.cell? ⟨Kg, 4, none⟩ = some (.int .i64 TU) := cellOf kvg 4 rfl
  have cvg_5 : w13.cell? ⟨Kg, 5, none⟩ = some (.int .i64 TL) := cellOf kvg 5 rfl
  have cvg_6 : w13.cell? ⟨Kg, 6, none⟩ = some (.bool TQ) := cellOf kvg 6 rfl
  have cvg_7 : w13.cell? ⟨Kg, 7, none⟩ = some (.slice vag L.length vcg) := cellOf kvg 7 rfl
  have cvg_8 : w13.cell? ⟨Kg, 8, none⟩ = some (.slice uag ES.length ucg) := cellOf kvg 8 rfl
  have cvg_9 : w13.cell? ⟨Kg, 9, none⟩ = some (.slice wag MS.length wcg) := cellOf kvg 9 rfl
  have lvg : Kg < w13.heap.size := ltOf kvg
  clear kvg
  have kva := Z17.out.get 4 rfl
  have cva_0 : w13.cell? ⟨Ka, 0, none⟩ = some (.int .i64 C) := cellOf kva 0 rfl
  have cva_1 : w13.cell? ⟨Ka, 1, none⟩ = some (.int .i64 TA) := cellOf kva 1 rfl
  have cva_2 : w13.cell? ⟨Ka, 2, none⟩ = some (.string TR) := cellOf kva 2 rfl
  have cva_3 : w13.cell? ⟨Ka, 3, none⟩ = some (.int .i64 TS) := cellOf kva 3 rfl
  have cva_4 : w13.cell? ⟨Ka, 4, none⟩ = some (.int .i64 TU) := cellOf kva 4 rfl
  have cva_5 : w13.cell? ⟨Ka, 5, none⟩ = some (.int .i64 TL) := cellOf kva 5 rfl
  have cva_6 : w13.cell? ⟨Ka, 6, none⟩ = some (.bool TQ) := cellOf kva 6 rfl
  have cva_7 : w13.cell? ⟨Ka, 7, none⟩ = some (.slice vaa L.length vca) := cellOf kva 7 rfl
  have cva_8 : w13.cell? ⟨Ka, 8, none⟩ = some (.slice uaa ES.length uca) := cellOf kva 8 rfl
  have cva_9 : w13.cell? ⟨Ka, 9, none⟩ = some (.slice waa MS.length wca) := cellOf kva 9 rfl
  have lva : Ka < w13.heap.size := ltOf kva
  clear kva
  go_wp2_with (fail)
  clear cvg_0 cvg_1 cvg_2 cvg_3 cvg_4 cvg_5 cvg_6 cvg_7 cvg_8 cvg_9 lvg cva_0 cva_1 cva_2 cva_3 cva_4 cva_5 cva_6 cva_7 cva_8 cva_9 lva
  refine (eqToolLog_to C TA TR TS TU TL TQ HLN.out (OwR.rd (B := w7.heap.size) (show OwR w13 w7.heap.size (.slice vag L.length vcg) (.slice uag ES.length ucg) (.slice wag MS.length wcg) L ES MS from (Z17.out.get 8 rfl))) (OwR.rd (B := w4.heap.size) (show OwR w13 w4.heap.size (.slice vaa L.length vca) (.slice uaa ES.length uca) (.slice waa MS.length wca) L ES MS from (Z17.out.get 3 rfl)))).mono ?_
  rintro e w14 ⟨rfl, hb⟩
  have Z18 : Hid (LS w [(w.heap.size, w.heap.size + 1, fun V : World => V.heap[w.heap.size]? = some BX0), (w2.heap.size, w3.heap.size, fun V : World => V.ownsRow w2.heap.size 72 2 (.slice (some ⟨ga0, 0, none⟩) s0.length s0.length) s0.length (s0.flatMap apC)), (w3.heap.size, w4.heap.size, fun V : World => V.ownsRow w3.heap.size 36 3 (.slice (some ⟨ga1, 0, none⟩) s1.length s1.length) s1.length (s1.flatMap teC)), (w4.heap.size, Ka, fun V : World => OwR V w4.heap.size (.slice vaa L.length vca) (.slice uaa ES.length uca) (.slice waa MS.length wca) L ES MS), (Ka, Ka + 1, fun V : World => V.heap[Ka]? = some (Obj.cells #[.int .i64 C, .int .i64 TA, .string TR, .int .i64 TS, .int .i64 TU, .int .i64 TL, .bool TQ, .slice vaa L.length vca, .slice uaa ES.length uca, .slice waa MS.length wca] 47)), (Va.heap.size, Kx0, fun V : World => True), (Kx0, Kx0 + 1, fun V : World => V.heap[Kx0]? = some (Obj.cells #[.int .i64 ta_0, .string tr_0, .int .i64 ts_0, .int .i64 tu_0, .int .i64 tl_0, .bool tq_0, .slice (some ⟨x0, 0, none⟩) s0.length s0.length] 31)), (Vx0.heap.size, w7.heap.size, fun V : World => True), (w7.heap.size, Kg, fun V : World => OwR V w7.heap.size (.slice vag L.length vcg) (.slice uag ES.length ucg) (.slice wag MS.length wcg) L ES MS), (Kg, Kg + 1, fun V : World => V.heap[Kg]? = some (Obj.cells #[.int .i64 C, .int .i64 TA, .string TR, .int .i64 TS, .int .i64 TU, .int .i64 TL, .bool TQ, .slice vag L.length vcg, .slice uag ES.length ucg, .slice wag MS.length wcg] 47)), (yb0.heap.size, w10.heap.size, fun V : World => V.ownsRow yb0.heap.size 36 3 (.slice (some ⟨e1, 0, none⟩) s1.length s1.length) s1.length (s1.flatMap teC))] w14) := Z17.out.next hb
  clear Z17 hb
  have kvg := Z18.out.get 9 rfl
  have cvg_0 : w14.cell? ⟨Kg, 0, none⟩ = some (.int .i64 C) := cellOf kvg 0 rfl
  have cvg_1 : w14.cell? ⟨Kg, 1, none⟩ = some (.int .i64 TA) := cellOf kvg 1 rfl
  have cvg_2 : w14.cell? ⟨Kg, 2, none⟩ = some (.string TR) := cellOf kvg 2 rfl
  have cvg_3 : w14.cell? ⟨Kg, 3, none⟩ = some (.int .i64 TS) := cellOf kvg 3 rfl
  have cvg_4 : w14.cell? ⟨Kg, 4, none⟩ = some (.int .i64 TU) := cellOf kvg 4 rfl
  have cvg_5 : w14.cell? ⟨Kg, 5, none⟩ = some (.int .i64 TL) := cellOf kvg 5 rfl
  have cvg_6 : w14.cell? ⟨Kg, 6, none⟩ = some (.bool TQ) := cellOf kvg 6 rfl
  have cvg_7 : w14.cell? ⟨Kg, 7, none⟩ = some (.slice vag L.length vcg) := cellOf kvg 7 rfl
  have cvg_8 : w14.cell? ⟨Kg, 8, none⟩ = some (.slice uag ES.length ucg) := cellOf kvg 8 rfl
  have cvg_9 : w14.cell? ⟨Kg, 9, none⟩ = some (.slice wag MS.length wcg) := cellOf kvg 9 rfl
  have lvg : Kg < w14.heap.size := ltOf kvg
  clear kvg
  go_wp2_with (fail)
  clear cvg_0 cvg_1 cvg_2 cvg_3 cvg_4 cvg_5 cvg_6 cvg_7 cvg_8 cvg_9 lvg
  refine (markToolLog_to C TA TR TS TU TL TQ HLN.out (show OwR w14 w7.heap.size (.slice vag L.length vcg) (.slice uag ES.length ucg) (.slice wag MS.length wcg) L ES MS from (Z18.out.get 8 rfl)) HXg.out).mono ?_
  rintro e w15 ⟨rfl, hm, hc⟩
  have Z19 : Hid (LS w [(w.heap.size, w.heap.size + 1, fun V : World => V.heap[w.heap.size]? = some BX0), (w2.heap.size, w3.heap.size, fun V : World => V.ownsRow w2.heap.size 72 2 (.slice (some ⟨ga0, 0, none⟩) s0.length s0.length) s0.length (s0.flatMap apC)), (w3.heap.size, w4.heap.size, fun V : World => V.ownsRow w3.heap.size 36 3 (.slice (some ⟨ga1, 0, none⟩) s1.length s1.length) s1.length (s1.flatMap teC)), (w4.heap.size, Ka, fun V : World => OwR V w4.heap.size (.slice vaa L.length vca) (.slice uaa ES.length uca) (.slice waa MS.length wca) L ES MS), (Ka, Ka + 1, fun V : World => V.heap[Ka]? = some (Obj.cells #[.int .i64 C, .int .i64 TA, .string TR, .int .i64 TS, .int .i64 TU, .int .i64 TL, .bool TQ, .slice vaa L.length vca, .slice uaa ES.length uca, .slice waa MS.length wca] 47)), (Va.heap.size, Kx0, fun V : World => True), (Kx0, Kx0 + 1, fun V : World => V.heap[Kx0]? = some (Obj.cells #[.int .i64 ta_0, .string tr_0, .int .i64 ts_0, .int .i64 tu_0, .int .i64 tl_0, .bool tq_0, .slice (some ⟨x0, 0, none⟩) s0.length s0.length] 31)), (Vx0.heap.size, w7.heap.size, fun V : World => True), (w7.heap.size, Kg, fun V : World => MkR V w7.heap.size (.slice vag L.length vcg) (.slice uag ES.length ucg) (.slice wag MS.length wcg) L.length ES.length MS.length), (Kg, Kg + 1, fun V : World => V.heap[Kg]? = some (Obj.cells #[.int .i64 C, .int .i64 TA, .string TR, .int .i64 TS, .int .i64 TU, .int .i64 TL, .bool TQ, .slice vag L.length vcg, .slice uag ES.length ucg, .slice wag MS.length wcg] 47)), (yb0.heap.size, w10.heap.size, fun V : World => V.ownsRow yb0.heap.size 36 3 (.slice (some ⟨e1, 0, none⟩) s1.length s1.length) s1.length (s1.flatMap teC))] w15) := Z18.out.put 8 rfl hc (Ow.mR hm (Z18.out.own 8 rfl).le.1 (Nat.le_trans (Z18.out.own 8 rfl).le.2 hc.size) HXg.out)
  clear Z18 hm hc
  obtain ⟨TT, hTT⟩ : ∃ TT, TT = 1 + 2 * (L.length : Int) + (ES.length : Int) + 2 * (MS.length : Int) := ⟨_, rfl⟩
  have hT0 : ¬ TT < 0 := by omega
  have HTT : Hid (TT = 1 + 2 * (L.length : Int) + (ES.length : Int) + 2 * (MS.length : Int)) := hTT
  rw [← hTT]
  clear hTT
  have kvg := Z19.out.get 9 rfl
  have cvg_0 : w15.cell? ⟨Kg, 0, none⟩ = some (.int .i64 C) := cellOf kvg 0 rfl
  have cvg_1 : w15.cell? ⟨Kg, 1, none⟩ = some (.int .i64 TA) := cellOf kvg 1 rfl
  have cvg_2 : w15.cell? ⟨Kg, 2, none⟩ = some (.string TR) := cellOf kvg 2 rfl
  have cvg_3 : w15.cell? ⟨Kg, 3, none⟩ = some (.int .i64 TS) := cellOf kvg 3 rfl
  have cvg_4 : w15.cell? ⟨Kg, 4, none⟩ = some (.int .i64 TU) := cellOf kvg 4 rfl
  have cvg_5 : w15.cell? ⟨Kg, 5, none⟩ = some (.int .i64 TL) := cellOf kvg 5 rfl
  have cvg_6 : w15.cell? ⟨Kg, 6, none⟩ = some (.bool TQ) := cellOf kvg 6 rfl
  have cvg_7 : w15.cell? ⟨Kg, 7, none⟩ = some (.slice vag L.length vcg) := cellOf kvg 7 rfl
  have cvg_8 : w15.cell? ⟨Kg, 8, none⟩ = some (.slice uag ES.length ucg) := cellOf kvg 8 rfl
  have cvg_9 : w15.cell? ⟨Kg, 9, none⟩ = some (.slice wag MS.length wcg) := cellOf kvg 9 rfl
  have lvg : Kg < w15.heap.size := ltOf kvg
  clear kvg
  go_wp2_with (fail)
  clear cvg_0 cvg_1 cvg_2 cvg_3 cvg_4 cvg_5 cvg_6 cvg_7 cvg_8 cvg_9 lvg
  refine (heldToolLog_to C TA TR TS TU TL TQ HLN.out (show MkR w15 w7.heap.size (.slice vag L.length vcg) (.slice uag ES.length ucg) (.slice wag MS.length wcg) L.length ES.length MS.length from Z19.out.get 8 rfl)).mono ?_
  rintro e w16 ⟨rfl, hb⟩
  have Z20 : Hid (LS w [(w.heap.size, w.heap.size + 1, fun V : World => V.heap[w.heap.size]? = some BX0), (w2.heap.size, w3.heap.size, fun V : World => V.ownsRow w2.heap.size 72 2 (.slice (some ⟨ga0, 0, none⟩) s0.length s0.length) s0.length (s0.flatMap apC)), (w3.heap.size, w4.heap.size, fun V : World => V.ownsRow w3.heap.size 36 3 (.slice (some ⟨ga1, 0, none⟩) s1.length s1.length) s1.length (s1.flatMap teC)), (w4.heap.size, Ka, fun V : World => OwR V w4.heap.size (.slice vaa L.length vca) (.slice uaa ES.length uca) (.slice waa MS.length wca) L ES MS), (Ka, Ka + 1, fun V : World => V.heap[Ka]? = some (Obj.cells #[.int .i64 C, .int .i64 TA, .string TR, .int .i64 TS, .int .i64 TU, .int .i64 TL, .bool TQ, .slice vaa L.length vca, .slice uaa ES.length uca, .slice waa MS.length wca] 47)), (Va.heap.size, Kx0, fun V : World => True), (Kx0, Kx0 + 1, fun V : World => V.heap[Kx0]? = some (Obj.cells #[.int .i64 ta_0, .string tr_0, .int .i64 ts_0, .int .i64 tu_0, .int .i64 tl_0, .bool tq_0, .slice (some ⟨x0, 0, none⟩) s0.length s0.length] 31)), (Vx0.heap.size, w7.heap.size, fun V : World => True), (w7.heap.size, Kg, fun V : World => MkR V w7.heap.size (.slice vag L.length vcg) (.slice uag ES.length ucg) (.slice wag MS.length wcg) L.length ES.length MS.length), (Kg, Kg + 1, fun V : World => V.heap[Kg]? = some (Obj.cells #[.int .i64 C, .int .i64 TA, .string TR, .int .i64 TS, .int .i64 TU, .int .i64 TL, .bool TQ, .slice vag L.length vcg, .slice uag ES.length ucg, .slice wag MS.length wcg] 47)), (yb0.heap.size, w10.heap.size, fun V : World => V.ownsRow yb0.heap.size 36 3 (.slice (some ⟨e1, 0, none⟩) s1.length s1.length) s1.length (s1.flatMap teC))] w16) := Z19.out.next hb
  clear Z19 hb
  rw [← HTT.out]
  have kp0 := Z20.out.get 0 rfl
  rw [TB0.out] at kp0
  have cp0_0 : w16.cell? ⟨w.heap.size, 0, none⟩ = some (.int .i64 ta_0) := cellOf kp0 0 rfl
  have cp0_1 : w16.cell? ⟨w.heap.size, 1, none⟩ = some (.string tr_0) := cellOf kp0 1 rfl
  have cp0_2 : w16.cell? ⟨w.heap.size, 2, none⟩ = some (.int .i64 ts_0) := cellOf kp0 2 rfl
  have cp0_3 : w16.cell? ⟨w.heap.size, 3, none⟩ = some (.int .i64 tu_0) := cellOf kp0 3 rfl
  have cp0_4 : w16.cell? ⟨w.heap.size, 4, none⟩ = some (.int .i64 tl_0) := cellOf kp0 4 rfl
  have cp0_5 : w16.cell? ⟨w.heap.size, 5, none⟩ = some (.bool tq_0) := cellOf kp0 5 rfl
  have cp0_6 : w16.cell? ⟨w.heap.size, 6, none⟩ = some (.slice sa0 sn0 sc0) := cellOf kp0 6 rfl
  have lp0 : w.heap.size < w16.heap.size := ltOf kp0
  clear kp0
  go_wp2_with (fail)
  clear cp0_0 cp0_1 cp0_2 cp0_3 cp0_4 cp0_5 cp0_6 lp0
  refine (toTool_any ta_0 tr_0 ts_0 tu_0 tl_0 tq_0 (tl_len HL0.out) (HR0.out.below Z20.out.bl)).mono ?_
  rintro e w17 ⟨gh0, rfl, ho, hb⟩
  have Z21 : Hid (LS w [(w.heap.size, w.heap.size + 1, fun V : World => V.heap[w.heap.size]? = some BX0), (w2.heap.size, w3.heap.size, fun V : World => V.ownsRow w2.heap.size 72 2 (.slice (some ⟨ga0, 0, none⟩) s0.length s0.length) s0.length (s0.flatMap apC)), (w3.heap.size, w4.heap.size, fun V : World => V.ownsRow w3.heap.size 36 3 (.slice (some ⟨ga1, 0, none⟩) s1.length s1.length) s1.length (s1.flatMap teC)), (w4.heap.size, Ka, fun V : World => OwR V w4.heap.size (.slice vaa L.length vca) (.slice uaa ES.length uca) (.slice waa MS.length wca) L ES MS), (Ka, Ka + 1, fun V : World => V.heap[Ka]? = some (Obj.cells #[.int .i64 C, .int .i64 TA, .string TR, .int .i64 TS, .int .i64 TU, .int .i64 TL, .bool TQ, .slice vaa L.length vca, .slice uaa ES.length uca, .slice waa MS.length wca] 47)), (Va.heap.size, Kx0, fun V : World => True), (Kx0, Kx0 + 1, fun V : World => V.heap[Kx0]? = some (Obj.cells #[.int .i64 ta_0, .string tr_0, .int .i64 ts_0, .int .i64 tu_0, .int .i64 tl_0, .bool tq_0, .slice (some ⟨x0, 0, none⟩) s0.length s0.length] 31)), (Vx0.heap.size, w7.heap.size, fun V : World => True), (w7.heap.size, Kg, fun V : World => MkR V w7.heap.size (.slice vag L.length vcg) (.slice uag ES.length ucg) (.slice wag MS.length wcg) L.length ES.length MS.length), (Kg, Kg + 1, fun V : World => V.heap[Kg]? = some (Obj.cells #[.int .i64 C, .int .i64 TA, .string TR, .int .i64 TS, .int .i64 TU, .int .i64 TL, .bool TQ, .slice vag L.length vcg, .slice uag ES.length ucg, .slice wag MS.length wcg] 47)), (yb0.heap.size, w10.heap.size, fun V : World => V.ownsRow yb0.heap.size 36 3 (.slice (some ⟨e1, 0, none⟩) s1.length s1.length) s1.length (s1.flatMap teC)), (w16.heap.size, w17.heap.size, fun V : World => V.ownsRow w16.heap.size 72 2 (.slice (some ⟨gh0, 0, none⟩) s0.length s0.length) s0.length (s0.flatMap apC))] w17) := Z20.out.push hb (Ow.rowAll ho hb) (Nat.le_refl _)
  clear Z20 hb ho
  go_wp2_with (fail)
  refine (toToolEventS_any HL1.out (HR1.out.below Z21.out.bl)).mono ?_
  rintro e w18 ⟨gh1, rfl, ho, hb⟩
  have Z22 : Hid (LS w [(w.heap.size, w.heap.size + 1, fun V : World => V.heap[w.heap.size]? = some BX0), (w2.heap.size, w3.heap.size, fun V : World => V.ownsRow w2.heap.size 72 2 (.slice (some ⟨ga0, 0, none⟩) s0.length s0.length) s0.length (s0.flatMap apC)), (w3.heap.size, w4.heap.size, fun V : World => V.ownsRow w3.heap.size 36 3 (.slice (some ⟨ga1, 0, none⟩) s1.length s1.length) s1.length (s1.flatMap teC)), (w4.heap.size, Ka, fun V : World => OwR V w4.heap.size (.slice vaa L.length vca) (.slice uaa ES.length uca) (.slice waa MS.length wca) L ES MS), (Ka, Ka + 1, fun V : World => V.heap[Ka]? = some (Obj.cells #[.int .i64 C, .int .i64 TA, .string TR, .int .i64 TS, .int .i64 TU, .int .i64 TL, .bool TQ, .slice vaa L.length vca, .slice uaa ES.length uca, .slice waa MS.length wca] 47)), (Va.heap.size, Kx0, fun V : World => True), (Kx0, Kx0 + 1, fun V : World => V.heap[Kx0]? = some (Obj.cells #[.int .i64 ta_0, .string tr_0, .int .i64 ts_0, .int .i64 tu_0, .int .i64 tl_0, .bool tq_0, .slice (some ⟨x0, 0, none⟩) s0.length s0.length] 31)), (Vx0.heap.size, w7.heap.size, fun V : World => True), (w7.heap.size, Kg, fun V : World => MkR V w7.heap.size (.slice vag L.length vcg) (.slice uag ES.length ucg) (.slice wag MS.length wcg) L.length ES.length MS.length), (Kg, Kg + 1, fun V : World => V.heap[Kg]? = some (Obj.cells #[.int .i64 C, .int .i64 TA, .string TR, .int .i64 TS, .int .i64 TU, .int .i64 TL, .bool TQ, .slice vag L.length vcg, .slice uag ES.length ucg, .slice wag MS.length wcg] 47)), (yb0.heap.size, w10.heap.size, fun V : World => V.ownsRow yb0.heap.size 36 3 (.slice (some ⟨e1, 0, none⟩) s1.length s1.length) s1.length (s1.flatMap teC)), (w16.heap.size, w17.heap.size, fun V : World => V.ownsRow w16.heap.size 72 2 (.slice (some ⟨gh0, 0, none⟩) s0.length s0.length) s0.length (s0.flatMap apC)), (w17.heap.size, w18.heap.size, fun V : World => V.ownsRow w17.heap.size 36 3 (.slice (some ⟨gh1, 0, none⟩) s1.length s1.length) s1.length (s1.flatMap teC))] w18) := Z21.out.push hb (Ow.rowAll ho hb) (Nat.le_refl _)
  clear Z21 hb ho
  go_wp2_with (fail)
  refine (HIM.out w18 gh0 gh1 (OG.rg (T := 72) (B := w16.heap.size) apC_len (show w18.ownsRow w16.heap.size 72 2 (.slice (some ⟨gh0, 0, none⟩) s0.length s0.length) s0.length (s0.flatMap apC) from Z22.out.get 11 rfl)) (OG.rg (T := 36) (B := w17.heap.size) teC_len (show w18.ownsRow w17.heap.size 36 3 (.slice (some ⟨gh1, 0, none⟩) s1.length s1.length) s1.length (s1.flatMap teC) from Z22.out.get 12 rfl))).mono ?_
  rintro e w19 ⟨vq, vr, rfl, hrq, hb⟩
  obtain ⟨vq1, vq2, vq3⟩ := vq
  obtain ⟨vah, vch, he1⟩ := own_form9 hrq.t
  obtain ⟨uah, uch, he2⟩ := own_form9 hrq.c
  obtain ⟨wah, wch, he3⟩ := own_form9 hrq.r
  simp only at he1 he2 he3 hrq
  subst he1 he2 he3
  have Z23 : Hid (LS w [(w.heap.size, w.heap.size + 1, fun V : World => V.heap[w.heap.size]? = some BX0), (w2.heap.size, w3.heap.size, fun V : World => V.ownsRow w2.heap.size 72 2 (.slice (some ⟨ga0, 0, none⟩) s0.length s0.length) s0.length (s0.flatMap apC)), (w3.heap.size, w4.heap.size, fun V : World => V.ownsRow w3.heap.size 36 3 (.slice (some ⟨ga1, 0, none⟩) s1.length s1.length) s1.length (s1.flatMap teC)), (w4.heap.size, Ka, fun V : World => OwR V w4.heap.size (.slice vaa L.length vca) (.slice uaa ES.length uca) (.slice waa MS.length wca) L ES MS), (Ka, Ka + 1, fun V : World => V.heap[Ka]? = some (Obj.cells #[.int .i64 C, .int .i64 TA, .string TR, .int .i64 TS, .int .i64 TU, .int .i64 TL, .bool TQ, .slice vaa L.length vca, .slice uaa ES.length uca, .slice waa MS.length wca] 47)), (Va.heap.size, Kx0, fun V : World => True), (Kx0, Kx0 + 1, fun V : World => V.heap[Kx0]? = some (Obj.cells #[.int .i64 ta_0, .string tr_0, .int .i64 ts_0, .int .i64 tu_0, .int .i64 tl_0, .bool tq_0, .slice (some ⟨x0, 0, none⟩) s0.length s0.length] 31)), (Vx0.heap.size, w7.heap.size, fun V : World => True), (w7.heap.size, Kg, fun V : World => MkR V w7.heap.size (.slice vag L.length vcg) (.slice uag ES.length ucg) (.slice wag MS.length wcg) L.length ES.length MS.length), (Kg, Kg + 1, fun V : World => V.heap[Kg]? = some (Obj.cells #[.int .i64 C, .int .i64 TA, .string TR, .int .i64 TS, .int .i64 TU, .int .i64 TL, .bool TQ, .slice vag L.length vcg, .slice uag ES.length ucg, .slice wag MS.length wcg] 47)), (yb0.heap.size, w10.heap.size, fun V : World => V.ownsRow yb0.heap.size 36 3 (.slice (some ⟨e1, 0, none⟩) s1.length s1.length) s1.length (s1.flatMap teC)), (w16.heap.size, w17.heap.size, fun V : World => V.ownsRow w16.heap.size 72 2 (.slice (some ⟨gh0, 0, none⟩) s0.length s0.length) s0.length (s0.flatMap apC)), (w17.heap.size, w18.heap.size, fun V : World => V.ownsRow w17.heap.size 36 3 (.slice (some ⟨gh1, 0, none⟩) s1.length s1.length) s1.length (s1.flatMap teC)), (w18.heap.size, w19.heap.size, fun V : World => OwR V w18.heap.size (.slice vah L.length vch) (.slice uah ES.length uch) (.slice wah MS.length wch) L ES MS)] w19) := Z22.out.push hb (Ow.rAllR hrq hb) (Nat.le_refl _)
  clear Z22 hb hrq
  have kva := Z23.out.get 4 rfl
  have cva_0 : w19.cell? ⟨Ka, 0, none⟩ = some (.int .i64 C) := cellOf kva 0 rfl
  have cva_1 : w19.cell? ⟨Ka, 1, none⟩ = some (.int .i64 TA) := cellOf kva 1 rfl
  have cva_2 : w19.cell? ⟨Ka, 2, none⟩ = some (.string TR) := cellOf kva 2 rfl
  have cva_3 : w19.cell? ⟨Ka, 3, none⟩ = some (.int .i64 TS) := cellOf kva 3 rfl
  have cva_4 : w19.cell? ⟨Ka, 4, none⟩ = some (.int .i64 TU) := cellOf kva 4 rfl
  have cva_5 : w19.cell? ⟨Ka, 5, none⟩ = some (.int .i64 TL) := cellOf kva 5 rfl
  have cva_6 : w19.cell? ⟨Ka, 6, none⟩ = some (.bool TQ) := cellOf kva 6 rfl
  have cva_7 : w19.cell? ⟨Ka, 7, none⟩ = some (.slice vaa L.length vca) := cellOf kva 7 rfl
  have cva_8 : w19.cell? ⟨Ka, 8, none⟩ = some (.slice uaa ES.length uca) := cellOf kva 8 rfl
  have cva_9 : w19.cell? ⟨Ka, 9, none⟩ = some (.slice waa MS.length wca) := cellOf kva 9 rfl
  have lva : Ka < w19.heap.size := ltOf kva
  clear kva
  have Z24 : Hid (LS w [(w.heap.size, w.heap.size + 1, fun V : World => V.heap[w.heap.size]? = some BX0), (w2.heap.size, w3.heap.size, fun V : World => V.ownsRow w2.heap.size 72 2 (.slice (some ⟨ga0, 0, none⟩) s0.length s0.length) s0.length (s0.flatMap apC)), (w3.heap.size, w4.heap.size, fun V : World => V.ownsRow w3.heap.size 36 3 (.slice (some ⟨ga1, 0, none⟩) s1.length s1.length) s1.length (s1.flatMap teC)), (w4.heap.size, Ka, fun V : World => OwR V w4.heap.size (.slice vaa L.length vca) (.slice uaa ES.length uca) (.slice waa MS.length wca) L ES MS), (Ka, Ka + 1, fun V : World => V.heap[Ka]? = some (Obj.cells #[.int .i64 C, .int .i64 TA, .string TR, .int .i64 TS, .int .i64 TU, .int .i64 TL, .bool TQ, .slice vaa L.length vca, .slice uaa ES.length uca, .slice waa MS.length wca] 47)), (Va.heap.size, Kx0, fun V : World => True), (Kx0, Kx0 + 1, fun V : World => V.heap[Kx0]? = some (Obj.cells #[.int .i64 ta_0, .string tr_0, .int .i64 ts_0, .int .i64 tu_0, .int .i64 tl_0, .bool tq_0, .slice (some ⟨x0, 0, none⟩) s0.length s0.length] 31)), (Vx0.heap.size, w7.heap.size, fun V : World => True), (w7.heap.size, Kg, fun V : World => MkR V w7.heap.size (.slice vag L.length vcg) (.slice uag ES.length ucg) (.slice wag MS.length wcg) L.length ES.length MS.length), (Kg, Kg + 1, fun V : World => V.heap[Kg]? = some (Obj.cells #[.int .i64 C, .int .i64 TA, .string TR, .int .i64 TS, .int .i64 TU, .int .i64 TL, .bool TQ, .slice vag L.length vcg, .slice uag ES.length ucg, .slice wag MS.length wcg] 47)), (yb0.heap.size, w10.heap.size, fun V : World => V.ownsRow yb0.heap.size 36 3 (.slice (some ⟨e1, 0, none⟩) s1.length s1.length) s1.length (s1.flatMap teC)), (w16.heap.size, w17.heap.size, fun V : World => V.ownsRow w16.heap.size 72 2 (.slice (some ⟨gh0, 0, none⟩) s0.length s0.length) s0.length (s0.flatMap apC)), (w17.heap.size, w18.heap.size, fun V : World => V.ownsRow w17.heap.size 36 3 (.slice (some ⟨gh1, 0, none⟩) s1.length s1.length) s1.length (s1.flatMap teC)), (w18.heap.size, w19.heap.size, fun V : World => OwR V w18.heap.size (.slice vah L.length vch) (.slice uah ES.length uch) (.slice wah MS.length wch) L ES MS), (w19.heap.size, w19.heap.size + 1, fun V : World => V.heap[w19.heap.size]? = some (Obj.cells #[.int .i64 C, .int .i64 TA, .string TR, .int .i64 TS, .int .i64 TU, .int .i64 TL, .bool TQ, .slice vah L.length vch, .slice uah ES.length uch, .slice wah MS.length wch] 47))] (w19.alloc (Obj.cells #[.int .i64 C, .int .i64 TA, .string TR, .int .i64 TS, .int .i64 TU, .int .i64 TL, .bool TQ, .slice vah L.length vch, .slice uah ES.length uch, .slice wah MS.length wch] 47))) := Z23.out.push (by (repeat' (first | (with_reducible exact Below.refl _ _) | (with_reducible assumption) | (with_reducible refine Below.setCell ?_ ?_ _) | (with_reducible refine Below.alloc ?_ ?_ _) | (with_reducible refine below_drewN ?_ _) | (with_reducible refine Below.drew ?_) | (with_reducible exact Nat.le_refl _) | omega | (simp; done) | (simp; omega)))) (Ow.block (heap_alloc_new _ _)) (Nat.le_refl _)
  clear Z23
  go_wp2_with (fail)
  obtain ⟨Vh, hV⟩ : ∃ V, V = w19.alloc (Obj.cells #[.int .i64 C, .int .i64 TA, .string TR, .int .i64 TS, .int .i64 TU, .int .i64 TL, .bool TQ, .slice vah L.length vch, .slice uah ES.length uch, .slice wah MS.length wch] 47) := ⟨_, rfl⟩
  rw [← hV] at Z24 ⊢
  obtain ⟨Kh, hK⟩ : ∃ K, K = w19.heap.size := ⟨_, rfl⟩
  rw [← hK] at Z24  ⊢
  clear hV hK
  clear cva_0 cva_1 cva_2 cva_3 cva_4 cva_5 cva_6 cva_7 cva_8 cva_9 lva
  refine (eqToolLog_to C TA TR TS TU TL TQ HLN.out (OwR.rd (B := w18.heap.size) (show OwR Vh w18.heap.size (.slice vah L.length vch) (.slice uah ES.length uch) (.slice wah MS.length wch) L ES MS from (Z24.out.get 13 rfl))) (OwR.rd (B := w4.heap.size) (show OwR Vh w4.heap.size (.slice vaa L.length vca) (.slice uaa ES.length uca) (.slice waa MS.length wca) L ES MS from (Z24.out.get 3 rfl)))).mono ?_
  rintro e w20 ⟨rfl, hb⟩
  have Z25 : Hid (LS w [(w.heap.size, w.heap.size + 1, fun V : World => V.heap[w.heap.size]? = some BX0), (w2.heap.size, w3.heap.size, fun V : World => V.ownsRow w2.heap.size 72 2 (.slice (some ⟨ga0, 0, none⟩) s0.length s0.length) s0.length (s0.flatMap apC)), (w3.heap.size, w4.heap.size, fun V : World => V.ownsRow w3.heap.size 36 3 (.slice (some ⟨ga1, 0, none⟩) s1.length s1.length) s1.length (s1.flatMap teC)), (w4.heap.size, Ka, fun V : World => OwR V w4.heap.size (.slice vaa L.length vca) (.slice uaa ES.length uca) (.slice waa MS.length wca) L ES MS), (Ka, Ka + 1, fun V : World => V.heap[Ka]? = some (Obj.cells #[.int .i64 C, .int .i64 TA, .string TR, .int .i64 TS, .int .i64 TU, .int .i64 TL, .bool TQ, .slice vaa L.length vca, .slice uaa ES.length uca, .slice waa MS.length wca] 47)), (Va.heap.size, Kx0, fun V : World => True), (Kx0, Kx0 + 1, fun V : World => V.heap[Kx0]? = some (Obj.cells #[.int .i64 ta_0, .string tr_0, .int .i64 ts_0, .int .i64 tu_0, .int .i64 tl_0, .bool tq_0, .slice (some ⟨x0, 0, none⟩) s0.length s0.length] 31)), (Vx0.heap.size, w7.heap.size, fun V : World => True), (w7.heap.size, Kg, fun V : World => MkR V w7.heap.size (.slice vag L.length vcg) (.slice uag ES.length ucg) (.slice wag MS.length wcg) L.length ES.length MS.length), (Kg, Kg + 1, fun V : World => V.heap[Kg]? = some (Obj.cells #[.int .i64 C, .int .i64 TA, .string TR, .int .i64 TS, .int .i64 TU, .int .i64 TL, .bool TQ, .slice vag L.length vcg, .slice uag ES.length ucg, .slice wag MS.length wcg] 47)), (yb0.heap.size, w10.heap.size, fun V : World => V.ownsRow yb0.heap.size 36 3 (.slice (some ⟨e1, 0, none⟩) s1.length s1.length) s1.length (s1.flatMap teC)), (w16.heap.size, w17.heap.size, fun V : World => V.ownsRow w16.heap.size 72 2 (.slice (some ⟨gh0, 0, none⟩) s0.length s0.length) s0.length (s0.flatMap apC)), (w17.heap.size, w18.heap.size, fun V : World => V.ownsRow w17.heap.size 36 3 (.slice (some ⟨gh1, 0, none⟩) s1.length s1.length) s1.length (s1.flatMap teC)), (w18.heap.size, Kh, fun V : World => OwR V w18.heap.size (.slice vah L.length vch) (.slice uah ES.length uch) (.slice wah MS.length wch) L ES MS), (Kh, Kh + 1, fun V : World => V.heap[Kh]? = some (Obj.cells #[.int .i64 C, .int .i64 TA, .string TR, .int .i64 TS, .int .i64 TU, .int .i64 TL, .bool TQ, .slice vah L.length vch, .slice uah ES.length uch, .slice wah MS.length wch] 47))] w20) := Z24.out.next hb
  clear Z24 hb
  have kvg := Z25.out.get 9 rfl
  have cvg_0 : w20.cell? ⟨Kg, 0, none⟩ = some (.int .i64 C) := cellOf kvg 0 rfl
  have cvg_1 : w20.cell? ⟨Kg, 1, none⟩ = some (.int .i64 TA) := cellOf kvg 1 rfl
  have cvg_2 : w20.cell? ⟨Kg, 2, none⟩ = some (.string TR) := cellOf kvg 2 rfl
  have cvg_3 : w20.cell? ⟨Kg, 3, none⟩ = some (.int .i64 TS) := cellOf kvg 3 rfl
  have cvg_4 : w20.cell? ⟨Kg, 4, none⟩ = some (.int .i64 TU) := cellOf kvg 4 rfl
  have cvg_5 : w20.cell? ⟨Kg, 5, none⟩ = some (.int .i64 TL) := cellOf kvg 5 rfl
  have cvg_6 : w20.cell? ⟨Kg, 6, none⟩ = some (.bool TQ) := cellOf kvg 6 rfl
  have cvg_7 : w20.cell? ⟨Kg, 7, none⟩ = some (.slice vag L.length vcg) := cellOf kvg 7 rfl
  have cvg_8 : w20.cell? ⟨Kg, 8, none⟩ = some (.slice uag ES.length ucg) := cellOf kvg 8 rfl
  have cvg_9 : w20.cell? ⟨Kg, 9, none⟩ = some (.slice wag MS.length wcg) := cellOf kvg 9 rfl
  have lvg : Kg < w20.heap.size := ltOf kvg
  clear kvg
  go_wp2_with (fail)
  clear cvg_0 cvg_1 cvg_2 cvg_3 cvg_4 cvg_5 cvg_6 cvg_7 cvg_8 cvg_9 lvg
  refine (heldToolLog_to C TA TR TS TU TL TQ HLN.out (show MkR w20 w7.heap.size (.slice vag L.length vcg) (.slice uag ES.length ucg) (.slice wag MS.length wcg) L.length ES.length MS.length from Z25.out.get 8 rfl)).mono ?_
  rintro e w21 ⟨rfl, hb⟩
  have Z26 : Hid (LS w [(w.heap.size, w.heap.size + 1, fun V : World => V.heap[w.heap.size]? = some BX0), (w2.heap.size, w3.heap.size, fun V : World => V.ownsRow w2.heap.size 72 2 (.slice (some ⟨ga0, 0, none⟩) s0.length s0.length) s0.length (s0.flatMap apC)), (w3.heap.size, w4.heap.size, fun V : World => V.ownsRow w3.heap.size 36 3 (.slice (some ⟨ga1, 0, none⟩) s1.length s1.length) s1.length (s1.flatMap teC)), (w4.heap.size, Ka, fun V : World => OwR V w4.heap.size (.slice vaa L.length vca) (.slice uaa ES.length uca) (.slice waa MS.length wca) L ES MS), (Ka, Ka + 1, fun V : World => V.heap[Ka]? = some (Obj.cells #[.int .i64 C, .int .i64 TA, .string TR, .int .i64 TS, .int .i64 TU, .int .i64 TL, .bool TQ, .slice vaa L.length vca, .slice uaa ES.length uca, .slice waa MS.length wca] 47)), (Va.heap.size, Kx0, fun V : World => True), (Kx0, Kx0 + 1, fun V : World => V.heap[Kx0]? = some (Obj.cells #[.int .i64 ta_0, .string tr_0, .int .i64 ts_0, .int .i64 tu_0, .int .i64 tl_0, .bool tq_0, .slice (some ⟨x0, 0, none⟩) s0.length s0.length] 31)), (Vx0.heap.size, w7.heap.size, fun V : World => True), (w7.heap.size, Kg, fun V : World => MkR V w7.heap.size (.slice vag L.length vcg) (.slice uag ES.length ucg) (.slice wag MS.length wcg) L.length ES.length MS.length), (Kg, Kg + 1, fun V : World => V.heap[Kg]? = some (Obj.cells #[.int .i64 C, .int .i64 TA, .string TR, .int .i64 TS, .int .i64 TU, .int .i64 TL, .bool TQ, .slice vag L.length vcg, .slice uag ES.length ucg, .slice wag MS.length wcg] 47)), (yb0.heap.size, w10.heap.size, fun V : World => V.ownsRow yb0.heap.size 36 3 (.slice (some ⟨e1, 0, none⟩) s1.length s1.length) s1.length (s1.flatMap teC)), (w16.heap.size, w17.heap.size, fun V : World => V.ownsRow w16.heap.size 72 2 (.slice (some ⟨gh0, 0, none⟩) s0.length s0.length) s0.length (s0.flatMap apC)), (w17.heap.size, w18.heap.size, fun V : World => V.ownsRow w17.heap.size 36 3 (.slice (some ⟨gh1, 0, none⟩) s1.length s1.length) s1.length (s1.flatMap teC)), (w18.heap.size, Kh, fun V : World => OwR V w18.heap.size (.slice vah L.length vch) (.slice uah ES.length uch) (.slice wah MS.length wch) L ES MS), (Kh, Kh + 1, fun V : World => V.heap[Kh]? = some (Obj.cells #[.int .i64 C, .int .i64 TA, .string TR, .int .i64 TS, .int .i64 TU, .int .i64 TL, .bool TQ, .slice vah L.length vch, .slice uah ES.length uch, .slice wah MS.length wch] 47))] w21) := Z25.out.next hb
  clear Z25 hb
  rw [← HTT.out]
  go_wp2
  go_returns
  exact ⟨rfl, Z26.out.bl⟩

set_option maxRecDepth 100000 in
theorem rn19_lifted (os : Os) (started : os.Started) (H : Type) (enc : TypeId × Value → H) :
    ReturnsInHanded {} Try.checked os 4 .any (Rows.fnExactRunToolSpec.pre6 enc Try.prog Try.f4 Rows.fnExactRunToolRow.domain false) (Rows.fnExactRunToolSpec.post enc Try.prog Try.f4 false true false false) := by
  refine returnsInHanded_of_change (C := Try.checked) own started (by kernel_rfl) Try.func4
    (ChangeSpec.witness6 (enc := enc) (C := Try.checked) false ⟨#[], #[.agg #[.int .i64 0, .string ByteArray.empty, .int .i64 0, .int .i64 0, .int .i64 0, .bool false, .slice none 0 0], .slice none 0 0], []⟩ 8 (by kernel_rfl) (by kernel_rfl) (by kernel_rfl) (by kernel_rfl)) ?_
  intro W base args ds gs before hval0 hW hcnd _
  have hval : ∀ (j : Nat) t v, Try.f4.params[j]? = some t → args[j]? = some v → Value.okWide Try.prog W .any base t v := hval0
  have hW' := hW
  obtain ⟨p, q, hA0, hV, rfl, hfz, hnd⟩ := hW
  have hA : DataW.TrodAll enc Try.prog W 0 (fun _ => true) true Try.f4.params.toList args.toList ds p := hA0
  rw [Try.params4] at hA hval
  obtain ⟨v0, vs0, d0, ds0, p0, q0, hargs, rfl, rfl, h0, r0⟩ := trodAll_cons hA
  obtain ⟨v1, vs1, d1, ds1, p1, q1, rfl, rfl, rfl, h1, r1⟩ := trodAll_cons r0
  obtain ⟨rfl, rfl, rfl⟩ := trodAll_nil r1
  obtain rfl : args = #[v0, v1] := by cases args; simp_all
  obtain ⟨rfl, rfl⟩ := trodVars_none hV
  have k0 := h0
  have lt0 : ∀ x ∈ p0, x.block < W.heap.size := by obtain ⟨m, hm⟩ := k0; exact DataW.trod_lt m _ _ _ hm
  obtain ⟨ta0, tr0, ts0, tu0, tl0, tq0, sa0, sn0, sc0, s0, rfl, ri0, sl0⟩ := tool_open (hval 0 24 v0 rfl rfl) h0
  have k1 := h1
  have lt1 : ∀ x ∈ p1, x.block < W.heap.size := by obtain ⟨m, hm⟩ := k1; exact DataW.trod_lt m _ _ _ hm
  obtain ⟨sa1, sn1, sc1, s1, rfl, ri1, sl1⟩ := events_open (hval 1 43 v1 rfl rfl) h1
  clear hA0 hval0
  refine (law_rn19 ta0 tr0 ts0 tu0 tl0 tq0 s0 sl0 ri0 s1 sl1 ri1).mono fun e W' ⟨he, hg⟩ => ?_
  subst he
  exact ⟨_, rfl, _, _, _, [], _, [], hW', trodAll_mk1 (shut_bool Try.underlying4 _), (trodAll_cons_mk (Below.trod laidOut (by kernel_rfl) (of_decide_eq_true (by kernel_rfl)) k0 hg lt0) (trodAll_cons_mk (Below.trod laidOut (by kernel_rfl) (of_decide_eq_true (by kernel_rfl)) k1 hg lt1) trodAll_mk0)), rfl, hg.frame _, fun h => by cases h⟩

theorem rn19_over : Rows.fnExactRunToolRow.holds Try.pinned (OpenSpec.ofChange Rows.fnExactRunToolSpec) :=
  OpenClaim.holds_of_wide 4 Try.f4 rfl rfl rfl rfl rfl rfl rfl ⟨rfl, rfl, rfl, rfl, rfl⟩ rfl rfl rfl rfl rfl (by kernel_rfl) Try.func4 (by kernel_rfl)
    (of_decide_eq_true (by kernel_rfl)) (by unfold Func.isWrapper; first | (rw [if_pos (by decide +kernel)]; kernel_rfl) | (rw [if_neg (by decide +kernel)]; exact ⟨rfl, rfl⟩))
    (fun os started H enc _ => rn19_lifted os started H enc)

theorem rn19_proved : Rows.FnExactRunToolSaid :=
  rn19_over
#print axioms rn19_proved

end Go.Proofs.Ytkacfjbhkgdpdaa
