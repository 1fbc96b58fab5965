/- Proved here: 'the program's RecoverTool answers as the model's; it writes into no argument and keeps nothing of one; its answer owns its memory, behind another call too', without a condition. -/
import Derived.Test.YtcfcknfaeliodaaTrI
import Derived.Test.YtcfcknfaeliodaaTrS
import Derived.Test.YtcfcknfaeliodaaMkTl
import Derived.Test.YtcfcknfaeliodaaTlB
import Derived.Test.YtcfcknfaeliodaaLwS
import Derived.ChangeMaps5
import Derived.Test.YtcfcknfaeliodaaRows
namespace Go.Proofs.Ytcfcknfaeliodaa
open Go.ChangeShapes Go.WideShapes Go.ChangeAt Go.RowKit Go.Joins Go.ChangeMaps
set_option linter.unusedVariables false
set_option linter.unusedSimpArgs false

theorem own : ownKnob Try.prog.godebug = none := by kernel_rfl
theorem laidOut : laidOutB Try.prog = true := by kernel_rfl

set_option maxRecDepth 10000 in
set_option maxHeartbeats 25600000 in
theorem law_rt19 {w : World}  (ta_0 : Int) (tr_0 : ByteArray) (ts_0 tu_0 tl_0 : Int) (tq_0 : Bool) {sa0 : Option Addr} {sn0 sc0 : Nat} (s0 : List Ap) (hm0 : okTl tr_0 s0) (hr0 : RG 2 apC w (.slice sa0 sn0 sc0) s0) :
    Calls Try.prog 4 #[.agg #[.int .i64 ta_0, .string tr_0, .int .i64 ts_0, .int .i64 tu_0, .int .i64 tl_0, .bool tq_0, .slice sa0 sn0 sc0]] w fun e w' => e = .returned (.bool true) ∧ Below w.heap.size w w' := by
  have HM0 : Hid (okTl tr_0 s0) := hm0
  have HR0 : Hid (RG 2 apC w (.slice sa0 sn0 sc0) s0) := hr0
  have HE0 : Hid (sn0 = s0.length) := hr0.len
  clear hm0 hr0
  obtain ⟨BX0, hBX0⟩ : ∃ BX, BX = Obj.cells #[.int .i64 ta_0, .string tr_0, .int .i64 ts_0, .int .i64 tu_0, .int .i64 tl_0, .bool tq_0, .slice sa0 sn0 sc0] 24 := ⟨_, rfl⟩
  have Z0 : Hid (LS w [(w.heap.size, w.heap.size + 1, fun V : World => V.heap[w.heap.size]? = some BX0)] (w.alloc (Obj.cells #[.int .i64 ta_0, .string tr_0, .int .i64 ts_0, .int .i64 tu_0, .int .i64 tl_0, .bool tq_0, .slice sa0 sn0 sc0] 24))) := by
    have p0 := LS.start w
    have p1 := LS.push (V' := (w.alloc (Obj.cells #[.int .i64 ta_0, .string tr_0, .int .i64 ts_0, .int .i64 tu_0, .int .i64 tl_0, .bool tq_0, .slice sa0 sn0 sc0] 24))) p0 (by (repeat' (first | (with_reducible exact Below.refl _ _) | (with_reducible assumption) | (with_reducible refine Below.setCell ?_ ?_ _) | (with_reducible refine Below.alloc ?_ ?_ _) | (with_reducible refine below_drewN ?_ _) | (with_reducible refine Below.drew ?_) | (with_reducible exact Nat.le_refl _) | omega | (simp; done) | (simp; omega)))) (Ow.block (k := w.heap.size) (o := BX0) (by rw [hBX0]; have := heap_alloc_new w (Obj.cells #[.int .i64 ta_0, .string tr_0, .int .i64 ts_0, .int .i64 tu_0, .int .i64 tl_0, .bool tq_0, .slice sa0 sn0 sc0] 24); simpa using this)) (by simp)
    exact p1
  have TB0 : Hid (BX0 = Obj.cells #[.int .i64 ta_0, .string tr_0, .int .i64 ts_0, .int .i64 tu_0, .int .i64 tl_0, .bool tq_0, .slice sa0 sn0 sc0] 24) := hBX0
  clear hBX0
  go_enter Try.func4, Try.ntmps4
  go_wp2_with (fail)
  obtain ⟨W0, hW0⟩ : ∃ V, V = (w.alloc (Obj.cells #[.int .i64 ta_0, .string tr_0, .int .i64 ts_0, .int .i64 tu_0, .int .i64 tl_0, .bool tq_0, .slice sa0 sn0 sc0] 24)) := ⟨_, rfl⟩
  rw [← hW0] at Z0 ⊢
  clear hW0
  refine (szTool_gen ta_0 tr_0 ts_0 tu_0 tl_0 tq_0 sa0 sn0 sc0 1048576 s0 _ (by omega) (by omega) HM0.out (HR0.out.below Z0.out.bl)).mono ?_
  rintro e w1 ⟨r0, rfl, hq0, hb⟩
  have Z1 : Hid (LS w [(w.heap.size, w.heap.size + 1, fun V : World => V.heap[w.heap.size]? = some BX0)] w1) := Z0.out.next hb
  clear Z0 hb
  rcases hq0 with hneg | ⟨u0, v0, tt0⟩
  · go_wp2
    go_returns
    exact ⟨rfl, Z1.out.bl⟩
  have hl0 : ¬ r0 < 0 := by omega
  have HL0 : Hid (smTl 1048576 tr_0 s0) := smTl_mono (by omega) tt0
  obtain ⟨C, hC⟩ : ∃ X, X = (kpF tu_0 tl_0 s0) := ⟨_, rfl⟩
  obtain ⟨TA, hTA⟩ : ∃ X, X = onI (kpF tu_0 tl_0 s0) (rtA ta_0) := ⟨_, rfl⟩
  obtain ⟨TR, hTR⟩ : ∃ X, X = (⟨#[]⟩ : ByteArray) := ⟨_, rfl⟩
  obtain ⟨TS, hTS⟩ : ∃ X, X = (0 : Int) := ⟨_, rfl⟩
  obtain ⟨TU, hTU⟩ : ∃ X, X = onI (kpF tu_0 tl_0 s0) tu_0 := ⟨_, rfl⟩
  obtain ⟨TL, hTL⟩ : ∃ X, X = onI (kpF tu_0 tl_0 s0) tl_0 := ⟨_, rfl⟩
  obtain ⟨TQ, hTQ⟩ : ∃ X, X = onB (kpF tu_0 tl_0 s0) (rtQ ta_0 tq_0) := ⟨_, rfl⟩
  obtain ⟨L, hL⟩ : ∃ X, X = onL (kpF tu_0 tl_0 s0) s0 := ⟨_, rfl⟩
  have HLN : Hid (L.length ≤ 1048576) := by unfold Hid; rw [hL]; exact Nat.le_trans (onL_len (fun e => (kpF_le e).2)) (by decide)
  have HSP : Hid (∀ (W : World) (g0 : Nat), (RG 2 apC W (.slice (some ⟨g0, 0, none⟩) s0.length s0.length) s0) → Calls Try.prog 12 #[.agg #[.int .i64 ta_0, .string tr_0, .int .i64 ts_0, .int .i64 tu_0, .int .i64 tl_0, .bool tq_0, .slice (some ⟨g0, 0, none⟩) s0.length s0.length]] W fun e w' => ∃ (v : Value) (_ : Unit), e = .returned (.agg #[.int .i64 C, .int .i64 TA, .string TR, .int .i64 TS, .int .i64 TU, .int .i64 TL, .bool TQ, v]) ∧ OG 72 2 apC w' W.heap.size v L ∧ Below W.heap.size W w') := fun W g0 h0 => by
    rw [hL, hTQ, hTL, hTU, hTS, hTR, hTA, hC]
    exact spec_rt ta_0 tr_0 ts_0 tu_0 tl_0 tq_0 (tl_len HL0.out) (fun j h => by have := HL0.out.ap j h; unfold smAp at this; omega) (Nat.le_refl _) h0
  have HIM : Hid (∀ (W : World) (g0 : Nat), (RG 2 apC W (.slice (some ⟨g0, 0, none⟩) s0.length s0.length) s0) → Calls Try.prog 13 #[.agg #[.int .i64 ta_0, .string tr_0, .int .i64 ts_0, .int .i64 tu_0, .int .i64 tl_0, .bool tq_0, .slice (some ⟨g0, 0, none⟩) s0.length s0.length]] W fun e w' => ∃ (v : Value) (_ : Unit), e = .returned (.agg #[.int .i64 C, .int .i64 TA, .string TR, .int .i64 TS, .int .i64 TU, .int .i64 TL, .bool TQ, v]) ∧ OG 72 2 apC w' W.heap.size v L ∧ Below W.heap.size W w') := fun W g0 h0 => by
    rw [hL, hTQ, hTL, hTU, hTS, hTR, hTA, hC]
    exact impl_rt ta_0 tr_0 ts_0 tu_0 tl_0 tq_0 (tl_len HL0.out) (fun j h => by have := HL0.out.ap j h; unfold smAp at this; omega) (Nat.le_refl _) h0
  clear hC hTA hTR hTS hTU hTL hTQ hL u0 v0 tt0
  have kp0 := Z1.out.get 0 rfl
  rw [TB0.out] at kp0
  have cp0_0 : w1.cell? ⟨w.heap.size, 0, none⟩ = some (.int .i64 ta_0) := cellOf kp0 0 rfl
  have cp0_1 : w1.cell? ⟨w.heap.size, 1, none⟩ = some (.string tr_0) := cellOf kp0 1 rfl
  have cp0_2 : w1.cell? ⟨w.heap.size, 2, none⟩ = some (.int .i64 ts_0) := cellOf kp0 2 rfl
  have cp0_3 : w1.cell? ⟨w.heap.size, 3, none⟩ = some (.int .i64 tu_0) := cellOf kp0 3 rfl
  have cp0_4 : w1.cell? ⟨w.heap.size, 4, none⟩ = some (.int .i64 tl_0) := cellOf kp0 4 rfl
  have cp0_5 : w1.cell? ⟨w.heap.size, 5, none⟩ = some (.bool tq_0) := cellOf kp0 5 rfl
  have cp0_6 : w1.cell? ⟨w.heap.size, 6, none⟩ = some (.slice sa0 sn0 sc0) := cellOf kp0 6 rfl
  have lp0 : w.heap.size < w1.heap.size := ltOf kp0
  clear kp0
  go_wp2_with (fail)
  clear cp0_0 cp0_1 cp0_2 cp0_3 cp0_4 cp0_5 cp0_6 lp0
  refine (toTool_any ta_0 tr_0 ts_0 tu_0 tl_0 tq_0 (tl_len HL0.out) (HR0.out.below Z1.out.bl)).mono ?_
  rintro e w2 ⟨ga0, rfl, ho, hb⟩
  have Z2 : Hid (LS w [(w.heap.size, w.heap.size + 1, fun V : World => V.heap[w.heap.size]? = some BX0), (w1.heap.size, w2.heap.size, fun V : World => V.ownsRow w1.heap.size 72 2 (.slice (some ⟨ga0, 0, none⟩) s0.length s0.length) s0.length (s0.flatMap apC))] w2) := Z1.out.push hb (Ow.rowAll ho hb) (Nat.le_refl _)
  clear Z1 hb ho
  go_wp2_with (fail)
  refine (HSP.out w2 ga0 (OG.rg (T := 72) (B := w1.heap.size) apC_len (show w2.ownsRow w1.heap.size 72 2 (.slice (some ⟨ga0, 0, none⟩) s0.length s0.length) s0.length (s0.flatMap apC) from Z2.out.get 1 rfl))).mono ?_
  rintro e w3 ⟨vq, vr, rfl, hrq, hb⟩
  obtain ⟨vaa, vca, rfl⟩ := (OG.rg apC_len hrq).form
  have Z3 : Hid (LS w [(w.heap.size, w.heap.size + 1, fun V : World => V.heap[w.heap.size]? = some BX0), (w1.heap.size, w2.heap.size, fun V : World => V.ownsRow w1.heap.size 72 2 (.slice (some ⟨ga0, 0, none⟩) s0.length s0.length) s0.length (s0.flatMap apC)), (w2.heap.size, w3.heap.size, fun V : World => OG 72 2 apC V w2.heap.size (.slice vaa L.length vca) L)] w3) := Z2.out.push hb (Ow.rowAll hrq hb) (Nat.le_refl _)
  clear Z2 hb hrq
  have kp0 := Z3.out.get 0 rfl
  rw [TB0.out] at kp0
  have cp0_0 : w3.cell? ⟨w.heap.size, 0, none⟩ = some (.int .i64 ta_0) := cellOf kp0 0 rfl
  have cp0_1 : w3.cell? ⟨w.heap.size, 1, none⟩ = some (.string tr_0) := cellOf kp0 1 rfl
  have cp0_2 : w3.cell? ⟨w.heap.size, 2, none⟩ = some (.int .i64 ts_0) := cellOf kp0 2 rfl
  have cp0_3 : w3.cell? ⟨w.heap.size, 3, none⟩ = some (.int .i64 tu_0) := cellOf kp0 3 rfl
  have cp0_4 : w3.cell? ⟨w.heap.size, 4, none⟩ = some (.int .i64 tl_0) := cellOf kp0 4 rfl
  have cp0_5 : w3.cell? ⟨w.heap.size, 5, none⟩ = some (.bool tq_0) := cellOf kp0 5 rfl
  have cp0_6 : w3.cell? ⟨w.heap.size, 6, none⟩ = some (.slice sa0 sn0 sc0) := cellOf kp0 6 rfl
  have lp0 : w.heap.size < w3.heap.size := ltOf kp0
  clear kp0
  have Z4 : Hid (LS w [(w.heap.size, w.heap.size + 1, fun V : World => V.heap[w.heap.size]? = some BX0), (w1.heap.size, w2.heap.size, fun V : World => V.ownsRow w1.heap.size 72 2 (.slice (some ⟨ga0, 0, none⟩) s0.length s0.length) s0.length (s0.flatMap apC)), (w2.heap.size, w3.heap.size, fun V : World => OG 72 2 apC V w2.heap.size (.slice vaa L.length vca) L), (w3.heap.size, w3.heap.size + 1, fun V : World => V.heap[w3.heap.size]? = some (Obj.cells #[.int .i64 C, .int .i64 TA, .string TR, .int .i64 TS, .int .i64 TU, .int .i64 TL, .bool TQ, .slice vaa L.length vca] 34))] (w3.alloc (Obj.cells #[.int .i64 C, .int .i64 TA, .string TR, .int .i64 TS, .int .i64 TU, .int .i64 TL, .bool TQ, .slice vaa L.length vca] 34))) := Z3.out.push (by (repeat' (first | (with_reducible exact Below.refl _ _) | (with_reducible assumption) | (with_reducible refine Below.setCell ?_ ?_ _) | (with_reducible refine Below.alloc ?_ ?_ _) | (with_reducible refine below_drewN ?_ _) | (with_reducible refine Below.drew ?_) | (with_reducible exact Nat.le_refl _) | omega | (simp; done) | (simp; omega)))) (Ow.block (heap_alloc_new _ _)) (Nat.le_refl _)
  clear Z3
  go_wp2_with (fail)
  obtain ⟨Va, hV⟩ : ∃ V, V = w3.alloc (Obj.cells #[.int .i64 C, .int .i64 TA, .string TR, .int .i64 TS, .int .i64 TU, .int .i64 TL, .bool TQ, .slice vaa L.length vca] 34) := ⟨_, rfl⟩
  rw [← hV] at Z4 ⊢
  obtain ⟨Ka, hK⟩ : ∃ K, K = w3.heap.size := ⟨_, rfl⟩
  rw [← hK] at Z4  ⊢
  clear hV hK
  clear cp0_0 cp0_1 cp0_2 cp0_3 cp0_4 cp0_5 cp0_6 lp0
  refine (toTool_any ta_0 tr_0 ts_0 tu_0 tl_0 tq_0 (tl_len HL0.out) (HR0.out.below Z4.out.bl)).mono ?_
  rintro e w4 ⟨x0, rfl, ho, hb⟩
  have HX0 : Hid (∀ g, (.slice (some ⟨x0, 0, none⟩) s0.length s0.length : Value).ownBlock = some g → g < w4.heap.size) := fun g hg => (World.ownsRow.lt ho g hg).2
  have Z5 : Hid (LS w [(w.heap.size, w.heap.size + 1, fun V : World => V.heap[w.heap.size]? = some BX0), (w1.heap.size, w2.heap.size, fun V : World => V.ownsRow w1.heap.size 72 2 (.slice (some ⟨ga0, 0, none⟩) s0.length s0.length) s0.length (s0.flatMap apC)), (w2.heap.size, Ka, fun V : World => OG 72 2 apC V w2.heap.size (.slice vaa L.length vca) L), (Ka, Ka + 1, fun V : World => V.heap[Ka]? = some (Obj.cells #[.int .i64 C, .int .i64 TA, .string TR, .int .i64 TS, .int .i64 TU, .int .i64 TL, .bool TQ, .slice vaa L.length vca] 34)), (Va.heap.size, w4.heap.size, fun V : World => V.ownsRow Va.heap.size 72 2 (.slice (some ⟨x0, 0, none⟩) s0.length s0.length) s0.length (s0.flatMap apC))] w4) := Z4.out.push hb (Ow.rowAll ho hb) (Nat.le_refl _)
  clear Z4 hb ho
  have Z6 : Hid (LS w [(w.heap.size, w.heap.size + 1, fun V : World => V.heap[w.heap.size]? = some BX0), (w1.heap.size, w2.heap.size, fun V : World => V.ownsRow w1.heap.size 72 2 (.slice (some ⟨ga0, 0, none⟩) s0.length s0.length) s0.length (s0.flatMap apC)), (w2.heap.size, Ka, fun V : World => OG 72 2 apC V w2.heap.size (.slice vaa L.length vca) L), (Ka, Ka + 1, fun V : World => V.heap[Ka]? = some (Obj.cells #[.int .i64 C, .int .i64 TA, .string TR, .int .i64 TS, .int .i64 TU, .int .i64 TL, .bool TQ, .slice vaa L.length vca] 34)), (Va.heap.size, w4.heap.size, fun V : World => V.ownsRow Va.heap.size 72 2 (.slice (some ⟨x0, 0, none⟩) s0.length s0.length) s0.length (s0.flatMap apC)), (w4.heap.size, w4.heap.size + 1, fun V : World => V.heap[w4.heap.size]? = some (Obj.cells #[.int .i64 ta_0, .string tr_0, .int .i64 ts_0, .int .i64 tu_0, .int .i64 tl_0, .bool tq_0, .slice (some ⟨x0, 0, none⟩) s0.length s0.length] 29))] (w4.alloc (Obj.cells #[.int .i64 ta_0, .string tr_0, .int .i64 ts_0, .int .i64 tu_0, .int .i64 tl_0, .bool tq_0, .slice (some ⟨x0, 0, none⟩) s0.length s0.length] 29))) := Z5.out.push (by (repeat' (first | (with_reducible exact Below.refl _ _) | (with_reducible assumption) | (with_reducible refine Below.setCell ?_ ?_ _) | (with_reducible refine Below.alloc ?_ ?_ _) | (with_reducible refine below_drewN ?_ _) | (with_reducible refine Below.drew ?_) | (with_reducible exact Nat.le_refl _) | omega | (simp; done) | (simp; omega)))) (Ow.block (heap_alloc_new _ _)) (Nat.le_refl _)
  clear Z5
  go_wp2_with (fail)
  obtain ⟨Vx0, hV⟩ : ∃ V, V = w4.alloc (Obj.cells #[.int .i64 ta_0, .string tr_0, .int .i64 ts_0, .int .i64 tu_0, .int .i64 tl_0, .bool tq_0, .slice (some ⟨x0, 0, none⟩) s0.length s0.length] 29) := ⟨_, rfl⟩
  rw [← hV] at Z6 ⊢
  obtain ⟨Kx0, hK⟩ : ∃ K, K = w4.heap.size := ⟨_, rfl⟩
  rw [← hK] at Z6 HX0 ⊢
  clear hV hK
  refine (HIM.out Vx0 x0 (OG.rg (T := 72) (B := Va.heap.size) apC_len (show Vx0.ownsRow Va.heap.size 72 2 (.slice (some ⟨x0, 0, none⟩) s0.length s0.length) s0.length (s0.flatMap apC) from Z6.out.get 4 rfl))).mono ?_
  rintro e w5 ⟨vq, vr, rfl, hrq, hb⟩
  obtain ⟨vag, vcg, rfl⟩ := (OG.rg apC_len hrq).form
  have HXg : Hid (∀ g, (.slice vag L.length vcg : Value).ownBlock = some g → g < w5.heap.size) := fun g hg => (OG.lt hrq g hg).2
  have Z7 : Hid (LS w [(w.heap.size, w.heap.size + 1, fun V : World => V.heap[w.heap.size]? = some BX0), (w1.heap.size, w2.heap.size, fun V : World => V.ownsRow w1.heap.size 72 2 (.slice (some ⟨ga0, 0, none⟩) s0.length s0.length) s0.length (s0.flatMap apC)), (w2.heap.size, Ka, fun V : World => OG 72 2 apC V w2.heap.size (.slice vaa L.length vca) L), (Ka, Ka + 1, fun V : World => V.heap[Ka]? = some (Obj.cells #[.int .i64 C, .int .i64 TA, .string TR, .int .i64 TS, .int .i64 TU, .int .i64 TL, .bool TQ, .slice vaa L.length vca] 34)), (Va.heap.size, Kx0, fun V : World => V.ownsRow Va.heap.size 72 2 (.slice (some ⟨x0, 0, none⟩) s0.length s0.length) s0.length (s0.flatMap apC)), (Kx0, Kx0 + 1, fun V : World => V.heap[Kx0]? = some (Obj.cells #[.int .i64 ta_0, .string tr_0, .int .i64 ts_0, .int .i64 tu_0, .int .i64 tl_0, .bool tq_0, .slice (some ⟨x0, 0, none⟩) s0.length s0.length] 29)), (Vx0.heap.size, w5.heap.size, fun V : World => OG 72 2 apC V Vx0.heap.size (.slice vag L.length vcg) L)] w5) := Z6.out.push hb (Ow.rowAll hrq hb) (Nat.le_refl _)
  clear Z6 hb hrq
  have kva := Z7.out.get 3 rfl
  have cva_0 : w5.cell? ⟨Ka, 0, none⟩ = some (.int .i64 C) := cellOf kva 0 rfl
  have cva_1 : w5.cell? ⟨Ka, 1, none⟩ = some (.int .i64 TA) := cellOf kva 1 rfl
  have cva_2 : w5.cell? ⟨Ka, 2, none⟩ = some (.string TR) := cellOf kva 2 rfl
  have cva_3 : w5.cell? ⟨Ka, 3, none⟩ = some (.int .i64 TS) := cellOf kva 3 rfl
  have cva_4 : w5.cell? ⟨Ka, 4, none⟩ = some (.int .i64 TU) := cellOf kva 4 rfl
  have cva_5 : w5.cell? ⟨Ka, 5, none⟩ = some (.int .i64 TL) := cellOf kva 5 rfl
  have cva_6 : w5.cell? ⟨Ka, 6, none⟩ = some (.bool TQ) := cellOf kva 6 rfl
  have cva_7 : w5.cell? ⟨Ka, 7, none⟩ = some (.slice vaa L.length vca) := cellOf kva 7 rfl
  have lva : Ka < w5.heap.size := ltOf kva
  clear kva
  have Z8 : Hid (LS w [(w.heap.size, w.heap.size + 1, fun V : World => V.heap[w.heap.size]? = some BX0), (w1.heap.size, w2.heap.size, fun V : World => V.ownsRow w1.heap.size 72 2 (.slice (some ⟨ga0, 0, none⟩) s0.length s0.length) s0.length (s0.flatMap apC)), (w2.heap.size, Ka, fun V : World => OG 72 2 apC V w2.heap.size (.slice vaa L.length vca) L), (Ka, Ka + 1, fun V : World => V.heap[Ka]? = some (Obj.cells #[.int .i64 C, .int .i64 TA, .string TR, .int .i64 TS, .int .i64 TU, .int .i64 TL, .bool TQ, .slice vaa L.length vca] 34)), (Va.heap.size, Kx0, fun V : World => V.ownsRow Va.heap.size 72 2 (.slice (some ⟨x0, 0, none⟩) s0.length s0.length) s0.length (s0.flatMap apC)), (Kx0, Kx0 + 1, fun V : World => V.heap[Kx0]? = some (Obj.cells #[.int .i64 ta_0, .string tr_0, .int .i64 ts_0, .int .i64 tu_0, .int .i64 tl_0, .bool tq_0, .slice (some ⟨x0, 0, none⟩) s0.length s0.length] 29)), (Vx0.heap.size, w5.heap.size, fun V : World => OG 72 2 apC V Vx0.heap.size (.slice vag L.length vcg) L), (w5.heap.size, w5.heap.size + 1, fun V : World => V.heap[w5.heap.size]? = some (Obj.cells #[.int .i64 C, .int .i64 TA, .string TR, .int .i64 TS, .int .i64 TU, .int .i64 TL, .bool TQ, .slice vag L.length vcg] 34))] (w5.alloc (Obj.cells #[.int .i64 C, .int .i64 TA, .string TR, .int .i64 TS, .int .i64 TU, .int .i64 TL, .bool TQ, .slice vag L.length vcg] 34))) := Z7.out.push (by (repeat' (first | (with_reducible exact Below.refl _ _) | (with_reducible assumption) | (with_reducible refine Below.setCell ?_ ?_ _) | (with_reducible refine Below.alloc ?_ ?_ _) | (with_reducible refine below_drewN ?_ _) | (with_reducible refine Below.drew ?_) | (with_reducible exact Nat.le_refl _) | omega | (simp; done) | (simp; omega)))) (Ow.block (heap_alloc_new _ _)) (Nat.le_refl _)
  clear Z7
  go_wp2_with (fail)
  obtain ⟨Vg, hV⟩ : ∃ V, V = w5.alloc (Obj.cells #[.int .i64 C, .int .i64 TA, .string TR, .int .i64 TS, .int .i64 TU, .int .i64 TL, .bool TQ, .slice vag L.length vcg] 34) := ⟨_, rfl⟩
  rw [← hV] at Z8 ⊢
  obtain ⟨Kg, hK⟩ : ∃ K, K = w5.heap.size := ⟨_, rfl⟩
  rw [← hK] at Z8 HXg ⊢
  clear hV hK
  clear cva_0 cva_1 cva_2 cva_3 cva_4 cva_5 cva_6 cva_7 lva
  refine (eqToolResult_to C TA TR TS TU TL TQ HLN.out (OG.rg apC_len (B := Vx0.heap.size) (show OG 72 2 apC Vg Vx0.heap.size (.slice vag L.length vcg) L from (Z8.out.get 6 rfl))) (OG.rg apC_len (B := w2.heap.size) (show OG 72 2 apC Vg w2.heap.size (.slice vaa L.length vca) L from (Z8.out.get 2 rfl)))).mono ?_
  rintro e w6 ⟨rfl, hb⟩
  have Z9 : Hid (LS w [(w.heap.size, w.heap.size + 1, fun V : World => V.heap[w.heap.size]? = some BX0), (w1.heap.size, w2.heap.size, fun V : World => V.ownsRow w1.heap.size 72 2 (.slice (some ⟨ga0, 0, none⟩) s0.length s0.length) s0.length (s0.flatMap apC)), (w2.heap.size, Ka, fun V : World => OG 72 2 apC V w2.heap.size (.slice vaa L.length vca) L), (Ka, Ka + 1, fun V : World => V.heap[Ka]? = some (Obj.cells #[.int .i64 C, .int .i64 TA, .string TR, .int .i64 TS, .int .i64 TU, .int .i64 TL, .bool TQ, .slice vaa L.length vca] 34)), (Va.heap.size, Kx0, fun V : World => V.ownsRow Va.heap.size 72 2 (.slice (some ⟨x0, 0, none⟩) s0.length s0.length) s0.length (s0.flatMap apC)), (Kx0, Kx0 + 1, fun V : World => V.heap[Kx0]? = some (Obj.cells #[.int .i64 ta_0, .string tr_0, .int .i64 ts_0, .int .i64 tu_0, .int .i64 tl_0, .bool tq_0, .slice (some ⟨x0, 0, none⟩) s0.length s0.length] 29)), (Vx0.heap.size, Kg, fun V : World => OG 72 2 apC V Vx0.heap.size (.slice vag L.length vcg) L), (Kg, Kg + 1, fun V : World => V.heap[Kg]? = some (Obj.cells #[.int .i64 C, .int .i64 TA, .string TR, .int .i64 TS, .int .i64 TU, .int .i64 TL, .bool TQ, .slice vag L.length vcg] 34))] w6) := Z8.out.next hb
  clear Z8 hb
  have kvx0 := Z9.out.get 5 rfl
  have cvx0_0 : w6.cell? ⟨Kx0, 0, none⟩ = some (.int .i64 ta_0) := cellOf kvx0 0 rfl
  have cvx0_1 : w6.cell? ⟨Kx0, 1, none⟩ = some (.string tr_0) := cellOf kvx0 1 rfl
  have cvx0_2 : w6.cell? ⟨Kx0, 2, none⟩ = some (.int .i64 ts_0) := cellOf kvx0 2 rfl
  have cvx0_3 : w6.cell? ⟨Kx0, 3, none⟩ = some (.int .i64 tu_0) := cellOf kvx0 3 rfl
  have cvx0_4 : w6.cell? ⟨Kx0, 4, none⟩ = some (.int .i64 tl_0) := cellOf kvx0 4 rfl
  have cvx0_5 : w6.cell? ⟨Kx0, 5, none⟩ = some (.bool tq_0) := cellOf kvx0 5 rfl
  have cvx0_6 : w6.cell? ⟨Kx0, 6, none⟩ = some (.slice (some ⟨x0, 0, none⟩) s0.length s0.length) := cellOf kvx0 6 rfl
  have lvx0 : Kx0 < w6.heap.size := ltOf kvx0
  clear kvx0
  have kp0 := Z9.out.get 0 rfl
  rw [TB0.out] at kp0
  have cp0_0 : w6.cell? ⟨w.heap.size, 0, none⟩ = some (.int .i64 ta_0) := cellOf kp0 0 rfl
  have cp0_1 : w6.cell? ⟨w.heap.size, 1, none⟩ = some (.string tr_0) := cellOf kp0 1 rfl
  have cp0_2 : w6.cell? ⟨w.heap.size, 2, none⟩ = some (.int .i64 ts_0) := cellOf kp0 2 rfl
  have cp0_3 : w6.cell? ⟨w.heap.size, 3, none⟩ = some (.int .i64 tu_0) := cellOf kp0 3 rfl
  have cp0_4 : w6.cell? ⟨w.heap.size, 4, none⟩ = some (.int .i64 tl_0) := cellOf kp0 4 rfl
  have cp0_5 : w6.cell? ⟨w.heap.size, 5, none⟩ = some (.bool tq_0) := cellOf kp0 5 rfl
  have cp0_6 : w6.cell? ⟨w.heap.size, 6, none⟩ = some (.slice sa0 sn0 sc0) := cellOf kp0 6 rfl
  have lp0 : w.heap.size < w6.heap.size := ltOf kp0
  clear kp0
  go_wp2_with (fail)
  refine wp_region_float (by kernel_rfl) (fun hS => ?_)
  refine fl_take (i := 0) (d := 27) (v := .agg #[.int .i64 ta_0, .string tr_0, .int .i64 ts_0, .int .i64 tu_0, .int .i64 tl_0, .bool tq_0, .slice (some ⟨x0, 0, none⟩) s0.length s0.length]) rfl rfl rfl (by kernel_rfl) (by kernel_rfl) (by kernel_rfl) hS ?_ ?_
  · intro w' hk; go_simp
  simp only [Act.put, List.setIfInBounds_toArray, List.set_cons_zero, List.set_cons_succ]
  refine fl_take (i := 1) (d := 28) (v := .agg #[.int .i64 ta_0, .string tr_0, .int .i64 ts_0, .int .i64 tu_0, .int .i64 tl_0, .bool tq_0, .slice sa0 sn0 sc0]) rfl rfl rfl (by kernel_rfl) (by kernel_rfl) (by kernel_rfl) hS ?_ ?_
  · intro w' hk; go_simp
  simp only [Act.put, List.setIfInBounds_toArray, List.set_cons_zero, List.set_cons_succ]
  refine wpAnyH_all (rs := [2]) (by kernel_rfl) (by simp) ?_
  intro i hi
  obtain rfl : i = 2 := by simpa using hi
  refine op_call (d := 29) rfl rfl rfl (by go_simp) ((toTool_any ta_0 tr_0 ts_0 tu_0 tl_0 tq_0 (tl_len HL0.out) ((HR0.out.below Z9.out.bl).below (Below.refl _ _).drew)).mono ?_)
  rintro e ya0 ⟨gy0, rfl, hk5, hb5⟩
  have hK5 : KS w6 ya0 := hS.call hb5
  refine ⟨_, rfl, hK5, ?_⟩
  simp only [Act.put, List.setIfInBounds_toArray, List.set_cons_zero, List.set_cons_succ]
  refine wpAnyH_all (rs := [3]) (by kernel_rfl) (by simp) ?_
  intro i hi
  obtain rfl : i = 3 := by simpa using hi
  refine op_call (d := 30) rfl rfl rfl (by go_simp) ((eqTool_same ta_0 tr_0 ts_0 tu_0 tl_0 tq_0 (by have := tl_len HL0.out; omega) (RG.below (OG.rg (T := 72) (B := Va.heap.size) apC_len (show w6.ownsRow Va.heap.size 72 2 (.slice (some ⟨x0, 0, none⟩) s0.length s0.length) s0.length (s0.flatMap apC) from Z9.out.get 4 rfl)) hK5.2) ((OG.rg apC_len hk5))).mono ?_)
  rintro e yb0 ⟨rfl, hb6⟩
  have hK6 : KS w6 yb0 := hK5.call hb6
  refine ⟨_, rfl, hK6, ?_⟩
  simp only [Act.put, List.setIfInBounds_toArray, List.set_cons_zero, List.set_cons_succ]
  refine wpAnyH_all (rs := [4]) (by kernel_rfl) (by simp) ?_
  intro i hi
  obtain rfl : i = 4 := by simpa using hi
  refine op_val (d := 31) (v := .bool false) (w' := yb0) rfl rfl rfl (by go_simp; try rfl) ?_
  simp only [Act.put, List.setIfInBounds_toArray, List.set_cons_zero, List.set_cons_succ]
  refine ⟨hK6, wpAnyH_done (by kernel_rfl) (NoPanic.normal ?_) _⟩
  have Z10 : Hid (LS w [(w.heap.size, w.heap.size + 1, fun V : World => V.heap[w.heap.size]? = some BX0), (w1.heap.size, w2.heap.size, fun V : World => V.ownsRow w1.heap.size 72 2 (.slice (some ⟨ga0, 0, none⟩) s0.length s0.length) s0.length (s0.flatMap apC)), (w2.heap.size, Ka, fun V : World => OG 72 2 apC V w2.heap.size (.slice vaa L.length vca) L), (Ka, Ka + 1, fun V : World => V.heap[Ka]? = some (Obj.cells #[.int .i64 C, .int .i64 TA, .string TR, .int .i64 TS, .int .i64 TU, .int .i64 TL, .bool TQ, .slice vaa L.length vca] 34)), (Va.heap.size, Kx0, fun V : World => V.ownsRow Va.heap.size 72 2 (.slice (some ⟨x0, 0, none⟩) s0.length s0.length) s0.length (s0.flatMap apC)), (Kx0, Kx0 + 1, fun V : World => V.heap[Kx0]? = some (Obj.cells #[.int .i64 ta_0, .string tr_0, .int .i64 ts_0, .int .i64 tu_0, .int .i64 tl_0, .bool tq_0, .slice (some ⟨x0, 0, none⟩) s0.length s0.length] 29)), (Vx0.heap.size, Kg, fun V : World => OG 72 2 apC V Vx0.heap.size (.slice vag L.length vcg) L), (Kg, Kg + 1, fun V : World => V.heap[Kg]? = some (Obj.cells #[.int .i64 C, .int .i64 TA, .string TR, .int .i64 TS, .int .i64 TU, .int .i64 TL, .bool TQ, .slice vag L.length vcg] 34))] yb0) := Z9.out.next hK6.2
  clear Z9 hK6 hK5 hb6 hb5 hk5 hS cvx0_0 cvx0_1 cvx0_2 cvx0_3 cvx0_4 cvx0_5 cvx0_6 lvx0 cp0_0 cp0_1 cp0_2 cp0_3 cp0_4 cp0_5 cp0_6 lp0
  have kvx0 := Z10.out.get 5 rfl
  have cvx0_0 : yb0.cell? ⟨Kx0, 0, none⟩ = some (.int .i64 ta_0) := cellOf kvx0 0 rfl
  have cvx0_1 : yb0.cell? ⟨Kx0, 1, none⟩ = some (.string tr_0) := cellOf kvx0 1 rfl
  have cvx0_2 : yb0.cell? ⟨Kx0, 2, none⟩ = some (.int .i64 ts_0) := cellOf kvx0 2 rfl
  have cvx0_3 : yb0.cell? ⟨Kx0, 3, none⟩ = some (.int .i64 tu_0) := cellOf kvx0 3 rfl
  have cvx0_4 : yb0.cell? ⟨Kx0, 4, none⟩ = some (.int .i64 tl_0) := cellOf kvx0 4 rfl
  have cvx0_5 : yb0.cell? ⟨Kx0, 5, none⟩ = some (.bool tq_0) := cellOf kvx0 5 rfl
  have cvx0_6 : yb0.cell? ⟨Kx0, 6, none⟩ = some (.slice (some ⟨x0, 0, none⟩) s0.length s0.length) := cellOf kvx0 6 rfl
  have lvx0 : Kx0 < yb0.heap.size := ltOf kvx0
  clear kvx0
  go_wp2_with (fail)
  clear cvx0_0 cvx0_1 cvx0_2 cvx0_3 cvx0_4 cvx0_5 cvx0_6 lvx0
  refine (markTool_to ta_0 tr_0 ts_0 tu_0 tl_0 tq_0 1 (tl_len HL0.out) (by omega) (by omega) (show yb0.ownsRow Va.heap.size 72 2 (.slice (some ⟨x0, 0, none⟩) s0.length s0.length) s0.length (s0.flatMap apC) from Z10.out.get 4 rfl) (HX0.out)).mono ?_
  rintro e w7 ⟨rfl, hm, hc⟩
  have Z11 : Hid (LS w [(w.heap.size, w.heap.size + 1, fun V : World => V.heap[w.heap.size]? = some BX0), (w1.heap.size, w2.heap.size, fun V : World => V.ownsRow w1.heap.size 72 2 (.slice (some ⟨ga0, 0, none⟩) s0.length s0.length) s0.length (s0.flatMap apC)), (w2.heap.size, Ka, fun V : World => OG 72 2 apC V w2.heap.size (.slice vaa L.length vca) L), (Ka, Ka + 1, fun V : World => V.heap[Ka]? = some (Obj.cells #[.int .i64 C, .int .i64 TA, .string TR, .int .i64 TS, .int .i64 TU, .int .i64 TL, .bool TQ, .slice vaa L.length vca] 34)), (Va.heap.size, Kx0, fun V : World => True), (Kx0, Kx0 + 1, fun V : World => V.heap[Kx0]? = some (Obj.cells #[.int .i64 ta_0, .string tr_0, .int .i64 ts_0, .int .i64 tu_0, .int .i64 tl_0, .bool tq_0, .slice (some ⟨x0, 0, none⟩) s0.length s0.length] 29)), (Vx0.heap.size, Kg, fun V : World => OG 72 2 apC V Vx0.heap.size (.slice vag L.length vcg) L), (Kg, Kg + 1, fun V : World => V.heap[Kg]? = some (Obj.cells #[.int .i64 C, .int .i64 TA, .string TR, .int .i64 TS, .int .i64 TU, .int .i64 TL, .bool TQ, .slice vag L.length vcg] 34))] w7) := Z10.out.put 4 rfl hc ((Z10.out.own 4 rfl).true hc.size)
  clear Z10 hm hc
  obtain ⟨N0, hN⟩ : ∃ N, N = 1 + 2 * (s0.length : Int) := ⟨_, rfl⟩
  rw [← hN]
  have hN0 : 0 ≤ N0 ∧ N0 ≤ 10000000 ∧ ¬ N0 < 0 := by have := (tl_len HL0.out); omega
  have hN0a := hN0.2.2
  clear hN
  have kvg := Z11.out.get 7 rfl
  have cvg_0 : w7.cell? ⟨Kg, 0, none⟩ = some (.int .i64 C) := cellOf kvg 0 rfl
  have cvg_1 : w7.cell? ⟨Kg, 1, none⟩ = some (.int .i64 TA) := cellOf kvg 1 rfl
  have cvg_2 : w7.cell? ⟨Kg, 2, none⟩ = some (.string TR) := cellOf kvg 2 rfl
  have cvg_3 : w7.cell? ⟨Kg, 3, none⟩ = some (.int .i64 TS) := cellOf kvg 3 rfl
  have cvg_4 : w7.cell? ⟨Kg, 4, none⟩ = some (.int .i64 TU) := cellOf kvg 4 rfl
  have cvg_5 : w7.cell? ⟨Kg, 5, none⟩ = some (.int .i64 TL) := cellOf kvg 5 rfl
  have cvg_6 : w7.cell? ⟨Kg, 6, none⟩ = some (.bool TQ) := cellOf kvg 6 rfl
  have cvg_7 : w7.cell? ⟨Kg, 7, none⟩ = some (.slice vag L.length vcg) := cellOf kvg 7 rfl
  have lvg : Kg < w7.heap.size := ltOf kvg
  clear kvg
  have kva := Z11.out.get 3 rfl
  have cva_0 : w7.cell? ⟨Ka, 0, none⟩ = some (.int .i64 C) := cellOf kva 0 rfl
  have cva_1 : w7.cell? ⟨Ka, 1, none⟩ = some (.int .i64 TA) := cellOf kva 1 rfl
  have cva_2 : w7.cell? ⟨Ka, 2, none⟩ = some (.string TR) := cellOf kva 2 rfl
  have cva_3 : w7.cell? ⟨Ka, 3, none⟩ = some (.int .i64 TS) := cellOf kva 3 rfl
  have cva_4 : w7.cell? ⟨Ka, 4, none⟩ = some (.int .i64 TU) := cellOf kva 4 rfl
  have cva_5 : w7.cell? ⟨Ka, 5, none⟩ = some (.int .i64 TL) := cellOf kva 5 rfl
  have cva_6 : w7.cell? ⟨Ka, 6, none⟩ = some (.bool TQ) := cellOf kva 6 rfl
  have cva_7 : w7.cell? ⟨Ka, 7, none⟩ = some (.slice vaa L.length vca) := cellOf kva 7 rfl
  have lva : Ka < w7.heap.size := ltOf kva
  clear kva
  go_wp2_with (fail)
  clear cvg_0 cvg_1 cvg_2 cvg_3 cvg_4 cvg_5 cvg_6 cvg_7 lvg cva_0 cva_1 cva_2 cva_3 cva_4 cva_5 cva_6 cva_7 lva
  refine (eqToolResult_to C TA TR TS TU TL TQ HLN.out (OG.rg apC_len (B := Vx0.heap.size) (show OG 72 2 apC w7 Vx0.heap.size (.slice vag L.length vcg) L from (Z11.out.get 6 rfl))) (OG.rg apC_len (B := w2.heap.size) (show OG 72 2 apC w7 w2.heap.size (.slice vaa L.length vca) L from (Z11.out.get 2 rfl)))).mono ?_
  rintro e w8 ⟨rfl, hb⟩
  have Z12 : Hid (LS w [(w.heap.size, w.heap.size + 1, fun V : World => V.heap[w.heap.size]? = some BX0), (w1.heap.size, w2.heap.size, fun V : World => V.ownsRow w1.heap.size 72 2 (.slice (some ⟨ga0, 0, none⟩) s0.length s0.length) s0.length (s0.flatMap apC)), (w2.heap.size, Ka, fun V : World => OG 72 2 apC V w2.heap.size (.slice vaa L.length vca) L), (Ka, Ka + 1, fun V : World => V.heap[Ka]? = some (Obj.cells #[.int .i64 C, .int .i64 TA, .string TR, .int .i64 TS, .int .i64 TU, .int .i64 TL, .bool TQ, .slice vaa L.length vca] 34)), (Va.heap.size, Kx0, fun V : World => True), (Kx0, Kx0 + 1, fun V : World => V.heap[Kx0]? = some (Obj.cells #[.int .i64 ta_0, .string tr_0, .int .i64 ts_0, .int .i64 tu_0, .int .i64 tl_0, .bool tq_0, .slice (some ⟨x0, 0, none⟩) s0.length s0.length] 29)), (Vx0.heap.size, Kg, fun V : World => OG 72 2 apC V Vx0.heap.size (.slice vag L.length vcg) L), (Kg, Kg + 1, fun V : World => V.heap[Kg]? = some (Obj.cells #[.int .i64 C, .int .i64 TA, .string TR, .int .i64 TS, .int .i64 TU, .int .i64 TL, .bool TQ, .slice vag L.length vcg] 34))] w8) := Z11.out.next hb
  clear Z11 hb
  have kvg := Z12.out.get 7 rfl
  have cvg_0 : w8.cell? ⟨Kg, 0, none⟩ = some (.int .i64 C) := cellOf kvg 0 rfl
  have cvg_1 : w8.cell? ⟨Kg, 1, none⟩ = some (.int .i64 TA) := cellOf kvg 1 rfl
  have cvg_2 : w8.cell? ⟨Kg, 2, none⟩ = some (.string TR) := cellOf kvg 2 rfl
  have cvg_3 : w8.cell? ⟨Kg, 3, none⟩ = some (.int .i64 TS) := cellOf kvg 3 rfl
  have cvg_4 : w8.cell? ⟨Kg, 4, none⟩ = some (.int .i64 TU) := cellOf kvg 4 rfl
  have cvg_5 : w8.cell? ⟨Kg, 5, none⟩ = some (.int .i64 TL) := cellOf kvg 5 rfl
  have cvg_6 : w8.cell? ⟨Kg, 6, none⟩ = some (.bool TQ) := cellOf kvg 6 rfl
  have cvg_7 : w8.cell? ⟨Kg, 7, none⟩ = some (.slice vag L.length vcg) := cellOf kvg 7 rfl
  have lvg : Kg < w8.heap.size := ltOf kvg
  clear kvg
  go_wp2_with (fail)
  clear cvg_0 cvg_1 cvg_2 cvg_3 cvg_4 cvg_5 cvg_6 cvg_7 lvg
  refine (markToolResult_to C TA TR TS TU TL TQ HLN.out (show OG 72 2 apC w8 Vx0.heap.size (.slice vag L.length vcg) L from (Z12.out.get 6 rfl)) HXg.out).mono ?_
  rintro e w9 ⟨rfl, hm, hc⟩
  have Z13 : Hid (LS w [(w.heap.size, w.heap.size + 1, fun V : World => V.heap[w.heap.size]? = some BX0), (w1.heap.size, w2.heap.size, fun V : World => V.ownsRow w1.heap.size 72 2 (.slice (some ⟨ga0, 0, none⟩) s0.length s0.length) s0.length (s0.flatMap apC)), (w2.heap.size, Ka, fun V : World => OG 72 2 apC V w2.heap.size (.slice vaa L.length vca) L), (Ka, Ka + 1, fun V : World => V.heap[Ka]? = some (Obj.cells #[.int .i64 C, .int .i64 TA, .string TR, .int .i64 TS, .int .i64 TU, .int .i64 TL, .bool TQ, .slice vaa L.length vca] 34)), (Va.heap.size, Kx0, fun V : World => True), (Kx0, Kx0 + 1, fun V : World => V.heap[Kx0]? = some (Obj.cells #[.int .i64 ta_0, .string tr_0, .int .i64 ts_0, .int .i64 tu_0, .int .i64 tl_0, .bool tq_0, .slice (some ⟨x0, 0, none⟩) s0.length s0.length] 29)), (Vx0.heap.size, Kg, fun V : World => V.ownsRow Vx0.heap.size 72 2 (.slice vag L.length vcg) L.length (mkP stApproval 2 1 (L.length * 2))), (Kg, Kg + 1, fun V : World => V.heap[Kg]? = some (Obj.cells #[.int .i64 C, .int .i64 TA, .string TR, .int .i64 TS, .int .i64 TU, .int .i64 TL, .bool TQ, .slice vag L.length vcg] 34))] w9) := Z12.out.put 6 rfl hc (Ow.row hm (Z12.out.own 6 rfl).le.1 (Nat.le_trans (Z12.out.own 6 rfl).le.2 hc.size) HXg.out)
  clear Z12 hm hc
  obtain ⟨TT, hTT⟩ : ∃ TT, TT = 1 + 2 * (L.length : Int) := ⟨_, rfl⟩
  have hT0 : ¬ TT < 0 := by omega
  have HTT : Hid (TT = 1 + 2 * (L.length : Int)) := hTT
  rw [← hTT]
  clear hTT
  have kvg := Z13.out.get 7 rfl
  have cvg_0 : w9.cell? ⟨Kg, 0, none⟩ = some (.int .i64 C) := cellOf kvg 0 rfl
  have cvg_1 : w9.cell? ⟨Kg, 1, none⟩ = some (.int .i64 TA) := cellOf kvg 1 rfl
  have cvg_2 : w9.cell? ⟨Kg, 2, none⟩ = some (.string TR) := cellOf kvg 2 rfl
  have cvg_3 : w9.cell? ⟨Kg, 3, none⟩ = some (.int .i64 TS) := cellOf kvg 3 rfl
  have cvg_4 : w9.cell? ⟨Kg, 4, none⟩ = some (.int .i64 TU) := cellOf kvg 4 rfl
  have cvg_5 : w9.cell? ⟨Kg, 5, none⟩ = some (.int .i64 TL) := cellOf kvg 5 rfl
  have cvg_6 : w9.cell? ⟨Kg, 6, none⟩ = some (.bool TQ) := cellOf kvg 6 rfl
  have cvg_7 : w9.cell? ⟨Kg, 7, none⟩ = some (.slice vag L.length vcg) := cellOf kvg 7 rfl
  have lvg : Kg < w9.heap.size := ltOf kvg
  clear kvg
  go_wp2_with (fail)
  clear cvg_0 cvg_1 cvg_2 cvg_3 cvg_4 cvg_5 cvg_6 cvg_7 lvg
  refine (heldToolResult_to C TA TR TS TU TL TQ HLN.out (show w9.ownsRow Vx0.heap.size 72 2 (.slice vag L.length vcg) L.length (mkP stApproval 2 1 (L.length * 2)) from Z13.out.get 6 rfl)).mono ?_
  rintro e w10 ⟨rfl, hb⟩
  have Z14 : Hid (LS w [(w.heap.size, w.heap.size + 1, fun V : World => V.heap[w.heap.size]? = some BX0), (w1.heap.size, w2.heap.size, fun V : World => V.ownsRow w1.heap.size 72 2 (.slice (some ⟨ga0, 0, none⟩) s0.length s0.length) s0.length (s0.flatMap apC)), (w2.heap.size, Ka, fun V : World => OG 72 2 apC V w2.heap.size (.slice vaa L.length vca) L), (Ka, Ka + 1, fun V : World => V.heap[Ka]? = some (Obj.cells #[.int .i64 C, .int .i64 TA, .string TR, .int .i64 TS, .int .i64 TU, .int .i64 TL, .bool TQ, .slice vaa L.length vca] 34)), (Va.heap.size, Kx0, fun V : World => True), (Kx0, Kx0 + 1, fun V : World => V.heap[Kx0]? = some (Obj.cells #[.int .i64 ta_0, .string tr_0, .int .i64 ts_0, .int .i64 tu_0, .int .i64 tl_0, .bool tq_0, .slice (some ⟨x0, 0, none⟩) s0.length s0.length] 29)), (Vx0.heap.size, Kg, fun V : World => V.ownsRow Vx0.heap.size 72 2 (.slice vag L.length vcg) L.length (mkP stApproval 2 1 (L.length * 2))), (Kg, Kg + 1, fun V : World => V.heap[Kg]? = some (Obj.cells #[.int .i64 C, .int .i64 TA, .string TR, .int .i64 TS, .int .i64 TU, .int .i64 TL, .bool TQ, .slice vag L.length vcg] 34))] w10) := Z13.out.next hb
  clear Z13 hb
  rw [← HTT.out]
  have kp0 := Z14.out.get 0 rfl
  rw [TB0.out] at kp0
  have cp0_0 : w10.cell? ⟨w.heap.size, 0, none⟩ = some (.int .i64 ta_0) := cellOf kp0 0 rfl
  have cp0_1 : w10.cell? ⟨w.heap.size, 1, none⟩ = some (.string tr_0) := cellOf kp0 1 rfl
  have cp0_2 : w10.cell? ⟨w.heap.size, 2, none⟩ = some (.int .i64 ts_0) := cellOf kp0 2 rfl
  have cp0_3 : w10.cell? ⟨w.heap.size, 3, none⟩ = some (.int .i64 tu_0) := cellOf kp0 3 rfl
  have cp0_4 : w10.cell? ⟨w.heap.size, 4, none⟩ = some (.int .i64 tl_0) := cellOf kp0 4 rfl
  have cp0_5 : w10.cell? ⟨w.heap.size, 5, none⟩ = some (.bool tq_0) := cellOf kp0 5 rfl
  have cp0_6 : w10.cell? ⟨w.heap.size, 6, none⟩ = some (.slice sa0 sn0 sc0) := cellOf kp0 6 rfl
  have lp0 : w.heap.size < w10.heap.size := ltOf kp0
  clear kp0
  go_wp2_with (fail)
  clear cp0_0 cp0_1 cp0_2 cp0_3 cp0_4 cp0_5 cp0_6 lp0
  refine (toTool_any ta_0 tr_0 ts_0 tu_0 tl_0 tq_0 (tl_len HL0.out) (HR0.out.below Z14.out.bl)).mono ?_
  rintro e w11 ⟨gh0, rfl, ho, hb⟩
  have Z15 : Hid (LS w [(w.heap.size, w.heap.size + 1, fun V : World => V.heap[w.heap.size]? = some BX0), (w1.heap.size, w2.heap.size, fun V : World => V.ownsRow w1.heap.size 72 2 (.slice (some ⟨ga0, 0, none⟩) s0.length s0.length) s0.length (s0.flatMap apC)), (w2.heap.size, Ka, fun V : World => OG 72 2 apC V w2.heap.size (.slice vaa L.length vca) L), (Ka, Ka + 1, fun V : World => V.heap[Ka]? = some (Obj.cells #[.int .i64 C, .int .i64 TA, .string TR, .int .i64 TS, .int .i64 TU, .int .i64 TL, .bool TQ, .slice vaa L.length vca] 34)), (Va.heap.size, Kx0, fun V : World => True), (Kx0, Kx0 + 1, fun V : World => V.heap[Kx0]? = some (Obj.cells #[.int .i64 ta_0, .string tr_0, .int .i64 ts_0, .int .i64 tu_0, .int .i64 tl_0, .bool tq_0, .slice (some ⟨x0, 0, none⟩) s0.length s0.length] 29)), (Vx0.heap.size, Kg, fun V : World => V.ownsRow Vx0.heap.size 72 2 (.slice vag L.length vcg) L.length (mkP stApproval 2 1 (L.length * 2))), (Kg, Kg + 1, fun V : World => V.heap[Kg]? = some (Obj.cells #[.int .i64 C, .int .i64 TA, .string TR, .int .i64 TS, .int .i64 TU, .int .i64 TL, .bool TQ, .slice vag L.length vcg] 34)), (w10.heap.size, w11.heap.size, fun V : World => V.ownsRow w10.heap.size 72 2 (.slice (some ⟨gh0, 0, none⟩) s0.length s0.length) s0.length (s0.flatMap apC))] w11) := Z14.out.push hb (Ow.rowAll ho hb) (Nat.le_refl _)
  clear Z14 hb ho
  go_wp2_with (fail)
  refine (HIM.out w11 gh0 (OG.rg (T := 72) (B := w10.heap.size) apC_len (show w11.ownsRow w10.heap.size 72 2 (.slice (some ⟨gh0, 0, none⟩) s0.length s0.length) s0.length (s0.flatMap apC) from Z15.out.get 8 rfl))).mono ?_
  rintro e w12 ⟨vq, vr, rfl, hrq, hb⟩
  obtain ⟨vah, vch, rfl⟩ := (OG.rg apC_len hrq).form
  have Z16 : Hid (LS w [(w.heap.size, w.heap.size + 1, fun V : World => V.heap[w.heap.size]? = some BX0), (w1.heap.size, w2.heap.size, fun V : World => V.ownsRow w1.heap.size 72 2 (.slice (some ⟨ga0, 0, none⟩) s0.length s0.length) s0.length (s0.flatMap apC)), (w2.heap.size, Ka, fun V : World => OG 72 2 apC V w2.heap.size (.slice vaa L.length vca) L), (Ka, Ka + 1, fun V : World => V.heap[Ka]? = some (Obj.cells #[.int .i64 C, .int .i64 TA, .string TR, .int .i64 TS, .int .i64 TU, .int .i64 TL, .bool TQ, .slice vaa L.length vca] 34)), (Va.heap.size, Kx0, fun V : World => True), (Kx0, Kx0 + 1, fun V : World => V.heap[Kx0]? = some (Obj.cells #[.int .i64 ta_0, .string tr_0, .int .i64 ts_0, .int .i64 tu_0, .int .i64 tl_0, .bool tq_0, .slice (some ⟨x0, 0, none⟩) s0.length s0.length] 29)), (Vx0.heap.size, Kg, fun V : World => V.ownsRow Vx0.heap.size 72 2 (.slice vag L.length vcg) L.length (mkP stApproval 2 1 (L.length * 2))), (Kg, Kg + 1, fun V : World => V.heap[Kg]? = some (Obj.cells #[.int .i64 C, .int .i64 TA, .string TR, .int .i64 TS, .int .i64 TU, .int .i64 TL, .bool TQ, .slice vag L.length vcg] 34)), (w10.heap.size, w11.heap.size, fun V : World => V.ownsRow w10.heap.size 72 2 (.slice (some ⟨gh0, 0, none⟩) s0.length s0.length) s0.length (s0.flatMap apC)), (w11.heap.size, w12.heap.size, fun V : World => OG 72 2 apC V w11.heap.size (.slice vah L.length vch) L)] w12) := Z15.out.push hb (Ow.rowAll hrq hb) (Nat.le_refl _)
  clear Z15 hb hrq
  have kva := Z16.out.get 3 rfl
  have cva_0 : w12.cell? ⟨Ka, 0, none⟩ = some (.int .i64 C) := cellOf kva 0 rfl
  have cva_1 : w12.cell? ⟨Ka, 1, none⟩ = some (.int .i64 TA) := cellOf kva 1 rfl
  have cva_2 : w12.cell? ⟨Ka, 2, none⟩ = some (.string TR) := cellOf kva 2 rfl
  have cva_3 : w12.cell? ⟨Ka, 3, none⟩ = some (.int .i64 TS) := cellOf kva 3 rfl
  have cva_4 : w12.cell? ⟨Ka, 4, none⟩ = some (.int .i64 TU) := cellOf kva 4 rfl
  have cva_5 : w12.cell? ⟨Ka, 5, none⟩ = some (.int .i64 TL) := cellOf kva 5 rfl
  have cva_6 : w12.cell? ⟨Ka, 6, none⟩ = some (.bool TQ) := cellOf kva 6 rfl
  have cva_7 : w12.cell? ⟨Ka, 7, none⟩ = some (.slice vaa L.length vca) := cellOf kva 7 rfl
  have lva : Ka < w12.heap.size := ltOf kva
  clear kva
  have Z17 : Hid (LS w [(w.heap.size, w.heap.size + 1, fun V : World => V.heap[w.heap.size]? = some BX0), (w1.heap.size, w2.heap.size, fun V : World => V.ownsRow w1.heap.size 72 2 (.slice (some ⟨ga0, 0, none⟩) s0.length s0.length) s0.length (s0.flatMap apC)), (w2.heap.size, Ka, fun V : World => OG 72 2 apC V w2.heap.size (.slice vaa L.length vca) L), (Ka, Ka + 1, fun V : World => V.heap[Ka]? = some (Obj.cells #[.int .i64 C, .int .i64 TA, .string TR, .int .i64 TS, .int .i64 TU, .int .i64 TL, .bool TQ, .slice vaa L.length vca] 34)), (Va.heap.size, Kx0, fun V : World => True), (Kx0, Kx0 + 1, fun V : World => V.heap[Kx0]? = some (Obj.cells #[.int .i64 ta_0, .string tr_0, .int .i64 ts_0, .int .i64 tu_0, .int .i64 tl_0, .bool tq_0, .slice (some ⟨x0, 0, none⟩) s0.length s0.length] 29)), (Vx0.heap.size, Kg, fun V : World => V.ownsRow Vx0.heap.size 72 2 (.slice vag L.length vcg) L.length (mkP stApproval 2 1 (L.length * 2))), (Kg, Kg + 1, fun V : World => V.heap[Kg]? = some (Obj.cells #[.int .i64 C, .int .i64 TA, .string TR, .int .i64 TS, .int .i64 TU, .int .i64 TL, .bool TQ, .slice vag L.length vcg] 34)), (w10.heap.size, w11.heap.size, fun V : World => V.ownsRow w10.heap.size 72 2 (.slice (some ⟨gh0, 0, none⟩) s0.length s0.length) s0.length (s0.flatMap apC)), (w11.heap.size, w12.heap.size, fun V : World => OG 72 2 apC V w11.heap.size (.slice vah L.length vch) L), (w12.heap.size, w12.heap.size + 1, fun V : World => V.heap[w12.heap.size]? = some (Obj.cells #[.int .i64 C, .int .i64 TA, .string TR, .int .i64 TS, .int .i64 TU, .int .i64 TL, .bool TQ, .slice vah L.length vch] 34))] (w12.alloc (Obj.cells #[.int .i64 C, .int .i64 TA, .string TR, .int .i64 TS, .int .i64 TU, .int .i64 TL, .bool TQ, .slice vah L.length vch] 34))) := Z16.out.push (by (repeat' (first | (with_reducible exact Below.refl _ _) | (with_reducible assumption) | (with_reducible refine Below.setCell ?_ ?_ _) | (with_reducible refine Below.alloc ?_ ?_ _) | (with_reducible refine below_drewN ?_ _) | (with_reducible refine Below.drew ?_) | (with_reducible exact Nat.le_refl _) | omega | (simp; done) | (simp; omega)))) (Ow.block (heap_alloc_new _ _)) (Nat.le_refl _)
  clear Z16
  go_wp2_with (fail)
  obtain ⟨Vh, hV⟩ : ∃ V, V = w12.alloc (Obj.cells #[.int .i64 C, .int .i64 TA, .string TR, .int .i64 TS, .int .i64 TU, .int .i64 TL, .bool TQ, .slice vah L.length vch] 34) := ⟨_, rfl⟩
  rw [← hV] at Z17 ⊢
  obtain ⟨Kh, hK⟩ : ∃ K, K = w12.heap.size := ⟨_, rfl⟩
  rw [← hK] at Z17  ⊢
  clear hV hK
  clear cva_0 cva_1 cva_2 cva_3 cva_4 cva_5 cva_6 cva_7 lva
  refine (eqToolResult_to C TA TR TS TU TL TQ HLN.out (OG.rg apC_len (B := w11.heap.size) (show OG 72 2 apC Vh w11.heap.size (.slice vah L.length vch) L from (Z17.out.get 9 rfl))) (OG.rg apC_len (B := w2.heap.size) (show OG 72 2 apC Vh w2.heap.size (.slice vaa L.length vca) L from (Z17.out.get 2 rfl)))).mono ?_
  rintro e w13 ⟨rfl, hb⟩
  have Z18 : Hid (LS w [(w.heap.size, w.heap.size + 1, fun V : World => V.heap[w.heap.size]? = some BX0), (w1.heap.size, w2.heap.size, fun V : World => V.ownsRow w1.heap.size 72 2 (.slice (some ⟨ga0, 0, none⟩) s0.length s0.length) s0.length (s0.flatMap apC)), (w2.heap.size, Ka, fun V : World => OG 72 2 apC V w2.heap.size (.slice vaa L.length vca) L), (Ka, Ka + 1, fun V : World => V.heap[Ka]? = some (Obj.cells #[.int .i64 C, .int .i64 TA, .string TR, .int .i64 TS, .int .i64 TU, .int .i64 TL, .bool TQ, .slice vaa L.length vca] 34)), (Va.heap.size, Kx0, fun V : World => True), (Kx0, Kx0 + 1, fun V : World => V.heap[Kx0]? = some (Obj.cells #[.int .i64 ta_0, .string tr_0, .int .i64 ts_0, .int .i64 tu_0, .int .i64 tl_0, .bool tq_0, .slice (some ⟨x0, 0, none⟩) s0.length s0.length] 29)), (Vx0.heap.size, Kg, fun V : World => V.ownsRow Vx0.heap.size 72 2 (.slice vag L.length vcg) L.length (mkP stApproval 2 1 (L.length * 2))), (Kg, Kg + 1, fun V : World => V.heap[Kg]? = some (Obj.cells #[.int .i64 C, .int .i64 TA, .string TR, .int .i64 TS, .int .i64 TU, .int .i64 TL, .bool TQ, .slice vag L.length vcg] 34)), (w10.heap.size, w11.heap.size, fun V : World => V.ownsRow w10.heap.size 72 2 (.slice (some ⟨gh0, 0, none⟩) s0.length s0.length) s0.length (s0.flatMap apC)), (w11.heap.size, Kh, fun V : World => OG 72 2 apC V w11.heap.size (.slice vah L.length vch) L), (Kh, Kh + 1, fun V : World => V.heap[Kh]? = some (Obj.cells #[.int .i64 C, .int .i64 TA, .string TR, .int .i64 TS, .int .i64 TU, .int .i64 TL, .bool TQ, .slice vah L.length vch] 34))] w13) := Z17.out.next hb
  clear Z17 hb
  have kvg := Z18.out.get 7 rfl
  have cvg_0 : w13.cell? ⟨Kg, 0, none⟩ = some (.int .i64 C) := cellOf kvg 0 rfl
  have cvg_1 : w13.cell? ⟨Kg, 1, none⟩ = some (.int .i64 TA) := cellOf kvg 1 rfl
  have cvg_2 : w13.cell? ⟨Kg, 2, none⟩ = some (.string TR) := cellOf kvg 2 rfl
  have cvg_3 : w13.cell? ⟨Kg, 3, none⟩ = some (.int .i64 TS) := cellOf kvg 3 rfl
  have cvg_4 : w13.cell? ⟨Kg, 4, none⟩ = some (.int .i64 TU) := cellOf kvg 4 rfl
  have cvg_5 : w13.cell? ⟨Kg, 5, none⟩ = some (.int .i64 TL) := cellOf kvg 5 rfl
  have cvg_6 : w13.cell? ⟨Kg, 6, none⟩ = some (.bool TQ) := cellOf kvg 6 rfl
  have cvg_7 : w13.cell? ⟨Kg, 7, none⟩ = some (.slice vag L.length vcg) := cellOf kvg 7 rfl
  have lvg : Kg < w13.heap.size := ltOf kvg
  clear kvg
  go_wp2_with (fail)
  clear cvg_0 cvg_1 cvg_2 cvg_3 cvg_4 cvg_5 cvg_6 cvg_7 lvg
  refine (heldToolResult_to C TA TR TS TU TL TQ HLN.out (show w13.ownsRow Vx0.heap.size 72 2 (.slice vag L.length vcg) L.length (mkP stApproval 2 1 (L.length * 2)) from Z18.out.get 6 rfl)).mono ?_
  rintro e w14 ⟨rfl, hb⟩
  have Z19 : Hid (LS w [(w.heap.size, w.heap.size + 1, fun V : World => V.heap[w.heap.size]? = some BX0), (w1.heap.size, w2.heap.size, fun V : World => V.ownsRow w1.heap.size 72 2 (.slice (some ⟨ga0, 0, none⟩) s0.length s0.length) s0.length (s0.flatMap apC)), (w2.heap.size, Ka, fun V : World => OG 72 2 apC V w2.heap.size (.slice vaa L.length vca) L), (Ka, Ka + 1, fun V : World => V.heap[Ka]? = some (Obj.cells #[.int .i64 C, .int .i64 TA, .string TR, .int .i64 TS, .int .i64 TU, .int .i64 TL, .bool TQ, .slice vaa L.length vca] 34)), (Va.heap.size, Kx0, fun V : World => True), (Kx0, Kx0 + 1, fun V : World => V.heap[Kx0]? = some (Obj.cells #[.int .i64 ta_0, .string tr_0, .int .i64 ts_0, .int .i64 tu_0, .int .i64 tl_0, .bool tq_0, .slice (some ⟨x0, 0, none⟩) s0.length s0.length] 29)), (Vx0.heap.size, Kg, fun V : World => V.ownsRow Vx0.heap.size 72 2 (.slice vag L.length vcg) L.length (mkP stApproval 2 1 (L.length * 2))), (Kg, Kg + 1, fun V : World => V.heap[Kg]? = some (Obj.cells #[.int .i64 C, .int .i64 TA, .string TR, .int .i64 TS, .int .i64 TU, .int .i64 TL, .bool TQ, .slice vag L.length vcg] 34)), (w10.heap.size, w11.heap.size, fun V : World => V.ownsRow w10.heap.size 72 2 (.slice (some ⟨gh0, 0, none⟩) s0.length s0.length) s0.length (s0.flatMap apC)), (w11.heap.size, Kh, fun V : World => OG 72 2 apC V w11.heap.size (.slice vah L.length vch) L), (Kh, Kh + 1, fun V : World => V.heap[Kh]? = some (Obj.cells #[.int .i64 C, .int .i64 TA, .string TR, .int .i64 TS, .int .i64 TU, .int .i64 TL, .bool TQ, .slice vah L.length vch] 34))] w14) := Z18.out.next hb
  clear Z18 hb
  rw [← HTT.out]
  go_wp2
  go_returns
  exact ⟨rfl, Z19.out.bl⟩

set_option maxRecDepth 100000 in
theorem rt19_lifted (os : Os) (started : os.Started) (H : Type) (enc : TypeId × Value → H) :
    ReturnsInHanded {} Try.checked os 4 .any (Rows.fnExactRecoverToolSpec.pre6 enc Try.prog Try.f4 Rows.fnExactRecoverToolRow.domain false) (Rows.fnExactRecoverToolSpec.post enc Try.prog Try.f4 false true false false) := by
  refine returnsInHanded_of_change (C := Try.checked) own started (by kernel_rfl) Try.func4
    (ChangeSpec.witness6 (enc := enc) (C := Try.checked) false ⟨#[], #[.agg #[.int .i64 0, .string ByteArray.empty, .int .i64 0, .int .i64 0, .int .i64 0, .bool false, .slice none 0 0]], []⟩ 8 (by kernel_rfl) (by kernel_rfl) (by kernel_rfl) (by kernel_rfl)) ?_
  intro W base args ds gs before hval0 hW hcnd _
  have hval : ∀ (j : Nat) t v, Try.f4.params[j]? = some t → args[j]? = some v → Value.okWide Try.prog W .any base t v := hval0
  have hW' := hW
  obtain ⟨p, q, hA0, hV, rfl, hfz, hnd⟩ := hW
  have hA : DataW.TrodAll enc Try.prog W 0 (fun _ => true) true Try.f4.params.toList args.toList ds p := hA0
  rw [Try.params4] at hA hval
  obtain ⟨v0, vs0, d0, ds0, p0, q0, hargs, rfl, rfl, h0, r0⟩ := trodAll_cons hA
  obtain ⟨rfl, rfl, rfl⟩ := trodAll_nil r0
  obtain rfl : args = #[v0] := by cases args; simp_all
  obtain ⟨rfl, rfl⟩ := trodVars_none hV
  have k0 := h0
  have lt0 : ∀ x ∈ p0, x.block < W.heap.size := by obtain ⟨m, hm⟩ := k0; exact DataW.trod_lt m _ _ _ hm
  obtain ⟨ta0, tr0, ts0, tu0, tl0, tq0, sa0, sn0, sc0, s0, rfl, ri0, sl0⟩ := tool_open (hval 0 24 v0 rfl rfl) h0
  clear hA0 hval0
  refine (law_rt19 ta0 tr0 ts0 tu0 tl0 tq0 s0 sl0 ri0).mono fun e W' ⟨he, hg⟩ => ?_
  subst he
  exact ⟨_, rfl, _, _, _, [], _, [], hW', trodAll_mk1 (shut_bool Try.underlying4 _), (trodAll_cons_mk (Below.trod laidOut (by kernel_rfl) (of_decide_eq_true (by kernel_rfl)) k0 hg lt0) trodAll_mk0), rfl, hg.frame _, fun h => by cases h⟩

theorem rt19_over : Rows.fnExactRecoverToolRow.holds Try.pinned (OpenSpec.ofChange Rows.fnExactRecoverToolSpec) :=
  OpenClaim.holds_of_wide 4 Try.f4 rfl rfl rfl rfl rfl rfl rfl ⟨rfl, rfl, rfl, rfl, rfl⟩ rfl rfl rfl rfl rfl (by kernel_rfl) Try.func4 (by kernel_rfl)
    (of_decide_eq_true (by kernel_rfl)) (by unfold Func.isWrapper; first | (rw [if_pos (by decide +kernel)]; kernel_rfl) | (rw [if_neg (by decide +kernel)]; exact ⟨rfl, rfl⟩))
    (fun os started H enc _ => rt19_lifted os started H enc)

theorem rt19_proved : Rows.FnExactRecoverToolSaid :=
  rt19_over
#print axioms rt19_proved

end Go.Proofs.Ytcfcknfaeliodaa
