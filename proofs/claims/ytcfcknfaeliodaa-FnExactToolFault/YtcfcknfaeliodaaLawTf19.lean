/- Proved here: 'the program's ToolFault answers as the model's; it writes into no argument', without a condition. -/
import Derived.Test.YtcfcknfaeliodaaTgI
import Derived.Test.YtcfcknfaeliodaaTgS
import Derived.Test.YtcfcknfaeliodaaTlB
import Derived.Test.YtcfcknfaeliodaaLwS
import Derived.ChangeMaps5
import Derived.Test.YtcfcknfaeliodaaRows
namespace Go.Proofs.Ytcfcknfaeliodaa
open Go.ChangeShapes Go.WideShapes Go.ChangeAt Go.RowKit Go.Joins Go.ChangeMaps
set_option linter.unusedVariables false
set_option linter.unusedSimpArgs false

theorem own : ownKnob Try.prog.godebug = none := by kernel_rfl
theorem laidOut : laidOutB Try.prog = true := by kernel_rfl

set_option maxRecDepth 10000 in
set_option maxHeartbeats 25600000 in
theorem law_tf19 {w : World}  (ta_0 : Int) (tr_0 : ByteArray) (ts_0 tu_0 tl_0 : Int) (tq_0 : Bool) {sa0 : Option Addr} {sn0 sc0 : Nat} (s0 : List Ap) (hm0 : okTl tr_0 s0) (hr0 : RG 2 apC w (.slice sa0 sn0 sc0) s0) :
    Calls Try.prog 3 #[.agg #[.int .i64 ta_0, .string tr_0, .int .i64 ts_0, .int .i64 tu_0, .int .i64 tl_0, .bool tq_0, .slice sa0 sn0 sc0]] w fun e w' => e = .returned (.bool true) ∧ Below w.heap.size w w' := by
  have HM0 : Hid (okTl tr_0 s0) := hm0
  have HR0 : Hid (RG 2 apC w (.slice sa0 sn0 sc0) s0) := hr0
  have HE0 : Hid (sn0 = s0.length) := hr0.len
  clear hm0 hr0
  obtain ⟨BX0, hBX0⟩ : ∃ BX, BX = Obj.cells #[.int .i64 ta_0, .string tr_0, .int .i64 ts_0, .int .i64 tu_0, .int .i64 tl_0, .bool tq_0, .slice sa0 sn0 sc0] 24 := ⟨_, rfl⟩
  have Z0 : Hid (LS w [(w.heap.size, w.heap.size + 1, fun V : World => V.heap[w.heap.size]? = some BX0)] (w.alloc (Obj.cells #[.int .i64 ta_0, .string tr_0, .int .i64 ts_0, .int .i64 tu_0, .int .i64 tl_0, .bool tq_0, .slice sa0 sn0 sc0] 24))) := by
    have p0 := LS.start w
    have p1 := LS.push (V' := (w.alloc (Obj.cells #[.int .i64 ta_0, .string tr_0, .int .i64 ts_0, .int .i64 tu_0, .int .i64 tl_0, .bool tq_0, .slice sa0 sn0 sc0] 24))) p0 (by (repeat' (first | (with_reducible exact Below.refl _ _) | (with_reducible assumption) | (with_reducible refine Below.setCell ?_ ?_ _) | (with_reducible refine Below.alloc ?_ ?_ _) | (with_reducible refine below_drewN ?_ _) | (with_reducible refine Below.drew ?_) | (with_reducible exact Nat.le_refl _) | omega | (simp; done) | (simp; omega)))) (Ow.block (k := w.heap.size) (o := BX0) (by rw [hBX0]; have := heap_alloc_new w (Obj.cells #[.int .i64 ta_0, .string tr_0, .int .i64 ts_0, .int .i64 tu_0, .int .i64 tl_0, .bool tq_0, .slice sa0 sn0 sc0] 24); simpa using this)) (by simp)
    exact p1
  have TB0 : Hid (BX0 = Obj.cells #[.int .i64 ta_0, .string tr_0, .int .i64 ts_0, .int .i64 tu_0, .int .i64 tl_0, .bool tq_0, .slice sa0 sn0 sc0] 24) := hBX0
  clear hBX0
  go_enter Try.func3, Try.ntmps3
  go_wp2_with (fail)
  obtain ⟨W0, hW0⟩ : ∃ V, V = (w.alloc (Obj.cells #[.int .i64 ta_0, .string tr_0, .int .i64 ts_0, .int .i64 tu_0, .int .i64 tl_0, .bool tq_0, .slice sa0 sn0 sc0] 24)) := ⟨_, rfl⟩
  rw [← hW0] at Z0 ⊢
  clear hW0
  refine (szTool_gen ta_0 tr_0 ts_0 tu_0 tl_0 tq_0 sa0 sn0 sc0 1048576 s0 _ (by omega) (by omega) HM0.out (HR0.out.below Z0.out.bl)).mono ?_
  rintro e w1 ⟨r0, rfl, hq0, hb⟩
  have Z1 : Hid (LS w [(w.heap.size, w.heap.size + 1, fun V : World => V.heap[w.heap.size]? = some BX0)] w1) := Z0.out.next hb
  clear Z0 hb
  rcases hq0 with hneg | ⟨u0, v0, tt0⟩
  · go_wp2
    go_returns
    exact ⟨rfl, Z1.out.bl⟩
  have hl0 : ¬ r0 < 0 := by omega
  have HL0 : Hid (smTl 1048576 tr_0 s0) := smTl_mono (by omega) tt0
  obtain ⟨C, hC⟩ : ∃ X, X = tlF ta_0 tr_0 ts_0 tu_0 tl_0 tq_0 s0 := ⟨_, rfl⟩
  have HSP : Hid (∀ (W : World) (g0 : Nat), (RG 2 apC W (.slice (some ⟨g0, 0, none⟩) s0.length s0.length) s0) → Calls Try.prog 8 #[.agg #[.int .i64 ta_0, .string tr_0, .int .i64 ts_0, .int .i64 tu_0, .int .i64 tl_0, .bool tq_0, .slice (some ⟨g0, 0, none⟩) s0.length s0.length]] W fun e w' => e = .returned (.int .i64 C) ∧ Below W.heap.size W w') := fun W g0 h0 => by
    rw [hC]
    exact spec_tl ta_0 tr_0 ts_0 tu_0 tl_0 tq_0 (tl_len HL0.out) (fun j h => by have := HL0.out.ap j h; unfold smAp at this; omega) h0
  have HIM : Hid (∀ (W : World) (g0 : Nat), (RG 2 apC W (.slice (some ⟨g0, 0, none⟩) s0.length s0.length) s0) → Calls Try.prog 10 #[.agg #[.int .i64 ta_0, .string tr_0, .int .i64 ts_0, .int .i64 tu_0, .int .i64 tl_0, .bool tq_0, .slice (some ⟨g0, 0, none⟩) s0.length s0.length]] W fun e w' => e = .returned (.int .i64 C) ∧ Below W.heap.size W w') := fun W g0 h0 => by
    rw [hC]
    exact impl_tl ta_0 tr_0 ts_0 tu_0 tl_0 tq_0 (tl_len HL0.out) (fun j h => by have := HL0.out.ap j h; unfold smAp at this; omega) (Nat.le_refl _) h0
  clear hC u0 v0 tt0
  have kp0 := Z1.out.get 0 rfl
  rw [TB0.out] at kp0
  have cp0_0 : w1.cell? ⟨w.heap.size, 0, none⟩ = some (.int .i64 ta_0) := cellOf kp0 0 rfl
  have cp0_1 : w1.cell? ⟨w.heap.size, 1, none⟩ = some (.string tr_0) := cellOf kp0 1 rfl
  have cp0_2 : w1.cell? ⟨w.heap.size, 2, none⟩ = some (.int .i64 ts_0) := cellOf kp0 2 rfl
  have cp0_3 : w1.cell? ⟨w.heap.size, 3, none⟩ = some (.int .i64 tu_0) := cellOf kp0 3 rfl
  have cp0_4 : w1.cell? ⟨w.heap.size, 4, none⟩ = some (.int .i64 tl_0) := cellOf kp0 4 rfl
  have cp0_5 : w1.cell? ⟨w.heap.size, 5, none⟩ = some (.bool tq_0) := cellOf kp0 5 rfl
  have cp0_6 : w1.cell? ⟨w.heap.size, 6, none⟩ = some (.slice sa0 sn0 sc0) := cellOf kp0 6 rfl
  have lp0 : w.heap.size < w1.heap.size := ltOf kp0
  clear kp0
  go_wp2_with (fail)
  clear cp0_0 cp0_1 cp0_2 cp0_3 cp0_4 cp0_5 cp0_6 lp0
  refine (toTool_any ta_0 tr_0 ts_0 tu_0 tl_0 tq_0 (tl_len HL0.out) (HR0.out.below Z1.out.bl)).mono ?_
  rintro e w2 ⟨ga0, rfl, ho, hb⟩
  have Z2 : Hid (LS w [(w.heap.size, w.heap.size + 1, fun V : World => V.heap[w.heap.size]? = some BX0), (w1.heap.size, w2.heap.size, fun V : World => V.ownsRow w1.heap.size 72 2 (.slice (some ⟨ga0, 0, none⟩) s0.length s0.length) s0.length (s0.flatMap apC))] w2) := Z1.out.push hb (Ow.rowAll ho hb) (Nat.le_refl _)
  clear Z1 hb ho
  go_wp2_with (fail)
  refine (HSP.out w2 ga0 (OG.rg (T := 72) (B := w1.heap.size) apC_len (show w2.ownsRow w1.heap.size 72 2 (.slice (some ⟨ga0, 0, none⟩) s0.length s0.length) s0.length (s0.flatMap apC) from Z2.out.get 1 rfl))).mono ?_
  rintro e w3 ⟨rfl, hb⟩
  have Z3 : Hid (LS w [(w.heap.size, w.heap.size + 1, fun V : World => V.heap[w.heap.size]? = some BX0), (w1.heap.size, w2.heap.size, fun V : World => V.ownsRow w1.heap.size 72 2 (.slice (some ⟨ga0, 0, none⟩) s0.length s0.length) s0.length (s0.flatMap apC))] w3) := Z2.out.next hb
  clear Z2 hb
  have kp0 := Z3.out.get 0 rfl
  rw [TB0.out] at kp0
  have cp0_0 : w3.cell? ⟨w.heap.size, 0, none⟩ = some (.int .i64 ta_0) := cellOf kp0 0 rfl
  have cp0_1 : w3.cell? ⟨w.heap.size, 1, none⟩ = some (.string tr_0) := cellOf kp0 1 rfl
  have cp0_2 : w3.cell? ⟨w.heap.size, 2, none⟩ = some (.int .i64 ts_0) := cellOf kp0 2 rfl
  have cp0_3 : w3.cell? ⟨w.heap.size, 3, none⟩ = some (.int .i64 tu_0) := cellOf kp0 3 rfl
  have cp0_4 : w3.cell? ⟨w.heap.size, 4, none⟩ = some (.int .i64 tl_0) := cellOf kp0 4 rfl
  have cp0_5 : w3.cell? ⟨w.heap.size, 5, none⟩ = some (.bool tq_0) := cellOf kp0 5 rfl
  have cp0_6 : w3.cell? ⟨w.heap.size, 6, none⟩ = some (.slice sa0 sn0 sc0) := cellOf kp0 6 rfl
  have lp0 : w.heap.size < w3.heap.size := ltOf kp0
  clear kp0
  go_wp2_with (fail)
  clear cp0_0 cp0_1 cp0_2 cp0_3 cp0_4 cp0_5 cp0_6 lp0
  refine (toTool_any ta_0 tr_0 ts_0 tu_0 tl_0 tq_0 (tl_len HL0.out) (HR0.out.below Z3.out.bl)).mono ?_
  rintro e w4 ⟨x0, rfl, ho, hb⟩
  have Z4 : Hid (LS w [(w.heap.size, w.heap.size + 1, fun V : World => V.heap[w.heap.size]? = some BX0), (w1.heap.size, w2.heap.size, fun V : World => V.ownsRow w1.heap.size 72 2 (.slice (some ⟨ga0, 0, none⟩) s0.length s0.length) s0.length (s0.flatMap apC)), (w3.heap.size, w4.heap.size, fun V : World => V.ownsRow w3.heap.size 72 2 (.slice (some ⟨x0, 0, none⟩) s0.length s0.length) s0.length (s0.flatMap apC))] w4) := Z3.out.push hb (Ow.rowAll ho hb) (Nat.le_refl _)
  clear Z3 hb ho
  have Z5 : Hid (LS w [(w.heap.size, w.heap.size + 1, fun V : World => V.heap[w.heap.size]? = some BX0), (w1.heap.size, w2.heap.size, fun V : World => V.ownsRow w1.heap.size 72 2 (.slice (some ⟨ga0, 0, none⟩) s0.length s0.length) s0.length (s0.flatMap apC)), (w3.heap.size, w4.heap.size, fun V : World => V.ownsRow w3.heap.size 72 2 (.slice (some ⟨x0, 0, none⟩) s0.length s0.length) s0.length (s0.flatMap apC)), (w4.heap.size, w4.heap.size + 1, fun V : World => V.heap[w4.heap.size]? = some (Obj.cells #[.int .i64 ta_0, .string tr_0, .int .i64 ts_0, .int .i64 tu_0, .int .i64 tl_0, .bool tq_0, .slice (some ⟨x0, 0, none⟩) s0.length s0.length] 29))] (w4.alloc (Obj.cells #[.int .i64 ta_0, .string tr_0, .int .i64 ts_0, .int .i64 tu_0, .int .i64 tl_0, .bool tq_0, .slice (some ⟨x0, 0, none⟩) s0.length s0.length] 29))) := Z4.out.push (by (repeat' (first | (with_reducible exact Below.refl _ _) | (with_reducible assumption) | (with_reducible refine Below.setCell ?_ ?_ _) | (with_reducible refine Below.alloc ?_ ?_ _) | (with_reducible refine below_drewN ?_ _) | (with_reducible refine Below.drew ?_) | (with_reducible exact Nat.le_refl _) | omega | (simp; done) | (simp; omega)))) (Ow.block (heap_alloc_new _ _)) (Nat.le_refl _)
  clear Z4
  go_wp2_with (fail)
  obtain ⟨Vx0, hV⟩ : ∃ V, V = w4.alloc (Obj.cells #[.int .i64 ta_0, .string tr_0, .int .i64 ts_0, .int .i64 tu_0, .int .i64 tl_0, .bool tq_0, .slice (some ⟨x0, 0, none⟩) s0.length s0.length] 29) := ⟨_, rfl⟩
  rw [← hV] at Z5 ⊢
  obtain ⟨Kx0, hK⟩ : ∃ K, K = w4.heap.size := ⟨_, rfl⟩
  rw [← hK] at Z5  ⊢
  clear hV hK
  refine (HIM.out Vx0 x0 (OG.rg (T := 72) (B := w3.heap.size) apC_len (show Vx0.ownsRow w3.heap.size 72 2 (.slice (some ⟨x0, 0, none⟩) s0.length s0.length) s0.length (s0.flatMap apC) from Z5.out.get 2 rfl))).mono ?_
  rintro e w5 ⟨rfl, hb⟩
  have Z6 : Hid (LS w [(w.heap.size, w.heap.size + 1, fun V : World => V.heap[w.heap.size]? = some BX0), (w1.heap.size, w2.heap.size, fun V : World => V.ownsRow w1.heap.size 72 2 (.slice (some ⟨ga0, 0, none⟩) s0.length s0.length) s0.length (s0.flatMap apC)), (w3.heap.size, Kx0, fun V : World => V.ownsRow w3.heap.size 72 2 (.slice (some ⟨x0, 0, none⟩) s0.length s0.length) s0.length (s0.flatMap apC)), (Kx0, Kx0 + 1, fun V : World => V.heap[Kx0]? = some (Obj.cells #[.int .i64 ta_0, .string tr_0, .int .i64 ts_0, .int .i64 tu_0, .int .i64 tl_0, .bool tq_0, .slice (some ⟨x0, 0, none⟩) s0.length s0.length] 29))] w5) := Z5.out.next hb
  clear Z5 hb
  have kvx0 := Z6.out.get 3 rfl
  have cvx0_0 : w5.cell? ⟨Kx0, 0, none⟩ = some (.int .i64 ta_0) := cellOf kvx0 0 rfl
  have cvx0_1 : w5.cell? ⟨Kx0, 1, none⟩ = some (.string tr_0) := cellOf kvx0 1 rfl
  have cvx0_2 : w5.cell? ⟨Kx0, 2, none⟩ = some (.int .i64 ts_0) := cellOf kvx0 2 rfl
  have cvx0_3 : w5.cell? ⟨Kx0, 3, none⟩ = some (.int .i64 tu_0) := cellOf kvx0 3 rfl
  have cvx0_4 : w5.cell? ⟨Kx0, 4, none⟩ = some (.int .i64 tl_0) := cellOf kvx0 4 rfl
  have cvx0_5 : w5.cell? ⟨Kx0, 5, none⟩ = some (.bool tq_0) := cellOf kvx0 5 rfl
  have cvx0_6 : w5.cell? ⟨Kx0, 6, none⟩ = some (.slice (some ⟨x0, 0, none⟩) s0.length s0.length) := cellOf kvx0 6 rfl
  have lvx0 : Kx0 < w5.heap.size := ltOf kvx0
  clear kvx0
  have kp0 := Z6.out.get 0 rfl
  rw [TB0.out] at kp0
  have cp0_0 : w5.cell? ⟨w.heap.size, 0, none⟩ = some (.int .i64 ta_0) := cellOf kp0 0 rfl
  have cp0_1 : w5.cell? ⟨w.heap.size, 1, none⟩ = some (.string tr_0) := cellOf kp0 1 rfl
  have cp0_2 : w5.cell? ⟨w.heap.size, 2, none⟩ = some (.int .i64 ts_0) := cellOf kp0 2 rfl
  have cp0_3 : w5.cell? ⟨w.heap.size, 3, none⟩ = some (.int .i64 tu_0) := cellOf kp0 3 rfl
  have cp0_4 : w5.cell? ⟨w.heap.size, 4, none⟩ = some (.int .i64 tl_0) := cellOf kp0 4 rfl
  have cp0_5 : w5.cell? ⟨w.heap.size, 5, none⟩ = some (.bool tq_0) := cellOf kp0 5 rfl
  have cp0_6 : w5.cell? ⟨w.heap.size, 6, none⟩ = some (.slice sa0 sn0 sc0) := cellOf kp0 6 rfl
  have lp0 : w.heap.size < w5.heap.size := ltOf kp0
  clear kp0
  go_wp2_with (fail)
  refine wp_region_float (by kernel_rfl) (fun hS => ?_)
  refine fl_take (i := 0) (d := 22) (v := .agg #[.int .i64 ta_0, .string tr_0, .int .i64 ts_0, .int .i64 tu_0, .int .i64 tl_0, .bool tq_0, .slice (some ⟨x0, 0, none⟩) s0.length s0.length]) rfl rfl rfl (by kernel_rfl) (by kernel_rfl) (by kernel_rfl) hS ?_ ?_
  · intro w' hk; go_simp
  simp only [Act.put, List.setIfInBounds_toArray, List.set_cons_zero, List.set_cons_succ]
  refine fl_take (i := 1) (d := 23) (v := .agg #[.int .i64 ta_0, .string tr_0, .int .i64 ts_0, .int .i64 tu_0, .int .i64 tl_0, .bool tq_0, .slice sa0 sn0 sc0]) rfl rfl rfl (by kernel_rfl) (by kernel_rfl) (by kernel_rfl) hS ?_ ?_
  · intro w' hk; go_simp
  simp only [Act.put, List.setIfInBounds_toArray, List.set_cons_zero, List.set_cons_succ]
  refine wpAnyH_all (rs := [2]) (by kernel_rfl) (by simp) ?_
  intro i hi
  obtain rfl : i = 2 := by simpa using hi
  refine op_call (d := 24) rfl rfl rfl (by go_simp) ((toTool_any ta_0 tr_0 ts_0 tu_0 tl_0 tq_0 (tl_len HL0.out) ((HR0.out.below Z6.out.bl).below (Below.refl _ _).drew)).mono ?_)
  rintro e ya0 ⟨gy0, rfl, hk5, hb5⟩
  have hK5 : KS w5 ya0 := hS.call hb5
  refine ⟨_, rfl, hK5, ?_⟩
  simp only [Act.put, List.setIfInBounds_toArray, List.set_cons_zero, List.set_cons_succ]
  refine wpAnyH_all (rs := [3]) (by kernel_rfl) (by simp) ?_
  intro i hi
  obtain rfl : i = 3 := by simpa using hi
  refine op_call (d := 25) rfl rfl rfl (by go_simp) ((eqTool_same ta_0 tr_0 ts_0 tu_0 tl_0 tq_0 (by have := tl_len HL0.out; omega) (RG.below (OG.rg (T := 72) (B := w3.heap.size) apC_len (show w5.ownsRow w3.heap.size 72 2 (.slice (some ⟨x0, 0, none⟩) s0.length s0.length) s0.length (s0.flatMap apC) from Z6.out.get 2 rfl)) hK5.2) ((OG.rg apC_len hk5))).mono ?_)
  rintro e yb0 ⟨rfl, hb6⟩
  have hK6 : KS w5 yb0 := hK5.call hb6
  refine ⟨_, rfl, hK6, ?_⟩
  simp only [Act.put, List.setIfInBounds_toArray, List.set_cons_zero, List.set_cons_succ]
  refine wpAnyH_all (rs := [4]) (by kernel_rfl) (by simp) ?_
  intro i hi
  obtain rfl : i = 4 := by simpa using hi
  refine op_val (d := 26) (v := .bool false) (w' := yb0) rfl rfl rfl (by go_simp; try rfl) ?_
  simp only [Act.put, List.setIfInBounds_toArray, List.set_cons_zero, List.set_cons_succ]
  refine ⟨hK6, wpAnyH_done (by kernel_rfl) (NoPanic.normal ?_) _⟩
  have Z7 : Hid (LS w [(w.heap.size, w.heap.size + 1, fun V : World => V.heap[w.heap.size]? = some BX0), (w1.heap.size, w2.heap.size, fun V : World => V.ownsRow w1.heap.size 72 2 (.slice (some ⟨ga0, 0, none⟩) s0.length s0.length) s0.length (s0.flatMap apC)), (w3.heap.size, Kx0, fun V : World => V.ownsRow w3.heap.size 72 2 (.slice (some ⟨x0, 0, none⟩) s0.length s0.length) s0.length (s0.flatMap apC)), (Kx0, Kx0 + 1, fun V : World => V.heap[Kx0]? = some (Obj.cells #[.int .i64 ta_0, .string tr_0, .int .i64 ts_0, .int .i64 tu_0, .int .i64 tl_0, .bool tq_0, .slice (some ⟨x0, 0, none⟩) s0.length s0.length] 29))] yb0) := Z6.out.next hK6.2
  clear Z6 hK6 hK5 hb6 hb5 hk5 hS cvx0_0 cvx0_1 cvx0_2 cvx0_3 cvx0_4 cvx0_5 cvx0_6 lvx0 cp0_0 cp0_1 cp0_2 cp0_3 cp0_4 cp0_5 cp0_6 lp0
  go_wp2
  go_returns
  exact ⟨rfl, Z7.out.bl⟩

set_option maxRecDepth 100000 in
theorem tf19_lifted (os : Os) (started : os.Started) (H : Type) (enc : TypeId × Value → H) :
    ReturnsInHanded {} Try.checked os 3 .any (Rows.fnExactToolFaultSpec.pre6 enc Try.prog Try.f3 Rows.fnExactToolFaultRow.domain false) (Rows.fnExactToolFaultSpec.post enc Try.prog Try.f3 false true false false) := by
  refine returnsInHanded_of_change (C := Try.checked) own started (by kernel_rfl) Try.func3
    (ChangeSpec.witness6 (enc := enc) (C := Try.checked) false ⟨#[], #[.agg #[.int .i64 0, .string ByteArray.empty, .int .i64 0, .int .i64 0, .int .i64 0, .bool false, .slice none 0 0]], []⟩ 8 (by kernel_rfl) (by kernel_rfl) (by kernel_rfl) (by kernel_rfl)) ?_
  intro W base args ds gs before hval0 hW hcnd _
  have hval : ∀ (j : Nat) t v, Try.f3.params[j]? = some t → args[j]? = some v → Value.okWide Try.prog W .any base t v := hval0
  have hW' := hW
  obtain ⟨p, q, hA0, hV, rfl, hfz, hnd⟩ := hW
  have hA : DataW.TrodAll enc Try.prog W 0 (fun _ => true) true Try.f3.params.toList args.toList ds p := hA0
  rw [Try.params3] at hA hval
  obtain ⟨v0, vs0, d0, ds0, p0, q0, hargs, rfl, rfl, h0, r0⟩ := trodAll_cons hA
  obtain ⟨rfl, rfl, rfl⟩ := trodAll_nil r0
  obtain rfl : args = #[v0] := by cases args; simp_all
  obtain ⟨rfl, rfl⟩ := trodVars_none hV
  have k0 := h0
  have lt0 : ∀ x ∈ p0, x.block < W.heap.size := by obtain ⟨m, hm⟩ := k0; exact DataW.trod_lt m _ _ _ hm
  obtain ⟨ta0, tr0, ts0, tu0, tl0, tq0, sa0, sn0, sc0, s0, rfl, ri0, sl0⟩ := tool_open (hval 0 24 v0 rfl rfl) h0
  clear hA0 hval0
  refine (law_tf19 ta0 tr0 ts0 tu0 tl0 tq0 s0 sl0 ri0).mono fun e W' ⟨he, hg⟩ => ?_
  subst he
  exact ⟨_, rfl, _, _, _, [], _, [], hW', trodAll_mk1 (shut_bool Try.underlying4 _), (trodAll_cons_mk (Below.trod laidOut (by kernel_rfl) (of_decide_eq_true (by kernel_rfl)) k0 hg lt0) trodAll_mk0), rfl, hg.frame _, fun h => by cases h⟩

theorem tf19_over : Rows.fnExactToolFaultRow.holds Try.pinned (OpenSpec.ofChange Rows.fnExactToolFaultSpec) :=
  OpenClaim.holds_of_wide 3 Try.f3 rfl rfl rfl rfl rfl rfl rfl ⟨rfl, rfl, rfl, rfl, rfl⟩ rfl rfl rfl rfl rfl (by kernel_rfl) Try.func3 (by kernel_rfl)
    (of_decide_eq_true (by kernel_rfl)) (by unfold Func.isWrapper; first | (rw [if_pos (by decide +kernel)]; kernel_rfl) | (rw [if_neg (by decide +kernel)]; exact ⟨rfl, rfl⟩))
    (fun os started H enc _ => tf19_lifted os started H enc)

theorem tf19_proved : Rows.FnExactToolFaultSaid :=
  tf19_over
#print axioms tf19_proved

end Go.Proofs.Ytcfcknfaeliodaa
