/- Proved here: 'the program's ToolAct answers as the model's; it writes into no argument and keeps nothing of one; its answer owns its memory, behind another call too', without a condition. -/
import Derived.Test.YtkacfjbhkgdpdaaTaI
import Derived.Test.YtkacfjbhkgdpdaaTaS
import Derived.Test.YtkacfjbhkgdpdaaMkTl
import Derived.Test.YtkacfjbhkgdpdaaTlB
import Derived.Test.YtkacfjbhkgdpdaaTeO
import Derived.Test.YtkacfjbhkgdpdaaOwT
import Derived.Test.YtkacfjbhkgdpdaaLwS
import Derived.ChangeMaps5
import Derived.Test.YtkacfjbhkgdpdaaRows
namespace Go.Proofs.Ytkacfjbhkgdpdaa
open Go.ChangeShapes Go.WideShapes Go.ChangeAt Go.RowKit Go.Joins Go.ChangeMaps
set_option linter.unusedVariables false
set_option linter.unusedSimpArgs false

theorem own : ownKnob Try.prog.godebug = none := by kernel_rfl
theorem laidOut : laidOutB Try.prog = true := by kernel_rfl

set_option maxRecDepth 10000 in
set_option maxHeartbeats 25600000 in
theorem law_ta19 {w : World}  (ta_0 : Int) (tr_0 : ByteArray) (ts_0 tu_0 tl_0 : Int) (tq_0 : Bool) {sa0 : Option Addr} {sn0 sc0 : Nat} (s0 : List Ap) (hm0 : okTl tr_0 s0) (hr0 : RG 2 apC w (.slice sa0 sn0 sc0) s0) (ek_1 : Int) (er_1 : ByteArray) (es_1 : Int) (we_1 : er_1.size ≤ maxLen) :
    Calls Try.prog 3 #[.agg #[.int .i64 ta_0, .string tr_0, .int .i64 ts_0, .int .i64 tu_0, .int .i64 tl_0, .bool tq_0, .slice sa0 sn0 sc0], .agg #[.int .i64 ek_1, .string er_1, .int .i64 es_1]] w fun e w' => e = .returned (.bool true) ∧ Below w.heap.size w w' := by
  have HM0 : Hid (okTl tr_0 s0) := hm0
  have HR0 : Hid (RG 2 apC w (.slice sa0 sn0 sc0) s0) := hr0
  have HE0 : Hid (sn0 = s0.length) := hr0.len
  clear hm0 hr0
  obtain ⟨BX0, hBX0⟩ : ∃ BX, BX = Obj.cells #[.int .i64 ta_0, .string tr_0, .int .i64 ts_0, .int .i64 tu_0, .int .i64 tl_0, .bool tq_0, .slice sa0 sn0 sc0] 24 := ⟨_, rfl⟩
  obtain ⟨BX1, hBX1⟩ : ∃ BX, BX = Obj.cells #[.int .i64 ek_1, .string er_1, .int .i64 es_1] 26 := ⟨_, rfl⟩
  have Z0 : Hid (LS w [(w.heap.size, w.heap.size + 1, fun V : World => V.heap[w.heap.size]? = some BX0), ((w.heap.size + 1), (w.heap.size + 1) + 1, fun V : World => V.heap[(w.heap.size + 1)]? = some BX1)] ((w.alloc (Obj.cells #[.int .i64 ta_0, .string tr_0, .int .i64 ts_0, .int .i64 tu_0, .int .i64 tl_0, .bool tq_0, .slice sa0 sn0 sc0] 24)).alloc (Obj.cells #[.int .i64 ek_1, .string er_1, .int .i64 es_1] 26))) := by
    have p0 := LS.start w
    have p1 := LS.push (V' := (w.alloc (Obj.cells #[.int .i64 ta_0, .string tr_0, .int .i64 ts_0, .int .i64 tu_0, .int .i64 tl_0, .bool tq_0, .slice sa0 sn0 sc0] 24))) p0 (by (repeat' (first | (with_reducible exact Below.refl _ _) | (with_reducible assumption) | (with_reducible refine Below.setCell ?_ ?_ _) | (with_reducible refine Below.alloc ?_ ?_ _) | (with_reducible refine below_drewN ?_ _) | (with_reducible refine Below.drew ?_) | (with_reducible exact Nat.le_refl _) | omega | (simp; done) | (simp; omega)))) (Ow.block (k := w.heap.size) (o := BX0) (by rw [hBX0]; have := heap_alloc_new w (Obj.cells #[.int .i64 ta_0, .string tr_0, .int .i64 ts_0, .int .i64 tu_0, .int .i64 tl_0, .bool tq_0, .slice sa0 sn0 sc0] 24); simpa using this)) (by simp)
    have p2 := LS.push (V' := ((w.alloc (Obj.cells #[.int .i64 ta_0, .string tr_0, .int .i64 ts_0, .int .i64 tu_0, .int .i64 tl_0, .bool tq_0, .slice sa0 sn0 sc0] 24)).alloc (Obj.cells #[.int .i64 ek_1, .string er_1, .int .i64 es_1] 26))) p1 (by (repeat' (first | (with_reducible exact Below.refl _ _) | (with_reducible assumption) | (with_reducible refine Below.setCell ?_ ?_ _) | (with_reducible refine Below.alloc ?_ ?_ _) | (with_reducible refine below_drewN ?_ _) | (with_reducible refine Below.drew ?_) | (with_reducible exact Nat.le_refl _) | omega | (simp; done) | (simp; omega)))) (Ow.block (k := (w.heap.size + 1)) (o := BX1) (by rw [hBX1]; have := heap_alloc_new (w.alloc (Obj.cells #[.int .i64 ta_0, .string tr_0, .int .i64 ts_0, .int .i64 tu_0, .int .i64 tl_0, .bool tq_0, .slice sa0 sn0 sc0] 24)) (Obj.cells #[.int .i64 ek_1, .string er_1, .int .i64 es_1] 26); simpa using this)) (by simp)
    exact p2
  have TB0 : Hid (BX0 = Obj.cells #[.int .i64 ta_0, .string tr_0, .int .i64 ts_0, .int .i64 tu_0, .int .i64 tl_0, .bool tq_0, .slice sa0 sn0 sc0] 24) := hBX0
  have TB1 : Hid (BX1 = Obj.cells #[.int .i64 ek_1, .string er_1, .int .i64 es_1] 26) := hBX1
  clear hBX0 hBX1
  go_enter Try.func3, Try.ntmps3
  go_wp2_with (fail)
  obtain ⟨W0, hW0⟩ : ∃ V, V = ((w.alloc (Obj.cells #[.int .i64 ta_0, .string tr_0, .int .i64 ts_0, .int .i64 tu_0, .int .i64 tl_0, .bool tq_0, .slice sa0 sn0 sc0] 24)).alloc (Obj.cells #[.int .i64 ek_1, .string er_1, .int .i64 es_1] 26)) := ⟨_, rfl⟩
  rw [← hW0] at Z0 ⊢
  clear hW0
  refine (szTool_gen ta_0 tr_0 ts_0 tu_0 tl_0 tq_0 sa0 sn0 sc0 1048576 s0 _ (by omega) (by omega) HM0.out (HR0.out.below Z0.out.bl)).mono ?_
  rintro e w1 ⟨r0, rfl, hq0, hb⟩
  have Z1 : Hid (LS w [(w.heap.size, w.heap.size + 1, fun V : World => V.heap[w.heap.size]? = some BX0), ((w.heap.size + 1), (w.heap.size + 1) + 1, fun V : World => V.heap[(w.heap.size + 1)]? = some BX1)] w1) := Z0.out.next hb
  clear Z0 hb
  rcases hq0 with hneg | ⟨u0, v0, tt0⟩
  · go_wp2
    go_returns
    exact ⟨rfl, Z1.out.bl⟩
  have hl0 : ¬ r0 < 0 := by omega
  have HL0 : Hid (smTl 1048576 tr_0 s0) := smTl_mono (by omega) tt0
  have kp1 := Z1.out.get 1 rfl
  rw [TB1.out] at kp1
  have cp1_0 : w1.cell? ⟨(w.heap.size + 1), 0, none⟩ = some (.int .i64 ek_1) := cellOf kp1 0 rfl
  have cp1_1 : w1.cell? ⟨(w.heap.size + 1), 1, none⟩ = some (.string er_1) := cellOf kp1 1 rfl
  have cp1_2 : w1.cell? ⟨(w.heap.size + 1), 2, none⟩ = some (.int .i64 es_1) := cellOf kp1 2 rfl
  have lp1 : (w.heap.size + 1) < w1.heap.size := ltOf kp1
  clear kp1
  go_wp2_with (fail)
  clear cp1_0 cp1_1 cp1_2 lp1
  refine (szToolEvent_gen ek_1 er_1 es_1 r0 _ (by omega) (by omega) we_1).mono ?_
  rintro e w2 ⟨r1, rfl, hq1, hb⟩
  have Z2 : Hid (LS w [(w.heap.size, w.heap.size + 1, fun V : World => V.heap[w.heap.size]? = some BX0), ((w.heap.size + 1), (w.heap.size + 1) + 1, fun V : World => V.heap[(w.heap.size + 1)]? = some BX1)] w2) := Z1.out.next hb
  clear Z1 hb
  rcases hq1 with hneg | ⟨u1, v1, tt1⟩
  · go_wp2
    go_returns
    exact ⟨rfl, Z2.out.bl⟩
  have hl1 : ¬ r1 < 0 := by omega
  obtain ⟨C, hC⟩ : ∃ X, X = (tzC ta_0 tr_0 ts_0 tu_0 tl_0 tq_0 s0 ek_1 er_1 es_1) := ⟨_, rfl⟩
  obtain ⟨TA, hTA⟩ : ∃ X, X = onI (tzC ta_0 tr_0 ts_0 tu_0 tl_0 tq_0 s0 ek_1 er_1 es_1) (taA ek_1) := ⟨_, rfl⟩
  obtain ⟨TR, hTR⟩ : ∃ X, X = onS (tzC ta_0 tr_0 ts_0 tu_0 tl_0 tq_0 s0 ek_1 er_1 es_1) (taR ek_1 tr_0 er_1) := ⟨_, rfl⟩
  obtain ⟨TS, hTS⟩ : ∃ X, X = onI (tzC ta_0 tr_0 ts_0 tu_0 tl_0 tq_0 s0 ek_1 er_1 es_1) (taS ek_1 ts_0 es_1) := ⟨_, rfl⟩
  obtain ⟨TU, hTU⟩ : ∃ X, X = onI (tzC ta_0 tr_0 ts_0 tu_0 tl_0 tq_0 s0 ek_1 er_1 es_1) (taU ta_0 tu_0 ek_1) := ⟨_, rfl⟩
  obtain ⟨TL, hTL⟩ : ∃ X, X = onI (tzC ta_0 tr_0 ts_0 tu_0 tl_0 tq_0 s0 ek_1 er_1 es_1) tl_0 := ⟨_, rfl⟩
  obtain ⟨TQ, hTQ⟩ : ∃ X, X = onB (tzC ta_0 tr_0 ts_0 tu_0 tl_0 tq_0 s0 ek_1 er_1 es_1) (taQ ek_1 tq_0) := ⟨_, rfl⟩
  obtain ⟨L, hL⟩ : ∃ X, X = onL (tzC ta_0 tr_0 ts_0 tu_0 tl_0 tq_0 s0 ek_1 er_1 es_1) s0 := ⟨_, rfl⟩
  have HLN : Hid (L.length ≤ 1048576) := by unfold Hid; rw [hL]; exact Nat.le_trans (onL_len (fun e => tzC_len e)) (by decide)
  have HSP : Hid (∀ (W : World) (g0 : Nat), (RG 2 apC W (.slice (some ⟨g0, 0, none⟩) s0.length s0.length) s0) → Calls Try.prog 7 #[.agg #[.int .i64 ta_0, .string tr_0, .int .i64 ts_0, .int .i64 tu_0, .int .i64 tl_0, .bool tq_0, .slice (some ⟨g0, 0, none⟩) s0.length s0.length], .agg #[.int .i64 ek_1, .string er_1, .int .i64 es_1]] W fun e w' => ∃ (v : Value) (_ : Unit), e = .returned (.agg #[.int .i64 C, .int .i64 TA, .string TR, .int .i64 TS, .int .i64 TU, .int .i64 TL, .bool TQ, v]) ∧ OG 72 2 apC w' W.heap.size v L ∧ Below W.heap.size W w') := fun W g0 h0 => by
    rw [hL, hTQ, hTL, hTU, hTS, hTR, hTA, hC]
    exact spec_ta ta_0 tr_0 ts_0 tu_0 tl_0 tq_0 ek_1 er_1 es_1 (tl_len HL0.out) (fun j h => by have := HL0.out.ap j h; unfold smAp at this; omega) (Nat.le_refl _) h0
  have HIM : Hid (∀ (W : World) (g0 : Nat), (RG 2 apC W (.slice (some ⟨g0, 0, none⟩) s0.length s0.length) s0) → Calls Try.prog 10 #[.agg #[.int .i64 ta_0, .string tr_0, .int .i64 ts_0, .int .i64 tu_0, .int .i64 tl_0, .bool tq_0, .slice (some ⟨g0, 0, none⟩) s0.length s0.length], .agg #[.int .i64 ek_1, .string er_1, .int .i64 es_1]] W fun e w' => ∃ (v : Value) (_ : Unit), e = .returned (.agg #[.int .i64 C, .int .i64 TA, .string TR, .int .i64 TS, .int .i64 TU, .int .i64 TL, .bool TQ, v]) ∧ OG 72 2 apC w' W.heap.size v L ∧ Below W.heap.size W w') := fun W g0 h0 => by
    rw [hL, hTQ, hTL, hTU, hTS, hTR, hTA, hC]
    exact impl_ta ta_0 tr_0 ts_0 tu_0 tl_0 tq_0 ek_1 er_1 es_1 (tl_len HL0.out) (fun j h => by have := HL0.out.ap j h; unfold smAp at this; omega) (Nat.le_refl _) h0
  clear hC hTA hTR hTS hTU hTL hTQ hL u0 v0 tt0 u1 v1 tt1
  have kp0 := Z2.out.get 0 rfl
  rw [TB0.out] at kp0
  have cp0_0 : w2.cell? ⟨w.heap.size, 0, none⟩ = some (.int .i64 ta_0) := cellOf kp0 0 rfl
  have cp0_1 : w2.cell? ⟨w.heap.size, 1, none⟩ = some (.string tr_0) := cellOf kp0 1 rfl
  have cp0_2 : w2.cell? ⟨w.heap.size, 2, none⟩ = some (.int .i64 ts_0) := cellOf kp0 2 rfl
  have cp0_3 : w2.cell? ⟨w.heap.size, 3, none⟩ = some (.int .i64 tu_0) := cellOf kp0 3 rfl
  have cp0_4 : w2.cell? ⟨w.heap.size, 4, none⟩ = some (.int .i64 tl_0) := cellOf kp0 4 rfl
  have cp0_5 : w2.cell? ⟨w.heap.size, 5, none⟩ = some (.bool tq_0) := cellOf kp0 5 rfl
  have cp0_6 : w2.cell? ⟨w.heap.size, 6, none⟩ = some (.slice sa0 sn0 sc0) := cellOf kp0 6 rfl
  have lp0 : w.heap.size < w2.heap.size := ltOf kp0
  clear kp0
  have kp1 := Z2.out.get 1 rfl
  rw [TB1.out] at kp1
  have cp1_0 : w2.cell? ⟨(w.heap.size + 1), 0, none⟩ = some (.int .i64 ek_1) := cellOf kp1 0 rfl
  have cp1_1 : w2.cell? ⟨(w.heap.size + 1), 1, none⟩ = some (.string er_1) := cellOf kp1 1 rfl
  have cp1_2 : w2.cell? ⟨(w.heap.size + 1), 2, none⟩ = some (.int .i64 es_1) := cellOf kp1 2 rfl
  have lp1 : (w.heap.size + 1) < w2.heap.size := ltOf kp1
  clear kp1
  go_wp2_with (fail)
  have HWB : Below w.heap.size w w2 := Z2.out.bl
  refine wp_region_float (by kernel_rfl) (fun hS => ?_)
  refine fl_take (i := 0) (d := 23) (v := .agg #[.int .i64 ta_0, .string tr_0, .int .i64 ts_0, .int .i64 tu_0, .int .i64 tl_0, .bool tq_0, .slice sa0 sn0 sc0]) rfl rfl rfl (by kernel_rfl) (by kernel_rfl) (by kernel_rfl) hS ?_ ?_
  · intro w' hk; go_simp
  simp only [Act.put, List.setIfInBounds_toArray, List.set_cons_zero, List.set_cons_succ]
  refine fl_take (i := 2) (d := 25) (v := .agg #[.int .i64 ek_1, .string er_1, .int .i64 es_1]) rfl rfl rfl (by kernel_rfl) (by kernel_rfl) (by kernel_rfl) hS ?_ ?_
  · intro w' hk; go_simp
  simp only [Act.put, List.setIfInBounds_toArray, List.set_cons_zero, List.set_cons_succ]
  refine float_pend (z := #[.int .i64 0, .int .i64 0, .string ⟨#[]⟩, .int .i64 0, .int .i64 0, .int .i64 0, .bool false, .slice none 0 0]) (T := 33) (ja := 5) (js := 6) rfl rfl rfl rfl rfl (fun a w => by go_simp) [1, 3, 4] _ _ _ (fun _ => False) (by kernel_rfl) (by kernel_rfl) ?_ (Nat.le_refl _) (fun _ h => h.elim) hS
  intro ya0 hW0
  have hB0 : Below w2.heap.size w2 ya0 := hS.2.trans (hW0.mono hS.2.size)
  refine ⟨_, 24, _, _, rfl, rfl, by go_simp, (toTool_any ta_0 tr_0 ts_0 tu_0 tl_0 tq_0 (tl_len HL0.out) ((HR0.out.below HWB).below hB0)).mono ?_⟩
  rintro e qa0 ⟨ga0, rfl, ho0, hb0⟩
  have hC0 : Below w2.heap.size w2 qa0 := hB0.trans (hb0.mono hB0.size)
  refine ⟨_, rfl, hb0, ?_⟩
  simp only [Act.put, List.setIfInBounds_toArray, List.set_cons_zero, List.set_cons_succ]
  intro ya1 hW1
  have hB1 : Below w2.heap.size w2 ya1 := hC0.trans (hW1.mono hC0.size)
  refine ⟨_, 26, _, _, rfl, rfl, by go_simp, (toToolEvent_is ek_1 er_1 es_1 _).mono ?_⟩
  rintro e qa1 ⟨rfl, hb1⟩
  have hC1 : Below w2.heap.size w2 qa1 := hB1.trans (hb1.mono hB1.size)
  refine ⟨_, rfl, hb1, ?_⟩
  simp only [Act.put, List.setIfInBounds_toArray, List.set_cons_zero, List.set_cons_succ]
  intro ya2 hW2
  have hB2 : Below w2.heap.size w2 ya2 := hC1.trans (hW2.mono hC1.size)
  refine ⟨_, 27, _, _, rfl, rfl, by go_simp, (HSP.out ya2 ga0 (RG.below (RG.below (RG.below ((OG.rg apC_len ho0)) hW1) hb1) hW2)).mono ?_⟩
  rintro e yea ⟨vq, vr, rfl, hrq, hbq⟩
  obtain ⟨vaa, vca, rfl⟩ := (OG.rg apC_len hrq).form
  refine ⟨_, rfl, hbq, ?_⟩
  simp only [Act.put, List.setIfInBounds_toArray, List.set_cons_zero, List.set_cons_succ]
  unfold Fl
  refine after_store ?_ _ _ _ #[.int .i64 C, .int .i64 TA, .string TR, .int .i64 TS, .int .i64 TU, .int .i64 TL, .bool TQ, .slice vaa L.length vca] (by rfl) (by rfl) (fun _ => by rfl) (fun _ => by rfl) (by simp) (by kernel_rfl) (by simp [Value.oneCell']) ?_
  · exact Nat.le_refl _
  intro Ka Va hK hk1 hk2 hF hoth hsz hcell
  simp only [Act.put, List.setIfInBounds_toArray, List.set_cons_zero, List.set_cons_succ]
  refine NoPanic.normal ?_
  obtain ⟨oqa, hoq⟩ : ∃ oq, Va.heap[Ka]? = some oq := ⟨_, Array.getElem?_eq_getElem hk2⟩
  have TCa : Hid (∀ W : World, W.heap[Ka]? = some oqa → W.cell? ⟨Ka, 0, none⟩ = some (.int .i64 C) ∧ W.cell? ⟨Ka, 1, none⟩ = some (.int .i64 TA) ∧ W.cell? ⟨Ka, 2, none⟩ = some (.string TR) ∧ W.cell? ⟨Ka, 3, none⟩ = some (.int .i64 TS) ∧ W.cell? ⟨Ka, 4, none⟩ = some (.int .i64 TU) ∧ W.cell? ⟨Ka, 5, none⟩ = some (.int .i64 TL) ∧ W.cell? ⟨Ka, 6, none⟩ = some (.bool TQ) ∧ W.cell? ⟨Ka, 7, none⟩ = some (.slice vaa L.length vca) ∧ Ka < W.heap.size) := fun W h => ⟨(cellSame hoq h 0).trans (hcell 0 _ rfl), (cellSame hoq h 1).trans (hcell 1 _ rfl), (cellSame hoq h 2).trans (hcell 2 _ rfl), (cellSame hoq h 3).trans (hcell 3 _ rfl), (cellSame hoq h 4).trans (hcell 4 _ rfl), (cellSame hoq h 5).trans (hcell 5 _ rfl), (cellSame hoq h 6).trans (hcell 6 _ rfl), (cellSame hoq h 7).trans (hcell 7 _ rfl), ltOf h⟩
  have hRV : OG 72 2 apC Va w2.heap.size (.slice vaa L.length vca) L := OG.low (show OG 72 2 apC _ _ _ _ from ownsRow_keep hrq (fun q hq => by have h9 := OG.lt hrq q hq; exact hoth q (fun e => hF (by subst e; exact Or.inr ⟨h9.1, h9.2⟩)) h9.2)) hB2.size
  have Z3 : Hid (LS w [(w.heap.size, w.heap.size + 1, fun V : World => V.heap[w.heap.size]? = some BX0), ((w.heap.size + 1), (w.heap.size + 1) + 1, fun V : World => V.heap[(w.heap.size + 1)]? = some BX1), (w2.heap.size, Va.heap.size, fun V : World => V.heap[Ka]? = some oqa ∧ OG 72 2 apC V w2.heap.size (.slice vaa L.length vca) L)] Va) := Z2.out.push hK.2 (Ow.and (Ow.wide (Ow.block hoq) hk1 hk2 (Nat.le_refl _)) (Ow.row hRV hK.2.size (Nat.le_refl _) (fun g hg => (OG.lt hRV g hg).2))) (Nat.le_refl _)
  clear Z2 HWB hK hk1 hk2 hF hoth hsz hcell hoq hbq hS hW0 hB0 hC0 ho0 hb0 hW1 hB1 hC1 hb1 hW2 hB2 hrq hRV cp0_0 cp0_1 cp0_2 cp0_3 cp0_4 cp0_5 cp0_6 lp0 cp1_0 cp1_1 cp1_2 lp1
  have kp0 := Z3.out.get 0 rfl
  rw [TB0.out] at kp0
  have cp0_0 : Va.cell? ⟨w.heap.size, 0, none⟩ = some (.int .i64 ta_0) := cellOf kp0 0 rfl
  have cp0_1 : Va.cell? ⟨w.heap.size, 1, none⟩ = some (.string tr_0) := cellOf kp0 1 rfl
  have cp0_2 : Va.cell? ⟨w.heap.size, 2, none⟩ = some (.int .i64 ts_0) := cellOf kp0 2 rfl
  have cp0_3 : Va.cell? ⟨w.heap.size, 3, none⟩ = some (.int .i64 tu_0) := cellOf kp0 3 rfl
  have cp0_4 : Va.cell? ⟨w.heap.size, 4, none⟩ = some (.int .i64 tl_0) := cellOf kp0 4 rfl
  have cp0_5 : Va.cell? ⟨w.heap.size, 5, none⟩ = some (.bool tq_0) := cellOf kp0 5 rfl
  have cp0_6 : Va.cell? ⟨w.heap.size, 6, none⟩ = some (.slice sa0 sn0 sc0) := cellOf kp0 6 rfl
  have lp0 : w.heap.size < Va.heap.size := ltOf kp0
  clear kp0
  go_wp2_with (fail)
  clear cp0_0 cp0_1 cp0_2 cp0_3 cp0_4 cp0_5 cp0_6 lp0
  refine (toTool_any ta_0 tr_0 ts_0 tu_0 tl_0 tq_0 (tl_len HL0.out) (HR0.out.below Z3.out.bl)).mono ?_
  rintro e w3 ⟨x0, rfl, ho, hb⟩
  have HX0 : Hid (∀ g, (.slice (some ⟨x0, 0, none⟩) s0.length s0.length : Value).ownBlock = some g → g < w3.heap.size) := fun g hg => (World.ownsRow.lt ho g hg).2
  have Z4 : Hid (LS w [(w.heap.size, w.heap.size + 1, fun V : World => V.heap[w.heap.size]? = some BX0), ((w.heap.size + 1), (w.heap.size + 1) + 1, fun V : World => V.heap[(w.heap.size + 1)]? = some BX1), (w2.heap.size, Va.heap.size, fun V : World => V.heap[Ka]? = some oqa ∧ OG 72 2 apC V w2.heap.size (.slice vaa L.length vca) L), (Va.heap.size, w3.heap.size, fun V : World => V.ownsRow Va.heap.size 72 2 (.slice (some ⟨x0, 0, none⟩) s0.length s0.length) s0.length (s0.flatMap apC))] w3) := Z3.out.push hb (Ow.rowAll ho hb) (Nat.le_refl _)
  clear Z3 hb ho
  have Z5 : Hid (LS w [(w.heap.size, w.heap.size + 1, fun V : World => V.heap[w.heap.size]? = some BX0), ((w.heap.size + 1), (w.heap.size + 1) + 1, fun V : World => V.heap[(w.heap.size + 1)]? = some BX1), (w2.heap.size, Va.heap.size, fun V : World => V.heap[Ka]? = some oqa ∧ OG 72 2 apC V w2.heap.size (.slice vaa L.length vca) L), (Va.heap.size, w3.heap.size, fun V : World => V.ownsRow Va.heap.size 72 2 (.slice (some ⟨x0, 0, none⟩) s0.length s0.length) s0.length (s0.flatMap apC)), (w3.heap.size, w3.heap.size + 1, fun V : World => V.heap[w3.heap.size]? = some (Obj.cells #[.int .i64 ta_0, .string tr_0, .int .i64 ts_0, .int .i64 tu_0, .int .i64 tl_0, .bool tq_0, .slice (some ⟨x0, 0, none⟩) s0.length s0.length] 31))] (w3.alloc (Obj.cells #[.int .i64 ta_0, .string tr_0, .int .i64 ts_0, .int .i64 tu_0, .int .i64 tl_0, .bool tq_0, .slice (some ⟨x0, 0, none⟩) s0.length s0.length] 31))) := Z4.out.push (by (repeat' (first | (with_reducible exact Below.refl _ _) | (with_reducible assumption) | (with_reducible refine Below.setCell ?_ ?_ _) | (with_reducible refine Below.alloc ?_ ?_ _) | (with_reducible refine below_drewN ?_ _) | (with_reducible refine Below.drew ?_) | (with_reducible exact Nat.le_refl _) | omega | (simp; done) | (simp; omega)))) (Ow.block (heap_alloc_new _ _)) (Nat.le_refl _)
  clear Z4
  go_wp2_with (fail)
  obtain ⟨Vx0, hV⟩ : ∃ V, V = w3.alloc (Obj.cells #[.int .i64 ta_0, .string tr_0, .int .i64 ts_0, .int .i64 tu_0, .int .i64 tl_0, .bool tq_0, .slice (some ⟨x0, 0, none⟩) s0.length s0.length] 31) := ⟨_, rfl⟩
  rw [← hV] at Z5 ⊢
  obtain ⟨Kx0, hK⟩ : ∃ K, K = w3.heap.size := ⟨_, rfl⟩
  rw [← hK] at Z5 HX0 ⊢
  clear hV hK
  have kvx0 := Z5.out.get 4 rfl
  have cvx0_0 : Vx0.cell? ⟨Kx0, 0, none⟩ = some (.int .i64 ta_0) := cellOf kvx0 0 rfl
  have cvx0_1 : Vx0.cell? ⟨Kx0, 1, none⟩ = some (.string tr_0) := cellOf kvx0 1 rfl
  have cvx0_2 : Vx0.cell? ⟨Kx0, 2, none⟩ = some (.int .i64 ts_0) := cellOf kvx0 2 rfl
  have cvx0_3 : Vx0.cell? ⟨Kx0, 3, none⟩ = some (.int .i64 tu_0) := cellOf kvx0 3 rfl
  have cvx0_4 : Vx0.cell? ⟨Kx0, 4, none⟩ = some (.int .i64 tl_0) := cellOf kvx0 4 rfl
  have cvx0_5 : Vx0.cell? ⟨Kx0, 5, none⟩ = some (.bool tq_0) := cellOf kvx0 5 rfl
  have cvx0_6 : Vx0.cell? ⟨Kx0, 6, none⟩ = some (.slice (some ⟨x0, 0, none⟩) s0.length s0.length) := cellOf kvx0 6 rfl
  have lvx0 : Kx0 < Vx0.heap.size := ltOf kvx0
  clear kvx0
  have kp1 := Z5.out.get 1 rfl
  rw [TB1.out] at kp1
  have cp1_0 : Vx0.cell? ⟨(w.heap.size + 1), 0, none⟩ = some (.int .i64 ek_1) := cellOf kp1 0 rfl
  have cp1_1 : Vx0.cell? ⟨(w.heap.size + 1), 1, none⟩ = some (.string er_1) := cellOf kp1 1 rfl
  have cp1_2 : Vx0.cell? ⟨(w.heap.size + 1), 2, none⟩ = some (.int .i64 es_1) := cellOf kp1 2 rfl
  have lp1 : (w.heap.size + 1) < Vx0.heap.size := ltOf kp1
  clear kp1
  have HWB : Below w.heap.size w Vx0 := Z5.out.bl
  refine wp_region_float (by kernel_rfl) (fun hS => ?_)
  refine fl_take (i := 0) (d := 30) (v := .agg #[.int .i64 ta_0, .string tr_0, .int .i64 ts_0, .int .i64 tu_0, .int .i64 tl_0, .bool tq_0, .slice (some ⟨x0, 0, none⟩) s0.length s0.length]) rfl rfl rfl (by kernel_rfl) (by kernel_rfl) (by kernel_rfl) hS ?_ ?_
  · intro w' hk; go_simp
  simp only [Act.put, List.setIfInBounds_toArray, List.set_cons_zero, List.set_cons_succ]
  refine fl_take (i := 1) (d := 31) (v := .agg #[.int .i64 ek_1, .string er_1, .int .i64 es_1]) rfl rfl rfl (by kernel_rfl) (by kernel_rfl) (by kernel_rfl) hS ?_ ?_
  · intro w' hk; go_simp
  simp only [Act.put, List.setIfInBounds_toArray, List.set_cons_zero, List.set_cons_succ]
  refine float_pend (z := #[.int .i64 0, .int .i64 0, .string ⟨#[]⟩, .int .i64 0, .int .i64 0, .int .i64 0, .bool false, .slice none 0 0]) (T := 33) (ja := 4) (js := 5) rfl rfl rfl rfl rfl (fun a w => by go_simp) [2, 3] _ _ _ (fun _ => False) (by kernel_rfl) (by kernel_rfl) ?_ (Nat.le_refl _) (fun _ h => h.elim) hS
  intro yg0 hW0
  have hB0 : Below Vx0.heap.size Vx0 yg0 := hS.2.trans (hW0.mono hS.2.size)
  refine ⟨_, 32, _, _, rfl, rfl, by go_simp, (toToolEvent_is ek_1 er_1 es_1 _).mono ?_⟩
  rintro e qg0 ⟨rfl, hb0⟩
  have hC0 : Below Vx0.heap.size Vx0 qg0 := hB0.trans (hb0.mono hB0.size)
  refine ⟨_, rfl, hb0, ?_⟩
  simp only [Act.put, List.setIfInBounds_toArray, List.set_cons_zero, List.set_cons_succ]
  intro yg1 hW1
  have hB1 : Below Vx0.heap.size Vx0 yg1 := hC0.trans (hW1.mono hC0.size)
  refine ⟨_, 33, _, _, rfl, rfl, by go_simp, (HIM.out yg1 x0 (RG.below (OG.rg (T := 72) (B := Va.heap.size) apC_len (show Vx0.ownsRow Va.heap.size 72 2 (.slice (some ⟨x0, 0, none⟩) s0.length s0.length) s0.length (s0.flatMap apC) from Z5.out.get 3 rfl)) hB1)).mono ?_⟩
  rintro e yeg ⟨vq, vr, rfl, hrq, hbq⟩
  obtain ⟨vag, vcg, rfl⟩ := (OG.rg apC_len hrq).form
  refine ⟨_, rfl, hbq, ?_⟩
  simp only [Act.put, List.setIfInBounds_toArray, List.set_cons_zero, List.set_cons_succ]
  unfold Fl
  refine after_store ?_ _ _ _ #[.int .i64 C, .int .i64 TA, .string TR, .int .i64 TS, .int .i64 TU, .int .i64 TL, .bool TQ, .slice vag L.length vcg] (by rfl) (by rfl) (fun _ => by rfl) (fun _ => by rfl) (by simp) (by kernel_rfl) (by simp [Value.oneCell']) ?_
  · exact Nat.le_refl _
  intro Kg Vg hK hk1 hk2 hF hoth hsz hcell
  simp only [Act.put, List.setIfInBounds_toArray, List.set_cons_zero, List.set_cons_succ]
  refine NoPanic.normal ?_
  obtain ⟨oqg, hoq⟩ : ∃ oq, Vg.heap[Kg]? = some oq := ⟨_, Array.getElem?_eq_getElem hk2⟩
  have TCg : Hid (∀ W : World, W.heap[Kg]? = some oqg → W.cell? ⟨Kg, 0, none⟩ = some (.int .i64 C) ∧ W.cell? ⟨Kg, 1, none⟩ = some (.int .i64 TA) ∧ W.cell? ⟨Kg, 2, none⟩ = some (.string TR) ∧ W.cell? ⟨Kg, 3, none⟩ = some (.int .i64 TS) ∧ W.cell? ⟨Kg, 4, none⟩ = some (.int .i64 TU) ∧ W.cell? ⟨Kg, 5, none⟩ = some (.int .i64 TL) ∧ W.cell? ⟨Kg, 6, none⟩ = some (.bool TQ) ∧ W.cell? ⟨Kg, 7, none⟩ = some (.slice vag L.length vcg) ∧ Kg < W.heap.size) := fun W h => ⟨(cellSame hoq h 0).trans (hcell 0 _ rfl), (cellSame hoq h 1).trans (hcell 1 _ rfl), (cellSame hoq h 2).trans (hcell 2 _ rfl), (cellSame hoq h 3).trans (hcell 3 _ rfl), (cellSame hoq h 4).trans (hcell 4 _ rfl), (cellSame hoq h 5).trans (hcell 5 _ rfl), (cellSame hoq h 6).trans (hcell 6 _ rfl), (cellSame hoq h 7).trans (hcell 7 _ rfl), ltOf h⟩
  have hRV : OG 72 2 apC Vg Vx0.heap.size (.slice vag L.length vcg) L := OG.low (show OG 72 2 apC _ _ _ _ from ownsRow_keep hrq (fun q hq => by have h9 := OG.lt hrq q hq; exact hoth q (fun e => hF (by subst e; exact Or.inr ⟨h9.1, h9.2⟩)) h9.2)) hB1.size
  have HXg : Hid (∀ g, (.slice vag L.length vcg : Value).ownBlock = some g → g < Vg.heap.size) := (fun g hg => (OG.lt hRV g hg).2)
  have HNKg : Hid ((.slice vag L.length vcg : Value).ownBlock ≠ some Kg) := fun hq => hF (by have h9 := World.ownsRow.lt hrq Kg hq; exact Or.inr ⟨h9.1, h9.2⟩)
  have HKBg : Hid (Vx0.heap.size ≤ Kg ∧ Kg < Vg.heap.size) := ⟨hk1, hk2⟩
  have Z6 : Hid (LS w [(w.heap.size, w.heap.size + 1, fun V : World => V.heap[w.heap.size]? = some BX0), ((w.heap.size + 1), (w.heap.size + 1) + 1, fun V : World => V.heap[(w.heap.size + 1)]? = some BX1), (w2.heap.size, Va.heap.size, fun V : World => V.heap[Ka]? = some oqa ∧ OG 72 2 apC V w2.heap.size (.slice vaa L.length vca) L), (Va.heap.size, Kx0, fun V : World => V.ownsRow Va.heap.size 72 2 (.slice (some ⟨x0, 0, none⟩) s0.length s0.length) s0.length (s0.flatMap apC)), (Kx0, Kx0 + 1, fun V : World => V.heap[Kx0]? = some (Obj.cells #[.int .i64 ta_0, .string tr_0, .int .i64 ts_0, .int .i64 tu_0, .int .i64 tl_0, .bool tq_0, .slice (some ⟨x0, 0, none⟩) s0.length s0.length] 31)), (Vx0.heap.size, Vg.heap.size, fun V : World => V.heap[Kg]? = some oqg ∧ OG 72 2 apC V Vx0.heap.size (.slice vag L.length vcg) L)] Vg) := Z5.out.push hK.2 (Ow.and (Ow.wide (Ow.block hoq) hk1 hk2 (Nat.le_refl _)) (Ow.row hRV hK.2.size (Nat.le_refl _) (fun g hg => (OG.lt hRV g hg).2))) (Nat.le_refl _)
  clear Z5 HWB hK hk1 hk2 hF hoth hsz hcell hoq hbq hS hW0 hB0 hC0 hb0 hW1 hB1 hrq hRV cvx0_0 cvx0_1 cvx0_2 cvx0_3 cvx0_4 cvx0_5 cvx0_6 lvx0 cp1_0 cp1_1 cp1_2 lp1
  obtain ⟨cvg_0, cvg_1, cvg_2, cvg_3, cvg_4, cvg_5, cvg_6, cvg_7, lvg⟩ := TCg.out Vg (Z6.out.get 5 rfl).1
  obtain ⟨cva_0, cva_1, cva_2, cva_3, cva_4, cva_5, cva_6, cva_7, lva⟩ := TCa.out Vg (Z6.out.get 2 rfl).1
  go_wp2_with (fail)
  clear cvg_0 cvg_1 cvg_2 cvg_3 cvg_4 cvg_5 cvg_6 cvg_7 lvg cva_0 cva_1 cva_2 cva_3 cva_4 cva_5 cva_6 cva_7 lva
  refine (eqToolResult_to C TA TR TS TU TL TQ HLN.out (OG.rg apC_len (B := Vx0.heap.size) (show OG 72 2 apC Vg Vx0.heap.size (.slice vag L.length vcg) L from (Z6.out.get 5 rfl).2)) (OG.rg apC_len (B := w2.heap.size) (show OG 72 2 apC Vg w2.heap.size (.slice vaa L.length vca) L from (Z6.out.get 2 rfl).2))).mono ?_
  rintro e w4 ⟨rfl, hb⟩
  have Z7 : Hid (LS w [(w.heap.size, w.heap.size + 1, fun V : World => V.heap[w.heap.size]? = some BX0), ((w.heap.size + 1), (w.heap.size + 1) + 1, fun V : World => V.heap[(w.heap.size + 1)]? = some BX1), (w2.heap.size, Va.heap.size, fun V : World => V.heap[Ka]? = some oqa ∧ OG 72 2 apC V w2.heap.size (.slice vaa L.length vca) L), (Va.heap.size, Kx0, fun V : World => V.ownsRow Va.heap.size 72 2 (.slice (some ⟨x0, 0, none⟩) s0.length s0.length) s0.length (s0.flatMap apC)), (Kx0, Kx0 + 1, fun V : World => V.heap[Kx0]? = some (Obj.cells #[.int .i64 ta_0, .string tr_0, .int .i64 ts_0, .int .i64 tu_0, .int .i64 tl_0, .bool tq_0, .slice (some ⟨x0, 0, none⟩) s0.length s0.length] 31)), (Vx0.heap.size, Vg.heap.size, fun V : World => V.heap[Kg]? = some oqg ∧ OG 72 2 apC V Vx0.heap.size (.slice vag L.length vcg) L)] w4) := Z6.out.next hb
  clear Z6 hb
  have kvx0 := Z7.out.get 4 rfl
  have cvx0_0 : w4.cell? ⟨Kx0, 0, none⟩ = some (.int .i64 ta_0) := cellOf kvx0 0 rfl
  have cvx0_1 : w4.cell? ⟨Kx0, 1, none⟩ = some (.string tr_0) := cellOf kvx0 1 rfl
  have cvx0_2 : w4.cell? ⟨Kx0, 2, none⟩ = some (.int .i64 ts_0) := cellOf kvx0 2 rfl
  have cvx0_3 : w4.cell? ⟨Kx0, 3, none⟩ = some (.int .i64 tu_0) := cellOf kvx0 3 rfl
  have cvx0_4 : w4.cell? ⟨Kx0, 4, none⟩ = some (.int .i64 tl_0) := cellOf kvx0 4 rfl
  have cvx0_5 : w4.cell? ⟨Kx0, 5, none⟩ = some (.bool tq_0) := cellOf kvx0 5 rfl
  have cvx0_6 : w4.cell? ⟨Kx0, 6, none⟩ = some (.slice (some ⟨x0, 0, none⟩) s0.length s0.length) := cellOf kvx0 6 rfl
  have lvx0 : Kx0 < w4.heap.size := ltOf kvx0
  clear kvx0
  have kp0 := Z7.out.get 0 rfl
  rw [TB0.out] at kp0
  have cp0_0 : w4.cell? ⟨w.heap.size, 0, none⟩ = some (.int .i64 ta_0) := cellOf kp0 0 rfl
  have cp0_1 : w4.cell? ⟨w.heap.size, 1, none⟩ = some (.string tr_0) := cellOf kp0 1 rfl
  have cp0_2 : w4.cell? ⟨w.heap.size, 2, none⟩ = some (.int .i64 ts_0) := cellOf kp0 2 rfl
  have cp0_3 : w4.cell? ⟨w.heap.size, 3, none⟩ = some (.int .i64 tu_0) := cellOf kp0 3 rfl
  have cp0_4 : w4.cell? ⟨w.heap.size, 4, none⟩ = some (.int .i64 tl_0) := cellOf kp0 4 rfl
  have cp0_5 : w4.cell? ⟨w.heap.size, 5, none⟩ = some (.bool tq_0) := cellOf kp0 5 rfl
  have cp0_6 : w4.cell? ⟨w.heap.size, 6, none⟩ = some (.slice sa0 sn0 sc0) := cellOf kp0 6 rfl
  have lp0 : w.heap.size < w4.heap.size := ltOf kp0
  clear kp0
  go_wp2_with (fail)
  refine wp_region_float (by kernel_rfl) (fun hS => ?_)
  refine fl_take (i := 0) (d := 38) (v := .agg #[.int .i64 ta_0, .string tr_0, .int .i64 ts_0, .int .i64 tu_0, .int .i64 tl_0, .bool tq_0, .slice (some ⟨x0, 0, none⟩) s0.length s0.length]) rfl rfl rfl (by kernel_rfl) (by kernel_rfl) (by kernel_rfl) hS ?_ ?_
  · intro w' hk; go_simp
  simp only [Act.put, List.setIfInBounds_toArray, List.set_cons_zero, List.set_cons_succ]
  refine fl_take (i := 1) (d := 39) (v := .agg #[.int .i64 ta_0, .string tr_0, .int .i64 ts_0, .int .i64 tu_0, .int .i64 tl_0, .bool tq_0, .slice sa0 sn0 sc0]) rfl rfl rfl (by kernel_rfl) (by kernel_rfl) (by kernel_rfl) hS ?_ ?_
  · intro w' hk; go_simp
  simp only [Act.put, List.setIfInBounds_toArray, List.set_cons_zero, List.set_cons_succ]
  refine wpAnyH_all (rs := [2]) (by kernel_rfl) (by simp) ?_
  intro i hi
  obtain rfl : i = 2 := by simpa using hi
  refine op_call (d := 40) rfl rfl rfl (by go_simp) ((toTool_any ta_0 tr_0 ts_0 tu_0 tl_0 tq_0 (tl_len HL0.out) ((HR0.out.below Z7.out.bl).below (Below.refl _ _).drew)).mono ?_)
  rintro e ya0 ⟨gy0, rfl, hk5, hb5⟩
  have hK5 : KS w4 ya0 := hS.call hb5
  refine ⟨_, rfl, hK5, ?_⟩
  simp only [Act.put, List.setIfInBounds_toArray, List.set_cons_zero, List.set_cons_succ]
  refine wpAnyH_all (rs := [3]) (by kernel_rfl) (by simp) ?_
  intro i hi
  obtain rfl : i = 3 := by simpa using hi
  refine op_call (d := 41) rfl rfl rfl (by go_simp) ((eqTool_same ta_0 tr_0 ts_0 tu_0 tl_0 tq_0 (by have := tl_len HL0.out; omega) (RG.below (OG.rg (T := 72) (B := Va.heap.size) apC_len (show w4.ownsRow Va.heap.size 72 2 (.slice (some ⟨x0, 0, none⟩) s0.length s0.length) s0.length (s0.flatMap apC) from Z7.out.get 3 rfl)) hK5.2) ((OG.rg apC_len hk5))).mono ?_)
  rintro e yb0 ⟨rfl, hb6⟩
  have hK6 : KS w4 yb0 := hK5.call hb6
  refine ⟨_, rfl, hK6, ?_⟩
  simp only [Act.put, List.setIfInBounds_toArray, List.set_cons_zero, List.set_cons_succ]
  refine wpAnyH_all (rs := [4]) (by kernel_rfl) (by simp) ?_
  intro i hi
  obtain rfl : i = 4 := by simpa using hi
  refine op_val (d := 42) (v := .bool false) (w' := yb0) rfl rfl rfl (by go_simp; try rfl) ?_
  simp only [Act.put, List.setIfInBounds_toArray, List.set_cons_zero, List.set_cons_succ]
  refine ⟨hK6, wpAnyH_done (by kernel_rfl) (NoPanic.normal ?_) _⟩
  have Z8 : Hid (LS w [(w.heap.size, w.heap.size + 1, fun V : World => V.heap[w.heap.size]? = some BX0), ((w.heap.size + 1), (w.heap.size + 1) + 1, fun V : World => V.heap[(w.heap.size + 1)]? = some BX1), (w2.heap.size, Va.heap.size, fun V : World => V.heap[Ka]? = some oqa ∧ OG 72 2 apC V w2.heap.size (.slice vaa L.length vca) L), (Va.heap.size, Kx0, fun V : World => V.ownsRow Va.heap.size 72 2 (.slice (some ⟨x0, 0, none⟩) s0.length s0.length) s0.length (s0.flatMap apC)), (Kx0, Kx0 + 1, fun V : World => V.heap[Kx0]? = some (Obj.cells #[.int .i64 ta_0, .string tr_0, .int .i64 ts_0, .int .i64 tu_0, .int .i64 tl_0, .bool tq_0, .slice (some ⟨x0, 0, none⟩) s0.length s0.length] 31)), (Vx0.heap.size, Vg.heap.size, fun V : World => V.heap[Kg]? = some oqg ∧ OG 72 2 apC V Vx0.heap.size (.slice vag L.length vcg) L)] yb0) := Z7.out.next hK6.2
  clear Z7 hK6 hK5 hb6 hb5 hk5 hS cvx0_0 cvx0_1 cvx0_2 cvx0_3 cvx0_4 cvx0_5 cvx0_6 lvx0 cp0_0 cp0_1 cp0_2 cp0_3 cp0_4 cp0_5 cp0_6 lp0
  have kvx0 := Z8.out.get 4 rfl
  have cvx0_0 : yb0.cell? ⟨Kx0, 0, none⟩ = some (.int .i64 ta_0) := cellOf kvx0 0 rfl
  have cvx0_1 : yb0.cell? ⟨Kx0, 1, none⟩ = some (.string tr_0) := cellOf kvx0 1 rfl
  have cvx0_2 : yb0.cell? ⟨Kx0, 2, none⟩ = some (.int .i64 ts_0) := cellOf kvx0 2 rfl
  have cvx0_3 : yb0.cell? ⟨Kx0, 3, none⟩ = some (.int .i64 tu_0) := cellOf kvx0 3 rfl
  have cvx0_4 : yb0.cell? ⟨Kx0, 4, none⟩ = some (.int .i64 tl_0) := cellOf kvx0 4 rfl
  have cvx0_5 : yb0.cell? ⟨Kx0, 5, none⟩ = some (.bool tq_0) := cellOf kvx0 5 rfl
  have cvx0_6 : yb0.cell? ⟨Kx0, 6, none⟩ = some (.slice (some ⟨x0, 0, none⟩) s0.length s0.length) := cellOf kvx0 6 rfl
  have lvx0 : Kx0 < yb0.heap.size := ltOf kvx0
  clear kvx0
  go_wp2_with (fail)
  clear cvx0_0 cvx0_1 cvx0_2 cvx0_3 cvx0_4 cvx0_5 cvx0_6 lvx0
  refine (markTool_to ta_0 tr_0 ts_0 tu_0 tl_0 tq_0 1 (tl_len HL0.out) (by omega) (by omega) (show yb0.ownsRow Va.heap.size 72 2 (.slice (some ⟨x0, 0, none⟩) s0.length s0.length) s0.length (s0.flatMap apC) from Z8.out.get 3 rfl) (HX0.out)).mono ?_
  rintro e w5 ⟨rfl, hm, hc⟩
  have Z9 : Hid (LS w [(w.heap.size, w.heap.size + 1, fun V : World => V.heap[w.heap.size]? = some BX0), ((w.heap.size + 1), (w.heap.size + 1) + 1, fun V : World => V.heap[(w.heap.size + 1)]? = some BX1), (w2.heap.size, Va.heap.size, fun V : World => V.heap[Ka]? = some oqa ∧ OG 72 2 apC V w2.heap.size (.slice vaa L.length vca) L), (Va.heap.size, Kx0, fun V : World => True), (Kx0, Kx0 + 1, fun V : World => V.heap[Kx0]? = some (Obj.cells #[.int .i64 ta_0, .string tr_0, .int .i64 ts_0, .int .i64 tu_0, .int .i64 tl_0, .bool tq_0, .slice (some ⟨x0, 0, none⟩) s0.length s0.length] 31)), (Vx0.heap.size, Vg.heap.size, fun V : World => V.heap[Kg]? = some oqg ∧ OG 72 2 apC V Vx0.heap.size (.slice vag L.length vcg) L)] w5) := Z8.out.put 3 rfl hc ((Z8.out.own 3 rfl).true hc.size)
  clear Z8 hm hc
  obtain ⟨N0, hN⟩ : ∃ N, N = 1 + 2 * (s0.length : Int) := ⟨_, rfl⟩
  rw [← hN]
  have hN0 : 0 ≤ N0 ∧ N0 ≤ 10000000 ∧ ¬ N0 < 0 := by have := (tl_len HL0.out); omega
  have hN0a := hN0.2.2
  clear hN
  obtain ⟨cvg_0, cvg_1, cvg_2, cvg_3, cvg_4, cvg_5, cvg_6, cvg_7, lvg⟩ := TCg.out w5 (Z9.out.get 5 rfl).1
  obtain ⟨cva_0, cva_1, cva_2, cva_3, cva_4, cva_5, cva_6, cva_7, lva⟩ := TCa.out w5 (Z9.out.get 2 rfl).1
  go_wp2_with (fail)
  clear cvg_0 cvg_1 cvg_2 cvg_3 cvg_4 cvg_5 cvg_6 cvg_7 lvg cva_0 cva_1 cva_2 cva_3 cva_4 cva_5 cva_6 cva_7 lva
  refine (eqToolResult_to C TA TR TS TU TL TQ HLN.out (OG.rg apC_len (B := Vx0.heap.size) (show OG 72 2 apC w5 Vx0.heap.size (.slice vag L.length vcg) L from (Z9.out.get 5 rfl).2)) (OG.rg apC_len (B := w2.heap.size) (show OG 72 2 apC w5 w2.heap.size (.slice vaa L.length vca) L from (Z9.out.get 2 rfl).2))).mono ?_
  rintro e w6 ⟨rfl, hb⟩
  have Z10 : Hid (LS w [(w.heap.size, w.heap.size + 1, fun V : World => V.heap[w.heap.size]? = some BX0), ((w.heap.size + 1), (w.heap.size + 1) + 1, fun V : World => V.heap[(w.heap.size + 1)]? = some BX1), (w2.heap.size, Va.heap.size, fun V : World => V.heap[Ka]? = some oqa ∧ OG 72 2 apC V w2.heap.size (.slice vaa L.length vca) L), (Va.heap.size, Kx0, fun V : World => True), (Kx0, Kx0 + 1, fun V : World => V.heap[Kx0]? = some (Obj.cells #[.int .i64 ta_0, .string tr_0, .int .i64 ts_0, .int .i64 tu_0, .int .i64 tl_0, .bool tq_0, .slice (some ⟨x0, 0, none⟩) s0.length s0.length] 31)), (Vx0.heap.size, Vg.heap.size, fun V : World => V.heap[Kg]? = some oqg ∧ OG 72 2 apC V Vx0.heap.size (.slice vag L.length vcg) L)] w6) := Z9.out.next hb
  clear Z9 hb
  obtain ⟨cvg_0, cvg_1, cvg_2, cvg_3, cvg_4, cvg_5, cvg_6, cvg_7, lvg⟩ := TCg.out w6 (Z10.out.get 5 rfl).1
  go_wp2_with (fail)
  clear cvg_0 cvg_1 cvg_2 cvg_3 cvg_4 cvg_5 cvg_6 cvg_7 lvg
  have hOWN : OG 72 2 apC w6 Vx0.heap.size (.slice vag L.length vcg) L := (Z10.out.get 5 rfl).2
  have hKB := (Z10.out.get 5 rfl).1
  have hLE : ∀ q, (.slice vag L.length vcg : Value).ownBlock = some q → Vx0.heap.size ≤ q ∧ q < Vg.heap.size := fun q hq => ⟨(World.ownsRow.lt hOWN q hq).1, HXg.out q hq⟩
  refine (markToolResult_to C TA TR TS TU TL TQ HLN.out (own_tight hOWN) (tight_lt _)).mono ?_
  rintro e w7 ⟨rfl, hm, hc⟩
  have Z11 : Hid (LS w [(w.heap.size, w.heap.size + 1, fun V : World => V.heap[w.heap.size]? = some BX0), ((w.heap.size + 1), (w.heap.size + 1) + 1, fun V : World => V.heap[(w.heap.size + 1)]? = some BX1), (w2.heap.size, Va.heap.size, fun V : World => V.heap[Ka]? = some oqa ∧ OG 72 2 apC V w2.heap.size (.slice vaa L.length vca) L), (Va.heap.size, Kx0, fun V : World => True), (Kx0, Kx0 + 1, fun V : World => V.heap[Kx0]? = some (Obj.cells #[.int .i64 ta_0, .string tr_0, .int .i64 ts_0, .int .i64 tu_0, .int .i64 tl_0, .bool tq_0, .slice (some ⟨x0, 0, none⟩) s0.length s0.length] 31)), (Vx0.heap.size, Vg.heap.size, fun V : World => V.heap[Kg]? = some oqg ∧ V.ownsRow Vx0.heap.size 72 2 (.slice vag L.length vcg) L.length (mkP stApproval 2 1 (L.length * 2)))] w7) := Z10.out.put 5 rfl (hc.tight hLE) (Ow.and (Ow.wide (Ow.block ((hc.off (ltOf hKB) HNKg.out).trans hKB)) HKBg.out.1 HKBg.out.2 (Nat.le_trans (Z10.out.own 5 rfl).le.2 hc.size)) (Ow.row (own_back hm (fun q hq => (hLE q hq).1)) (Z10.out.own 5 rfl).le.1 (Nat.le_trans (Z10.out.own 5 rfl).le.2 hc.size) HXg.out))
  clear Z10 hm hc hOWN hKB hLE
  obtain ⟨TT, hTT⟩ : ∃ TT, TT = 1 + 2 * (L.length : Int) := ⟨_, rfl⟩
  have hT0 : ¬ TT < 0 := by omega
  have HTT : Hid (TT = 1 + 2 * (L.length : Int)) := hTT
  rw [← hTT]
  clear hTT
  obtain ⟨cvg_0, cvg_1, cvg_2, cvg_3, cvg_4, cvg_5, cvg_6, cvg_7, lvg⟩ := TCg.out w7 (Z11.out.get 5 rfl).1
  go_wp2_with (fail)
  clear cvg_0 cvg_1 cvg_2 cvg_3 cvg_4 cvg_5 cvg_6 cvg_7 lvg
  refine (heldToolResult_to C TA TR TS TU TL TQ HLN.out (show w7.ownsRow Vx0.heap.size 72 2 (.slice vag L.length vcg) L.length (mkP stApproval 2 1 (L.length * 2)) from (Z11.out.get 5 rfl).2)).mono ?_
  rintro e w8 ⟨rfl, hb⟩
  have Z12 : Hid (LS w [(w.heap.size, w.heap.size + 1, fun V : World => V.heap[w.heap.size]? = some BX0), ((w.heap.size + 1), (w.heap.size + 1) + 1, fun V : World => V.heap[(w.heap.size + 1)]? = some BX1), (w2.heap.size, Va.heap.size, fun V : World => V.heap[Ka]? = some oqa ∧ OG 72 2 apC V w2.heap.size (.slice vaa L.length vca) L), (Va.heap.size, Kx0, fun V : World => True), (Kx0, Kx0 + 1, fun V : World => V.heap[Kx0]? = some (Obj.cells #[.int .i64 ta_0, .string tr_0, .int .i64 ts_0, .int .i64 tu_0, .int .i64 tl_0, .bool tq_0, .slice (some ⟨x0, 0, none⟩) s0.length s0.length] 31)), (Vx0.heap.size, Vg.heap.size, fun V : World => V.heap[Kg]? = some oqg ∧ V.ownsRow Vx0.heap.size 72 2 (.slice vag L.length vcg) L.length (mkP stApproval 2 1 (L.length * 2)))] w8) := Z11.out.next hb
  clear Z11 hb
  rw [← HTT.out]
  have kp0 := Z12.out.get 0 rfl
  rw [TB0.out] at kp0
  have cp0_0 : w8.cell? ⟨w.heap.size, 0, none⟩ = some (.int .i64 ta_0) := cellOf kp0 0 rfl
  have cp0_1 : w8.cell? ⟨w.heap.size, 1, none⟩ = some (.string tr_0) := cellOf kp0 1 rfl
  have cp0_2 : w8.cell? ⟨w.heap.size, 2, none⟩ = some (.int .i64 ts_0) := cellOf kp0 2 rfl
  have cp0_3 : w8.cell? ⟨w.heap.size, 3, none⟩ = some (.int .i64 tu_0) := cellOf kp0 3 rfl
  have cp0_4 : w8.cell? ⟨w.heap.size, 4, none⟩ = some (.int .i64 tl_0) := cellOf kp0 4 rfl
  have cp0_5 : w8.cell? ⟨w.heap.size, 5, none⟩ = some (.bool tq_0) := cellOf kp0 5 rfl
  have cp0_6 : w8.cell? ⟨w.heap.size, 6, none⟩ = some (.slice sa0 sn0 sc0) := cellOf kp0 6 rfl
  have lp0 : w.heap.size < w8.heap.size := ltOf kp0
  clear kp0
  have kp1 := Z12.out.get 1 rfl
  rw [TB1.out] at kp1
  have cp1_0 : w8.cell? ⟨(w.heap.size + 1), 0, none⟩ = some (.int .i64 ek_1) := cellOf kp1 0 rfl
  have cp1_1 : w8.cell? ⟨(w.heap.size + 1), 1, none⟩ = some (.string er_1) := cellOf kp1 1 rfl
  have cp1_2 : w8.cell? ⟨(w.heap.size + 1), 2, none⟩ = some (.int .i64 es_1) := cellOf kp1 2 rfl
  have lp1 : (w.heap.size + 1) < w8.heap.size := ltOf kp1
  clear kp1
  go_wp2_with (fail)
  have HWB : Below w.heap.size w w8 := Z12.out.bl
  refine wp_region_float (by kernel_rfl) (fun hS => ?_)
  refine fl_take (i := 0) (d := 65) (v := .agg #[.int .i64 ta_0, .string tr_0, .int .i64 ts_0, .int .i64 tu_0, .int .i64 tl_0, .bool tq_0, .slice sa0 sn0 sc0]) rfl rfl rfl (by kernel_rfl) (by kernel_rfl) (by kernel_rfl) hS ?_ ?_
  · intro w' hk; go_simp
  simp only [Act.put, List.setIfInBounds_toArray, List.set_cons_zero, List.set_cons_succ]
  refine fl_take (i := 2) (d := 67) (v := .agg #[.int .i64 ek_1, .string er_1, .int .i64 es_1]) rfl rfl rfl (by kernel_rfl) (by kernel_rfl) (by kernel_rfl) hS ?_ ?_
  · intro w' hk; go_simp
  simp only [Act.put, List.setIfInBounds_toArray, List.set_cons_zero, List.set_cons_succ]
  refine float_pend (z := #[.int .i64 0, .int .i64 0, .string ⟨#[]⟩, .int .i64 0, .int .i64 0, .int .i64 0, .bool false, .slice none 0 0]) (T := 33) (ja := 5) (js := 6) rfl rfl rfl rfl rfl (fun a w => by go_simp) [1, 3, 4] _ _ _ (fun _ => False) (by kernel_rfl) (by kernel_rfl) ?_ (Nat.le_refl _) (fun _ h => h.elim) hS
  intro yh0 hW0
  have hB0 : Below w8.heap.size w8 yh0 := hS.2.trans (hW0.mono hS.2.size)
  refine ⟨_, 66, _, _, rfl, rfl, by go_simp, (toTool_any ta_0 tr_0 ts_0 tu_0 tl_0 tq_0 (tl_len HL0.out) ((HR0.out.below HWB).below hB0)).mono ?_⟩
  rintro e qh0 ⟨gh0, rfl, ho0, hb0⟩
  have hC0 : Below w8.heap.size w8 qh0 := hB0.trans (hb0.mono hB0.size)
  refine ⟨_, rfl, hb0, ?_⟩
  simp only [Act.put, List.setIfInBounds_toArray, List.set_cons_zero, List.set_cons_succ]
  intro yh1 hW1
  have hB1 : Below w8.heap.size w8 yh1 := hC0.trans (hW1.mono hC0.size)
  refine ⟨_, 68, _, _, rfl, rfl, by go_simp, (toToolEvent_is ek_1 er_1 es_1 _).mono ?_⟩
  rintro e qh1 ⟨rfl, hb1⟩
  have hC1 : Below w8.heap.size w8 qh1 := hB1.trans (hb1.mono hB1.size)
  refine ⟨_, rfl, hb1, ?_⟩
  simp only [Act.put, List.setIfInBounds_toArray, List.set_cons_zero, List.set_cons_succ]
  intro yh2 hW2
  have hB2 : Below w8.heap.size w8 yh2 := hC1.trans (hW2.mono hC1.size)
  refine ⟨_, 69, _, _, rfl, rfl, by go_simp, (HIM.out yh2 gh0 (RG.below (RG.below (RG.below ((OG.rg apC_len ho0)) hW1) hb1) hW2)).mono ?_⟩
  rintro e yeh ⟨vq, vr, rfl, hrq, hbq⟩
  obtain ⟨vah, vch, rfl⟩ := (OG.rg apC_len hrq).form
  refine ⟨_, rfl, hbq, ?_⟩
  simp only [Act.put, List.setIfInBounds_toArray, List.set_cons_zero, List.set_cons_succ]
  unfold Fl
  refine after_store ?_ _ _ _ #[.int .i64 C, .int .i64 TA, .string TR, .int .i64 TS, .int .i64 TU, .int .i64 TL, .bool TQ, .slice vah L.length vch] (by rfl) (by rfl) (fun _ => by rfl) (fun _ => by rfl) (by simp) (by kernel_rfl) (by simp [Value.oneCell']) ?_
  · exact Nat.le_refl _
  intro Kh Vh hK hk1 hk2 hF hoth hsz hcell
  simp only [Act.put, List.setIfInBounds_toArray, List.set_cons_zero, List.set_cons_succ]
  refine NoPanic.normal ?_
  obtain ⟨oqh, hoq⟩ : ∃ oq, Vh.heap[Kh]? = some oq := ⟨_, Array.getElem?_eq_getElem hk2⟩
  have TCh : Hid (∀ W : World, W.heap[Kh]? = some oqh → W.cell? ⟨Kh, 0, none⟩ = some (.int .i64 C) ∧ W.cell? ⟨Kh, 1, none⟩ = some (.int .i64 TA) ∧ W.cell? ⟨Kh, 2, none⟩ = some (.string TR) ∧ W.cell? ⟨Kh, 3, none⟩ = some (.int .i64 TS) ∧ W.cell? ⟨Kh, 4, none⟩ = some (.int .i64 TU) ∧ W.cell? ⟨Kh, 5, none⟩ = some (.int .i64 TL) ∧ W.cell? ⟨Kh, 6, none⟩ = some (.bool TQ) ∧ W.cell? ⟨Kh, 7, none⟩ = some (.slice vah L.length vch) ∧ Kh < W.heap.size) := fun W h => ⟨(cellSame hoq h 0).trans (hcell 0 _ rfl), (cellSame hoq h 1).trans (hcell 1 _ rfl), (cellSame hoq h 2).trans (hcell 2 _ rfl), (cellSame hoq h 3).trans (hcell 3 _ rfl), (cellSame hoq h 4).trans (hcell 4 _ rfl), (cellSame hoq h 5).trans (hcell 5 _ rfl), (cellSame hoq h 6).trans (hcell 6 _ rfl), (cellSame hoq h 7).trans (hcell 7 _ rfl), ltOf h⟩
  have hRV : OG 72 2 apC Vh w8.heap.size (.slice vah L.length vch) L := OG.low (show OG 72 2 apC _ _ _ _ from ownsRow_keep hrq (fun q hq => by have h9 := OG.lt hrq q hq; exact hoth q (fun e => hF (by subst e; exact Or.inr ⟨h9.1, h9.2⟩)) h9.2)) hB2.size
  have Z13 : Hid (LS w [(w.heap.size, w.heap.size + 1, fun V : World => V.heap[w.heap.size]? = some BX0), ((w.heap.size + 1), (w.heap.size + 1) + 1, fun V : World => V.heap[(w.heap.size + 1)]? = some BX1), (w2.heap.size, Va.heap.size, fun V : World => V.heap[Ka]? = some oqa ∧ OG 72 2 apC V w2.heap.size (.slice vaa L.length vca) L), (Va.heap.size, Kx0, fun V : World => True), (Kx0, Kx0 + 1, fun V : World => V.heap[Kx0]? = some (Obj.cells #[.int .i64 ta_0, .string tr_0, .int .i64 ts_0, .int .i64 tu_0, .int .i64 tl_0, .bool tq_0, .slice (some ⟨x0, 0, none⟩) s0.length s0.length] 31)), (Vx0.heap.size, Vg.heap.size, fun V : World => V.heap[Kg]? = some oqg ∧ V.ownsRow Vx0.heap.size 72 2 (.slice vag L.length vcg) L.length (mkP stApproval 2 1 (L.length * 2))), (w8.heap.size, Vh.heap.size, fun V : World => V.heap[Kh]? = some oqh ∧ OG 72 2 apC V w8.heap.size (.slice vah L.length vch) L)] Vh) := Z12.out.push hK.2 (Ow.and (Ow.wide (Ow.block hoq) hk1 hk2 (Nat.le_refl _)) (Ow.row hRV hK.2.size (Nat.le_refl _) (fun g hg => (OG.lt hRV g hg).2))) (Nat.le_refl _)
  clear Z12 HWB hK hk1 hk2 hF hoth hsz hcell hoq hbq hS hW0 hB0 hC0 ho0 hb0 hW1 hB1 hC1 hb1 hW2 hB2 hrq hRV cp0_0 cp0_1 cp0_2 cp0_3 cp0_4 cp0_5 cp0_6 lp0 cp1_0 cp1_1 cp1_2 lp1
  obtain ⟨cvh_0, cvh_1, cvh_2, cvh_3, cvh_4, cvh_5, cvh_6, cvh_7, lvh⟩ := TCh.out Vh (Z13.out.get 6 rfl).1
  obtain ⟨cva_0, cva_1, cva_2, cva_3, cva_4, cva_5, cva_6, cva_7, lva⟩ := TCa.out Vh (Z13.out.get 2 rfl).1
  go_wp2_with (fail)
  clear cvh_0 cvh_1 cvh_2 cvh_3 cvh_4 cvh_5 cvh_6 cvh_7 lvh cva_0 cva_1 cva_2 cva_3 cva_4 cva_5 cva_6 cva_7 lva
  refine (eqToolResult_to C TA TR TS TU TL TQ HLN.out (OG.rg apC_len (B := w8.heap.size) (show OG 72 2 apC Vh w8.heap.size (.slice vah L.length vch) L from (Z13.out.get 6 rfl).2)) (OG.rg apC_len (B := w2.heap.size) (show OG 72 2 apC Vh w2.heap.size (.slice vaa L.length vca) L from (Z13.out.get 2 rfl).2))).mono ?_
  rintro e w9 ⟨rfl, hb⟩
  have Z14 : Hid (LS w [(w.heap.size, w.heap.size + 1, fun V : World => V.heap[w.heap.size]? = some BX0), ((w.heap.size + 1), (w.heap.size + 1) + 1, fun V : World => V.heap[(w.heap.size + 1)]? = some BX1), (w2.heap.size, Va.heap.size, fun V : World => V.heap[Ka]? = some oqa ∧ OG 72 2 apC V w2.heap.size (.slice vaa L.length vca) L), (Va.heap.size, Kx0, fun V : World => True), (Kx0, Kx0 + 1, fun V : World => V.heap[Kx0]? = some (Obj.cells #[.int .i64 ta_0, .string tr_0, .int .i64 ts_0, .int .i64 tu_0, .int .i64 tl_0, .bool tq_0, .slice (some ⟨x0, 0, none⟩) s0.length s0.length] 31)), (Vx0.heap.size, Vg.heap.size, fun V : World => V.heap[Kg]? = some oqg ∧ V.ownsRow Vx0.heap.size 72 2 (.slice vag L.length vcg) L.length (mkP stApproval 2 1 (L.length * 2))), (w8.heap.size, Vh.heap.size, fun V : World => V.heap[Kh]? = some oqh ∧ OG 72 2 apC V w8.heap.size (.slice vah L.length vch) L)] w9) := Z13.out.next hb
  clear Z13 hb
  obtain ⟨cvg_0, cvg_1, cvg_2, cvg_3, cvg_4, cvg_5, cvg_6, cvg_7, lvg⟩ := TCg.out w9 (Z14.out.get 5 rfl).1
  go_wp2_with (fail)
  clear cvg_0 cvg_1 cvg_2 cvg_3 cvg_4 cvg_5 cvg_6 cvg_7 lvg
  refine (heldToolResult_to C TA TR TS TU TL TQ HLN.out (show w9.ownsRow Vx0.heap.size 72 2 (.slice vag L.length vcg) L.length (mkP stApproval 2 1 (L.length * 2)) from (Z14.out.get 5 rfl).2)).mono ?_
  rintro e w10 ⟨rfl, hb⟩
  have Z15 : Hid (LS w [(w.heap.size, w.heap.size + 1, fun V : World => V.heap[w.heap.size]? = some BX0), ((w.heap.size + 1), (w.heap.size + 1) + 1, fun V : World => V.heap[(w.heap.size + 1)]? = some BX1), (w2.heap.size, Va.heap.size, fun V : World => V.heap[Ka]? = some oqa ∧ OG 72 2 apC V w2.heap.size (.slice vaa L.length vca) L), (Va.heap.size, Kx0, fun V : World => True), (Kx0, Kx0 + 1, fun V : World => V.heap[Kx0]? = some (Obj.cells #[.int .i64 ta_0, .string tr_0, .int .i64 ts_0, .int .i64 tu_0, .int .i64 tl_0, .bool tq_0, .slice (some ⟨x0, 0, none⟩) s0.length s0.length] 31)), (Vx0.heap.size, Vg.heap.size, fun V : World => V.heap[Kg]? = some oqg ∧ V.ownsRow Vx0.heap.size 72 2 (.slice vag L.length vcg) L.length (mkP stApproval 2 1 (L.length * 2))), (w8.heap.size, Vh.heap.size, fun V : World => V.heap[Kh]? = some oqh ∧ OG 72 2 apC V w8.heap.size (.slice vah L.length vch) L)] w10) := Z14.out.next hb
  clear Z14 hb
  rw [← HTT.out]
  go_wp2
  go_returns
  exact ⟨rfl, Z15.out.bl⟩

set_option maxRecDepth 100000 in
theorem ta19_lifted (os : Os) (started : os.Started) (H : Type) (enc : TypeId × Value → H) :
    ReturnsInHanded {} Try.checked os 3 .any (Rows.fnExactToolActSpec.pre6 enc Try.prog Try.f3 Rows.fnExactToolActRow.domain false) (Rows.fnExactToolActSpec.post enc Try.prog Try.f3 false true false false) := by
  refine returnsInHanded_of_change (C := Try.checked) own started (by kernel_rfl) Try.func3
    (ChangeSpec.witness6 (enc := enc) (C := Try.checked) false ⟨#[], #[.agg #[.int .i64 0, .string ByteArray.empty, .int .i64 0, .int .i64 0, .int .i64 0, .bool false, .slice none 0 0], .agg #[.int .i64 0, .string ByteArray.empty, .int .i64 0]], []⟩ 8 (by kernel_rfl) (by kernel_rfl) (by kernel_rfl) (by kernel_rfl)) ?_
  intro W base args ds gs before hval0 hW hcnd _
  have hval : ∀ (j : Nat) t v, Try.f3.params[j]? = some t → args[j]? = some v → Value.okWide Try.prog W .any base t v := hval0
  have hW' := hW
  obtain ⟨p, q, hA0, hV, rfl, hfz, hnd⟩ := hW
  have hA : DataW.TrodAll enc Try.prog W 0 (fun _ => true) true Try.f3.params.toList args.toList ds p := hA0
  rw [Try.params3] at hA hval
  obtain ⟨v0, vs0, d0, ds0, p0, q0, hargs, rfl, rfl, h0, r0⟩ := trodAll_cons hA
  obtain ⟨v1, vs1, d1, ds1, p1, q1, rfl, rfl, rfl, h1, r1⟩ := trodAll_cons r0
  obtain ⟨rfl, rfl, rfl⟩ := trodAll_nil r1
  obtain rfl : args = #[v0, v1] := by cases args; simp_all
  obtain ⟨rfl, rfl⟩ := trodVars_none hV
  have k0 := h0
  have lt0 : ∀ x ∈ p0, x.block < W.heap.size := by obtain ⟨m, hm⟩ := k0; exact DataW.trod_lt m _ _ _ hm
  obtain ⟨ta0, tr0, ts0, tu0, tl0, tq0, sa0, sn0, sc0, s0, rfl, ri0, sl0⟩ := tool_open (hval 0 24 v0 rfl rfl) h0
  have k1 := h1
  have lt1 : ∀ x ∈ p1, x.block < W.heap.size := by obtain ⟨m, hm⟩ := k1; exact DataW.trod_lt m _ _ _ hm
  obtain ⟨ek1, er1, es1, rfl, we1⟩ := event_open (hval 1 26 v1 rfl rfl) h1
  clear hA0 hval0
  refine (law_ta19 ta0 tr0 ts0 tu0 tl0 tq0 s0 sl0 ri0 ek1 er1 es1 we1).mono fun e W' ⟨he, hg⟩ => ?_
  subst he
  exact ⟨_, rfl, _, _, _, [], _, [], hW', trodAll_mk1 (shut_bool Try.underlying4 _), (trodAll_cons_mk (Below.trod laidOut (by kernel_rfl) (of_decide_eq_true (by kernel_rfl)) k0 hg lt0) (trodAll_cons_mk (Below.trod laidOut (by kernel_rfl) (of_decide_eq_true (by kernel_rfl)) k1 hg lt1) trodAll_mk0)), rfl, hg.frame _, fun h => by cases h⟩

theorem ta19_over : Rows.fnExactToolActRow.holds Try.pinned (OpenSpec.ofChange Rows.fnExactToolActSpec) :=
  OpenClaim.holds_of_wide 3 Try.f3 rfl rfl rfl rfl rfl rfl rfl ⟨rfl, rfl, rfl, rfl, rfl⟩ rfl rfl rfl rfl rfl (by kernel_rfl) Try.func3 (by kernel_rfl)
    (of_decide_eq_true (by kernel_rfl)) (by unfold Func.isWrapper; first | (rw [if_pos (by decide +kernel)]; kernel_rfl) | (rw [if_neg (by decide +kernel)]; exact ⟨rfl, rfl⟩))
    (fun os started H enc _ => ta19_lifted os started H enc)

theorem ta19_proved : Rows.FnExactToolActSaid :=
  ta19_over
#print axioms ta19_proved

end Go.Proofs.Ytkacfjbhkgdpdaa
