/- Proved here: 'the program's CheckRuns answers as the model's; it writes into no argument', without a condition. -/
import Derived.Test.YtcfcknfaeliodaaKrI
import Derived.Test.YtcfcknfaeliodaaKrS
import Derived.Test.YtcfcknfaeliodaaTlB
import Derived.Test.YtcfcknfaeliodaaLgB
import Derived.Test.YtcfcknfaeliodaaLwS
import Derived.ChangeMaps5
import Derived.Test.YtcfcknfaeliodaaRows
namespace Go.Proofs.Ytcfcknfaeliodaa
open Go.ChangeShapes Go.WideShapes Go.ChangeAt Go.RowKit Go.Joins Go.ChangeMaps
set_option linter.unusedVariables false
set_option linter.unusedSimpArgs false

theorem own : ownKnob Try.prog.godebug = none := by kernel_rfl
theorem laidOut : laidOutB Try.prog = true := by kernel_rfl

set_option maxRecDepth 10000 in
set_option maxHeartbeats 25600000 in
theorem law_kr19 {w : World}  (ta_0 : Int) (tr_0 : ByteArray) (ts_0 tu_0 tl_0 : Int) (tq_0 : Bool) {sa0 : Option Addr} {sn0 sc0 : Nat} (s0 : List Ap) (hm0 : okTl tr_0 s0) (hr0 : RG 2 apC w (.slice sa0 sn0 sc0) s0) (lc_1 la_1 : Int) (lr_1 : ByteArray) (ls_1 lu_1 ll_1 : Int) (lq_1 : Bool) {sa1 : Option Addr} {sn1 sc1 : Nat} (s1 : List Ap) {ta1 : Option Addr} {tn1 tc1 : Nat} (t1 : List Int) {xa1 : Option Addr} {xn1 xc1 : Nat} (ru1 : List Ap) (hm1 : okLg lr_1 s1 t1 ru1) (hr1 : RdG w (.slice sa1 sn1 sc1) (.slice ta1 tn1 tc1) (.slice xa1 xn1 xc1) s1 t1 ru1) :
    Calls Try.prog 5 #[.agg #[.int .i64 ta_0, .string tr_0, .int .i64 ts_0, .int .i64 tu_0, .int .i64 tl_0, .bool tq_0, .slice sa0 sn0 sc0], .agg #[.int .i64 lc_1, .int .i64 la_1, .string lr_1, .int .i64 ls_1, .int .i64 lu_1, .int .i64 ll_1, .bool lq_1, .slice sa1 sn1 sc1, .slice ta1 tn1 tc1, .slice xa1 xn1 xc1]] w fun e w' => e = .returned (.bool true) ∧ Below w.heap.size w w' := by
  have HM0 : Hid (okTl tr_0 s0) := hm0
  have HR0 : Hid (RG 2 apC w (.slice sa0 sn0 sc0) s0) := hr0
  have HE0 : Hid (sn0 = s0.length) := hr0.len
  have HM1 : Hid (okLg lr_1 s1 t1 ru1) := hm1
  have HR1 : Hid (RdG w (.slice sa1 sn1 sc1) (.slice ta1 tn1 tc1) (.slice xa1 xn1 xc1) s1 t1 ru1) := hr1
  have HE1 : Hid (sn1 = s1.length ∧ tn1 = t1.length ∧ xn1 = ru1.length) := ⟨hr1.ap.len, hr1.ci.len, hr1.ru.len⟩
  clear hm0 hr0 hm1 hr1
  obtain ⟨BX0, hBX0⟩ : ∃ BX, BX = Obj.cells #[.int .i64 ta_0, .string tr_0, .int .i64 ts_0, .int .i64 tu_0, .int .i64 tl_0, .bool tq_0, .slice sa0 sn0 sc0] 24 := ⟨_, rfl⟩
  obtain ⟨BX1, hBX1⟩ : ∃ BX, BX = Obj.cells #[.int .i64 lc_1, .int .i64 la_1, .string lr_1, .int .i64 ls_1, .int .i64 lu_1, .int .i64 ll_1, .bool lq_1, .slice sa1 sn1 sc1, .slice ta1 tn1 tc1, .slice xa1 xn1 xc1] 41 := ⟨_, rfl⟩
  have Z0 : Hid (LS w [(w.heap.size, w.heap.size + 1, fun V : World => V.heap[w.heap.size]? = some BX0), ((w.heap.size + 1), (w.heap.size + 1) + 1, fun V : World => V.heap[(w.heap.size + 1)]? = some BX1)] ((w.alloc (Obj.cells #[.int .i64 ta_0, .string tr_0, .int .i64 ts_0, .int .i64 tu_0, .int .i64 tl_0, .bool tq_0, .slice sa0 sn0 sc0] 24)).alloc (Obj.cells #[.int .i64 lc_1, .int .i64 la_1, .string lr_1, .int .i64 ls_1, .int .i64 lu_1, .int .i64 ll_1, .bool lq_1, .slice sa1 sn1 sc1, .slice ta1 tn1 tc1, .slice xa1 xn1 xc1] 41))) := by
    have p0 := LS.start w
    have p1 := LS.push (V' := (w.alloc (Obj.cells #[.int .i64 ta_0, .string tr_0, .int .i64 ts_0, .int .i64 tu_0, .int .i64 tl_0, .bool tq_0, .slice sa0 sn0 sc0] 24))) p0 (by (repeat' (first | (with_reducible exact Below.refl _ _) | (with_reducible assumption) | (with_reducible refine Below.setCell ?_ ?_ _) | (with_reducible refine Below.alloc ?_ ?_ _) | (with_reducible refine below_drewN ?_ _) | (with_reducible refine Below.drew ?_) | (with_reducible exact Nat.le_refl _) | omega | (simp; done) | (simp; omega)))) (Ow.block (k := w.heap.size) (o := BX0) (by rw [hBX0]; have := heap_alloc_new w (Obj.cells #[.int .i64 ta_0, .string tr_0, .int .i64 ts_0, .int .i64 tu_0, .int .i64 tl_0, .bool tq_0, .slice sa0 sn0 sc0] 24); simpa using this)) (by simp)
    have p2 := LS.push (V' := ((w.alloc (Obj.cells #[.int .i64 ta_0, .string tr_0, .int .i64 ts_0, .int .i64 tu_0, .int .i64 tl_0, .bool tq_0, .slice sa0 sn0 sc0] 24)).alloc (Obj.cells #[.int .i64 lc_1, .int .i64 la_1, .string lr_1, .int .i64 ls_1, .int .i64 lu_1, .int .i64 ll_1, .bool lq_1, .slice sa1 sn1 sc1, .slice ta1 tn1 tc1, .slice xa1 xn1 xc1] 41))) p1 (by (repeat' (first | (with_reducible exact Below.refl _ _) | (with_reducible assumption) | (with_reducible refine Below.setCell ?_ ?_ _) | (with_reducible refine Below.alloc ?_ ?_ _) | (with_reducible refine below_drewN ?_ _) | (with_reducible refine Below.drew ?_) | (with_reducible exact Nat.le_refl _) | omega | (simp; done) | (simp; omega)))) (Ow.block (k := (w.heap.size + 1)) (o := BX1) (by rw [hBX1]; have := heap_alloc_new (w.alloc (Obj.cells #[.int .i64 ta_0, .string tr_0, .int .i64 ts_0, .int .i64 tu_0, .int .i64 tl_0, .bool tq_0, .slice sa0 sn0 sc0] 24)) (Obj.cells #[.int .i64 lc_1, .int .i64 la_1, .string lr_1, .int .i64 ls_1, .int .i64 lu_1, .int .i64 ll_1, .bool lq_1, .slice sa1 sn1 sc1, .slice ta1 tn1 tc1, .slice xa1 xn1 xc1] 41); simpa using this)) (by simp)
    exact p2
  have TB0 : Hid (BX0 = Obj.cells #[.int .i64 ta_0, .string tr_0, .int .i64 ts_0, .int .i64 tu_0, .int .i64 tl_0, .bool tq_0, .slice sa0 sn0 sc0] 24) := hBX0
  have TB1 : Hid (BX1 = Obj.cells #[.int .i64 lc_1, .int .i64 la_1, .string lr_1, .int .i64 ls_1, .int .i64 lu_1, .int .i64 ll_1, .bool lq_1, .slice sa1 sn1 sc1, .slice ta1 tn1 tc1, .slice xa1 xn1 xc1] 41) := hBX1
  clear hBX0 hBX1
  go_enter Try.func5, Try.ntmps5
  go_wp2_with (fail)
  obtain ⟨W0, hW0⟩ : ∃ V, V = ((w.alloc (Obj.cells #[.int .i64 ta_0, .string tr_0, .int .i64 ts_0, .int .i64 tu_0, .int .i64 tl_0, .bool tq_0, .slice sa0 sn0 sc0] 24)).alloc (Obj.cells #[.int .i64 lc_1, .int .i64 la_1, .string lr_1, .int .i64 ls_1, .int .i64 lu_1, .int .i64 ll_1, .bool lq_1, .slice sa1 sn1 sc1, .slice ta1 tn1 tc1, .slice xa1 xn1 xc1] 41)) := ⟨_, rfl⟩
  rw [← hW0] at Z0 ⊢
  clear hW0
  refine (szTool_gen ta_0 tr_0 ts_0 tu_0 tl_0 tq_0 sa0 sn0 sc0 1048576 s0 _ (by omega) (by omega) HM0.out (HR0.out.below Z0.out.bl)).mono ?_
  rintro e w1 ⟨r0, rfl, hq0, hb⟩
  have Z1 : Hid (LS w [(w.heap.size, w.heap.size + 1, fun V : World => V.heap[w.heap.size]? = some BX0), ((w.heap.size + 1), (w.heap.size + 1) + 1, fun V : World => V.heap[(w.heap.size + 1)]? = some BX1)] w1) := Z0.out.next hb
  clear Z0 hb
  rcases hq0 with hneg | ⟨u0, v0, tt0⟩
  · go_wp2
    go_returns
    exact ⟨rfl, Z1.out.bl⟩
  have hl0 : ¬ r0 < 0 := by omega
  have HL0 : Hid (smTl 1048576 tr_0 s0) := smTl_mono (by omega) tt0
  have kp1 := Z1.out.get 1 rfl
  rw [TB1.out] at kp1
  have cp1_0 : w1.cell? ⟨(w.heap.size + 1), 0, none⟩ = some (.int .i64 lc_1) := cellOf kp1 0 rfl
  have cp1_1 : w1.cell? ⟨(w.heap.size + 1), 1, none⟩ = some (.int .i64 la_1) := cellOf kp1 1 rfl
  have cp1_2 : w1.cell? ⟨(w.heap.size + 1), 2, none⟩ = some (.string lr_1) := cellOf kp1 2 rfl
  have cp1_3 : w1.cell? ⟨(w.heap.size + 1), 3, none⟩ = some (.int .i64 ls_1) := cellOf kp1 3 rfl
  have cp1_4 : w1.cell? ⟨(w.heap.size + 1), 4, none⟩ = some (.int .i64 lu_1) := cellOf kp1 4 rfl
  have cp1_5 : w1.cell? ⟨(w.heap.size + 1), 5, none⟩ = some (.int .i64 ll_1) := cellOf kp1 5 rfl
  have cp1_6 : w1.cell? ⟨(w.heap.size + 1), 6, none⟩ = some (.bool lq_1) := cellOf kp1 6 rfl
  have cp1_7 : w1.cell? ⟨(w.heap.size + 1), 7, none⟩ = some (.slice sa1 sn1 sc1) := cellOf kp1 7 rfl
  have cp1_8 : w1.cell? ⟨(w.heap.size + 1), 8, none⟩ = some (.slice ta1 tn1 tc1) := cellOf kp1 8 rfl
  have cp1_9 : w1.cell? ⟨(w.heap.size + 1), 9, none⟩ = some (.slice xa1 xn1 xc1) := cellOf kp1 9 rfl
  have lp1 : (w.heap.size + 1) < w1.heap.size := ltOf kp1
  clear kp1
  go_wp2_with (fail)
  clear cp1_0 cp1_1 cp1_2 cp1_3 cp1_4 cp1_5 cp1_6 cp1_7 cp1_8 cp1_9 lp1
  refine (szToolLog_gen lc_1 la_1 lr_1 ls_1 lu_1 ll_1 lq_1 sa1 sn1 sc1 ta1 tn1 tc1 xa1 xn1 xc1 r0 s1 t1 ru1 _ (by omega) (by omega) HM1.out (HR1.out.below Z1.out.bl)).mono ?_
  rintro e w2 ⟨r1, rfl, hq1, hb⟩
  have Z2 : Hid (LS w [(w.heap.size, w.heap.size + 1, fun V : World => V.heap[w.heap.size]? = some BX0), ((w.heap.size + 1), (w.heap.size + 1) + 1, fun V : World => V.heap[(w.heap.size + 1)]? = some BX1)] w2) := Z1.out.next hb
  clear Z1 hb
  rcases hq1 with hneg | ⟨u1, v1, tt1⟩
  · go_wp2
    go_returns
    exact ⟨rfl, Z2.out.bl⟩
  have hl1 : ¬ r1 < 0 := by omega
  have HL1 : Hid (s1.length ≤ 1048576 ∧ t1.length ≤ 1048576 ∧ ru1.length ≤ 1048576) := ⟨by have := tt1.tl.n; omega, by have := tt1.ci; omega, by have := tt1.ru; omega⟩
  obtain ⟨C, hC⟩ : ∃ X, X = crB lc_1 ta_0 tr_0 ts_0 tu_0 tl_0 tq_0 s0 ru1 := ⟨_, rfl⟩
  have HSP : Hid (∀ (W : World) (g0 : Nat) (g1 : Nat × Nat × Nat), (RG 2 apC W (.slice (some ⟨g0, 0, none⟩) s0.length s0.length) s0) → (RdG W (.slice (some ⟨g1.1, 0, none⟩) s1.length s1.length) (.slice (some ⟨g1.2.1, 0, none⟩) t1.length t1.length) (.slice (some ⟨g1.2.2, 0, none⟩) ru1.length ru1.length) s1 t1 ru1) → Calls Try.prog 19 #[.agg #[.int .i64 ta_0, .string tr_0, .int .i64 ts_0, .int .i64 tu_0, .int .i64 tl_0, .bool tq_0, .slice (some ⟨g0, 0, none⟩) s0.length s0.length], .agg #[.int .i64 lc_1, .int .i64 la_1, .string lr_1, .int .i64 ls_1, .int .i64 lu_1, .int .i64 ll_1, .bool lq_1, .slice (some ⟨g1.1, 0, none⟩) s1.length s1.length, .slice (some ⟨g1.2.1, 0, none⟩) t1.length t1.length, .slice (some ⟨g1.2.2, 0, none⟩) ru1.length ru1.length]] W fun e w' => e = .returned (.bool C) ∧ Below W.heap.size W w') := fun W g0 g1 h0 h1 => by
    rw [hC]
    exact spec_kr lc_1 la_1 lr_1 ls_1 lu_1 ll_1 lq_1 ⟨_, _, _, rfl⟩ ⟨_, _, _, rfl⟩ ta_0 tr_0 ts_0 tu_0 tl_0 tq_0 (tl_len HL0.out) (fun j h => by have := HL0.out.ap j h; unfold smAp at this; omega) h0 HL1.out.2.2 h1.ru
  have HIM : Hid (∀ (W : World) (g0 : Nat) (g1 : Nat × Nat × Nat), (RG 2 apC W (.slice (some ⟨g0, 0, none⟩) s0.length s0.length) s0) → (RdG W (.slice (some ⟨g1.1, 0, none⟩) s1.length s1.length) (.slice (some ⟨g1.2.1, 0, none⟩) t1.length t1.length) (.slice (some ⟨g1.2.2, 0, none⟩) ru1.length ru1.length) s1 t1 ru1) → Calls Try.prog 21 #[.agg #[.int .i64 ta_0, .string tr_0, .int .i64 ts_0, .int .i64 tu_0, .int .i64 tl_0, .bool tq_0, .slice (some ⟨g0, 0, none⟩) s0.length s0.length], .agg #[.int .i64 lc_1, .int .i64 la_1, .string lr_1, .int .i64 ls_1, .int .i64 lu_1, .int .i64 ll_1, .bool lq_1, .slice (some ⟨g1.1, 0, none⟩) s1.length s1.length, .slice (some ⟨g1.2.1, 0, none⟩) t1.length t1.length, .slice (some ⟨g1.2.2, 0, none⟩) ru1.length ru1.length]] W fun e w' => e = .returned (.bool C) ∧ Below W.heap.size W w') := fun W g0 g1 h0 h1 => by
    rw [hC]
    exact impl_kr lc_1 la_1 lr_1 ls_1 lu_1 ll_1 lq_1 ⟨_, _, _, rfl⟩ ⟨_, _, _, rfl⟩ ta_0 tr_0 ts_0 tu_0 tl_0 tq_0 (tl_len HL0.out) (fun j h => by have := HL0.out.ap j h; unfold smAp at this; omega) (Nat.le_refl _) h0 HL1.out.2.2 h1.ru
  clear hC u0 v0 tt0 u1 v1 tt1
  have kp0 := Z2.out.get 0 rfl
  rw [TB0.out] at kp0
  have cp0_0 : w2.cell? ⟨w.heap.size, 0, none⟩ = some (.int .i64 ta_0) := cellOf kp0 0 rfl
  have cp0_1 : w2.cell? ⟨w.heap.size, 1, none⟩ = some (.string tr_0) := cellOf kp0 1 rfl
  have cp0_2 : w2.cell? ⟨w.heap.size, 2, none⟩ = some (.int .i64 ts_0) := cellOf kp0 2 rfl
  have cp0_3 : w2.cell? ⟨w.heap.size, 3, none⟩ = some (.int .i64 tu_0) := cellOf kp0 3 rfl
  have cp0_4 : w2.cell? ⟨w.heap.size, 4, none⟩ = some (.int .i64 tl_0) := cellOf kp0 4 rfl
  have cp0_5 : w2.cell? ⟨w.heap.size, 5, none⟩ = some (.bool tq_0) := cellOf kp0 5 rfl
  have cp0_6 : w2.cell? ⟨w.heap.size, 6, none⟩ = some (.slice sa0 sn0 sc0) := cellOf kp0 6 rfl
  have lp0 : w.heap.size < w2.heap.size := ltOf kp0
  clear kp0
  have kp1 := Z2.out.get 1 rfl
  rw [TB1.out] at kp1
  have cp1_0 : w2.cell? ⟨(w.heap.size + 1), 0, none⟩ = some (.int .i64 lc_1) := cellOf kp1 0 rfl
  have cp1_1 : w2.cell? ⟨(w.heap.size + 1), 1, none⟩ = some (.int .i64 la_1) := cellOf kp1 1 rfl
  have cp1_2 : w2.cell? ⟨(w.heap.size + 1), 2, none⟩ = some (.string lr_1) := cellOf kp1 2 rfl
  have cp1_3 : w2.cell? ⟨(w.heap.size + 1), 3, none⟩ = some (.int .i64 ls_1) := cellOf kp1 3 rfl
  have cp1_4 : w2.cell? ⟨(w.heap.size + 1), 4, none⟩ = some (.int .i64 lu_1) := cellOf kp1 4 rfl
  have cp1_5 : w2.cell? ⟨(w.heap.size + 1), 5, none⟩ = some (.int .i64 ll_1) := cellOf kp1 5 rfl
  have cp1_6 : w2.cell? ⟨(w.heap.size + 1), 6, none⟩ = some (.bool lq_1) := cellOf kp1 6 rfl
  have cp1_7 : w2.cell? ⟨(w.heap.size + 1), 7, none⟩ = some (.slice sa1 sn1 sc1) := cellOf kp1 7 rfl
  have cp1_8 : w2.cell? ⟨(w.heap.size + 1), 8, none⟩ = some (.slice ta1 tn1 tc1) := cellOf kp1 8 rfl
  have cp1_9 : w2.cell? ⟨(w.heap.size + 1), 9, none⟩ = some (.slice xa1 xn1 xc1) := cellOf kp1 9 rfl
  have lp1 : (w.heap.size + 1) < w2.heap.size := ltOf kp1
  clear kp1
  go_wp2_with (fail)
  have HWB : Below w.heap.size w w2 := Z2.out.bl
  refine wp_region_float (by kernel_rfl) (fun hS => ?_)
  refine fl_take (i := 0) (d := 20) (v := .agg #[.int .i64 ta_0, .string tr_0, .int .i64 ts_0, .int .i64 tu_0, .int .i64 tl_0, .bool tq_0, .slice sa0 sn0 sc0]) rfl rfl rfl (by kernel_rfl) (by kernel_rfl) (by kernel_rfl) hS ?_ ?_
  · intro w' hk; go_simp
  simp only [Act.put, List.setIfInBounds_toArray, List.set_cons_zero, List.set_cons_succ]
  refine fl_take (i := 2) (d := 22) (v := .agg #[.int .i64 lc_1, .int .i64 la_1, .string lr_1, .int .i64 ls_1, .int .i64 lu_1, .int .i64 ll_1, .bool lq_1, .slice sa1 sn1 sc1, .slice ta1 tn1 tc1, .slice xa1 xn1 xc1]) rfl rfl rfl (by kernel_rfl) (by kernel_rfl) (by kernel_rfl) hS ?_ ?_
  · intro w' hk; go_simp
  simp only [Act.put, List.setIfInBounds_toArray, List.set_cons_zero, List.set_cons_succ]
  refine wpAnyH_all (rs := [1]) (by kernel_rfl) (by simp) ?_
  intro i hi
  obtain rfl : i = 1 := by simpa using hi
  refine op_call (d := 21) rfl rfl rfl (by go_simp) ((toTool_any ta_0 tr_0 ts_0 tu_0 tl_0 tq_0 (tl_len HL0.out) ((HR0.out.below HWB).below ((Below.refl _ _).drew))).mono ?_)
  rintro e ya0 ⟨ga0, rfl, ho0, hb0⟩
  have hK0 : KS w2 ya0 := hS.call hb0
  refine ⟨_, rfl, hK0, ?_⟩
  simp only [Act.put, List.setIfInBounds_toArray, List.set_cons_zero, List.set_cons_succ]
  refine wpAnyH_all (rs := [3]) (by kernel_rfl) (by simp) ?_
  intro i hi
  obtain rfl : i = 3 := by simpa using hi
  refine op_call (d := 23) rfl rfl rfl (by go_simp) ((toToolLog_any lc_1 la_1 lr_1 ls_1 lu_1 ll_1 lq_1 HL1.out ((HR1.out.below HWB).below (hK0.2))).mono ?_)
  rintro e ya1 ⟨ga1, rfl, ho1, hb1⟩
  have hK1 : KS w2 ya1 := hK0.call hb1
  refine ⟨_, rfl, hK1, ?_⟩
  simp only [Act.put, List.setIfInBounds_toArray, List.set_cons_zero, List.set_cons_succ]
  refine wpAnyH_all (rs := [4]) (by kernel_rfl) (by simp) ?_
  intro i hi
  obtain rfl : i = 4 := by simpa using hi
  refine op_call (d := 24) rfl rfl rfl (by go_simp) ((HSP.out _ ga0 ga1 (RG.below ((OG.rg apC_len ho0)) hb1) ((OwG.rd ho1))).mono ?_)
  rintro e yea ⟨rfl, hbq⟩
  have hKq : KS w2 yea := hK1.call hbq
  refine ⟨_, rfl, hKq, ?_⟩
  simp only [Act.put, List.setIfInBounds_toArray, List.set_cons_zero, List.set_cons_succ]
  refine wpAnyH_all (rs := [5]) (by kernel_rfl) (by simp) ?_
  intro i hi
  obtain rfl : i = 5 := by simpa using hi
  refine op_val (d := 6) (v := .bool C) (w' := yea) rfl rfl rfl (by go_simp; try rfl) ?_
  simp only [Act.put, List.setIfInBounds_toArray, List.set_cons_zero, List.set_cons_succ]
  refine ⟨hKq, wpAnyH_done (by kernel_rfl) (NoPanic.normal ?_) _⟩
  have Z3 : Hid (LS w [(w.heap.size, w.heap.size + 1, fun V : World => V.heap[w.heap.size]? = some BX0), ((w.heap.size + 1), (w.heap.size + 1) + 1, fun V : World => V.heap[(w.heap.size + 1)]? = some BX1)] yea) := Z2.out.next hKq.2
  clear Z2 HWB hKq hbq hS hK0 ho0 hb0 hK1 ho1 hb1 cp0_0 cp0_1 cp0_2 cp0_3 cp0_4 cp0_5 cp0_6 lp0 cp1_0 cp1_1 cp1_2 cp1_3 cp1_4 cp1_5 cp1_6 cp1_7 cp1_8 cp1_9 lp1
  have kp0 := Z3.out.get 0 rfl
  rw [TB0.out] at kp0
  have cp0_0 : yea.cell? ⟨w.heap.size, 0, none⟩ = some (.int .i64 ta_0) := cellOf kp0 0 rfl
  have cp0_1 : yea.cell? ⟨w.heap.size, 1, none⟩ = some (.string tr_0) := cellOf kp0 1 rfl
  have cp0_2 : yea.cell? ⟨w.heap.size, 2, none⟩ = some (.int .i64 ts_0) := cellOf kp0 2 rfl
  have cp0_3 : yea.cell? ⟨w.heap.size, 3, none⟩ = some (.int .i64 tu_0) := cellOf kp0 3 rfl
  have cp0_4 : yea.cell? ⟨w.heap.size, 4, none⟩ = some (.int .i64 tl_0) := cellOf kp0 4 rfl
  have cp0_5 : yea.cell? ⟨w.heap.size, 5, none⟩ = some (.bool tq_0) := cellOf kp0 5 rfl
  have cp0_6 : yea.cell? ⟨w.heap.size, 6, none⟩ = some (.slice sa0 sn0 sc0) := cellOf kp0 6 rfl
  have lp0 : w.heap.size < yea.heap.size := ltOf kp0
  clear kp0
  go_wp2_with (fail)
  clear cp0_0 cp0_1 cp0_2 cp0_3 cp0_4 cp0_5 cp0_6 lp0
  refine (toTool_any ta_0 tr_0 ts_0 tu_0 tl_0 tq_0 (tl_len HL0.out) (HR0.out.below Z3.out.bl)).mono ?_
  rintro e w3 ⟨x0, rfl, ho, hb⟩
  have Z4 : Hid (LS w [(w.heap.size, w.heap.size + 1, fun V : World => V.heap[w.heap.size]? = some BX0), ((w.heap.size + 1), (w.heap.size + 1) + 1, fun V : World => V.heap[(w.heap.size + 1)]? = some BX1), (yea.heap.size, w3.heap.size, fun V : World => V.ownsRow yea.heap.size 72 2 (.slice (some ⟨x0, 0, none⟩) s0.length s0.length) s0.length (s0.flatMap apC))] w3) := Z3.out.push hb (Ow.rowAll ho hb) (Nat.le_refl _)
  clear Z3 hb ho
  have kp1 := Z4.out.get 1 rfl
  rw [TB1.out] at kp1
  have cp1_0 : w3.cell? ⟨(w.heap.size + 1), 0, none⟩ = some (.int .i64 lc_1) := cellOf kp1 0 rfl
  have cp1_1 : w3.cell? ⟨(w.heap.size + 1), 1, none⟩ = some (.int .i64 la_1) := cellOf kp1 1 rfl
  have cp1_2 : w3.cell? ⟨(w.heap.size + 1), 2, none⟩ = some (.string lr_1) := cellOf kp1 2 rfl
  have cp1_3 : w3.cell? ⟨(w.heap.size + 1), 3, none⟩ = some (.int .i64 ls_1) := cellOf kp1 3 rfl
  have cp1_4 : w3.cell? ⟨(w.heap.size + 1), 4, none⟩ = some (.int .i64 lu_1) := cellOf kp1 4 rfl
  have cp1_5 : w3.cell? ⟨(w.heap.size + 1), 5, none⟩ = some (.int .i64 ll_1) := cellOf kp1 5 rfl
  have cp1_6 : w3.cell? ⟨(w.heap.size + 1), 6, none⟩ = some (.bool lq_1) := cellOf kp1 6 rfl
  have cp1_7 : w3.cell? ⟨(w.heap.size + 1), 7, none⟩ = some (.slice sa1 sn1 sc1) := cellOf kp1 7 rfl
  have cp1_8 : w3.cell? ⟨(w.heap.size + 1), 8, none⟩ = some (.slice ta1 tn1 tc1) := cellOf kp1 8 rfl
  have cp1_9 : w3.cell? ⟨(w.heap.size + 1), 9, none⟩ = some (.slice xa1 xn1 xc1) := cellOf kp1 9 rfl
  have lp1 : (w.heap.size + 1) < w3.heap.size := ltOf kp1
  clear kp1
  have Z5 : Hid (LS w [(w.heap.size, w.heap.size + 1, fun V : World => V.heap[w.heap.size]? = some BX0), ((w.heap.size + 1), (w.heap.size + 1) + 1, fun V : World => V.heap[(w.heap.size + 1)]? = some BX1), (yea.heap.size, w3.heap.size, fun V : World => V.ownsRow yea.heap.size 72 2 (.slice (some ⟨x0, 0, none⟩) s0.length s0.length) s0.length (s0.flatMap apC)), (w3.heap.size, w3.heap.size + 1, fun V : World => V.heap[w3.heap.size]? = some (Obj.cells #[.int .i64 ta_0, .string tr_0, .int .i64 ts_0, .int .i64 tu_0, .int .i64 tl_0, .bool tq_0, .slice (some ⟨x0, 0, none⟩) s0.length s0.length] 29))] (w3.alloc (Obj.cells #[.int .i64 ta_0, .string tr_0, .int .i64 ts_0, .int .i64 tu_0, .int .i64 tl_0, .bool tq_0, .slice (some ⟨x0, 0, none⟩) s0.length s0.length] 29))) := Z4.out.push (by (repeat' (first | (with_reducible exact Below.refl _ _) | (with_reducible assumption) | (with_reducible refine Below.setCell ?_ ?_ _) | (with_reducible refine Below.alloc ?_ ?_ _) | (with_reducible refine below_drewN ?_ _) | (with_reducible refine Below.drew ?_) | (with_reducible exact Nat.le_refl _) | omega | (simp; done) | (simp; omega)))) (Ow.block (heap_alloc_new _ _)) (Nat.le_refl _)
  clear Z4
  go_wp2_with (fail)
  obtain ⟨Vx0, hV⟩ : ∃ V, V = w3.alloc (Obj.cells #[.int .i64 ta_0, .string tr_0, .int .i64 ts_0, .int .i64 tu_0, .int .i64 tl_0, .bool tq_0, .slice (some ⟨x0, 0, none⟩) s0.length s0.length] 29) := ⟨_, rfl⟩
  rw [← hV] at Z5 ⊢
  obtain ⟨Kx0, hK⟩ : ∃ K, K = w3.heap.size := ⟨_, rfl⟩
  rw [← hK] at Z5  ⊢
  clear hV hK
  clear cp1_0 cp1_1 cp1_2 cp1_3 cp1_4 cp1_5 cp1_6 cp1_7 cp1_8 cp1_9 lp1
  refine (toToolLog_any lc_1 la_1 lr_1 ls_1 lu_1 ll_1 lq_1 HL1.out (HR1.out.below Z5.out.bl)).mono ?_
  rintro e w4 ⟨x1, rfl, ho, hb⟩
  have Z6 : Hid (LS w [(w.heap.size, w.heap.size + 1, fun V : World => V.heap[w.heap.size]? = some BX0), ((w.heap.size + 1), (w.heap.size + 1) + 1, fun V : World => V.heap[(w.heap.size + 1)]? = some BX1), (yea.heap.size, Kx0, fun V : World => V.ownsRow yea.heap.size 72 2 (.slice (some ⟨x0, 0, none⟩) s0.length s0.length) s0.length (s0.flatMap apC)), (Kx0, Kx0 + 1, fun V : World => V.heap[Kx0]? = some (Obj.cells #[.int .i64 ta_0, .string tr_0, .int .i64 ts_0, .int .i64 tu_0, .int .i64 tl_0, .bool tq_0, .slice (some ⟨x0, 0, none⟩) s0.length s0.length] 29)), (Vx0.heap.size, w4.heap.size, fun V : World => OwG V Vx0.heap.size (.slice (some ⟨x1.1, 0, none⟩) s1.length s1.length) (.slice (some ⟨x1.2.1, 0, none⟩) t1.length t1.length) (.slice (some ⟨x1.2.2, 0, none⟩) ru1.length ru1.length) s1 t1 ru1)] w4) := Z5.out.push hb (Ow.rowG ho hb) (Nat.le_refl _)
  clear Z5 hb ho
  have kvx0 := Z6.out.get 3 rfl
  have cvx0_0 : w4.cell? ⟨Kx0, 0, none⟩ = some (.int .i64 ta_0) := cellOf kvx0 0 rfl
  have cvx0_1 : w4.cell? ⟨Kx0, 1, none⟩ = some (.string tr_0) := cellOf kvx0 1 rfl
  have cvx0_2 : w4.cell? ⟨Kx0, 2, none⟩ = some (.int .i64 ts_0) := cellOf kvx0 2 rfl
  have cvx0_3 : w4.cell? ⟨Kx0, 3, none⟩ = some (.int .i64 tu_0) := cellOf kvx0 3 rfl
  have cvx0_4 : w4.cell? ⟨Kx0, 4, none⟩ = some (.int .i64 tl_0) := cellOf kvx0 4 rfl
  have cvx0_5 : w4.cell? ⟨Kx0, 5, none⟩ = some (.bool tq_0) := cellOf kvx0 5 rfl
  have cvx0_6 : w4.cell? ⟨Kx0, 6, none⟩ = some (.slice (some ⟨x0, 0, none⟩) s0.length s0.length) := cellOf kvx0 6 rfl
  have lvx0 : Kx0 < w4.heap.size := ltOf kvx0
  clear kvx0
  have Z7 : Hid (LS w [(w.heap.size, w.heap.size + 1, fun V : World => V.heap[w.heap.size]? = some BX0), ((w.heap.size + 1), (w.heap.size + 1) + 1, fun V : World => V.heap[(w.heap.size + 1)]? = some BX1), (yea.heap.size, Kx0, fun V : World => V.ownsRow yea.heap.size 72 2 (.slice (some ⟨x0, 0, none⟩) s0.length s0.length) s0.length (s0.flatMap apC)), (Kx0, Kx0 + 1, fun V : World => V.heap[Kx0]? = some (Obj.cells #[.int .i64 ta_0, .string tr_0, .int .i64 ts_0, .int .i64 tu_0, .int .i64 tl_0, .bool tq_0, .slice (some ⟨x0, 0, none⟩) s0.length s0.length] 29)), (Vx0.heap.size, w4.heap.size, fun V : World => OwG V Vx0.heap.size (.slice (some ⟨x1.1, 0, none⟩) s1.length s1.length) (.slice (some ⟨x1.2.1, 0, none⟩) t1.length t1.length) (.slice (some ⟨x1.2.2, 0, none⟩) ru1.length ru1.length) s1 t1 ru1), (w4.heap.size, w4.heap.size + 1, fun V : World => V.heap[w4.heap.size]? = some (Obj.cells #[.int .i64 lc_1, .int .i64 la_1, .string lr_1, .int .i64 ls_1, .int .i64 lu_1, .int .i64 ll_1, .bool lq_1, .slice (some ⟨x1.1, 0, none⟩) s1.length s1.length, .slice (some ⟨x1.2.1, 0, none⟩) t1.length t1.length, .slice (some ⟨x1.2.2, 0, none⟩) ru1.length ru1.length] 45))] (w4.alloc (Obj.cells #[.int .i64 lc_1, .int .i64 la_1, .string lr_1, .int .i64 ls_1, .int .i64 lu_1, .int .i64 ll_1, .bool lq_1, .slice (some ⟨x1.1, 0, none⟩) s1.length s1.length, .slice (some ⟨x1.2.1, 0, none⟩) t1.length t1.length, .slice (some ⟨x1.2.2, 0, none⟩) ru1.length ru1.length] 45))) := Z6.out.push (by (repeat' (first | (with_reducible exact Below.refl _ _) | (with_reducible assumption) | (with_reducible refine Below.setCell ?_ ?_ _) | (with_reducible refine Below.alloc ?_ ?_ _) | (with_reducible refine below_drewN ?_ _) | (with_reducible refine Below.drew ?_) | (with_reducible exact Nat.le_refl _) | omega | (simp; done) | (simp; omega)))) (Ow.block (heap_alloc_new _ _)) (Nat.le_refl _)
  clear Z6
  go_wp2_with (fail)
  obtain ⟨Vx1, hV⟩ : ∃ V, V = w4.alloc (Obj.cells #[.int .i64 lc_1, .int .i64 la_1, .string lr_1, .int .i64 ls_1, .int .i64 lu_1, .int .i64 ll_1, .bool lq_1, .slice (some ⟨x1.1, 0, none⟩) s1.length s1.length, .slice (some ⟨x1.2.1, 0, none⟩) t1.length t1.length, .slice (some ⟨x1.2.2, 0, none⟩) ru1.length ru1.length] 45) := ⟨_, rfl⟩
  rw [← hV] at Z7 ⊢
  obtain ⟨Kx1, hK⟩ : ∃ K, K = w4.heap.size := ⟨_, rfl⟩
  rw [← hK] at Z7  ⊢
  clear hV hK
  clear cvx0_0 cvx0_1 cvx0_2 cvx0_3 cvx0_4 cvx0_5 cvx0_6 lvx0
  refine (HIM.out Vx1 x0 x1 (OG.rg (T := 72) (B := yea.heap.size) apC_len (show Vx1.ownsRow yea.heap.size 72 2 (.slice (some ⟨x0, 0, none⟩) s0.length s0.length) s0.length (s0.flatMap apC) from Z7.out.get 2 rfl)) (OwG.rd (B := Vx0.heap.size) (show OwG Vx1 Vx0.heap.size (.slice (some ⟨x1.1, 0, none⟩) s1.length s1.length) (.slice (some ⟨x1.2.1, 0, none⟩) t1.length t1.length) (.slice (some ⟨x1.2.2, 0, none⟩) ru1.length ru1.length) s1 t1 ru1 from Z7.out.get 4 rfl))).mono ?_
  rintro e w5 ⟨rfl, hb⟩
  have Z8 : Hid (LS w [(w.heap.size, w.heap.size + 1, fun V : World => V.heap[w.heap.size]? = some BX0), ((w.heap.size + 1), (w.heap.size + 1) + 1, fun V : World => V.heap[(w.heap.size + 1)]? = some BX1), (yea.heap.size, Kx0, fun V : World => V.ownsRow yea.heap.size 72 2 (.slice (some ⟨x0, 0, none⟩) s0.length s0.length) s0.length (s0.flatMap apC)), (Kx0, Kx0 + 1, fun V : World => V.heap[Kx0]? = some (Obj.cells #[.int .i64 ta_0, .string tr_0, .int .i64 ts_0, .int .i64 tu_0, .int .i64 tl_0, .bool tq_0, .slice (some ⟨x0, 0, none⟩) s0.length s0.length] 29)), (Vx0.heap.size, Kx1, fun V : World => OwG V Vx0.heap.size (.slice (some ⟨x1.1, 0, none⟩) s1.length s1.length) (.slice (some ⟨x1.2.1, 0, none⟩) t1.length t1.length) (.slice (some ⟨x1.2.2, 0, none⟩) ru1.length ru1.length) s1 t1 ru1), (Kx1, Kx1 + 1, fun V : World => V.heap[Kx1]? = some (Obj.cells #[.int .i64 lc_1, .int .i64 la_1, .string lr_1, .int .i64 ls_1, .int .i64 lu_1, .int .i64 ll_1, .bool lq_1, .slice (some ⟨x1.1, 0, none⟩) s1.length s1.length, .slice (some ⟨x1.2.1, 0, none⟩) t1.length t1.length, .slice (some ⟨x1.2.2, 0, none⟩) ru1.length ru1.length] 45))] w5) := Z7.out.next hb
  clear Z7 hb
  have kvx0 := Z8.out.get 3 rfl
  have cvx0_0 : w5.cell? ⟨Kx0, 0, none⟩ = some (.int .i64 ta_0) := cellOf kvx0 0 rfl
  have cvx0_1 : w5.cell? ⟨Kx0, 1, none⟩ = some (.string tr_0) := cellOf kvx0 1 rfl
  have cvx0_2 : w5.cell? ⟨Kx0, 2, none⟩ = some (.int .i64 ts_0) := cellOf kvx0 2 rfl
  have cvx0_3 : w5.cell? ⟨Kx0, 3, none⟩ = some (.int .i64 tu_0) := cellOf kvx0 3 rfl
  have cvx0_4 : w5.cell? ⟨Kx0, 4, none⟩ = some (.int .i64 tl_0) := cellOf kvx0 4 rfl
  have cvx0_5 : w5.cell? ⟨Kx0, 5, none⟩ = some (.bool tq_0) := cellOf kvx0 5 rfl
  have cvx0_6 : w5.cell? ⟨Kx0, 6, none⟩ = some (.slice (some ⟨x0, 0, none⟩) s0.length s0.length) := cellOf kvx0 6 rfl
  have lvx0 : Kx0 < w5.heap.size := ltOf kvx0
  clear kvx0
  have kp0 := Z8.out.get 0 rfl
  rw [TB0.out] at kp0
  have cp0_0 : w5.cell? ⟨w.heap.size, 0, none⟩ = some (.int .i64 ta_0) := cellOf kp0 0 rfl
  have cp0_1 : w5.cell? ⟨w.heap.size, 1, none⟩ = some (.string tr_0) := cellOf kp0 1 rfl
  have cp0_2 : w5.cell? ⟨w.heap.size, 2, none⟩ = some (.int .i64 ts_0) := cellOf kp0 2 rfl
  have cp0_3 : w5.cell? ⟨w.heap.size, 3, none⟩ = some (.int .i64 tu_0) := cellOf kp0 3 rfl
  have cp0_4 : w5.cell? ⟨w.heap.size, 4, none⟩ = some (.int .i64 tl_0) := cellOf kp0 4 rfl
  have cp0_5 : w5.cell? ⟨w.heap.size, 5, none⟩ = some (.bool tq_0) := cellOf kp0 5 rfl
  have cp0_6 : w5.cell? ⟨w.heap.size, 6, none⟩ = some (.slice sa0 sn0 sc0) := cellOf kp0 6 rfl
  have lp0 : w.heap.size < w5.heap.size := ltOf kp0
  clear kp0
  go_wp2_with (fail)
  refine wp_region_float (by kernel_rfl) (fun hS => ?_)
  refine fl_take (i := 0) (d := 35) (v := .agg #[.int .i64 ta_0, .string tr_0, .int .i64 ts_0, .int .i64 tu_0, .int .i64 tl_0, .bool tq_0, .slice (some ⟨x0, 0, none⟩) s0.length s0.length]) rfl rfl rfl (by kernel_rfl) (by kernel_rfl) (by kernel_rfl) hS ?_ ?_
  · intro w' hk; go_simp
  simp only [Act.put, List.setIfInBounds_toArray, List.set_cons_zero, List.set_cons_succ]
  refine fl_take (i := 1) (d := 36) (v := .agg #[.int .i64 ta_0, .string tr_0, .int .i64 ts_0, .int .i64 tu_0, .int .i64 tl_0, .bool tq_0, .slice sa0 sn0 sc0]) rfl rfl rfl (by kernel_rfl) (by kernel_rfl) (by kernel_rfl) hS ?_ ?_
  · intro w' hk; go_simp
  simp only [Act.put, List.setIfInBounds_toArray, List.set_cons_zero, List.set_cons_succ]
  refine wpAnyH_all (rs := [2]) (by kernel_rfl) (by simp) ?_
  intro i hi
  obtain rfl : i = 2 := by simpa using hi
  refine op_call (d := 37) rfl rfl rfl (by go_simp) ((toTool_any ta_0 tr_0 ts_0 tu_0 tl_0 tq_0 (tl_len HL0.out) ((HR0.out.below Z8.out.bl).below (Below.refl _ _).drew)).mono ?_)
  rintro e ya0 ⟨gy0, rfl, hk5, hb5⟩
  have hK5 : KS w5 ya0 := hS.call hb5
  refine ⟨_, rfl, hK5, ?_⟩
  simp only [Act.put, List.setIfInBounds_toArray, List.set_cons_zero, List.set_cons_succ]
  refine wpAnyH_all (rs := [3]) (by kernel_rfl) (by simp) ?_
  intro i hi
  obtain rfl : i = 3 := by simpa using hi
  refine op_call (d := 38) rfl rfl rfl (by go_simp) ((eqTool_same ta_0 tr_0 ts_0 tu_0 tl_0 tq_0 (by have := tl_len HL0.out; omega) (RG.below (OG.rg (T := 72) (B := yea.heap.size) apC_len (show w5.ownsRow yea.heap.size 72 2 (.slice (some ⟨x0, 0, none⟩) s0.length s0.length) s0.length (s0.flatMap apC) from Z8.out.get 2 rfl)) hK5.2) ((OG.rg apC_len hk5))).mono ?_)
  rintro e yb0 ⟨rfl, hb6⟩
  have hK6 : KS w5 yb0 := hK5.call hb6
  refine ⟨_, rfl, hK6, ?_⟩
  simp only [Act.put, List.setIfInBounds_toArray, List.set_cons_zero, List.set_cons_succ]
  refine wpAnyH_all (rs := [4]) (by kernel_rfl) (by simp) ?_
  intro i hi
  obtain rfl : i = 4 := by simpa using hi
  refine op_val (d := 39) (v := .bool false) (w' := yb0) rfl rfl rfl (by go_simp; try rfl) ?_
  simp only [Act.put, List.setIfInBounds_toArray, List.set_cons_zero, List.set_cons_succ]
  refine ⟨hK6, wpAnyH_done (by kernel_rfl) (NoPanic.normal ?_) _⟩
  have Z9 : Hid (LS w [(w.heap.size, w.heap.size + 1, fun V : World => V.heap[w.heap.size]? = some BX0), ((w.heap.size + 1), (w.heap.size + 1) + 1, fun V : World => V.heap[(w.heap.size + 1)]? = some BX1), (yea.heap.size, Kx0, fun V : World => V.ownsRow yea.heap.size 72 2 (.slice (some ⟨x0, 0, none⟩) s0.length s0.length) s0.length (s0.flatMap apC)), (Kx0, Kx0 + 1, fun V : World => V.heap[Kx0]? = some (Obj.cells #[.int .i64 ta_0, .string tr_0, .int .i64 ts_0, .int .i64 tu_0, .int .i64 tl_0, .bool tq_0, .slice (some ⟨x0, 0, none⟩) s0.length s0.length] 29)), (Vx0.heap.size, Kx1, fun V : World => OwG V Vx0.heap.size (.slice (some ⟨x1.1, 0, none⟩) s1.length s1.length) (.slice (some ⟨x1.2.1, 0, none⟩) t1.length t1.length) (.slice (some ⟨x1.2.2, 0, none⟩) ru1.length ru1.length) s1 t1 ru1), (Kx1, Kx1 + 1, fun V : World => V.heap[Kx1]? = some (Obj.cells #[.int .i64 lc_1, .int .i64 la_1, .string lr_1, .int .i64 ls_1, .int .i64 lu_1, .int .i64 ll_1, .bool lq_1, .slice (some ⟨x1.1, 0, none⟩) s1.length s1.length, .slice (some ⟨x1.2.1, 0, none⟩) t1.length t1.length, .slice (some ⟨x1.2.2, 0, none⟩) ru1.length ru1.length] 45))] yb0) := Z8.out.next hK6.2
  clear Z8 hK6 hK5 hb6 hb5 hk5 hS cvx0_0 cvx0_1 cvx0_2 cvx0_3 cvx0_4 cvx0_5 cvx0_6 lvx0 cp0_0 cp0_1 cp0_2 cp0_3 cp0_4 cp0_5 cp0_6 lp0
  have kvx1 := Z9.out.get 5 rfl
  have cvx1_0 : yb0.cell? ⟨Kx1, 0, none⟩ = some (.int .i64 lc_1) := cellOf kvx1 0 rfl
  have cvx1_1 : yb0.cell? ⟨Kx1, 1, none⟩ = some (.int .i64 la_1) := cellOf kvx1 1 rfl
  have cvx1_2 : yb0.cell? ⟨Kx1, 2, none⟩ = some (.string lr_1) := cellOf kvx1 2 rfl
  have cvx1_3 : yb0.cell? ⟨Kx1, 3, none⟩ = some (.int .i64 ls_1) := cellOf kvx1 3 rfl
  have cvx1_4 : yb0.cell? ⟨Kx1, 4, none⟩ = some (.int .i64 lu_1) := cellOf kvx1 4 rfl
  have cvx1_5 : yb0.cell? ⟨Kx1, 5, none⟩ = some (.int .i64 ll_1) := cellOf kvx1 5 rfl
  have cvx1_6 : yb0.cell? ⟨Kx1, 6, none⟩ = some (.bool lq_1) := cellOf kvx1 6 rfl
  have cvx1_7 : yb0.cell? ⟨Kx1, 7, none⟩ = some (.slice (some ⟨x1.1, 0, none⟩) s1.length s1.length) := cellOf kvx1 7 rfl
  have cvx1_8 : yb0.cell? ⟨Kx1, 8, none⟩ = some (.slice (some ⟨x1.2.1, 0, none⟩) t1.length t1.length) := cellOf kvx1 8 rfl
  have cvx1_9 : yb0.cell? ⟨Kx1, 9, none⟩ = some (.slice (some ⟨x1.2.2, 0, none⟩) ru1.length ru1.length) := cellOf kvx1 9 rfl
  have lvx1 : Kx1 < yb0.heap.size := ltOf kvx1
  clear kvx1
  have kp1 := Z9.out.get 1 rfl
  rw [TB1.out] at kp1
  have cp1_0 : yb0.cell? ⟨(w.heap.size + 1), 0, none⟩ = some (.int .i64 lc_1) := cellOf kp1 0 rfl
  have cp1_1 : yb0.cell? ⟨(w.heap.size + 1), 1, none⟩ = some (.int .i64 la_1) := cellOf kp1 1 rfl
  have cp1_2 : yb0.cell? ⟨(w.heap.size + 1), 2, none⟩ = some (.string lr_1) := cellOf kp1 2 rfl
  have cp1_3 : yb0.cell? ⟨(w.heap.size + 1), 3, none⟩ = some (.int .i64 ls_1) := cellOf kp1 3 rfl
  have cp1_4 : yb0.cell? ⟨(w.heap.size + 1), 4, none⟩ = some (.int .i64 lu_1) := cellOf kp1 4 rfl
  have cp1_5 : yb0.cell? ⟨(w.heap.size + 1), 5, none⟩ = some (.int .i64 ll_1) := cellOf kp1 5 rfl
  have cp1_6 : yb0.cell? ⟨(w.heap.size + 1), 6, none⟩ = some (.bool lq_1) := cellOf kp1 6 rfl
  have cp1_7 : yb0.cell? ⟨(w.heap.size + 1), 7, none⟩ = some (.slice sa1 sn1 sc1) := cellOf kp1 7 rfl
  have cp1_8 : yb0.cell? ⟨(w.heap.size + 1), 8, none⟩ = some (.slice ta1 tn1 tc1) := cellOf kp1 8 rfl
  have cp1_9 : yb0.cell? ⟨(w.heap.size + 1), 9, none⟩ = some (.slice xa1 xn1 xc1) := cellOf kp1 9 rfl
  have lp1 : (w.heap.size + 1) < yb0.heap.size := ltOf kp1
  clear kp1
  go_wp2_with (fail)
  refine wp_region_float (by kernel_rfl) (fun hS => ?_)
  refine fl_take (i := 0) (d := 40) (v := .agg #[.int .i64 lc_1, .int .i64 la_1, .string lr_1, .int .i64 ls_1, .int .i64 lu_1, .int .i64 ll_1, .bool lq_1, .slice (some ⟨x1.1, 0, none⟩) s1.length s1.length, .slice (some ⟨x1.2.1, 0, none⟩) t1.length t1.length, .slice (some ⟨x1.2.2, 0, none⟩) ru1.length ru1.length]) rfl rfl rfl (by kernel_rfl) (by kernel_rfl) (by kernel_rfl) hS ?_ ?_
  · intro w' hk; go_simp
  simp only [Act.put, List.setIfInBounds_toArray, List.set_cons_zero, List.set_cons_succ]
  refine fl_take (i := 1) (d := 41) (v := .agg #[.int .i64 lc_1, .int .i64 la_1, .string lr_1, .int .i64 ls_1, .int .i64 lu_1, .int .i64 ll_1, .bool lq_1, .slice sa1 sn1 sc1, .slice ta1 tn1 tc1, .slice xa1 xn1 xc1]) rfl rfl rfl (by kernel_rfl) (by kernel_rfl) (by kernel_rfl) hS ?_ ?_
  · intro w' hk; go_simp
  simp only [Act.put, List.setIfInBounds_toArray, List.set_cons_zero, List.set_cons_succ]
  refine wpAnyH_all (rs := [2]) (by kernel_rfl) (by simp) ?_
  intro i hi
  obtain rfl : i = 2 := by simpa using hi
  refine op_call (d := 42) rfl rfl rfl (by go_simp) ((toToolLog_any lc_1 la_1 lr_1 ls_1 lu_1 ll_1 lq_1 HL1.out ((HR1.out.below Z9.out.bl).below (Below.refl _ _).drew)).mono ?_)
  rintro e ya1 ⟨gy1, rfl, hk5, hb5⟩
  have hK5 : KS yb0 ya1 := hS.call hb5
  refine ⟨_, rfl, hK5, ?_⟩
  simp only [Act.put, List.setIfInBounds_toArray, List.set_cons_zero, List.set_cons_succ]
  refine wpAnyH_all (rs := [3]) (by kernel_rfl) (by simp) ?_
  intro i hi
  obtain rfl : i = 3 := by simpa using hi
  refine op_call (d := 43) rfl rfl rfl (by go_simp) ((eqToolLog_same lc_1 la_1 lr_1 ls_1 lu_1 ll_1 lq_1 HL1.out (RdG.below (OwG.rd (B := Vx0.heap.size) (show OwG yb0 Vx0.heap.size (.slice (some ⟨x1.1, 0, none⟩) s1.length s1.length) (.slice (some ⟨x1.2.1, 0, none⟩) t1.length t1.length) (.slice (some ⟨x1.2.2, 0, none⟩) ru1.length ru1.length) s1 t1 ru1 from Z9.out.get 4 rfl)) hK5.2) ((OwG.rd hk5))).mono ?_)
  rintro e yb1 ⟨rfl, hb6⟩
  have hK6 : KS yb0 yb1 := hK5.call hb6
  refine ⟨_, rfl, hK6, ?_⟩
  simp only [Act.put, List.setIfInBounds_toArray, List.set_cons_zero, List.set_cons_succ]
  refine wpAnyH_all (rs := [4]) (by kernel_rfl) (by simp) ?_
  intro i hi
  obtain rfl : i = 4 := by simpa using hi
  refine op_val (d := 44) (v := .bool false) (w' := yb1) rfl rfl rfl (by go_simp; try rfl) ?_
  simp only [Act.put, List.setIfInBounds_toArray, List.set_cons_zero, List.set_cons_succ]
  refine ⟨hK6, wpAnyH_done (by kernel_rfl) (NoPanic.normal ?_) _⟩
  have Z10 : Hid (LS w [(w.heap.size, w.heap.size + 1, fun V : World => V.heap[w.heap.size]? = some BX0), ((w.heap.size + 1), (w.heap.size + 1) + 1, fun V : World => V.heap[(w.heap.size + 1)]? = some BX1), (yea.heap.size, Kx0, fun V : World => V.ownsRow yea.heap.size 72 2 (.slice (some ⟨x0, 0, none⟩) s0.length s0.length) s0.length (s0.flatMap apC)), (Kx0, Kx0 + 1, fun V : World => V.heap[Kx0]? = some (Obj.cells #[.int .i64 ta_0, .string tr_0, .int .i64 ts_0, .int .i64 tu_0, .int .i64 tl_0, .bool tq_0, .slice (some ⟨x0, 0, none⟩) s0.length s0.length] 29)), (Vx0.heap.size, Kx1, fun V : World => OwG V Vx0.heap.size (.slice (some ⟨x1.1, 0, none⟩) s1.length s1.length) (.slice (some ⟨x1.2.1, 0, none⟩) t1.length t1.length) (.slice (some ⟨x1.2.2, 0, none⟩) ru1.length ru1.length) s1 t1 ru1), (Kx1, Kx1 + 1, fun V : World => V.heap[Kx1]? = some (Obj.cells #[.int .i64 lc_1, .int .i64 la_1, .string lr_1, .int .i64 ls_1, .int .i64 lu_1, .int .i64 ll_1, .bool lq_1, .slice (some ⟨x1.1, 0, none⟩) s1.length s1.length, .slice (some ⟨x1.2.1, 0, none⟩) t1.length t1.length, .slice (some ⟨x1.2.2, 0, none⟩) ru1.length ru1.length] 45))] yb1) := Z9.out.next hK6.2
  clear Z9 hK6 hK5 hb6 hb5 hk5 hS cvx1_0 cvx1_1 cvx1_2 cvx1_3 cvx1_4 cvx1_5 cvx1_6 cvx1_7 cvx1_8 cvx1_9 lvx1 cp1_0 cp1_1 cp1_2 cp1_3 cp1_4 cp1_5 cp1_6 cp1_7 cp1_8 cp1_9 lp1
  go_wp2
  go_returns
  exact ⟨rfl, Z10.out.bl⟩

set_option maxRecDepth 100000 in
theorem kr19_lifted (os : Os) (started : os.Started) (H : Type) (enc : TypeId × Value → H) :
    ReturnsInHanded {} Try.checked os 5 .any (Rows.fnExactCheckRunsSpec.pre6 enc Try.prog Try.f5 Rows.fnExactCheckRunsRow.domain false) (Rows.fnExactCheckRunsSpec.post enc Try.prog Try.f5 false true false false) := by
  refine returnsInHanded_of_change (C := Try.checked) own started (by kernel_rfl) Try.func5
    (ChangeSpec.witness6 (enc := enc) (C := Try.checked) false ⟨#[], #[.agg #[.int .i64 0, .string ByteArray.empty, .int .i64 0, .int .i64 0, .int .i64 0, .bool false, .slice none 0 0], .agg #[.int .i64 0, .int .i64 0, .string ByteArray.empty, .int .i64 0, .int .i64 0, .int .i64 0, .bool false, .slice none 0 0, .slice none 0 0, .slice none 0 0]], []⟩ 8 (by kernel_rfl) (by kernel_rfl) (by kernel_rfl) (by kernel_rfl)) ?_
  intro W base args ds gs before hval0 hW hcnd _
  have hval : ∀ (j : Nat) t v, Try.f5.params[j]? = some t → args[j]? = some v → Value.okWide Try.prog W .any base t v := hval0
  have hW' := hW
  obtain ⟨p, q, hA0, hV, rfl, hfz, hnd⟩ := hW
  have hA : DataW.TrodAll enc Try.prog W 0 (fun _ => true) true Try.f5.params.toList args.toList ds p := hA0
  rw [Try.params5] at hA hval
  obtain ⟨v0, vs0, d0, ds0, p0, q0, hargs, rfl, rfl, h0, r0⟩ := trodAll_cons hA
  obtain ⟨v1, vs1, d1, ds1, p1, q1, rfl, rfl, rfl, h1, r1⟩ := trodAll_cons r0
  obtain ⟨rfl, rfl, rfl⟩ := trodAll_nil r1
  obtain rfl : args = #[v0, v1] := by cases args; simp_all
  obtain ⟨rfl, rfl⟩ := trodVars_none hV
  have k0 := h0
  have lt0 : ∀ x ∈ p0, x.block < W.heap.size := by obtain ⟨m, hm⟩ := k0; exact DataW.trod_lt m _ _ _ hm
  obtain ⟨ta0, tr0, ts0, tu0, tl0, tq0, sa0, sn0, sc0, s0, rfl, ri0, sl0⟩ := tool_open (hval 0 24 v0 rfl rfl) h0
  have k1 := h1
  have lt1 : ∀ x ∈ p1, x.block < W.heap.size := by obtain ⟨m, hm⟩ := k1; exact DataW.trod_lt m _ _ _ hm
  obtain ⟨lc1, la1, lr1, ls1, lu1, ll1, lq1, sa1, sn1, sc1, s1, ta1, tn1, tc1, t1, xa1, xn1, xc1, ru1, rfl, ri1, sl1⟩ := log_open (hval 1 41 v1 rfl rfl) h1
  clear hA0 hval0
  refine (law_kr19 ta0 tr0 ts0 tu0 tl0 tq0 s0 sl0 ri0 lc1 la1 lr1 ls1 lu1 ll1 lq1 s1 t1 ru1 sl1 ri1).mono fun e W' ⟨he, hg⟩ => ?_
  subst he
  exact ⟨_, rfl, _, _, _, [], _, [], hW', trodAll_mk1 (shut_bool Try.underlying4 _), (trodAll_cons_mk (Below.trod laidOut (by kernel_rfl) (of_decide_eq_true (by kernel_rfl)) k0 hg lt0) (trodAll_cons_mk (Below.trod laidOut (by kernel_rfl) (of_decide_eq_true (by kernel_rfl)) k1 hg lt1) trodAll_mk0)), rfl, hg.frame _, fun h => by cases h⟩

theorem kr19_over : Rows.fnExactCheckRunsRow.holds Try.pinned (OpenSpec.ofChange Rows.fnExactCheckRunsSpec) :=
  OpenClaim.holds_of_wide 5 Try.f5 rfl rfl rfl rfl rfl rfl rfl ⟨rfl, rfl, rfl, rfl, rfl⟩ rfl rfl rfl rfl rfl (by kernel_rfl) Try.func5 (by kernel_rfl)
    (of_decide_eq_true (by kernel_rfl)) (by unfold Func.isWrapper; first | (rw [if_pos (by decide +kernel)]; kernel_rfl) | (rw [if_neg (by decide +kernel)]; exact ⟨rfl, rfl⟩))
    (fun os started H enc _ => kr19_lifted os started H enc)

theorem kr19_proved : Rows.FnExactCheckRunsSaid :=
  kr19_over
#print axioms kr19_proved

end Go.Proofs.Ytcfcknfaeliodaa
