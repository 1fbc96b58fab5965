/- Proved here: 'the program's HoldLot answers as the model's; it writes into no argument and keeps nothing of one; its answer owns its memory, behind another call too', without a condition. -/
import Derived.Test.YtcfjanignfbidaaMkI
import Derived.Test.YtcfjanignfbidaaQmZ
import Derived.Test.YtcfjanignfbidaaQoP
import Derived.Test.YtcfjanignfbidaaOgS
import Derived.Test.YtcfjanignfbidaaLwS
import Derived.Test.YtcfjanignfbidaaRows
namespace Go.Proofs.Ytcfjanignfbidaa
open Go.ChangeShapes Go.WideShapes Go.ChangeAt Go.RowKit Go.Joins
set_option linter.unusedVariables false
set_option linter.unusedSimpArgs false

theorem own : ownKnob Try.prog.godebug = none := by kernel_rfl
theorem laidOut : laidOutB Try.prog = true := by kernel_rfl

set_option maxRecDepth 10000 in
set_option maxHeartbeats 25600000 in
theorem law_hl21 {w : World}  (bk0 : Bk) {sa0 : Option Addr} {sn0 sc0 : Nat} {ta0 : Option Addr} {tn0 tc0 : Nat} {xa0 : Option Addr} {xn0 xc0 : Nat} (hm0 : okBk bk0) (hr0 : RdBk w (.slice sa0 sn0 sc0) (.slice ta0 tn0 tc0) (.slice xa0 xn0 xc0) bk0) (n1 : Int) (wn1 : (Lit.int .i64 n1).wf = true) (n2 : Bool) :
    Calls Try.prog 6 #[.agg #[.int .i64 bk0.st, .slice sa0 sn0 sc0, .slice ta0 tn0 tc0, .slice xa0 xn0 xc0], .int .i64 n1, .bool n2] w fun e w' => e = .returned (.bool true) ∧ Below w.heap.size w w' := by
  have HM0 : Hid (okBk bk0) := hm0
  have HR0 : Hid (RdBk w (.slice sa0 sn0 sc0) (.slice ta0 tn0 tc0) (.slice xa0 xn0 xc0) bk0) := hr0
  clear hm0 hr0
  obtain ⟨BX0, hBX0⟩ : ∃ BX, BX = Obj.cells #[.int .i64 bk0.st, .slice sa0 sn0 sc0, .slice ta0 tn0 tc0, .slice xa0 xn0 xc0] 26 := ⟨_, rfl⟩
  have Z0 : Hid (LS w [(w.heap.size, w.heap.size + 1, fun V : World => V.heap[w.heap.size]? = some BX0)] (w.alloc (Obj.cells #[.int .i64 bk0.st, .slice sa0 sn0 sc0, .slice ta0 tn0 tc0, .slice xa0 xn0 xc0] 26))) := by
    have p0 := LS.start w
    have p1 := LS.push (V' := (w.alloc (Obj.cells #[.int .i64 bk0.st, .slice sa0 sn0 sc0, .slice ta0 tn0 tc0, .slice xa0 xn0 xc0] 26))) p0 (by (repeat' (first | (with_reducible exact Below.refl _ _) | (with_reducible assumption) | (with_reducible refine Below.setCell ?_ ?_ _) | (with_reducible refine Below.alloc ?_ ?_ _) | (with_reducible refine below_drewN ?_ _) | (with_reducible refine Below.drew ?_) | (with_reducible exact Nat.le_refl _) | omega | (simp; done) | (simp; omega)))) (Ow.block (k := w.heap.size) (o := BX0) (by rw [hBX0]; have := heap_alloc_new w (Obj.cells #[.int .i64 bk0.st, .slice sa0 sn0 sc0, .slice ta0 tn0 tc0, .slice xa0 xn0 xc0] 26); simpa using this)) (by simp)
    exact p1
  have TB0 : Hid (BX0 = Obj.cells #[.int .i64 bk0.st, .slice sa0 sn0 sc0, .slice ta0 tn0 tc0, .slice xa0 xn0 xc0] 26) := hBX0
  clear hBX0
  go_enter Try.func6, Try.ntmps6
  go_wp2_with (fail)
  obtain ⟨W0, hW0⟩ : ∃ V, V = (w.alloc (Obj.cells #[.int .i64 bk0.st, .slice sa0 sn0 sc0, .slice ta0 tn0 tc0, .slice xa0 xn0 xc0] 26)) := ⟨_, rfl⟩
  rw [← hW0] at Z0 ⊢
  clear hW0
  refine (szLotBook_gen bk0.st sa0 sn0 sc0 ta0 tn0 tc0 xa0 xn0 xc0 1048576 bk0 _ (by omega) (by omega) HM0.out (HR0.out.below Z0.out.bl)).mono ?_
  rintro e w1 ⟨r0, rfl, hq0, hb⟩
  have Z1 : Hid (LS w [(w.heap.size, w.heap.size + 1, fun V : World => V.heap[w.heap.size]? = some BX0)] w1) := Z0.out.next hb
  clear Z0 hb
  rcases hq0 with hneg | ⟨u0, v0, tt0⟩
  · go_wp2
    go_returns
    exact ⟨rfl, Z1.out.bl⟩
  have hl0 : ¬ r0 < 0 := by omega
  have HL0 : Hid (smBk 1048576 bk0) := smBk.mono tt0 (by omega)
  obtain ⟨C, hC⟩ : ∃ X, X = bgC bk0 n1 := ⟨_, rfl⟩
  obtain ⟨AT, hAT⟩ : ∃ X, X = (0 : Int) := ⟨_, rfl⟩
  obtain ⟨BK, hBK⟩ : ∃ X, X = hdB bk0 n1 n2 := ⟨_, rfl⟩
  have HLN : Hid (smBk 1048576 BK) := by unfold Hid; rw [hBK]; exact hdB_sm HL0.out
  have hzb9 : 0 ≤ zB BK := (zB_bd HLN.out).1
  have HSP : Hid (∀ (W : World) (g0 : Nat × Nat × Nat), (RdX W (.slice (some ⟨g0.1, 0, none⟩) bk0.wn.length bk0.wn.length) (.slice (some ⟨g0.2.1, 0, none⟩) bk0.ls.length bk0.ls.length) (.slice (some ⟨g0.2.2, 0, none⟩) bk0.sc.length bk0.sc.length) bk0) → Calls Try.prog 25 #[.agg #[.int .i64 bk0.st, .slice (some ⟨g0.1, 0, none⟩) bk0.wn.length bk0.wn.length, .slice (some ⟨g0.2.1, 0, none⟩) bk0.ls.length bk0.ls.length, .slice (some ⟨g0.2.2, 0, none⟩) bk0.sc.length bk0.sc.length], .int .i64 n1, .bool n2] W fun e w' => ∃ (vq : Value × Value × Value) (vr : List Lr), e = .returned (.agg #[.int .i64 C, .int .i64 AT, .int .i64 BK.st, vq.1, vq.2.1, vq.2.2]) ∧ PB w' W.heap.size vq.1 vq.2.1 vq.2.2 (wvO vr) BK vr ∧ Below W.heap.size W w') := fun W g0 h0 => by
    rw [hBK, hAT, hC]
    exact spec_hl n1 n2 rfl HL0.out h0
  have HIM : Hid (∀ (W : World) (g0 : Nat × Nat × Nat), (RdX W (.slice (some ⟨g0.1, 0, none⟩) bk0.wn.length bk0.wn.length) (.slice (some ⟨g0.2.1, 0, none⟩) bk0.ls.length bk0.ls.length) (.slice (some ⟨g0.2.2, 0, none⟩) bk0.sc.length bk0.sc.length) bk0) → Calls Try.prog 26 #[.agg #[.int .i64 bk0.st, .slice (some ⟨g0.1, 0, none⟩) bk0.wn.length bk0.wn.length, .slice (some ⟨g0.2.1, 0, none⟩) bk0.ls.length bk0.ls.length, .slice (some ⟨g0.2.2, 0, none⟩) bk0.sc.length bk0.sc.length], .int .i64 n1, .bool n2] W fun e w' => ∃ (vq : Value × Value × Value) (vr : List Lr), e = .returned (.agg #[.int .i64 C, .int .i64 AT, .int .i64 BK.st, vq.1, vq.2.1, vq.2.2]) ∧ PB w' W.heap.size vq.1 vq.2.1 vq.2.2 (wvO vr) BK vr ∧ Below W.heap.size W w') := fun W g0 h0 => by
    rw [hBK, hAT, hC]
    exact impl_hl n1 n2 rfl wn1 HL0.out h0
  clear hC hAT hBK u0 v0 tt0
  have kp0 := Z1.out.get 0 rfl
  rw [TB0.out] at kp0
  have cp0_0 : w1.cell? ⟨w.heap.size, 0, none⟩ = some (.int .i64 bk0.st) := cellOf kp0 0 rfl
  have cp0_1 : w1.cell? ⟨w.heap.size, 1, none⟩ = some (.slice sa0 sn0 sc0) := cellOf kp0 1 rfl
  have cp0_2 : w1.cell? ⟨w.heap.size, 2, none⟩ = some (.slice ta0 tn0 tc0) := cellOf kp0 2 rfl
  have cp0_3 : w1.cell? ⟨w.heap.size, 3, none⟩ = some (.slice xa0 xn0 xc0) := cellOf kp0 3 rfl
  have lp0 : w.heap.size < w1.heap.size := ltOf kp0
  clear kp0
  go_wp2_with (fail)
  clear cp0_0 cp0_1 cp0_2 cp0_3 lp0
  refine (toLotBook_any bk0.st HL0.out (HR0.out.below Z1.out.bl)).mono ?_
  rintro e w2 ⟨ga0, rfl, ho, hb⟩
  have Z2 : Hid (LS w [(w.heap.size, w.heap.size + 1, fun V : World => V.heap[w.heap.size]? = some BX0), (w1.heap.size, w2.heap.size, fun V : World => OBkZ V w1.heap.size w2.heap.size (.slice (some ⟨ga0.1, 0, none⟩) bk0.wn.length bk0.wn.length) (.slice (some ⟨ga0.2.1, 0, none⟩) bk0.ls.length bk0.ls.length) (.slice (some ⟨ga0.2.2, 0, none⟩) bk0.sc.length bk0.sc.length) bk0)] w2) := Z1.out.push hb (Ow.bkZ ho hb) (Nat.le_refl _)
  clear Z1 hb ho
  go_wp2_with (fail)
  refine (HSP.out w2 ga0 (OBkZ.rx (B := w1.heap.size) (show OBkZ w2 w1.heap.size w2.heap.size (.slice (some ⟨ga0.1, 0, none⟩) bk0.wn.length bk0.wn.length) (.slice (some ⟨ga0.2.1, 0, none⟩) bk0.ls.length bk0.ls.length) (.slice (some ⟨ga0.2.2, 0, none⟩) bk0.sc.length bk0.sc.length) bk0 from Z2.out.get 1 rfl))).mono ?_
  rintro e w3 ⟨vq, vr, rfl, hrq, hb⟩
  obtain ⟨vq1, vq2, vq3⟩ := vq
  obtain ⟨vaa, vca, he1⟩ := OG.fm hrq.wn
  obtain ⟨uaa, uca, he2⟩ := OG.fm hrq.row
  obtain ⟨waa, wca, he3⟩ := hrq.sc.form
  rw [hrq.len] at he2
  simp only at he1 he2 he3 hrq
  subst he1 he2 he3
  obtain ⟨rsa, rfl⟩ : ∃ x, x = vr := ⟨_, rfl⟩
  have Z3 : Hid (LS w [(w.heap.size, w.heap.size + 1, fun V : World => V.heap[w.heap.size]? = some BX0), (w1.heap.size, w2.heap.size, fun V : World => OBkZ V w1.heap.size w2.heap.size (.slice (some ⟨ga0.1, 0, none⟩) bk0.wn.length bk0.wn.length) (.slice (some ⟨ga0.2.1, 0, none⟩) bk0.ls.length bk0.ls.length) (.slice (some ⟨ga0.2.2, 0, none⟩) bk0.sc.length bk0.sc.length) bk0), (w2.heap.size, w3.heap.size, fun V : World => PB V w2.heap.size (.slice vaa BK.wn.length vca) (.slice uaa BK.ls.length uca) (.slice waa BK.sc.length wca) (wvO rsa) BK rsa)] w3) := Z2.out.push hb (Ow.pbAll hrq hb) (Nat.le_refl _)
  clear Z2 hb hrq
  have kp0 := Z3.out.get 0 rfl
  rw [TB0.out] at kp0
  have cp0_0 : w3.cell? ⟨w.heap.size, 0, none⟩ = some (.int .i64 bk0.st) := cellOf kp0 0 rfl
  have cp0_1 : w3.cell? ⟨w.heap.size, 1, none⟩ = some (.slice sa0 sn0 sc0) := cellOf kp0 1 rfl
  have cp0_2 : w3.cell? ⟨w.heap.size, 2, none⟩ = some (.slice ta0 tn0 tc0) := cellOf kp0 2 rfl
  have cp0_3 : w3.cell? ⟨w.heap.size, 3, none⟩ = some (.slice xa0 xn0 xc0) := cellOf kp0 3 rfl
  have lp0 : w.heap.size < w3.heap.size := ltOf kp0
  clear kp0
  have Z4 : Hid (LS w [(w.heap.size, w.heap.size + 1, fun V : World => V.heap[w.heap.size]? = some BX0), (w1.heap.size, w2.heap.size, fun V : World => OBkZ V w1.heap.size w2.heap.size (.slice (some ⟨ga0.1, 0, none⟩) bk0.wn.length bk0.wn.length) (.slice (some ⟨ga0.2.1, 0, none⟩) bk0.ls.length bk0.ls.length) (.slice (some ⟨ga0.2.2, 0, none⟩) bk0.sc.length bk0.sc.length) bk0), (w2.heap.size, w3.heap.size, fun V : World => PB V w2.heap.size (.slice vaa BK.wn.length vca) (.slice uaa BK.ls.length uca) (.slice waa BK.sc.length wca) (wvO rsa) BK rsa), (w3.heap.size, w3.heap.size + 1, fun V : World => V.heap[w3.heap.size]? = some (Obj.cells #[.int .i64 C, .int .i64 AT, .int .i64 BK.st, .slice vaa BK.wn.length vca, .slice uaa BK.ls.length uca, .slice waa BK.sc.length wca] 33))] (w3.alloc (Obj.cells #[.int .i64 C, .int .i64 AT, .int .i64 BK.st, .slice vaa BK.wn.length vca, .slice uaa BK.ls.length uca, .slice waa BK.sc.length wca] 33))) := Z3.out.push (by (repeat' (first | (with_reducible exact Below.refl _ _) | (with_reducible assumption) | (with_reducible refine Below.setCell ?_ ?_ _) | (with_reducible refine Below.alloc ?_ ?_ _) | (with_reducible refine below_drewN ?_ _) | (with_reducible refine Below.drew ?_) | (with_reducible exact Nat.le_refl _) | omega | (simp; done) | (simp; omega)))) (Ow.block (heap_alloc_new _ _)) (Nat.le_refl _)
  clear Z3
  go_wp2_with (fail)
  obtain ⟨Va, hV⟩ : ∃ V, V = w3.alloc (Obj.cells #[.int .i64 C, .int .i64 AT, .int .i64 BK.st, .slice vaa BK.wn.length vca, .slice uaa BK.ls.length uca, .slice waa BK.sc.length wca] 33) := ⟨_, rfl⟩
  rw [← hV] at Z4 ⊢
  obtain ⟨Ka, hK⟩ : ∃ K, K = w3.heap.size := ⟨_, rfl⟩
  rw [← hK] at Z4  ⊢
  clear hV hK
  clear cp0_0 cp0_1 cp0_2 cp0_3 lp0
  refine (toLotBook_any bk0.st HL0.out (HR0.out.below Z4.out.bl)).mono ?_
  rintro e w4 ⟨x0, rfl, ho, hb⟩
  have HX0 : Hid (0 ≤ w4.heap.size) := Nat.zero_le _
  have Z5 : Hid (LS w [(w.heap.size, w.heap.size + 1, fun V : World => V.heap[w.heap.size]? = some BX0), (w1.heap.size, w2.heap.size, fun V : World => OBkZ V w1.heap.size w2.heap.size (.slice (some ⟨ga0.1, 0, none⟩) bk0.wn.length bk0.wn.length) (.slice (some ⟨ga0.2.1, 0, none⟩) bk0.ls.length bk0.ls.length) (.slice (some ⟨ga0.2.2, 0, none⟩) bk0.sc.length bk0.sc.length) bk0), (w2.heap.size, Ka, fun V : World => PB V w2.heap.size (.slice vaa BK.wn.length vca) (.slice uaa BK.ls.length uca) (.slice waa BK.sc.length wca) (wvO rsa) BK rsa), (Ka, Ka + 1, fun V : World => V.heap[Ka]? = some (Obj.cells #[.int .i64 C, .int .i64 AT, .int .i64 BK.st, .slice vaa BK.wn.length vca, .slice uaa BK.ls.length uca, .slice waa BK.sc.length wca] 33)), (Va.heap.size, w4.heap.size, fun V : World => OBkZ V Va.heap.size w4.heap.size (.slice (some ⟨x0.1, 0, none⟩) bk0.wn.length bk0.wn.length) (.slice (some ⟨x0.2.1, 0, none⟩) bk0.ls.length bk0.ls.length) (.slice (some ⟨x0.2.2, 0, none⟩) bk0.sc.length bk0.sc.length) bk0)] w4) := Z4.out.push hb (Ow.bkZ ho hb) (Nat.le_refl _)
  clear Z4 hb ho
  have Z6 : Hid (LS w [(w.heap.size, w.heap.size + 1, fun V : World => V.heap[w.heap.size]? = some BX0), (w1.heap.size, w2.heap.size, fun V : World => OBkZ V w1.heap.size w2.heap.size (.slice (some ⟨ga0.1, 0, none⟩) bk0.wn.length bk0.wn.length) (.slice (some ⟨ga0.2.1, 0, none⟩) bk0.ls.length bk0.ls.length) (.slice (some ⟨ga0.2.2, 0, none⟩) bk0.sc.length bk0.sc.length) bk0), (w2.heap.size, Ka, fun V : World => PB V w2.heap.size (.slice vaa BK.wn.length vca) (.slice uaa BK.ls.length uca) (.slice waa BK.sc.length wca) (wvO rsa) BK rsa), (Ka, Ka + 1, fun V : World => V.heap[Ka]? = some (Obj.cells #[.int .i64 C, .int .i64 AT, .int .i64 BK.st, .slice vaa BK.wn.length vca, .slice uaa BK.ls.length uca, .slice waa BK.sc.length wca] 33)), (Va.heap.size, w4.heap.size, fun V : World => OBkZ V Va.heap.size w4.heap.size (.slice (some ⟨x0.1, 0, none⟩) bk0.wn.length bk0.wn.length) (.slice (some ⟨x0.2.1, 0, none⟩) bk0.ls.length bk0.ls.length) (.slice (some ⟨x0.2.2, 0, none⟩) bk0.sc.length bk0.sc.length) bk0), (w4.heap.size, w4.heap.size + 1, fun V : World => V.heap[w4.heap.size]? = some (Obj.cells #[.int .i64 bk0.st, .slice (some ⟨x0.1, 0, none⟩) bk0.wn.length bk0.wn.length, .slice (some ⟨x0.2.1, 0, none⟩) bk0.ls.length bk0.ls.length, .slice (some ⟨x0.2.2, 0, none⟩) bk0.sc.length bk0.sc.length] 31))] (w4.alloc (Obj.cells #[.int .i64 bk0.st, .slice (some ⟨x0.1, 0, none⟩) bk0.wn.length bk0.wn.length, .slice (some ⟨x0.2.1, 0, none⟩) bk0.ls.length bk0.ls.length, .slice (some ⟨x0.2.2, 0, none⟩) bk0.sc.length bk0.sc.length] 31))) := Z5.out.push (by (repeat' (first | (with_reducible exact Below.refl _ _) | (with_reducible assumption) | (with_reducible refine Below.setCell ?_ ?_ _) | (with_reducible refine Below.alloc ?_ ?_ _) | (with_reducible refine below_drewN ?_ _) | (with_reducible refine Below.drew ?_) | (with_reducible exact Nat.le_refl _) | omega | (simp; done) | (simp; omega)))) (Ow.block (heap_alloc_new _ _)) (Nat.le_refl _)
  clear Z5
  go_wp2_with (fail)
  obtain ⟨Vx0, hV⟩ : ∃ V, V = w4.alloc (Obj.cells #[.int .i64 bk0.st, .slice (some ⟨x0.1, 0, none⟩) bk0.wn.length bk0.wn.length, .slice (some ⟨x0.2.1, 0, none⟩) bk0.ls.length bk0.ls.length, .slice (some ⟨x0.2.2, 0, none⟩) bk0.sc.length bk0.sc.length] 31) := ⟨_, rfl⟩
  rw [← hV] at Z6 ⊢
  obtain ⟨Kx0, hK⟩ : ∃ K, K = w4.heap.size := ⟨_, rfl⟩
  rw [← hK] at Z6 HX0 ⊢
  clear hV hK
  refine (HIM.out Vx0 x0 (OBkZ.rx (B := Va.heap.size) (show OBkZ Vx0 Va.heap.size Kx0 (.slice (some ⟨x0.1, 0, none⟩) bk0.wn.length bk0.wn.length) (.slice (some ⟨x0.2.1, 0, none⟩) bk0.ls.length bk0.ls.length) (.slice (some ⟨x0.2.2, 0, none⟩) bk0.sc.length bk0.sc.length) bk0 from Z6.out.get 4 rfl))).mono ?_
  rintro e w5 ⟨vq, vr, rfl, hrq, hb⟩
  obtain ⟨vq1, vq2, vq3⟩ := vq
  obtain ⟨vag, vcg, he1⟩ := OG.fm hrq.wn
  obtain ⟨uag, ucg, he2⟩ := OG.fm hrq.row
  obtain ⟨wag, wcg, he3⟩ := hrq.sc.form
  rw [hrq.len] at he2
  simp only at he1 he2 he3 hrq
  subst he1 he2 he3
  obtain ⟨rsg, rfl⟩ : ∃ x, x = vr := ⟨_, rfl⟩
  have HXg : Hid (∀ q, PBk (.slice vag BK.wn.length vcg) (.slice uag BK.ls.length ucg) (.slice wag BK.sc.length wcg) (wvO rsg) rsg q → q < w5.heap.size) := hrq.ltq
  have Z7 : Hid (LS w [(w.heap.size, w.heap.size + 1, fun V : World => V.heap[w.heap.size]? = some BX0), (w1.heap.size, w2.heap.size, fun V : World => OBkZ V w1.heap.size w2.heap.size (.slice (some ⟨ga0.1, 0, none⟩) bk0.wn.length bk0.wn.length) (.slice (some ⟨ga0.2.1, 0, none⟩) bk0.ls.length bk0.ls.length) (.slice (some ⟨ga0.2.2, 0, none⟩) bk0.sc.length bk0.sc.length) bk0), (w2.heap.size, Ka, fun V : World => PB V w2.heap.size (.slice vaa BK.wn.length vca) (.slice uaa BK.ls.length uca) (.slice waa BK.sc.length wca) (wvO rsa) BK rsa), (Ka, Ka + 1, fun V : World => V.heap[Ka]? = some (Obj.cells #[.int .i64 C, .int .i64 AT, .int .i64 BK.st, .slice vaa BK.wn.length vca, .slice uaa BK.ls.length uca, .slice waa BK.sc.length wca] 33)), (Va.heap.size, Kx0, fun V : World => OBkZ V Va.heap.size Kx0 (.slice (some ⟨x0.1, 0, none⟩) bk0.wn.length bk0.wn.length) (.slice (some ⟨x0.2.1, 0, none⟩) bk0.ls.length bk0.ls.length) (.slice (some ⟨x0.2.2, 0, none⟩) bk0.sc.length bk0.sc.length) bk0), (Kx0, Kx0 + 1, fun V : World => V.heap[Kx0]? = some (Obj.cells #[.int .i64 bk0.st, .slice (some ⟨x0.1, 0, none⟩) bk0.wn.length bk0.wn.length, .slice (some ⟨x0.2.1, 0, none⟩) bk0.ls.length bk0.ls.length, .slice (some ⟨x0.2.2, 0, none⟩) bk0.sc.length bk0.sc.length] 31)), (Vx0.heap.size, w5.heap.size, fun V : World => PB V Vx0.heap.size (.slice vag BK.wn.length vcg) (.slice uag BK.ls.length ucg) (.slice wag BK.sc.length wcg) (wvO rsg) BK rsg)] w5) := Z6.out.push hb (Ow.pbAll hrq hb) (Nat.le_refl _)
  clear Z6 hb hrq
  have kva := Z7.out.get 3 rfl
  have cva_0 : w5.cell? ⟨Ka, 0, none⟩ = some (.int .i64 C) := cellOf kva 0 rfl
  have cva_1 : w5.cell? ⟨Ka, 1, none⟩ = some (.int .i64 AT) := cellOf kva 1 rfl
  have cva_2 : w5.cell? ⟨Ka, 2, none⟩ = some (.int .i64 BK.st) := cellOf kva 2 rfl
  have cva_3 : w5.cell? ⟨Ka, 3, none⟩ = some (.slice vaa BK.wn.length vca) := cellOf kva 3 rfl
  have cva_4 : w5.cell? ⟨Ka, 4, none⟩ = some (.slice uaa BK.ls.length uca) := cellOf kva 4 rfl
  have cva_5 : w5.cell? ⟨Ka, 5, none⟩ = some (.slice waa BK.sc.length wca) := cellOf kva 5 rfl
  have lva : Ka < w5.heap.size := ltOf kva
  clear kva
  have Z8 : Hid (LS w [(w.heap.size, w.heap.size + 1, fun V : World => V.heap[w.heap.size]? = some BX0), (w1.heap.size, w2.heap.size, fun V : World => OBkZ V w1.heap.size w2.heap.size (.slice (some ⟨ga0.1, 0, none⟩) bk0.wn.length bk0.wn.length) (.slice (some ⟨ga0.2.1, 0, none⟩) bk0.ls.length bk0.ls.length) (.slice (some ⟨ga0.2.2, 0, none⟩) bk0.sc.length bk0.sc.length) bk0), (w2.heap.size, Ka, fun V : World => PB V w2.heap.size (.slice vaa BK.wn.length vca) (.slice uaa BK.ls.length uca) (.slice waa BK.sc.length wca) (wvO rsa) BK rsa), (Ka, Ka + 1, fun V : World => V.heap[Ka]? = some (Obj.cells #[.int .i64 C, .int .i64 AT, .int .i64 BK.st, .slice vaa BK.wn.length vca, .slice uaa BK.ls.length uca, .slice waa BK.sc.length wca] 33)), (Va.heap.size, Kx0, fun V : World => OBkZ V Va.heap.size Kx0 (.slice (some ⟨x0.1, 0, none⟩) bk0.wn.length bk0.wn.length) (.slice (some ⟨x0.2.1, 0, none⟩) bk0.ls.length bk0.ls.length) (.slice (some ⟨x0.2.2, 0, none⟩) bk0.sc.length bk0.sc.length) bk0), (Kx0, Kx0 + 1, fun V : World => V.heap[Kx0]? = some (Obj.cells #[.int .i64 bk0.st, .slice (some ⟨x0.1, 0, none⟩) bk0.wn.length bk0.wn.length, .slice (some ⟨x0.2.1, 0, none⟩) bk0.ls.length bk0.ls.length, .slice (some ⟨x0.2.2, 0, none⟩) bk0.sc.length bk0.sc.length] 31)), (Vx0.heap.size, w5.heap.size, fun V : World => PB V Vx0.heap.size (.slice vag BK.wn.length vcg) (.slice uag BK.ls.length ucg) (.slice wag BK.sc.length wcg) (wvO rsg) BK rsg), (w5.heap.size, w5.heap.size + 1, fun V : World => V.heap[w5.heap.size]? = some (Obj.cells #[.int .i64 C, .int .i64 AT, .int .i64 BK.st, .slice vag BK.wn.length vcg, .slice uag BK.ls.length ucg, .slice wag BK.sc.length wcg] 33))] (w5.alloc (Obj.cells #[.int .i64 C, .int .i64 AT, .int .i64 BK.st, .slice vag BK.wn.length vcg, .slice uag BK.ls.length ucg, .slice wag BK.sc.length wcg] 33))) := Z7.out.push (by (repeat' (first | (with_reducible exact Below.refl _ _) | (with_reducible assumption) | (with_reducible refine Below.setCell ?_ ?_ _) | (with_reducible refine Below.alloc ?_ ?_ _) | (with_reducible refine below_drewN ?_ _) | (with_reducible refine Below.drew ?_) | (with_reducible exact Nat.le_refl _) | omega | (simp; done) | (simp; omega)))) (Ow.block (heap_alloc_new _ _)) (Nat.le_refl _)
  clear Z7
  go_wp2_with (fail)
  obtain ⟨Vg, hV⟩ : ∃ V, V = w5.alloc (Obj.cells #[.int .i64 C, .int .i64 AT, .int .i64 BK.st, .slice vag BK.wn.length vcg, .slice uag BK.ls.length ucg, .slice wag BK.sc.length wcg] 33) := ⟨_, rfl⟩
  rw [← hV] at Z8 ⊢
  obtain ⟨Kg, hK⟩ : ∃ K, K = w5.heap.size := ⟨_, rfl⟩
  rw [← hK] at Z8 HXg ⊢
  clear hV hK
  clear cva_0 cva_1 cva_2 cva_3 cva_4 cva_5 lva
  refine (eqBookResult_to C AT BK.st HLN.out rfl (PB.rd (B := Vx0.heap.size) (show PB Vg Vx0.heap.size (.slice vag BK.wn.length vcg) (.slice uag BK.ls.length ucg) (.slice wag BK.sc.length wcg) (wvO rsg) BK rsg from (Z8.out.get 6 rfl))) (PB.rd (B := w2.heap.size) (show PB Vg w2.heap.size (.slice vaa BK.wn.length vca) (.slice uaa BK.ls.length uca) (.slice waa BK.sc.length wca) (wvO rsa) BK rsa from (Z8.out.get 2 rfl)))).mono ?_
  rintro e w6 ⟨rfl, hb⟩
  have Z9 : Hid (LS w [(w.heap.size, w.heap.size + 1, fun V : World => V.heap[w.heap.size]? = some BX0), (w1.heap.size, w2.heap.size, fun V : World => OBkZ V w1.heap.size w2.heap.size (.slice (some ⟨ga0.1, 0, none⟩) bk0.wn.length bk0.wn.length) (.slice (some ⟨ga0.2.1, 0, none⟩) bk0.ls.length bk0.ls.length) (.slice (some ⟨ga0.2.2, 0, none⟩) bk0.sc.length bk0.sc.length) bk0), (w2.heap.size, Ka, fun V : World => PB V w2.heap.size (.slice vaa BK.wn.length vca) (.slice uaa BK.ls.length uca) (.slice waa BK.sc.length wca) (wvO rsa) BK rsa), (Ka, Ka + 1, fun V : World => V.heap[Ka]? = some (Obj.cells #[.int .i64 C, .int .i64 AT, .int .i64 BK.st, .slice vaa BK.wn.length vca, .slice uaa BK.ls.length uca, .slice waa BK.sc.length wca] 33)), (Va.heap.size, Kx0, fun V : World => OBkZ V Va.heap.size Kx0 (.slice (some ⟨x0.1, 0, none⟩) bk0.wn.length bk0.wn.length) (.slice (some ⟨x0.2.1, 0, none⟩) bk0.ls.length bk0.ls.length) (.slice (some ⟨x0.2.2, 0, none⟩) bk0.sc.length bk0.sc.length) bk0), (Kx0, Kx0 + 1, fun V : World => V.heap[Kx0]? = some (Obj.cells #[.int .i64 bk0.st, .slice (some ⟨x0.1, 0, none⟩) bk0.wn.length bk0.wn.length, .slice (some ⟨x0.2.1, 0, none⟩) bk0.ls.length bk0.ls.length, .slice (some ⟨x0.2.2, 0, none⟩) bk0.sc.length bk0.sc.length] 31)), (Vx0.heap.size, Kg, fun V : World => PB V Vx0.heap.size (.slice vag BK.wn.length vcg) (.slice uag BK.ls.length ucg) (.slice wag BK.sc.length wcg) (wvO rsg) BK rsg), (Kg, Kg + 1, fun V : World => V.heap[Kg]? = some (Obj.cells #[.int .i64 C, .int .i64 AT, .int .i64 BK.st, .slice vag BK.wn.length vcg, .slice uag BK.ls.length ucg, .slice wag BK.sc.length wcg] 33))] w6) := Z8.out.next hb
  clear Z8 hb
  have kvx0 := Z9.out.get 5 rfl
  have cvx0_0 : w6.cell? ⟨Kx0, 0, none⟩ = some (.int .i64 bk0.st) := cellOf kvx0 0 rfl
  have cvx0_1 : w6.cell? ⟨Kx0, 1, none⟩ = some (.slice (some ⟨x0.1, 0, none⟩) bk0.wn.length bk0.wn.length) := cellOf kvx0 1 rfl
  have cvx0_2 : w6.cell? ⟨Kx0, 2, none⟩ = some (.slice (some ⟨x0.2.1, 0, none⟩) bk0.ls.length bk0.ls.length) := cellOf kvx0 2 rfl
  have cvx0_3 : w6.cell? ⟨Kx0, 3, none⟩ = some (.slice (some ⟨x0.2.2, 0, none⟩) bk0.sc.length bk0.sc.length) := cellOf kvx0 3 rfl
  have lvx0 : Kx0 < w6.heap.size := ltOf kvx0
  clear kvx0
  have kp0 := Z9.out.get 0 rfl
  rw [TB0.out] at kp0
  have cp0_0 : w6.cell? ⟨w.heap.size, 0, none⟩ = some (.int .i64 bk0.st) := cellOf kp0 0 rfl
  have cp0_1 : w6.cell? ⟨w.heap.size, 1, none⟩ = some (.slice sa0 sn0 sc0) := cellOf kp0 1 rfl
  have cp0_2 : w6.cell? ⟨w.heap.size, 2, none⟩ = some (.slice ta0 tn0 tc0) := cellOf kp0 2 rfl
  have cp0_3 : w6.cell? ⟨w.heap.size, 3, none⟩ = some (.slice xa0 xn0 xc0) := cellOf kp0 3 rfl
  have lp0 : w.heap.size < w6.heap.size := ltOf kp0
  clear kp0
  go_wp2_with (fail)
  refine wp_region_float (by kernel_rfl) (fun hS => ?_)
  refine fl_take (i := 0) (d := 35) (v := .agg #[.int .i64 bk0.st, .slice (some ⟨x0.1, 0, none⟩) bk0.wn.length bk0.wn.length, .slice (some ⟨x0.2.1, 0, none⟩) bk0.ls.length bk0.ls.length, .slice (some ⟨x0.2.2, 0, none⟩) bk0.sc.length bk0.sc.length]) rfl rfl rfl (by kernel_rfl) (by kernel_rfl) (by kernel_rfl) hS ?_ ?_
  · intro w' hk; go_simp
  simp only [Act.put, List.setIfInBounds_toArray, List.set_cons_zero, List.set_cons_succ]
  refine fl_take (i := 1) (d := 36) (v := .agg #[.int .i64 bk0.st, .slice sa0 sn0 sc0, .slice ta0 tn0 tc0, .slice xa0 xn0 xc0]) rfl rfl rfl (by kernel_rfl) (by kernel_rfl) (by kernel_rfl) hS ?_ ?_
  · intro w' hk; go_simp
  simp only [Act.put, List.setIfInBounds_toArray, List.set_cons_zero, List.set_cons_succ]
  refine wpAnyH_all (rs := [2]) (by kernel_rfl) (by simp) ?_
  intro i hi
  obtain rfl : i = 2 := by simpa using hi
  refine op_call (d := 37) rfl rfl rfl (by go_simp) ((toLotBook_any bk0.st HL0.out ((HR0.out.below Z9.out.bl).below (Below.refl _ _).drew)).mono ?_)
  rintro e ya0 ⟨gy0, rfl, hk5, hb5⟩
  have hK5 : KS w6 ya0 := hS.call hb5
  refine ⟨_, rfl, hK5, ?_⟩
  simp only [Act.put, List.setIfInBounds_toArray, List.set_cons_zero, List.set_cons_succ]
  refine wpAnyH_all (rs := [3]) (by kernel_rfl) (by simp) ?_
  intro i hi
  obtain rfl : i = 3 := by simpa using hi
  refine op_call (d := 38) rfl rfl rfl (by go_simp) ((eqLotBook_same bk0.st HL0.out rfl (RdX.rd (RdX.below (OBkZ.rx (B := Va.heap.size) (show OBkZ w6 Va.heap.size Kx0 (.slice (some ⟨x0.1, 0, none⟩) bk0.wn.length bk0.wn.length) (.slice (some ⟨x0.2.1, 0, none⟩) bk0.ls.length bk0.ls.length) (.slice (some ⟨x0.2.2, 0, none⟩) bk0.sc.length bk0.sc.length) bk0 from Z9.out.get 4 rfl)) hK5.2)) (RdX.rd ((OBk.rx hk5)))).mono ?_)
  rintro e yb0 ⟨rfl, hb6⟩
  have hK6 : KS w6 yb0 := hK5.call hb6
  refine ⟨_, rfl, hK6, ?_⟩
  simp only [Act.put, List.setIfInBounds_toArray, List.set_cons_zero, List.set_cons_succ]
  refine wpAnyH_all (rs := [4]) (by kernel_rfl) (by simp) ?_
  intro i hi
  obtain rfl : i = 4 := by simpa using hi
  refine op_val (d := 39) (v := .bool false) (w' := yb0) rfl rfl rfl (by go_simp; try rfl) ?_
  simp only [Act.put, List.setIfInBounds_toArray, List.set_cons_zero, List.set_cons_succ]
  refine ⟨hK6, wpAnyH_done (by kernel_rfl) (NoPanic.normal ?_) _⟩
  have Z10 : Hid (LS w [(w.heap.size, w.heap.size + 1, fun V : World => V.heap[w.heap.size]? = some BX0), (w1.heap.size, w2.heap.size, fun V : World => OBkZ V w1.heap.size w2.heap.size (.slice (some ⟨ga0.1, 0, none⟩) bk0.wn.length bk0.wn.length) (.slice (some ⟨ga0.2.1, 0, none⟩) bk0.ls.length bk0.ls.length) (.slice (some ⟨ga0.2.2, 0, none⟩) bk0.sc.length bk0.sc.length) bk0), (w2.heap.size, Ka, fun V : World => PB V w2.heap.size (.slice vaa BK.wn.length vca) (.slice uaa BK.ls.length uca) (.slice waa BK.sc.length wca) (wvO rsa) BK rsa), (Ka, Ka + 1, fun V : World => V.heap[Ka]? = some (Obj.cells #[.int .i64 C, .int .i64 AT, .int .i64 BK.st, .slice vaa BK.wn.length vca, .slice uaa BK.ls.length uca, .slice waa BK.sc.length wca] 33)), (Va.heap.size, Kx0, fun V : World => OBkZ V Va.heap.size Kx0 (.slice (some ⟨x0.1, 0, none⟩) bk0.wn.length bk0.wn.length) (.slice (some ⟨x0.2.1, 0, none⟩) bk0.ls.length bk0.ls.length) (.slice (some ⟨x0.2.2, 0, none⟩) bk0.sc.length bk0.sc.length) bk0), (Kx0, Kx0 + 1, fun V : World => V.heap[Kx0]? = some (Obj.cells #[.int .i64 bk0.st, .slice (some ⟨x0.1, 0, none⟩) bk0.wn.length bk0.wn.length, .slice (some ⟨x0.2.1, 0, none⟩) bk0.ls.length bk0.ls.length, .slice (some ⟨x0.2.2, 0, none⟩) bk0.sc.length bk0.sc.length] 31)), (Vx0.heap.size, Kg, fun V : World => PB V Vx0.heap.size (.slice vag BK.wn.length vcg) (.slice uag BK.ls.length ucg) (.slice wag BK.sc.length wcg) (wvO rsg) BK rsg), (Kg, Kg + 1, fun V : World => V.heap[Kg]? = some (Obj.cells #[.int .i64 C, .int .i64 AT, .int .i64 BK.st, .slice vag BK.wn.length vcg, .slice uag BK.ls.length ucg, .slice wag BK.sc.length wcg] 33))] yb0) := Z9.out.next hK6.2
  clear Z9 hK6 hK5 hb6 hb5 hk5 hS cvx0_0 cvx0_1 cvx0_2 cvx0_3 lvx0 cp0_0 cp0_1 cp0_2 cp0_3 lp0
  have kvx0 := Z10.out.get 5 rfl
  have cvx0_0 : yb0.cell? ⟨Kx0, 0, none⟩ = some (.int .i64 bk0.st) := cellOf kvx0 0 rfl
  have cvx0_1 : yb0.cell? ⟨Kx0, 1, none⟩ = some (.slice (some ⟨x0.1, 0, none⟩) bk0.wn.length bk0.wn.length) := cellOf kvx0 1 rfl
  have cvx0_2 : yb0.cell? ⟨Kx0, 2, none⟩ = some (.slice (some ⟨x0.2.1, 0, none⟩) bk0.ls.length bk0.ls.length) := cellOf kvx0 2 rfl
  have cvx0_3 : yb0.cell? ⟨Kx0, 3, none⟩ = some (.slice (some ⟨x0.2.2, 0, none⟩) bk0.sc.length bk0.sc.length) := cellOf kvx0 3 rfl
  have lvx0 : Kx0 < yb0.heap.size := ltOf kvx0
  clear kvx0
  go_wp2_with (fail)
  clear cvx0_0 cvx0_1 cvx0_2 cvx0_3 lvx0
  refine (markLotBook_lz bk0.st HL0.out (show OBkZ yb0 Va.heap.size Kx0 (.slice (some ⟨x0.1, 0, none⟩) bk0.wn.length bk0.wn.length) (.slice (some ⟨x0.2.1, 0, none⟩) bk0.ls.length bk0.ls.length) (.slice (some ⟨x0.2.2, 0, none⟩) bk0.sc.length bk0.sc.length) bk0 from Z10.out.get 4 rfl)).mono ?_
  rintro e w7 ⟨rfl, hm, hc⟩
  have Z11 : Hid (LS w [(w.heap.size, w.heap.size + 1, fun V : World => V.heap[w.heap.size]? = some BX0), (w1.heap.size, w2.heap.size, fun V : World => OBkZ V w1.heap.size w2.heap.size (.slice (some ⟨ga0.1, 0, none⟩) bk0.wn.length bk0.wn.length) (.slice (some ⟨ga0.2.1, 0, none⟩) bk0.ls.length bk0.ls.length) (.slice (some ⟨ga0.2.2, 0, none⟩) bk0.sc.length bk0.sc.length) bk0), (w2.heap.size, Ka, fun V : World => PB V w2.heap.size (.slice vaa BK.wn.length vca) (.slice uaa BK.ls.length uca) (.slice waa BK.sc.length wca) (wvO rsa) BK rsa), (Ka, Ka + 1, fun V : World => V.heap[Ka]? = some (Obj.cells #[.int .i64 C, .int .i64 AT, .int .i64 BK.st, .slice vaa BK.wn.length vca, .slice uaa BK.ls.length uca, .slice waa BK.sc.length wca] 33)), (Va.heap.size, Kx0, fun V : World => True), (Kx0, Kx0 + 1, fun V : World => V.heap[Kx0]? = some (Obj.cells #[.int .i64 bk0.st, .slice (some ⟨x0.1, 0, none⟩) bk0.wn.length bk0.wn.length, .slice (some ⟨x0.2.1, 0, none⟩) bk0.ls.length bk0.ls.length, .slice (some ⟨x0.2.2, 0, none⟩) bk0.sc.length bk0.sc.length] 31)), (Vx0.heap.size, Kg, fun V : World => PB V Vx0.heap.size (.slice vag BK.wn.length vcg) (.slice uag BK.ls.length ucg) (.slice wag BK.sc.length wcg) (wvO rsg) BK rsg), (Kg, Kg + 1, fun V : World => V.heap[Kg]? = some (Obj.cells #[.int .i64 C, .int .i64 AT, .int .i64 BK.st, .slice vag BK.wn.length vcg, .slice uag BK.ls.length ucg, .slice wag BK.sc.length wcg] 33))] w7) := Z10.out.put 4 rfl hc ((Z10.out.own 4 rfl).true hc.size)
  clear Z10 hm hc
  obtain ⟨N0, hN⟩ : ∃ N, N = zB bk0 := ⟨_, rfl⟩
  rw [← hN]
  have hN0 : 0 ≤ N0 ∧ N0 ≤ 10000000 ∧ ¬ N0 < 0 := by have := zB_bd HL0.out; omega
  have hN0a := hN0.2.2
  clear hN
  have kvg := Z11.out.get 7 rfl
  have cvg_0 : w7.cell? ⟨Kg, 0, none⟩ = some (.int .i64 C) := cellOf kvg 0 rfl
  have cvg_1 : w7.cell? ⟨Kg, 1, none⟩ = some (.int .i64 AT) := cellOf kvg 1 rfl
  have cvg_2 : w7.cell? ⟨Kg, 2, none⟩ = some (.int .i64 BK.st) := cellOf kvg 2 rfl
  have cvg_3 : w7.cell? ⟨Kg, 3, none⟩ = some (.slice vag BK.wn.length vcg) := cellOf kvg 3 rfl
  have cvg_4 : w7.cell? ⟨Kg, 4, none⟩ = some (.slice uag BK.ls.length ucg) := cellOf kvg 4 rfl
  have cvg_5 : w7.cell? ⟨Kg, 5, none⟩ = some (.slice wag BK.sc.length wcg) := cellOf kvg 5 rfl
  have lvg : Kg < w7.heap.size := ltOf kvg
  clear kvg
  have kva := Z11.out.get 3 rfl
  have cva_0 : w7.cell? ⟨Ka, 0, none⟩ = some (.int .i64 C) := cellOf kva 0 rfl
  have cva_1 : w7.cell? ⟨Ka, 1, none⟩ = some (.int .i64 AT) := cellOf kva 1 rfl
  have cva_2 : w7.cell? ⟨Ka, 2, none⟩ = some (.int .i64 BK.st) := cellOf kva 2 rfl
  have cva_3 : w7.cell? ⟨Ka, 3, none⟩ = some (.slice vaa BK.wn.length vca) := cellOf kva 3 rfl
  have cva_4 : w7.cell? ⟨Ka, 4, none⟩ = some (.slice uaa BK.ls.length uca) := cellOf kva 4 rfl
  have cva_5 : w7.cell? ⟨Ka, 5, none⟩ = some (.slice waa BK.sc.length wca) := cellOf kva 5 rfl
  have lva : Ka < w7.heap.size := ltOf kva
  clear kva
  go_wp2_with (fail)
  clear cvg_0 cvg_1 cvg_2 cvg_3 cvg_4 cvg_5 lvg cva_0 cva_1 cva_2 cva_3 cva_4 cva_5 lva
  refine (eqBookResult_to C AT BK.st HLN.out rfl (PB.rd (B := Vx0.heap.size) (show PB w7 Vx0.heap.size (.slice vag BK.wn.length vcg) (.slice uag BK.ls.length ucg) (.slice wag BK.sc.length wcg) (wvO rsg) BK rsg from (Z11.out.get 6 rfl))) (PB.rd (B := w2.heap.size) (show PB w7 w2.heap.size (.slice vaa BK.wn.length vca) (.slice uaa BK.ls.length uca) (.slice waa BK.sc.length wca) (wvO rsa) BK rsa from (Z11.out.get 2 rfl)))).mono ?_
  rintro e w8 ⟨rfl, hb⟩
  have Z12 : Hid (LS w [(w.heap.size, w.heap.size + 1, fun V : World => V.heap[w.heap.size]? = some BX0), (w1.heap.size, w2.heap.size, fun V : World => OBkZ V w1.heap.size w2.heap.size (.slice (some ⟨ga0.1, 0, none⟩) bk0.wn.length bk0.wn.length) (.slice (some ⟨ga0.2.1, 0, none⟩) bk0.ls.length bk0.ls.length) (.slice (some ⟨ga0.2.2, 0, none⟩) bk0.sc.length bk0.sc.length) bk0), (w2.heap.size, Ka, fun V : World => PB V w2.heap.size (.slice vaa BK.wn.length vca) (.slice uaa BK.ls.length uca) (.slice waa BK.sc.length wca) (wvO rsa) BK rsa), (Ka, Ka + 1, fun V : World => V.heap[Ka]? = some (Obj.cells #[.int .i64 C, .int .i64 AT, .int .i64 BK.st, .slice vaa BK.wn.length vca, .slice uaa BK.ls.length uca, .slice waa BK.sc.length wca] 33)), (Va.heap.size, Kx0, fun V : World => True), (Kx0, Kx0 + 1, fun V : World => V.heap[Kx0]? = some (Obj.cells #[.int .i64 bk0.st, .slice (some ⟨x0.1, 0, none⟩) bk0.wn.length bk0.wn.length, .slice (some ⟨x0.2.1, 0, none⟩) bk0.ls.length bk0.ls.length, .slice (some ⟨x0.2.2, 0, none⟩) bk0.sc.length bk0.sc.length] 31)), (Vx0.heap.size, Kg, fun V : World => PB V Vx0.heap.size (.slice vag BK.wn.length vcg) (.slice uag BK.ls.length ucg) (.slice wag BK.sc.length wcg) (wvO rsg) BK rsg), (Kg, Kg + 1, fun V : World => V.heap[Kg]? = some (Obj.cells #[.int .i64 C, .int .i64 AT, .int .i64 BK.st, .slice vag BK.wn.length vcg, .slice uag BK.ls.length ucg, .slice wag BK.sc.length wcg] 33))] w8) := Z11.out.next hb
  clear Z11 hb
  have kvg := Z12.out.get 7 rfl
  have cvg_0 : w8.cell? ⟨Kg, 0, none⟩ = some (.int .i64 C) := cellOf kvg 0 rfl
  have cvg_1 : w8.cell? ⟨Kg, 1, none⟩ = some (.int .i64 AT) := cellOf kvg 1 rfl
  have cvg_2 : w8.cell? ⟨Kg, 2, none⟩ = some (.int .i64 BK.st) := cellOf kvg 2 rfl
  have cvg_3 : w8.cell? ⟨Kg, 3, none⟩ = some (.slice vag BK.wn.length vcg) := cellOf kvg 3 rfl
  have cvg_4 : w8.cell? ⟨Kg, 4, none⟩ = some (.slice uag BK.ls.length ucg) := cellOf kvg 4 rfl
  have cvg_5 : w8.cell? ⟨Kg, 5, none⟩ = some (.slice wag BK.sc.length wcg) := cellOf kvg 5 rfl
  have lvg : Kg < w8.heap.size := ltOf kvg
  clear kvg
  go_wp2_with (fail)
  clear cvg_0 cvg_1 cvg_2 cvg_3 cvg_4 cvg_5 lvg
  refine (markBookResult_to C AT BK.st HLN.out (show PB w8 Vx0.heap.size (.slice vag BK.wn.length vcg) (.slice uag BK.ls.length ucg) (.slice wag BK.sc.length wcg) (wvO rsg) BK rsg from (Z12.out.get 6 rfl)) HXg.out).mono ?_
  rintro e w9 ⟨rfl, hm, hc⟩
  have Z13 : Hid (LS w [(w.heap.size, w.heap.size + 1, fun V : World => V.heap[w.heap.size]? = some BX0), (w1.heap.size, w2.heap.size, fun V : World => OBkZ V w1.heap.size w2.heap.size (.slice (some ⟨ga0.1, 0, none⟩) bk0.wn.length bk0.wn.length) (.slice (some ⟨ga0.2.1, 0, none⟩) bk0.ls.length bk0.ls.length) (.slice (some ⟨ga0.2.2, 0, none⟩) bk0.sc.length bk0.sc.length) bk0), (w2.heap.size, Ka, fun V : World => PB V w2.heap.size (.slice vaa BK.wn.length vca) (.slice uaa BK.ls.length uca) (.slice waa BK.sc.length wca) (wvO rsa) BK rsa), (Ka, Ka + 1, fun V : World => V.heap[Ka]? = some (Obj.cells #[.int .i64 C, .int .i64 AT, .int .i64 BK.st, .slice vaa BK.wn.length vca, .slice uaa BK.ls.length uca, .slice waa BK.sc.length wca] 33)), (Va.heap.size, Kx0, fun V : World => True), (Kx0, Kx0 + 1, fun V : World => V.heap[Kx0]? = some (Obj.cells #[.int .i64 bk0.st, .slice (some ⟨x0.1, 0, none⟩) bk0.wn.length bk0.wn.length, .slice (some ⟨x0.2.1, 0, none⟩) bk0.ls.length bk0.ls.length, .slice (some ⟨x0.2.2, 0, none⟩) bk0.sc.length bk0.sc.length] 31)), (Vx0.heap.size, Kg, fun V : World => MkB V Vx0.heap.size (.slice vag BK.wn.length vcg) (.slice uag BK.ls.length ucg) (.slice wag BK.sc.length wcg) BK rsg), (Kg, Kg + 1, fun V : World => V.heap[Kg]? = some (Obj.cells #[.int .i64 C, .int .i64 AT, .int .i64 BK.st, .slice vag BK.wn.length vcg, .slice uag BK.ls.length ucg, .slice wag BK.sc.length wcg] 33))] w9) := Z12.out.put 6 rfl hc (Ow.mB hm (Z12.out.own 6 rfl).le.1 (Nat.le_trans (Z12.out.own 6 rfl).le.2 hc.size) HXg.out)
  clear Z12 hm hc
  obtain ⟨TT, hTT⟩ : ∃ TT, TT = zB BK := ⟨_, rfl⟩
  have hT0 : ¬ TT < 0 := by omega
  have HTT : Hid (TT = zB BK) := hTT
  rw [← hTT]
  clear hTT
  have kvg := Z13.out.get 7 rfl
  have cvg_0 : w9.cell? ⟨Kg, 0, none⟩ = some (.int .i64 C) := cellOf kvg 0 rfl
  have cvg_1 : w9.cell? ⟨Kg, 1, none⟩ = some (.int .i64 AT) := cellOf kvg 1 rfl
  have cvg_2 : w9.cell? ⟨Kg, 2, none⟩ = some (.int .i64 BK.st) := cellOf kvg 2 rfl
  have cvg_3 : w9.cell? ⟨Kg, 3, none⟩ = some (.slice vag BK.wn.length vcg) := cellOf kvg 3 rfl
  have cvg_4 : w9.cell? ⟨Kg, 4, none⟩ = some (.slice uag BK.ls.length ucg) := cellOf kvg 4 rfl
  have cvg_5 : w9.cell? ⟨Kg, 5, none⟩ = some (.slice wag BK.sc.length wcg) := cellOf kvg 5 rfl
  have lvg : Kg < w9.heap.size := ltOf kvg
  clear kvg
  go_wp2_with (fail)
  clear cvg_0 cvg_1 cvg_2 cvg_3 cvg_4 cvg_5 lvg
  refine (heldBookResult_to C AT BK.st HLN.out (show MkB w9 Vx0.heap.size (.slice vag BK.wn.length vcg) (.slice uag BK.ls.length ucg) (.slice wag BK.sc.length wcg) BK rsg from Z13.out.get 6 rfl) ⟨_, _, _, _, _, _, rfl, rfl, rfl⟩).mono ?_
  rintro e w10 ⟨rfl, hb⟩
  have Z14 : Hid (LS w [(w.heap.size, w.heap.size + 1, fun V : World => V.heap[w.heap.size]? = some BX0), (w1.heap.size, w2.heap.size, fun V : World => OBkZ V w1.heap.size w2.heap.size (.slice (some ⟨ga0.1, 0, none⟩) bk0.wn.length bk0.wn.length) (.slice (some ⟨ga0.2.1, 0, none⟩) bk0.ls.length bk0.ls.length) (.slice (some ⟨ga0.2.2, 0, none⟩) bk0.sc.length bk0.sc.length) bk0), (w2.heap.size, Ka, fun V : World => PB V w2.heap.size (.slice vaa BK.wn.length vca) (.slice uaa BK.ls.length uca) (.slice waa BK.sc.length wca) (wvO rsa) BK rsa), (Ka, Ka + 1, fun V : World => V.heap[Ka]? = some (Obj.cells #[.int .i64 C, .int .i64 AT, .int .i64 BK.st, .slice vaa BK.wn.length vca, .slice uaa BK.ls.length uca, .slice waa BK.sc.length wca] 33)), (Va.heap.size, Kx0, fun V : World => True), (Kx0, Kx0 + 1, fun V : World => V.heap[Kx0]? = some (Obj.cells #[.int .i64 bk0.st, .slice (some ⟨x0.1, 0, none⟩) bk0.wn.length bk0.wn.length, .slice (some ⟨x0.2.1, 0, none⟩) bk0.ls.length bk0.ls.length, .slice (some ⟨x0.2.2, 0, none⟩) bk0.sc.length bk0.sc.length] 31)), (Vx0.heap.size, Kg, fun V : World => MkB V Vx0.heap.size (.slice vag BK.wn.length vcg) (.slice uag BK.ls.length ucg) (.slice wag BK.sc.length wcg) BK rsg), (Kg, Kg + 1, fun V : World => V.heap[Kg]? = some (Obj.cells #[.int .i64 C, .int .i64 AT, .int .i64 BK.st, .slice vag BK.wn.length vcg, .slice uag BK.ls.length ucg, .slice wag BK.sc.length wcg] 33))] w10) := Z13.out.next hb
  clear Z13 hb
  rw [← HTT.out]
  have kp0 := Z14.out.get 0 rfl
  rw [TB0.out] at kp0
  have cp0_0 : w10.cell? ⟨w.heap.size, 0, none⟩ = some (.int .i64 bk0.st) := cellOf kp0 0 rfl
  have cp0_1 : w10.cell? ⟨w.heap.size, 1, none⟩ = some (.slice sa0 sn0 sc0) := cellOf kp0 1 rfl
  have cp0_2 : w10.cell? ⟨w.heap.size, 2, none⟩ = some (.slice ta0 tn0 tc0) := cellOf kp0 2 rfl
  have cp0_3 : w10.cell? ⟨w.heap.size, 3, none⟩ = some (.slice xa0 xn0 xc0) := cellOf kp0 3 rfl
  have lp0 : w.heap.size < w10.heap.size := ltOf kp0
  clear kp0
  go_wp2_with (fail)
  clear cp0_0 cp0_1 cp0_2 cp0_3 lp0
  refine (toLotBook_any bk0.st HL0.out (HR0.out.below Z14.out.bl)).mono ?_
  rintro e w11 ⟨gh0, rfl, ho, hb⟩
  have Z15 : Hid (LS w [(w.heap.size, w.heap.size + 1, fun V : World => V.heap[w.heap.size]? = some BX0), (w1.heap.size, w2.heap.size, fun V : World => OBkZ V w1.heap.size w2.heap.size (.slice (some ⟨ga0.1, 0, none⟩) bk0.wn.length bk0.wn.length) (.slice (some ⟨ga0.2.1, 0, none⟩) bk0.ls.length bk0.ls.length) (.slice (some ⟨ga0.2.2, 0, none⟩) bk0.sc.length bk0.sc.length) bk0), (w2.heap.size, Ka, fun V : World => PB V w2.heap.size (.slice vaa BK.wn.length vca) (.slice uaa BK.ls.length uca) (.slice waa BK.sc.length wca) (wvO rsa) BK rsa), (Ka, Ka + 1, fun V : World => V.heap[Ka]? = some (Obj.cells #[.int .i64 C, .int .i64 AT, .int .i64 BK.st, .slice vaa BK.wn.length vca, .slice uaa BK.ls.length uca, .slice waa BK.sc.length wca] 33)), (Va.heap.size, Kx0, fun V : World => True), (Kx0, Kx0 + 1, fun V : World => V.heap[Kx0]? = some (Obj.cells #[.int .i64 bk0.st, .slice (some ⟨x0.1, 0, none⟩) bk0.wn.length bk0.wn.length, .slice (some ⟨x0.2.1, 0, none⟩) bk0.ls.length bk0.ls.length, .slice (some ⟨x0.2.2, 0, none⟩) bk0.sc.length bk0.sc.length] 31)), (Vx0.heap.size, Kg, fun V : World => MkB V Vx0.heap.size (.slice vag BK.wn.length vcg) (.slice uag BK.ls.length ucg) (.slice wag BK.sc.length wcg) BK rsg), (Kg, Kg + 1, fun V : World => V.heap[Kg]? = some (Obj.cells #[.int .i64 C, .int .i64 AT, .int .i64 BK.st, .slice vag BK.wn.length vcg, .slice uag BK.ls.length ucg, .slice wag BK.sc.length wcg] 33)), (w10.heap.size, w11.heap.size, fun V : World => OBkZ V w10.heap.size w11.heap.size (.slice (some ⟨gh0.1, 0, none⟩) bk0.wn.length bk0.wn.length) (.slice (some ⟨gh0.2.1, 0, none⟩) bk0.ls.length bk0.ls.length) (.slice (some ⟨gh0.2.2, 0, none⟩) bk0.sc.length bk0.sc.length) bk0)] w11) := Z14.out.push hb (Ow.bkZ ho hb) (Nat.le_refl _)
  clear Z14 hb ho
  go_wp2_with (fail)
  refine (HIM.out w11 gh0 (OBkZ.rx (B := w10.heap.size) (show OBkZ w11 w10.heap.size w11.heap.size (.slice (some ⟨gh0.1, 0, none⟩) bk0.wn.length bk0.wn.length) (.slice (some ⟨gh0.2.1, 0, none⟩) bk0.ls.length bk0.ls.length) (.slice (some ⟨gh0.2.2, 0, none⟩) bk0.sc.length bk0.sc.length) bk0 from Z15.out.get 8 rfl))).mono ?_
  rintro e w12 ⟨vq, vr, rfl, hrq, hb⟩
  obtain ⟨vq1, vq2, vq3⟩ := vq
  obtain ⟨vah, vch, he1⟩ := OG.fm hrq.wn
  obtain ⟨uah, uch, he2⟩ := OG.fm hrq.row
  obtain ⟨wah, wch, he3⟩ := hrq.sc.form
  rw [hrq.len] at he2
  simp only at he1 he2 he3 hrq
  subst he1 he2 he3
  obtain ⟨rsh, rfl⟩ : ∃ x, x = vr := ⟨_, rfl⟩
  have Z16 : Hid (LS w [(w.heap.size, w.heap.size + 1, fun V : World => V.heap[w.heap.size]? = some BX0), (w1.heap.size, w2.heap.size, fun V : World => OBkZ V w1.heap.size w2.heap.size (.slice (some ⟨ga0.1, 0, none⟩) bk0.wn.length bk0.wn.length) (.slice (some ⟨ga0.2.1, 0, none⟩) bk0.ls.length bk0.ls.length) (.slice (some ⟨ga0.2.2, 0, none⟩) bk0.sc.length bk0.sc.length) bk0), (w2.heap.size, Ka, fun V : World => PB V w2.heap.size (.slice vaa BK.wn.length vca) (.slice uaa BK.ls.length uca) (.slice waa BK.sc.length wca) (wvO rsa) BK rsa), (Ka, Ka + 1, fun V : World => V.heap[Ka]? = some (Obj.cells #[.int .i64 C, .int .i64 AT, .int .i64 BK.st, .slice vaa BK.wn.length vca, .slice uaa BK.ls.length uca, .slice waa BK.sc.length wca] 33)), (Va.heap.size, Kx0, fun V : World => True), (Kx0, Kx0 + 1, fun V : World => V.heap[Kx0]? = some (Obj.cells #[.int .i64 bk0.st, .slice (some ⟨x0.1, 0, none⟩) bk0.wn.length bk0.wn.length, .slice (some ⟨x0.2.1, 0, none⟩) bk0.ls.length bk0.ls.length, .slice (some ⟨x0.2.2, 0, none⟩) bk0.sc.length bk0.sc.length] 31)), (Vx0.heap.size, Kg, fun V : World => MkB V Vx0.heap.size (.slice vag BK.wn.length vcg) (.slice uag BK.ls.length ucg) (.slice wag BK.sc.length wcg) BK rsg), (Kg, Kg + 1, fun V : World => V.heap[Kg]? = some (Obj.cells #[.int .i64 C, .int .i64 AT, .int .i64 BK.st, .slice vag BK.wn.length vcg, .slice uag BK.ls.length ucg, .slice wag BK.sc.length wcg] 33)), (w10.heap.size, w11.heap.size, fun V : World => OBkZ V w10.heap.size w11.heap.size (.slice (some ⟨gh0.1, 0, none⟩) bk0.wn.length bk0.wn.length) (.slice (some ⟨gh0.2.1, 0, none⟩) bk0.ls.length bk0.ls.length) (.slice (some ⟨gh0.2.2, 0, none⟩) bk0.sc.length bk0.sc.length) bk0), (w11.heap.size, w12.heap.size, fun V : World => PB V w11.heap.size (.slice vah BK.wn.length vch) (.slice uah BK.ls.length uch) (.slice wah BK.sc.length wch) (wvO rsh) BK rsh)] w12) := Z15.out.push hb (Ow.pbAll hrq hb) (Nat.le_refl _)
  clear Z15 hb hrq
  have kva := Z16.out.get 3 rfl
  have cva_0 : w12.cell? ⟨Ka, 0, none⟩ = some (.int .i64 C) := cellOf kva 0 rfl
  have cva_1 : w12.cell? ⟨Ka, 1, none⟩ = some (.int .i64 AT) := cellOf kva 1 rfl
  have cva_2 : w12.cell? ⟨Ka, 2, none⟩ = some (.int .i64 BK.st) := cellOf kva 2 rfl
  have cva_3 : w12.cell? ⟨Ka, 3, none⟩ = some (.slice vaa BK.wn.length vca) := cellOf kva 3 rfl
  have cva_4 : w12.cell? ⟨Ka, 4, none⟩ = some (.slice uaa BK.ls.length uca) := cellOf kva 4 rfl
  have cva_5 : w12.cell? ⟨Ka, 5, none⟩ = some (.slice waa BK.sc.length wca) := cellOf kva 5 rfl
  have lva : Ka < w12.heap.size := ltOf kva
  clear kva
  have Z17 : Hid (LS w [(w.heap.size, w.heap.size + 1, fun V : World => V.heap[w.heap.size]? = some BX0), (w1.heap.size, w2.heap.size, fun V : World => OBkZ V w1.heap.size w2.heap.size (.slice (some ⟨ga0.1, 0, none⟩) bk0.wn.length bk0.wn.length) (.slice (some ⟨ga0.2.1, 0, none⟩) bk0.ls.length bk0.ls.length) (.slice (some ⟨ga0.2.2, 0, none⟩) bk0.sc.length bk0.sc.length) bk0), (w2.heap.size, Ka, fun V : World => PB V w2.heap.size (.slice vaa BK.wn.length vca) (.slice uaa BK.ls.length uca) (.slice waa BK.sc.length wca) (wvO rsa) BK rsa), (Ka, Ka + 1, fun V : World => V.heap[Ka]? = some (Obj.cells #[.int .i64 C, .int .i64 AT, .int .i64 BK.st, .slice vaa BK.wn.length vca, .slice uaa BK.ls.length uca, .slice waa BK.sc.length wca] 33)), (Va.heap.size, Kx0, fun V : World => True), (Kx0, Kx0 + 1, fun V : World => V.heap[Kx0]? = some (Obj.cells #[.int .i64 bk0.st, .slice (some ⟨x0.1, 0, none⟩) bk0.wn.length bk0.wn.length, .slice (some ⟨x0.2.1, 0, none⟩) bk0.ls.length bk0.ls.length, .slice (some ⟨x0.2.2, 0, none⟩) bk0.sc.length bk0.sc.length] 31)), (Vx0.heap.size, Kg, fun V : World => MkB V Vx0.heap.size (.slice vag BK.wn.length vcg) (.slice uag BK.ls.length ucg) (.slice wag BK.sc.length wcg) BK rsg), (Kg, Kg + 1, fun V : World => V.heap[Kg]? = some (Obj.cells #[.int .i64 C, .int .i64 AT, .int .i64 BK.st, .slice vag BK.wn.length vcg, .slice uag BK.ls.length ucg, .slice wag BK.sc.length wcg] 33)), (w10.heap.size, w11.heap.size, fun V : World => OBkZ V w10.heap.size w11.heap.size (.slice (some ⟨gh0.1, 0, none⟩) bk0.wn.length bk0.wn.length) (.slice (some ⟨gh0.2.1, 0, none⟩) bk0.ls.length bk0.ls.length) (.slice (some ⟨gh0.2.2, 0, none⟩) bk0.sc.length bk0.sc.length) bk0), (w11.heap.size, w12.heap.size, fun V : World => PB V w11.heap.size (.slice vah BK.wn.length vch) (.slice uah BK.ls.length uch) (.slice wah BK.sc.length wch) (wvO rsh) BK rsh), (w12.heap.size, w12.heap.size + 1, fun V : World => V.heap[w12.heap.size]? = some (Obj.cells #[.int .i64 C, .int .i64 AT, .int .i64 BK.st, .slice vah BK.wn.length vch, .slice uah BK.ls.length uch, .slice wah BK.sc.length wch] 33))] (w12.alloc (Obj.cells #[.int .i64 C, .int .i64 AT, .int .i64 BK.st, .slice vah BK.wn.length vch, .slice uah BK.ls.length uch, .slice wah BK.sc.length wch] 33))) := Z16.out.push (by (repeat' (first | (with_reducible exact Below.refl _ _) | (with_reducible assumption) | (with_reducible refine Below.setCell ?_ ?_ _) | (with_reducible refine Below.alloc ?_ ?_ _) | (with_reducible refine below_drewN ?_ _) | (with_reducible refine Below.drew ?_) | (with_reducible exact Nat.le_refl _) | omega | (simp; done) | (simp; omega)))) (Ow.block (heap_alloc_new _ _)) (Nat.le_refl _)
  clear Z16
  go_wp2_with (fail)
  obtain ⟨Vh, hV⟩ : ∃ V, V = w12.alloc (Obj.cells #[.int .i64 C, .int .i64 AT, .int .i64 BK.st, .slice vah BK.wn.length vch, .slice uah BK.ls.length uch, .slice wah BK.sc.length wch] 33) := ⟨_, rfl⟩
  rw [← hV] at Z17 ⊢
  obtain ⟨Kh, hK⟩ : ∃ K, K = w12.heap.size := ⟨_, rfl⟩
  rw [← hK] at Z17  ⊢
  clear hV hK
  clear cva_0 cva_1 cva_2 cva_3 cva_4 cva_5 lva
  refine (eqBookResult_to C AT BK.st HLN.out rfl (PB.rd (B := w11.heap.size) (show PB Vh w11.heap.size (.slice vah BK.wn.length vch) (.slice uah BK.ls.length uch) (.slice wah BK.sc.length wch) (wvO rsh) BK rsh from (Z17.out.get 9 rfl))) (PB.rd (B := w2.heap.size) (show PB Vh w2.heap.size (.slice vaa BK.wn.length vca) (.slice uaa BK.ls.length uca) (.slice waa BK.sc.length wca) (wvO rsa) BK rsa from (Z17.out.get 2 rfl)))).mono ?_
  rintro e w13 ⟨rfl, hb⟩
  have Z18 : Hid (LS w [(w.heap.size, w.heap.size + 1, fun V : World => V.heap[w.heap.size]? = some BX0), (w1.heap.size, w2.heap.size, fun V : World => OBkZ V w1.heap.size w2.heap.size (.slice (some ⟨ga0.1, 0, none⟩) bk0.wn.length bk0.wn.length) (.slice (some ⟨ga0.2.1, 0, none⟩) bk0.ls.length bk0.ls.length) (.slice (some ⟨ga0.2.2, 0, none⟩) bk0.sc.length bk0.sc.length) bk0), (w2.heap.size, Ka, fun V : World => PB V w2.heap.size (.slice vaa BK.wn.length vca) (.slice uaa BK.ls.length uca) (.slice waa BK.sc.length wca) (wvO rsa) BK rsa), (Ka, Ka + 1, fun V : World => V.heap[Ka]? = some (Obj.cells #[.int .i64 C, .int .i64 AT, .int .i64 BK.st, .slice vaa BK.wn.length vca, .slice uaa BK.ls.length uca, .slice waa BK.sc.length wca] 33)), (Va.heap.size, Kx0, fun V : World => True), (Kx0, Kx0 + 1, fun V : World => V.heap[Kx0]? = some (Obj.cells #[.int .i64 bk0.st, .slice (some ⟨x0.1, 0, none⟩) bk0.wn.length bk0.wn.length, .slice (some ⟨x0.2.1, 0, none⟩) bk0.ls.length bk0.ls.length, .slice (some ⟨x0.2.2, 0, none⟩) bk0.sc.length bk0.sc.length] 31)), (Vx0.heap.size, Kg, fun V : World => MkB V Vx0.heap.size (.slice vag BK.wn.length vcg) (.slice uag BK.ls.length ucg) (.slice wag BK.sc.length wcg) BK rsg), (Kg, Kg + 1, fun V : World => V.heap[Kg]? = some (Obj.cells #[.int .i64 C, .int .i64 AT, .int .i64 BK.st, .slice vag BK.wn.length vcg, .slice uag BK.ls.length ucg, .slice wag BK.sc.length wcg] 33)), (w10.heap.size, w11.heap.size, fun V : World => OBkZ V w10.heap.size w11.heap.size (.slice (some ⟨gh0.1, 0, none⟩) bk0.wn.length bk0.wn.length) (.slice (some ⟨gh0.2.1, 0, none⟩) bk0.ls.length bk0.ls.length) (.slice (some ⟨gh0.2.2, 0, none⟩) bk0.sc.length bk0.sc.length) bk0), (w11.heap.size, Kh, fun V : World => PB V w11.heap.size (.slice vah BK.wn.length vch) (.slice uah BK.ls.length uch) (.slice wah BK.sc.length wch) (wvO rsh) BK rsh), (Kh, Kh + 1, fun V : World => V.heap[Kh]? = some (Obj.cells #[.int .i64 C, .int .i64 AT, .int .i64 BK.st, .slice vah BK.wn.length vch, .slice uah BK.ls.length uch, .slice wah BK.sc.length wch] 33))] w13) := Z17.out.next hb
  clear Z17 hb
  have kvg := Z18.out.get 7 rfl
  have cvg_0 : w13.cell? ⟨Kg, 0, none⟩ = some (.int .i64 C) := cellOf kvg 0 rfl
  have cvg_1 : w13.cell? ⟨Kg, 1, none⟩ = some (.int .i64 AT) := cellOf kvg 1 rfl
  have cvg_2 : w13.cell? ⟨Kg, 2, none⟩ = some (.int .i64 BK.st) := cellOf kvg 2 rfl
  have cvg_3 : w13.cell? ⟨Kg, 3, none⟩ = some (.slice vag BK.wn.length vcg) := cellOf kvg 3 rfl
  have cvg_4 : w13.cell? ⟨Kg, 4, none⟩ = some (.slice uag BK.ls.length ucg) := cellOf kvg 4 rfl
  have cvg_5 : w13.cell? ⟨Kg, 5, none⟩ = some (.slice wag BK.sc.length wcg) := cellOf kvg 5 rfl
  have lvg : Kg < w13.heap.size := ltOf kvg
  clear kvg
  go_wp2_with (fail)
  clear cvg_0 cvg_1 cvg_2 cvg_3 cvg_4 cvg_5 lvg
  refine (heldBookResult_to C AT BK.st HLN.out (show MkB w13 Vx0.heap.size (.slice vag BK.wn.length vcg) (.slice uag BK.ls.length ucg) (.slice wag BK.sc.length wcg) BK rsg from Z18.out.get 6 rfl) ⟨_, _, _, _, _, _, rfl, rfl, rfl⟩).mono ?_
  rintro e w14 ⟨rfl, hb⟩
  have Z19 : Hid (LS w [(w.heap.size, w.heap.size + 1, fun V : World => V.heap[w.heap.size]? = some BX0), (w1.heap.size, w2.heap.size, fun V : World => OBkZ V w1.heap.size w2.heap.size (.slice (some ⟨ga0.1, 0, none⟩) bk0.wn.length bk0.wn.length) (.slice (some ⟨ga0.2.1, 0, none⟩) bk0.ls.length bk0.ls.length) (.slice (some ⟨ga0.2.2, 0, none⟩) bk0.sc.length bk0.sc.length) bk0), (w2.heap.size, Ka, fun V : World => PB V w2.heap.size (.slice vaa BK.wn.length vca) (.slice uaa BK.ls.length uca) (.slice waa BK.sc.length wca) (wvO rsa) BK rsa), (Ka, Ka + 1, fun V : World => V.heap[Ka]? = some (Obj.cells #[.int .i64 C, .int .i64 AT, .int .i64 BK.st, .slice vaa BK.wn.length vca, .slice uaa BK.ls.length uca, .slice waa BK.sc.length wca] 33)), (Va.heap.size, Kx0, fun V : World => True), (Kx0, Kx0 + 1, fun V : World => V.heap[Kx0]? = some (Obj.cells #[.int .i64 bk0.st, .slice (some ⟨x0.1, 0, none⟩) bk0.wn.length bk0.wn.length, .slice (some ⟨x0.2.1, 0, none⟩) bk0.ls.length bk0.ls.length, .slice (some ⟨x0.2.2, 0, none⟩) bk0.sc.length bk0.sc.length] 31)), (Vx0.heap.size, Kg, fun V : World => MkB V Vx0.heap.size (.slice vag BK.wn.length vcg) (.slice uag BK.ls.length ucg) (.slice wag BK.sc.length wcg) BK rsg), (Kg, Kg + 1, fun V : World => V.heap[Kg]? = some (Obj.cells #[.int .i64 C, .int .i64 AT, .int .i64 BK.st, .slice vag BK.wn.length vcg, .slice uag BK.ls.length ucg, .slice wag BK.sc.length wcg] 33)), (w10.heap.size, w11.heap.size, fun V : World => OBkZ V w10.heap.size w11.heap.size (.slice (some ⟨gh0.1, 0, none⟩) bk0.wn.length bk0.wn.length) (.slice (some ⟨gh0.2.1, 0, none⟩) bk0.ls.length bk0.ls.length) (.slice (some ⟨gh0.2.2, 0, none⟩) bk0.sc.length bk0.sc.length) bk0), (w11.heap.size, Kh, fun V : World => PB V w11.heap.size (.slice vah BK.wn.length vch) (.slice uah BK.ls.length uch) (.slice wah BK.sc.length wch) (wvO rsh) BK rsh), (Kh, Kh + 1, fun V : World => V.heap[Kh]? = some (Obj.cells #[.int .i64 C, .int .i64 AT, .int .i64 BK.st, .slice vah BK.wn.length vch, .slice uah BK.ls.length uch, .slice wah BK.sc.length wch] 33))] w14) := Z18.out.next hb
  clear Z18 hb
  rw [← HTT.out]
  go_wp2
  go_returns
  exact ⟨rfl, Z19.out.bl⟩

set_option maxRecDepth 100000 in
theorem hl21_lifted (os : Os) (started : os.Started) (H : Type) (enc : TypeId × Value → H) :
    ReturnsInHanded {} Try.checked os 6 .any (Rows.fnExactHoldLotSpec.pre6 enc Try.prog Try.f6 Rows.fnExactHoldLotRow.domain false) (Rows.fnExactHoldLotSpec.post enc Try.prog Try.f6 false true false false) := by
  refine returnsInHanded_of_change (C := Try.checked) own started (by kernel_rfl) Try.func6
    (ChangeSpec.witness6 (enc := enc) (C := Try.checked) false ⟨#[], #[.agg #[.int .i64 0, .slice none 0 0, .slice none 0 0, .slice none 0 0], .int .i64 0, .bool false], []⟩ 8 (by kernel_rfl) (by kernel_rfl) (by kernel_rfl) (by kernel_rfl)) ?_
  intro W base args ds gs before hval0 hW hcnd _
  have hval : ∀ (j : Nat) t v, Try.f6.params[j]? = some t → args[j]? = some v → Value.okWide Try.prog W .any base t v := hval0
  have hW' := hW
  obtain ⟨p, q, hA0, hV, rfl, hfz, hnd⟩ := hW
  have hA : DataW.TrodAll enc Try.prog W 0 (fun _ => true) true Try.f6.params.toList args.toList ds p := hA0
  rw [Try.params6] at hA hval
  obtain ⟨v0, vs0, d0, ds0, p0, q0, hargs, rfl, rfl, h0, r0⟩ := trodAll_cons hA
  obtain ⟨v1, vs1, d1, ds1, p1, q1, rfl, rfl, rfl, h1, r1⟩ := trodAll_cons r0
  obtain ⟨v2, vs2, d2, ds2, p2, q2, rfl, rfl, rfl, h2, r2⟩ := trodAll_cons r1
  obtain ⟨rfl, rfl, rfl⟩ := trodAll_nil r2
  obtain rfl : args = #[v0, v1, v2] := by cases args; simp_all
  obtain ⟨rfl, rfl⟩ := trodVars_none hV
  have k0 := h0
  have lt0 : ∀ x ∈ p0, x.block < W.heap.size := by obtain ⟨m, hm⟩ := k0; exact DataW.trod_lt m _ _ _ hm
  obtain ⟨sa0, sn0, sc0, ta0, tn0, tc0, xa0, xn0, xc0, bk0, rfl, ri0, sl0⟩ := book_open (hval 0 26 v0 rfl rfl) h0
  obtain ⟨n1, rfl, rfl, rfl, wn1⟩ := open_int Try.underlying2 (hval 1 2 v1 rfl rfl) h1
  obtain ⟨n2, rfl, rfl, rfl⟩ := open_bool Try.underlying4 (hval 2 4 v2 rfl rfl) h2
  clear hA0 hval0
  refine (law_hl21 bk0 sl0 ri0 n1 wn1 n2).mono fun e W' ⟨he, hg⟩ => ?_
  subst he
  exact ⟨_, rfl, _, _, _, [], _, [], hW', trodAll_mk1 (shut_bool Try.underlying4 _), (trodAll_cons_mk (Below.trod laidOut (by kernel_rfl) (of_decide_eq_true (by kernel_rfl)) k0 hg lt0) (trodAll_cons_mk (shut_int Try.underlying2 wn1) (trodAll_cons_mk (shut_bool Try.underlying4 n2) trodAll_mk0))), rfl, hg.frame _, fun h => by cases h⟩

theorem hl21_over : Rows.fnExactHoldLotRow.holds Try.pinned (OpenSpec.ofChange Rows.fnExactHoldLotSpec) :=
  OpenClaim.holds_of_wide 6 Try.f6 rfl rfl rfl rfl rfl rfl rfl ⟨rfl, rfl, rfl, rfl, rfl⟩ rfl rfl rfl rfl rfl (by kernel_rfl) Try.func6 (by kernel_rfl)
    (of_decide_eq_true (by kernel_rfl)) (by unfold Func.isWrapper; first | (rw [if_pos (by decide +kernel)]; kernel_rfl) | (rw [if_neg (by decide +kernel)]; exact ⟨rfl, rfl⟩))
    (fun os started H enc _ => hl21_lifted os started H enc)

theorem hl21_proved : Rows.FnExactHoldLotSaid :=
  hl21_over
#print axioms hl21_proved

end Go.Proofs.Ytcfjanignfbidaa
