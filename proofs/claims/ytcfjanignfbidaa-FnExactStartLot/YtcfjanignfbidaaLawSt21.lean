/- Proved here: 'the program's StartLot answers as the model's; it writes into no argument and keeps nothing of one; its answer owns its memory, behind another call too', without a condition. -/
import Derived.Test.YtcfjanignfbidaaSlJ
import Derived.Test.YtcfjanignfbidaaSlS
import Derived.Test.YtcfjanignfbidaaQmZ
import Derived.Test.YtcfjanignfbidaaOgS
import Derived.Test.YtcfjanignfbidaaLwS
import Derived.Test.YtcfjanignfbidaaRows
namespace Go.Proofs.Ytcfjanignfbidaa
open Go.ChangeShapes Go.WideShapes Go.ChangeAt Go.RowKit Go.Joins
set_option linter.unusedVariables false
set_option linter.unusedSimpArgs false

theorem own : ownKnob Try.prog.godebug = none := by kernel_rfl
theorem laidOut : laidOutB Try.prog = true := by kernel_rfl

set_option maxRecDepth 10000 in
set_option maxHeartbeats 25600000 in
theorem law_st21 {w : World}  (bk0 : Bk) {sa0 : Option Addr} {sn0 sc0 : Nat} {ta0 : Option Addr} {tn0 tc0 : Nat} {xa0 : Option Addr} {xn0 xc0 : Nat} (hm0 : okBk bk0) (hr0 : RdBk w (.slice sa0 sn0 sc0) (.slice ta0 tn0 tc0) (.slice xa0 xn0 xc0) bk0) (n1 : Int) (wn1 : (Lit.int .i64 n1).wf = true) {sa2 : Option Addr} {sn2 sc2 : Nat} (s2 : List Int) (hm2 : s2.length ≤ maxLen) (hr2 : RdI w (.slice sa2 sn2 sc2) s2) :
    Calls Try.prog 3 #[.agg #[.int .i64 bk0.st, .slice sa0 sn0 sc0, .slice ta0 tn0 tc0, .slice xa0 xn0 xc0], .int .i64 n1, .slice sa2 sn2 sc2] w fun e w' => e = .returned (.bool true) ∧ Below w.heap.size w w' := by
  have HM0 : Hid (okBk bk0) := hm0
  have HR0 : Hid (RdBk w (.slice sa0 sn0 sc0) (.slice ta0 tn0 tc0) (.slice xa0 xn0 xc0) bk0) := hr0
  have HM2 : Hid (sn2 ≤ maxLen) := by unfold Hid; rw [hr2.len]; exact hm2
  have HR2 : Hid (RdI w (.slice sa2 sn2 sc2) s2) := hr2
  have HE2 : Hid (sn2 = s2.length) := hr2.len
  clear hm0 hr0 hm2 hr2
  obtain ⟨BX0, hBX0⟩ : ∃ BX, BX = Obj.cells #[.int .i64 bk0.st, .slice sa0 sn0 sc0, .slice ta0 tn0 tc0, .slice xa0 xn0 xc0] 26 := ⟨_, rfl⟩
  have Z0 : Hid (LS w [(w.heap.size, w.heap.size + 1, fun V : World => V.heap[w.heap.size]? = some BX0)] (w.alloc (Obj.cells #[.int .i64 bk0.st, .slice sa0 sn0 sc0, .slice ta0 tn0 tc0, .slice xa0 xn0 xc0] 26))) := by
    have p0 := LS.start w
    have p1 := LS.push (V' := (w.alloc (Obj.cells #[.int .i64 bk0.st, .slice sa0 sn0 sc0, .slice ta0 tn0 tc0, .slice xa0 xn0 xc0] 26))) p0 (by (repeat' (first | (with_reducible exact Below.refl _ _) | (with_reducible assumption) | (with_reducible refine Below.setCell ?_ ?_ _) | (with_reducible refine Below.alloc ?_ ?_ _) | (with_reducible refine below_drewN ?_ _) | (with_reducible refine Below.drew ?_) | (with_reducible exact Nat.le_refl _) | omega | (simp; done) | (simp; omega)))) (Ow.block (k := w.heap.size) (o := BX0) (by rw [hBX0]; have := heap_alloc_new w (Obj.cells #[.int .i64 bk0.st, .slice sa0 sn0 sc0, .slice ta0 tn0 tc0, .slice xa0 xn0 xc0] 26); simpa using this)) (by simp)
    exact p1
  have TB0 : Hid (BX0 = Obj.cells #[.int .i64 bk0.st, .slice sa0 sn0 sc0, .slice ta0 tn0 tc0, .slice xa0 xn0 xc0] 26) := hBX0
  clear hBX0
  go_enter Try.func3, Try.ntmps3
  by_cases hf2 : (1048576 : Int) < (sn2 : Int)
  · go_wp2
    go_returns
    exact ⟨rfl, by (repeat' (first | (with_reducible exact Below.refl _ _) | (with_reducible assumption) | (with_reducible refine Below.setCell ?_ ?_ _) | (with_reducible refine Below.alloc ?_ ?_ _) | (with_reducible refine below_drewN ?_ _) | (with_reducible refine Below.drew ?_) | (with_reducible exact Nat.le_refl _) | omega | (simp; done) | (simp; omega)))⟩
  have HL2 : Hid (s2.length ≤ 1048576) := by unfold Hid; rw [← HE2.out]; omega
  go_wp2_with (fail)
  obtain ⟨W0, hW0⟩ : ∃ V, V = (w.alloc (Obj.cells #[.int .i64 bk0.st, .slice sa0 sn0 sc0, .slice ta0 tn0 tc0, .slice xa0 xn0 xc0] 26)) := ⟨_, rfl⟩
  rw [← hW0] at Z0 ⊢
  clear hW0
  refine (szLotBook_gen bk0.st sa0 sn0 sc0 ta0 tn0 tc0 xa0 xn0 xc0 1048576 bk0 _ (by omega) (by omega) HM0.out (HR0.out.below Z0.out.bl)).mono ?_
  rintro e w1 ⟨r0, rfl, hq0, hb⟩
  have Z1 : Hid (LS w [(w.heap.size, w.heap.size + 1, fun V : World => V.heap[w.heap.size]? = some BX0)] w1) := Z0.out.next hb
  clear Z0 hb
  rcases hq0 with hneg | ⟨u0, v0, tt0⟩
  · go_wp2
    go_returns
    exact ⟨rfl, Z1.out.bl⟩
  have hl0 : ¬ r0 < 0 := by omega
  have HL0 : Hid (smBk 1048576 bk0) := smBk.mono tt0 (by omega)
  obtain ⟨C, hC⟩ : ∃ X, X = stC bk0 n1 s2 := ⟨_, rfl⟩
  obtain ⟨AT, hAT⟩ : ∃ X, X = (0 : Int) := ⟨_, rfl⟩
  obtain ⟨BK, hBK⟩ : ∃ X, X = stB bk0 n1 s2 := ⟨_, rfl⟩
  have HLN : Hid (smBk 1048576 BK) := by unfold Hid; rw [hBK]; exact stB_sm HL0.out
  have hzb9 : 0 ≤ zB BK := (zB_bd HLN.out).1
  have HSP : Hid (∀ (W : World) (g0 : Nat × Nat × Nat) (g2 : Nat), (RdX W (.slice (some ⟨g0.1, 0, none⟩) bk0.wn.length bk0.wn.length) (.slice (some ⟨g0.2.1, 0, none⟩) bk0.ls.length bk0.ls.length) (.slice (some ⟨g0.2.2, 0, none⟩) bk0.sc.length bk0.sc.length) bk0) → (RdI W (.slice (some ⟨g2, 0, none⟩) s2.length s2.length) s2) → Calls Try.prog 10 #[.agg #[.int .i64 bk0.st, .slice (some ⟨g0.1, 0, none⟩) bk0.wn.length bk0.wn.length, .slice (some ⟨g0.2.1, 0, none⟩) bk0.ls.length bk0.ls.length, .slice (some ⟨g0.2.2, 0, none⟩) bk0.sc.length bk0.sc.length], .int .i64 n1, .slice (some ⟨g2, 0, none⟩) s2.length s2.length] W fun e w' => ∃ (vq : Value × Value × Value) (vr : List Lr), e = .returned (.agg #[.int .i64 C, .int .i64 AT, .int .i64 BK.st, vq.1, vq.2.1, vq.2.2]) ∧ PB w' W.heap.size vq.1 vq.2.1 vq.2.2 (wvO vr) BK vr ∧ Below W.heap.size W w') := fun W g0 g2 h0 h2 => by
    rw [hBK, hAT, hC]
    exact spec_sl n1 rfl HL0.out h0 (fun n c e => by cases e) h2 HL2.out
  have HIM : Hid (∀ (W : World) (g0 : Nat × Nat × Nat) (g2 : Nat), (RdX W (.slice (some ⟨g0.1, 0, none⟩) bk0.wn.length bk0.wn.length) (.slice (some ⟨g0.2.1, 0, none⟩) bk0.ls.length bk0.ls.length) (.slice (some ⟨g0.2.2, 0, none⟩) bk0.sc.length bk0.sc.length) bk0) → (RdI W (.slice (some ⟨g2, 0, none⟩) s2.length s2.length) s2) → Calls Try.prog 13 #[.agg #[.int .i64 bk0.st, .slice (some ⟨g0.1, 0, none⟩) bk0.wn.length bk0.wn.length, .slice (some ⟨g0.2.1, 0, none⟩) bk0.ls.length bk0.ls.length, .slice (some ⟨g0.2.2, 0, none⟩) bk0.sc.length bk0.sc.length], .int .i64 n1, .slice (some ⟨g2, 0, none⟩) s2.length s2.length] W fun e w' => ∃ (vq : Value × Value × Value) (vr : List Lr), e = .returned (.agg #[.int .i64 C, .int .i64 AT, .int .i64 BK.st, vq.1, vq.2.1, vq.2.2]) ∧ PB w' W.heap.size vq.1 vq.2.1 vq.2.2 (wvO vr) BK vr ∧ Below W.heap.size W w') := fun W g0 g2 h0 h2 => by
    rw [hBK, hAT, hC]
    exact impl_sl n1 rfl wn1 HL0.out h0 (fun n c e => by cases e) h2 HL2.out
  clear hC hAT hBK u0 v0 tt0
  have kp0 := Z1.out.get 0 rfl
  rw [TB0.out] at kp0
  have cp0_0 : w1.cell? ⟨w.heap.size, 0, none⟩ = some (.int .i64 bk0.st) := cellOf kp0 0 rfl
  have cp0_1 : w1.cell? ⟨w.heap.size, 1, none⟩ = some (.slice sa0 sn0 sc0) := cellOf kp0 1 rfl
  have cp0_2 : w1.cell? ⟨w.heap.size, 2, none⟩ = some (.slice ta0 tn0 tc0) := cellOf kp0 2 rfl
  have cp0_3 : w1.cell? ⟨w.heap.size, 3, none⟩ = some (.slice xa0 xn0 xc0) := cellOf kp0 3 rfl
  have lp0 : w.heap.size < w1.heap.size := ltOf kp0
  clear kp0
  go_wp2_with (fail)
  clear cp0_0 cp0_1 cp0_2 cp0_3 lp0
  refine (toLotBook_any bk0.st HL0.out (HR0.out.below Z1.out.bl)).mono ?_
  rintro e w2 ⟨ga0, rfl, ho, hb⟩
  have Z2 : Hid (LS w [(w.heap.size, w.heap.size + 1, fun V : World => V.heap[w.heap.size]? = some BX0), (w1.heap.size, w2.heap.size, fun V : World => OBkZ V w1.heap.size w2.heap.size (.slice (some ⟨ga0.1, 0, none⟩) bk0.wn.length bk0.wn.length) (.slice (some ⟨ga0.2.1, 0, none⟩) bk0.ls.length bk0.ls.length) (.slice (some ⟨ga0.2.2, 0, none⟩) bk0.sc.length bk0.sc.length) bk0)] w2) := Z1.out.push hb (Ow.bkZ ho hb) (Nat.le_refl _)
  clear Z1 hb ho
  go_wp2_with (fail)
  refine (toInt64S_any HL2.out (HR2.out.below Z2.out.bl)).mono ?_
  rintro e w3 ⟨ga2, rfl, ho, hb⟩
  have Z3 : Hid (LS w [(w.heap.size, w.heap.size + 1, fun V : World => V.heap[w.heap.size]? = some BX0), (w1.heap.size, w2.heap.size, fun V : World => OBkZ V w1.heap.size w2.heap.size (.slice (some ⟨ga0.1, 0, none⟩) bk0.wn.length bk0.wn.length) (.slice (some ⟨ga0.2.1, 0, none⟩) bk0.ls.length bk0.ls.length) (.slice (some ⟨ga0.2.2, 0, none⟩) bk0.sc.length bk0.sc.length) bk0), (w2.heap.size, w3.heap.size, fun V : World => V.ownsRow w2.heap.size 2 1 (.slice (some ⟨ga2, 0, none⟩) s2.length s2.length) s2.length (s2.map (Value.int .i64)))] w3) := Z2.out.push hb (Ow.rowAll ho hb) (Nat.le_refl _)
  clear Z2 hb ho
  go_wp2_with (fail)
  refine (HSP.out w3 ga0 ga2 (OBkZ.rx (B := w1.heap.size) (show OBkZ w3 w1.heap.size w2.heap.size (.slice (some ⟨ga0.1, 0, none⟩) bk0.wn.length bk0.wn.length) (.slice (some ⟨ga0.2.1, 0, none⟩) bk0.ls.length bk0.ls.length) (.slice (some ⟨ga0.2.2, 0, none⟩) bk0.sc.length bk0.sc.length) bk0 from Z3.out.get 1 rfl)) (IS.rg (B := w2.heap.size) (show w3.ownsRow w2.heap.size 2 1 (.slice (some ⟨ga2, 0, none⟩) s2.length s2.length) s2.length (s2.map (Value.int .i64)) from Z3.out.get 2 rfl))).mono ?_
  rintro e w4 ⟨vq, vr, rfl, hrq, hb⟩
  obtain ⟨vq1, vq2, vq3⟩ := vq
  obtain ⟨vaa, vca, he1⟩ := OG.fm hrq.wn
  obtain ⟨uaa, uca, he2⟩ := OG.fm hrq.row
  obtain ⟨waa, wca, he3⟩ := hrq.sc.form
  rw [hrq.len] at he2
  simp only at he1 he2 he3 hrq
  subst he1 he2 he3
  obtain ⟨rsa, rfl⟩ : ∃ x, x = vr := ⟨_, rfl⟩
  have Z4 : Hid (LS w [(w.heap.size, w.heap.size + 1, fun V : World => V.heap[w.heap.size]? = some BX0), (w1.heap.size, w2.heap.size, fun V : World => OBkZ V w1.heap.size w2.heap.size (.slice (some ⟨ga0.1, 0, none⟩) bk0.wn.length bk0.wn.length) (.slice (some ⟨ga0.2.1, 0, none⟩) bk0.ls.length bk0.ls.length) (.slice (some ⟨ga0.2.2, 0, none⟩) bk0.sc.length bk0.sc.length) bk0), (w2.heap.size, w3.heap.size, fun V : World => V.ownsRow w2.heap.size 2 1 (.slice (some ⟨ga2, 0, none⟩) s2.length s2.length) s2.length (s2.map (Value.int .i64))), (w3.heap.size, w4.heap.size, fun V : World => PB V w3.heap.size (.slice vaa BK.wn.length vca) (.slice uaa BK.ls.length uca) (.slice waa BK.sc.length wca) (wvO rsa) BK rsa)] w4) := Z3.out.push hb (Ow.pbAll hrq hb) (Nat.le_refl _)
  clear Z3 hb hrq
  have kp0 := Z4.out.get 0 rfl
  rw [TB0.out] at kp0
  have cp0_0 : w4.cell? ⟨w.heap.size, 0, none⟩ = some (.int .i64 bk0.st) := cellOf kp0 0 rfl
  have cp0_1 : w4.cell? ⟨w.heap.size, 1, none⟩ = some (.slice sa0 sn0 sc0) := cellOf kp0 1 rfl
  have cp0_2 : w4.cell? ⟨w.heap.size, 2, none⟩ = some (.slice ta0 tn0 tc0) := cellOf kp0 2 rfl
  have cp0_3 : w4.cell? ⟨w.heap.size, 3, none⟩ = some (.slice xa0 xn0 xc0) := cellOf kp0 3 rfl
  have lp0 : w.heap.size < w4.heap.size := ltOf kp0
  clear kp0
  have Z5 : Hid (LS w [(w.heap.size, w.heap.size + 1, fun V : World => V.heap[w.heap.size]? = some BX0), (w1.heap.size, w2.heap.size, fun V : World => OBkZ V w1.heap.size w2.heap.size (.slice (some ⟨ga0.1, 0, none⟩) bk0.wn.length bk0.wn.length) (.slice (some ⟨ga0.2.1, 0, none⟩) bk0.ls.length bk0.ls.length) (.slice (some ⟨ga0.2.2, 0, none⟩) bk0.sc.length bk0.sc.length) bk0), (w2.heap.size, w3.heap.size, fun V : World => V.ownsRow w2.heap.size 2 1 (.slice (some ⟨ga2, 0, none⟩) s2.length s2.length) s2.length (s2.map (Value.int .i64))), (w3.heap.size, w4.heap.size, fun V : World => PB V w3.heap.size (.slice vaa BK.wn.length vca) (.slice uaa BK.ls.length uca) (.slice waa BK.sc.length wca) (wvO rsa) BK rsa), (w4.heap.size, w4.heap.size + 1, fun V : World => V.heap[w4.heap.size]? = some (Obj.cells #[.int .i64 C, .int .i64 AT, .int .i64 BK.st, .slice vaa BK.wn.length vca, .slice uaa BK.ls.length uca, .slice waa BK.sc.length wca] 33))] (w4.alloc (Obj.cells #[.int .i64 C, .int .i64 AT, .int .i64 BK.st, .slice vaa BK.wn.length vca, .slice uaa BK.ls.length uca, .slice waa BK.sc.length wca] 33))) := Z4.out.push (by (repeat' (first | (with_reducible exact Below.refl _ _) | (with_reducible assumption) | (with_reducible refine Below.setCell ?_ ?_ _) | (with_reducible refine Below.alloc ?_ ?_ _) | (with_reducible refine below_drewN ?_ _) | (with_reducible refine Below.drew ?_) | (with_reducible exact Nat.le_refl _) | omega | (simp; done) | (simp; omega)))) (Ow.block (heap_alloc_new _ _)) (Nat.le_refl _)
  clear Z4
  go_wp2_with (fail)
  obtain ⟨Va, hV⟩ : ∃ V, V = w4.alloc (Obj.cells #[.int .i64 C, .int .i64 AT, .int .i64 BK.st, .slice vaa BK.wn.length vca, .slice uaa BK.ls.length uca, .slice waa BK.sc.length wca] 33) := ⟨_, rfl⟩
  rw [← hV] at Z5 ⊢
  obtain ⟨Ka, hK⟩ : ∃ K, K = w4.heap.size := ⟨_, rfl⟩
  rw [← hK] at Z5  ⊢
  clear hV hK
  clear cp0_0 cp0_1 cp0_2 cp0_3 lp0
  refine (toLotBook_any bk0.st HL0.out (HR0.out.below Z5.out.bl)).mono ?_
  rintro e w5 ⟨x0, rfl, ho, hb⟩
  have HX0 : Hid (0 ≤ w5.heap.size) := Nat.zero_le _
  have Z6 : Hid (LS w [(w.heap.size, w.heap.size + 1, fun V : World => V.heap[w.heap.size]? = some BX0), (w1.heap.size, w2.heap.size, fun V : World => OBkZ V w1.heap.size w2.heap.size (.slice (some ⟨ga0.1, 0, none⟩) bk0.wn.length bk0.wn.length) (.slice (some ⟨ga0.2.1, 0, none⟩) bk0.ls.length bk0.ls.length) (.slice (some ⟨ga0.2.2, 0, none⟩) bk0.sc.length bk0.sc.length) bk0), (w2.heap.size, w3.heap.size, fun V : World => V.ownsRow w2.heap.size 2 1 (.slice (some ⟨ga2, 0, none⟩) s2.length s2.length) s2.length (s2.map (Value.int .i64))), (w3.heap.size, Ka, fun V : World => PB V w3.heap.size (.slice vaa BK.wn.length vca) (.slice uaa BK.ls.length uca) (.slice waa BK.sc.length wca) (wvO rsa) BK rsa), (Ka, Ka + 1, fun V : World => V.heap[Ka]? = some (Obj.cells #[.int .i64 C, .int .i64 AT, .int .i64 BK.st, .slice vaa BK.wn.length vca, .slice uaa BK.ls.length uca, .slice waa BK.sc.length wca] 33)), (Va.heap.size, w5.heap.size, fun V : World => OBkZ V Va.heap.size w5.heap.size (.slice (some ⟨x0.1, 0, none⟩) bk0.wn.length bk0.wn.length) (.slice (some ⟨x0.2.1, 0, none⟩) bk0.ls.length bk0.ls.length) (.slice (some ⟨x0.2.2, 0, none⟩) bk0.sc.length bk0.sc.length) bk0)] w5) := Z5.out.push hb (Ow.bkZ ho hb) (Nat.le_refl _)
  clear Z5 hb ho
  have Z7 : Hid (LS w [(w.heap.size, w.heap.size + 1, fun V : World => V.heap[w.heap.size]? = some BX0), (w1.heap.size, w2.heap.size, fun V : World => OBkZ V w1.heap.size w2.heap.size (.slice (some ⟨ga0.1, 0, none⟩) bk0.wn.length bk0.wn.length) (.slice (some ⟨ga0.2.1, 0, none⟩) bk0.ls.length bk0.ls.length) (.slice (some ⟨ga0.2.2, 0, none⟩) bk0.sc.length bk0.sc.length) bk0), (w2.heap.size, w3.heap.size, fun V : World => V.ownsRow w2.heap.size 2 1 (.slice (some ⟨ga2, 0, none⟩) s2.length s2.length) s2.length (s2.map (Value.int .i64))), (w3.heap.size, Ka, fun V : World => PB V w3.heap.size (.slice vaa BK.wn.length vca) (.slice uaa BK.ls.length uca) (.slice waa BK.sc.length wca) (wvO rsa) BK rsa), (Ka, Ka + 1, fun V : World => V.heap[Ka]? = some (Obj.cells #[.int .i64 C, .int .i64 AT, .int .i64 BK.st, .slice vaa BK.wn.length vca, .slice uaa BK.ls.length uca, .slice waa BK.sc.length wca] 33)), (Va.heap.size, w5.heap.size, fun V : World => OBkZ V Va.heap.size w5.heap.size (.slice (some ⟨x0.1, 0, none⟩) bk0.wn.length bk0.wn.length) (.slice (some ⟨x0.2.1, 0, none⟩) bk0.ls.length bk0.ls.length) (.slice (some ⟨x0.2.2, 0, none⟩) bk0.sc.length bk0.sc.length) bk0), (w5.heap.size, w5.heap.size + 1, fun V : World => V.heap[w5.heap.size]? = some (Obj.cells #[.int .i64 bk0.st, .slice (some ⟨x0.1, 0, none⟩) bk0.wn.length bk0.wn.length, .slice (some ⟨x0.2.1, 0, none⟩) bk0.ls.length bk0.ls.length, .slice (some ⟨x0.2.2, 0, none⟩) bk0.sc.length bk0.sc.length] 31))] (w5.alloc (Obj.cells #[.int .i64 bk0.st, .slice (some ⟨x0.1, 0, none⟩) bk0.wn.length bk0.wn.length, .slice (some ⟨x0.2.1, 0, none⟩) bk0.ls.length bk0.ls.length, .slice (some ⟨x0.2.2, 0, none⟩) bk0.sc.length bk0.sc.length] 31))) := Z6.out.push (by (repeat' (first | (with_reducible exact Below.refl _ _) | (with_reducible assumption) | (with_reducible refine Below.setCell ?_ ?_ _) | (with_reducible refine Below.alloc ?_ ?_ _) | (with_reducible refine below_drewN ?_ _) | (with_reducible refine Below.drew ?_) | (with_reducible exact Nat.le_refl _) | omega | (simp; done) | (simp; omega)))) (Ow.block (heap_alloc_new _ _)) (Nat.le_refl _)
  clear Z6
  go_wp2_with (fail)
  obtain ⟨Vx0, hV⟩ : ∃ V, V = w5.alloc (Obj.cells #[.int .i64 bk0.st, .slice (some ⟨x0.1, 0, none⟩) bk0.wn.length bk0.wn.length, .slice (some ⟨x0.2.1, 0, none⟩) bk0.ls.length bk0.ls.length, .slice (some ⟨x0.2.2, 0, none⟩) bk0.sc.length bk0.sc.length] 31) := ⟨_, rfl⟩
  rw [← hV] at Z7 ⊢
  obtain ⟨Kx0, hK⟩ : ∃ K, K = w5.heap.size := ⟨_, rfl⟩
  rw [← hK] at Z7 HX0 ⊢
  clear hV hK
  refine (toInt64S_any HL2.out (HR2.out.below Z7.out.bl)).mono ?_
  rintro e w6 ⟨x2, rfl, ho, hb⟩
  have HX2 : Hid (∀ g, (.slice (some ⟨x2, 0, none⟩) s2.length s2.length : Value).ownBlock = some g → g < w6.heap.size) := fun g hg => (World.ownsRow.lt ho g hg).2
  have Z8 : Hid (LS w [(w.heap.size, w.heap.size + 1, fun V : World => V.heap[w.heap.size]? = some BX0), (w1.heap.size, w2.heap.size, fun V : World => OBkZ V w1.heap.size w2.heap.size (.slice (some ⟨ga0.1, 0, none⟩) bk0.wn.length bk0.wn.length) (.slice (some ⟨ga0.2.1, 0, none⟩) bk0.ls.length bk0.ls.length) (.slice (some ⟨ga0.2.2, 0, none⟩) bk0.sc.length bk0.sc.length) bk0), (w2.heap.size, w3.heap.size, fun V : World => V.ownsRow w2.heap.size 2 1 (.slice (some ⟨ga2, 0, none⟩) s2.length s2.length) s2.length (s2.map (Value.int .i64))), (w3.heap.size, Ka, fun V : World => PB V w3.heap.size (.slice vaa BK.wn.length vca) (.slice uaa BK.ls.length uca) (.slice waa BK.sc.length wca) (wvO rsa) BK rsa), (Ka, Ka + 1, fun V : World => V.heap[Ka]? = some (Obj.cells #[.int .i64 C, .int .i64 AT, .int .i64 BK.st, .slice vaa BK.wn.length vca, .slice uaa BK.ls.length uca, .slice waa BK.sc.length wca] 33)), (Va.heap.size, Kx0, fun V : World => OBkZ V Va.heap.size Kx0 (.slice (some ⟨x0.1, 0, none⟩) bk0.wn.length bk0.wn.length) (.slice (some ⟨x0.2.1, 0, none⟩) bk0.ls.length bk0.ls.length) (.slice (some ⟨x0.2.2, 0, none⟩) bk0.sc.length bk0.sc.length) bk0), (Kx0, Kx0 + 1, fun V : World => V.heap[Kx0]? = some (Obj.cells #[.int .i64 bk0.st, .slice (some ⟨x0.1, 0, none⟩) bk0.wn.length bk0.wn.length, .slice (some ⟨x0.2.1, 0, none⟩) bk0.ls.length bk0.ls.length, .slice (some ⟨x0.2.2, 0, none⟩) bk0.sc.length bk0.sc.length] 31)), (Vx0.heap.size, w6.heap.size, fun V : World => V.ownsRow Vx0.heap.size 2 1 (.slice (some ⟨x2, 0, none⟩) s2.length s2.length) s2.length (s2.map (Value.int .i64)))] w6) := Z7.out.push hb (Ow.rowAll ho hb) (Nat.le_refl _)
  clear Z7 hb ho
  have kvx0 := Z8.out.get 6 rfl
  have cvx0_0 : w6.cell? ⟨Kx0, 0, none⟩ = some (.int .i64 bk0.st) := cellOf kvx0 0 rfl
  have cvx0_1 : w6.cell? ⟨Kx0, 1, none⟩ = some (.slice (some ⟨x0.1, 0, none⟩) bk0.wn.length bk0.wn.length) := cellOf kvx0 1 rfl
  have cvx0_2 : w6.cell? ⟨Kx0, 2, none⟩ = some (.slice (some ⟨x0.2.1, 0, none⟩) bk0.ls.length bk0.ls.length) := cellOf kvx0 2 rfl
  have cvx0_3 : w6.cell? ⟨Kx0, 3, none⟩ = some (.slice (some ⟨x0.2.2, 0, none⟩) bk0.sc.length bk0.sc.length) := cellOf kvx0 3 rfl
  have lvx0 : Kx0 < w6.heap.size := ltOf kvx0
  clear kvx0
  go_wp2_with (fail)
  clear cvx0_0 cvx0_1 cvx0_2 cvx0_3 lvx0
  refine (HIM.out w6 x0 x2 (OBkZ.rx (B := Va.heap.size) (show OBkZ w6 Va.heap.size Kx0 (.slice (some ⟨x0.1, 0, none⟩) bk0.wn.length bk0.wn.length) (.slice (some ⟨x0.2.1, 0, none⟩) bk0.ls.length bk0.ls.length) (.slice (some ⟨x0.2.2, 0, none⟩) bk0.sc.length bk0.sc.length) bk0 from Z8.out.get 5 rfl)) (IS.rg (B := Vx0.heap.size) (show w6.ownsRow Vx0.heap.size 2 1 (.slice (some ⟨x2, 0, none⟩) s2.length s2.length) s2.length (s2.map (Value.int .i64)) from Z8.out.get 7 rfl))).mono ?_
  rintro e w7 ⟨vq, vr, rfl, hrq, hb⟩
  obtain ⟨vq1, vq2, vq3⟩ := vq
  obtain ⟨vag, vcg, he1⟩ := OG.fm hrq.wn
  obtain ⟨uag, ucg, he2⟩ := OG.fm hrq.row
  obtain ⟨wag, wcg, he3⟩ := hrq.sc.form
  rw [hrq.len] at he2
  simp only at he1 he2 he3 hrq
  subst he1 he2 he3
  obtain ⟨rsg, rfl⟩ : ∃ x, x = vr := ⟨_, rfl⟩
  have HXg : Hid (∀ q, PBk (.slice vag BK.wn.length vcg) (.slice uag BK.ls.length ucg) (.slice wag BK.sc.length wcg) (wvO rsg) rsg q → q < w7.heap.size) := hrq.ltq
  have Z9 : Hid (LS w [(w.heap.size, w.heap.size + 1, fun V : World => V.heap[w.heap.size]? = some BX0), (w1.heap.size, w2.heap.size, fun V : World => OBkZ V w1.heap.size w2.heap.size (.slice (some ⟨ga0.1, 0, none⟩) bk0.wn.length bk0.wn.length) (.slice (some ⟨ga0.2.1, 0, none⟩) bk0.ls.length bk0.ls.length) (.slice (some ⟨ga0.2.2, 0, none⟩) bk0.sc.length bk0.sc.length) bk0), (w2.heap.size, w3.heap.size, fun V : World => V.ownsRow w2.heap.size 2 1 (.slice (some ⟨ga2, 0, none⟩) s2.length s2.length) s2.length (s2.map (Value.int .i64))), (w3.heap.size, Ka, fun V : World => PB V w3.heap.size (.slice vaa BK.wn.length vca) (.slice uaa BK.ls.length uca) (.slice waa BK.sc.length wca) (wvO rsa) BK rsa), (Ka, Ka + 1, fun V : World => V.heap[Ka]? = some (Obj.cells #[.int .i64 C, .int .i64 AT, .int .i64 BK.st, .slice vaa BK.wn.length vca, .slice uaa BK.ls.length uca, .slice waa BK.sc.length wca] 33)), (Va.heap.size, Kx0, fun V : World => OBkZ V Va.heap.size Kx0 (.slice (some ⟨x0.1, 0, none⟩) bk0.wn.length bk0.wn.length) (.slice (some ⟨x0.2.1, 0, none⟩) bk0.ls.length bk0.ls.length) (.slice (some ⟨x0.2.2, 0, none⟩) bk0.sc.length bk0.sc.length) bk0), (Kx0, Kx0 + 1, fun V : World => V.heap[Kx0]? = some (Obj.cells #[.int .i64 bk0.st, .slice (some ⟨x0.1, 0, none⟩) bk0.wn.length bk0.wn.length, .slice (some ⟨x0.2.1, 0, none⟩) bk0.ls.length bk0.ls.length, .slice (some ⟨x0.2.2, 0, none⟩) bk0.sc.length bk0.sc.length] 31)), (Vx0.heap.size, w6.heap.size, fun V : World => V.ownsRow Vx0.heap.size 2 1 (.slice (some ⟨x2, 0, none⟩) s2.length s2.length) s2.length (s2.map (Value.int .i64))), (w6.heap.size, w7.heap.size, fun V : World => PB V w6.heap.size (.slice vag BK.wn.length vcg) (.slice uag BK.ls.length ucg) (.slice wag BK.sc.length wcg) (wvO rsg) BK rsg)] w7) := Z8.out.push hb (Ow.pbAll hrq hb) (Nat.le_refl _)
  clear Z8 hb hrq
  have kva := Z9.out.get 4 rfl
  have cva_0 : w7.cell? ⟨Ka, 0, none⟩ = some (.int .i64 C) := cellOf kva 0 rfl
  have cva_1 : w7.cell? ⟨Ka, 1, none⟩ = some (.int .i64 AT) := cellOf kva 1 rfl
  have cva_2 : w7.cell? ⟨Ka, 2, none⟩ = some (.int .i64 BK.st) := cellOf kva 2 rfl
  have cva_3 : w7.cell? ⟨Ka, 3, none⟩ = some (.slice vaa BK.wn.length vca) := cellOf kva 3 rfl
  have cva_4 : w7.cell? ⟨Ka, 4, none⟩ = some (.slice uaa BK.ls.length uca) := cellOf kva 4 rfl
  have cva_5 : w7.cell? ⟨Ka, 5, none⟩ = some (.slice waa BK.sc.length wca) := cellOf kva 5 rfl
  have lva : Ka < w7.heap.size := ltOf kva
  clear kva
  have Z10 : Hid (LS w [(w.heap.size, w.heap.size + 1, fun V : World => V.heap[w.heap.size]? = some BX0), (w1.heap.size, w2.heap.size, fun V : World => OBkZ V w1.heap.size w2.heap.size (.slice (some ⟨ga0.1, 0, none⟩) bk0.wn.length bk0.wn.length) (.slice (some ⟨ga0.2.1, 0, none⟩) bk0.ls.length bk0.ls.length) (.slice (some ⟨ga0.2.2, 0, none⟩) bk0.sc.length bk0.sc.length) bk0), (w2.heap.size, w3.heap.size, fun V : World => V.ownsRow w2.heap.size 2 1 (.slice (some ⟨ga2, 0, none⟩) s2.length s2.length) s2.length (s2.map (Value.int .i64))), (w3.heap.size, Ka, fun V : World => PB V w3.heap.size (.slice vaa BK.wn.length vca) (.slice uaa BK.ls.length uca) (.slice waa BK.sc.length wca) (wvO rsa) BK rsa), (Ka, Ka + 1, fun V : World => V.heap[Ka]? = some (Obj.cells #[.int .i64 C, .int .i64 AT, .int .i64 BK.st, .slice vaa BK.wn.length vca, .slice uaa BK.ls.length uca, .slice waa BK.sc.length wca] 33)), (Va.heap.size, Kx0, fun V : World => OBkZ V Va.heap.size Kx0 (.slice (some ⟨x0.1, 0, none⟩) bk0.wn.length bk0.wn.length) (.slice (some ⟨x0.2.1, 0, none⟩) bk0.ls.length bk0.ls.length) (.slice (some ⟨x0.2.2, 0, none⟩) bk0.sc.length bk0.sc.length) bk0), (Kx0, Kx0 + 1, fun V : World => V.heap[Kx0]? = some (Obj.cells #[.int .i64 bk0.st, .slice (some ⟨x0.1, 0, none⟩) bk0.wn.length bk0.wn.length, .slice (some ⟨x0.2.1, 0, none⟩) bk0.ls.length bk0.ls.length, .slice (some ⟨x0.2.2, 0, none⟩) bk0.sc.length bk0.sc.length] 31)), (Vx0.heap.size, w6.heap.size, fun V : World => V.ownsRow Vx0.heap.size 2 1 (.slice (some ⟨x2, 0, none⟩) s2.length s2.length) s2.length (s2.map (Value.int .i64))), (w6.heap.size, w7.heap.size, fun V : World => PB V w6.heap.size (.slice vag BK.wn.length vcg) (.slice uag BK.ls.length ucg) (.slice wag BK.sc.length wcg) (wvO rsg) BK rsg), (w7.heap.size, w7.heap.size + 1, fun V : World => V.heap[w7.heap.size]? = some (Obj.cells #[.int .i64 C, .int .i64 AT, .int .i64 BK.st, .slice vag BK.wn.length vcg, .slice uag BK.ls.length ucg, .slice wag BK.sc.length wcg] 33))] (w7.alloc (Obj.cells #[.int .i64 C, .int .i64 AT, .int .i64 BK.st, .slice vag BK.wn.length vcg, .slice uag BK.ls.length ucg, .slice wag BK.sc.length wcg] 33))) := Z9.out.push (by (repeat' (first | (with_reducible exact Below.refl _ _) | (with_reducible assumption) | (with_reducible refine Below.setCell ?_ ?_ _) | (with_reducible refine Below.alloc ?_ ?_ _) | (with_reducible refine below_drewN ?_ _) | (with_reducible refine Below.drew ?_) | (with_reducible exact Nat.le_refl _) | omega | (simp; done) | (simp; omega)))) (Ow.block (heap_alloc_new _ _)) (Nat.le_refl _)
  clear Z9
  go_wp2_with (fail)
  obtain ⟨Vg, hV⟩ : ∃ V, V = w7.alloc (Obj.cells #[.int .i64 C, .int .i64 AT, .int .i64 BK.st, .slice vag BK.wn.length vcg, .slice uag BK.ls.length ucg, .slice wag BK.sc.length wcg] 33) := ⟨_, rfl⟩
  rw [← hV] at Z10 ⊢
  obtain ⟨Kg, hK⟩ : ∃ K, K = w7.heap.size := ⟨_, rfl⟩
  rw [← hK] at Z10 HXg ⊢
  clear hV hK
  clear cva_0 cva_1 cva_2 cva_3 cva_4 cva_5 lva
  refine (eqBookResult_to C AT BK.st HLN.out rfl (PB.rd (B := w6.heap.size) (show PB Vg w6.heap.size (.slice vag BK.wn.length vcg) (.slice uag BK.ls.length ucg) (.slice wag BK.sc.length wcg) (wvO rsg) BK rsg from (Z10.out.get 8 rfl))) (PB.rd (B := w3.heap.size) (show PB Vg w3.heap.size (.slice vaa BK.wn.length vca) (.slice uaa BK.ls.length uca) (.slice waa BK.sc.length wca) (wvO rsa) BK rsa from (Z10.out.get 3 rfl)))).mono ?_
  rintro e w8 ⟨rfl, hb⟩
  have Z11 : Hid (LS w [(w.heap.size, w.heap.size + 1, fun V : World => V.heap[w.heap.size]? = some BX0), (w1.heap.size, w2.heap.size, fun V : World => OBkZ V w1.heap.size w2.heap.size (.slice (some ⟨ga0.1, 0, none⟩) bk0.wn.length bk0.wn.length) (.slice (some ⟨ga0.2.1, 0, none⟩) bk0.ls.length bk0.ls.length) (.slice (some ⟨ga0.2.2, 0, none⟩) bk0.sc.length bk0.sc.length) bk0), (w2.heap.size, w3.heap.size, fun V : World => V.ownsRow w2.heap.size 2 1 (.slice (some ⟨ga2, 0, none⟩) s2.length s2.length) s2.length (s2.map (Value.int .i64))), (w3.heap.size, Ka, fun V : World => PB V w3.heap.size (.slice vaa BK.wn.length vca) (.slice uaa BK.ls.length uca) (.slice waa BK.sc.length wca) (wvO rsa) BK rsa), (Ka, Ka + 1, fun V : World => V.heap[Ka]? = some (Obj.cells #[.int .i64 C, .int .i64 AT, .int .i64 BK.st, .slice vaa BK.wn.length vca, .slice uaa BK.ls.length uca, .slice waa BK.sc.length wca] 33)), (Va.heap.size, Kx0, fun V : World => OBkZ V Va.heap.size Kx0 (.slice (some ⟨x0.1, 0, none⟩) bk0.wn.length bk0.wn.length) (.slice (some ⟨x0.2.1, 0, none⟩) bk0.ls.length bk0.ls.length) (.slice (some ⟨x0.2.2, 0, none⟩) bk0.sc.length bk0.sc.length) bk0), (Kx0, Kx0 + 1, fun V : World => V.heap[Kx0]? = some (Obj.cells #[.int .i64 bk0.st, .slice (some ⟨x0.1, 0, none⟩) bk0.wn.length bk0.wn.length, .slice (some ⟨x0.2.1, 0, none⟩) bk0.ls.length bk0.ls.length, .slice (some ⟨x0.2.2, 0, none⟩) bk0.sc.length bk0.sc.length] 31)), (Vx0.heap.size, w6.heap.size, fun V : World => V.ownsRow Vx0.heap.size 2 1 (.slice (some ⟨x2, 0, none⟩) s2.length s2.length) s2.length (s2.map (Value.int .i64))), (w6.heap.size, Kg, fun V : World => PB V w6.heap.size (.slice vag BK.wn.length vcg) (.slice uag BK.ls.length ucg) (.slice wag BK.sc.length wcg) (wvO rsg) BK rsg), (Kg, Kg + 1, fun V : World => V.heap[Kg]? = some (Obj.cells #[.int .i64 C, .int .i64 AT, .int .i64 BK.st, .slice vag BK.wn.length vcg, .slice uag BK.ls.length ucg, .slice wag BK.sc.length wcg] 33))] w8) := Z10.out.next hb
  clear Z10 hb
  have kvx0 := Z11.out.get 6 rfl
  have cvx0_0 : w8.cell? ⟨Kx0, 0, none⟩ = some (.int .i64 bk0.st) := cellOf kvx0 0 rfl
  have cvx0_1 : w8.cell? ⟨Kx0, 1, none⟩ = some (.slice (some ⟨x0.1, 0, none⟩) bk0.wn.length bk0.wn.length) := cellOf kvx0 1 rfl
  have cvx0_2 : w8.cell? ⟨Kx0, 2, none⟩ = some (.slice (some ⟨x0.2.1, 0, none⟩) bk0.ls.length bk0.ls.length) := cellOf kvx0 2 rfl
  have cvx0_3 : w8.cell? ⟨Kx0, 3, none⟩ = some (.slice (some ⟨x0.2.2, 0, none⟩) bk0.sc.length bk0.sc.length) := cellOf kvx0 3 rfl
  have lvx0 : Kx0 < w8.heap.size := ltOf kvx0
  clear kvx0
  have kp0 := Z11.out.get 0 rfl
  rw [TB0.out] at kp0
  have cp0_0 : w8.cell? ⟨w.heap.size, 0, none⟩ = some (.int .i64 bk0.st) := cellOf kp0 0 rfl
  have cp0_1 : w8.cell? ⟨w.heap.size, 1, none⟩ = some (.slice sa0 sn0 sc0) := cellOf kp0 1 rfl
  have cp0_2 : w8.cell? ⟨w.heap.size, 2, none⟩ = some (.slice ta0 tn0 tc0) := cellOf kp0 2 rfl
  have cp0_3 : w8.cell? ⟨w.heap.size, 3, none⟩ = some (.slice xa0 xn0 xc0) := cellOf kp0 3 rfl
  have lp0 : w.heap.size < w8.heap.size := ltOf kp0
  clear kp0
  go_wp2_with (fail)
  refine wp_region_float (by kernel_rfl) (fun hS => ?_)
  refine fl_take (i := 0) (d := 42) (v := .agg #[.int .i64 bk0.st, .slice (some ⟨x0.1, 0, none⟩) bk0.wn.length bk0.wn.length, .slice (some ⟨x0.2.1, 0, none⟩) bk0.ls.length bk0.ls.length, .slice (some ⟨x0.2.2, 0, none⟩) bk0.sc.length bk0.sc.length]) rfl rfl rfl (by kernel_rfl) (by kernel_rfl) (by kernel_rfl) hS ?_ ?_
  · intro w' hk; go_simp
  simp only [Act.put, List.setIfInBounds_toArray, List.set_cons_zero, List.set_cons_succ]
  refine fl_take (i := 1) (d := 43) (v := .agg #[.int .i64 bk0.st, .slice sa0 sn0 sc0, .slice ta0 tn0 tc0, .slice xa0 xn0 xc0]) rfl rfl rfl (by kernel_rfl) (by kernel_rfl) (by kernel_rfl) hS ?_ ?_
  · intro w' hk; go_simp
  simp only [Act.put, List.setIfInBounds_toArray, List.set_cons_zero, List.set_cons_succ]
  refine wpAnyH_all (rs := [2]) (by kernel_rfl) (by simp) ?_
  intro i hi
  obtain rfl : i = 2 := by simpa using hi
  refine op_call (d := 44) rfl rfl rfl (by go_simp) ((toLotBook_any bk0.st HL0.out ((HR0.out.below Z11.out.bl).below (Below.refl _ _).drew)).mono ?_)
  rintro e ya0 ⟨gy0, rfl, hk5, hb5⟩
  have hK5 : KS w8 ya0 := hS.call hb5
  refine ⟨_, rfl, hK5, ?_⟩
  simp only [Act.put, List.setIfInBounds_toArray, List.set_cons_zero, List.set_cons_succ]
  refine wpAnyH_all (rs := [3]) (by kernel_rfl) (by simp) ?_
  intro i hi
  obtain rfl : i = 3 := by simpa using hi
  refine op_call (d := 45) rfl rfl rfl (by go_simp) ((eqLotBook_same bk0.st HL0.out rfl (RdX.rd (RdX.below (OBkZ.rx (B := Va.heap.size) (show OBkZ w8 Va.heap.size Kx0 (.slice (some ⟨x0.1, 0, none⟩) bk0.wn.length bk0.wn.length) (.slice (some ⟨x0.2.1, 0, none⟩) bk0.ls.length bk0.ls.length) (.slice (some ⟨x0.2.2, 0, none⟩) bk0.sc.length bk0.sc.length) bk0 from Z11.out.get 5 rfl)) hK5.2)) (RdX.rd ((OBk.rx hk5)))).mono ?_)
  rintro e yb0 ⟨rfl, hb6⟩
  have hK6 : KS w8 yb0 := hK5.call hb6
  refine ⟨_, rfl, hK6, ?_⟩
  simp only [Act.put, List.setIfInBounds_toArray, List.set_cons_zero, List.set_cons_succ]
  refine wpAnyH_all (rs := [4]) (by kernel_rfl) (by simp) ?_
  intro i hi
  obtain rfl : i = 4 := by simpa using hi
  refine op_val (d := 46) (v := .bool false) (w' := yb0) rfl rfl rfl (by go_simp; try rfl) ?_
  simp only [Act.put, List.setIfInBounds_toArray, List.set_cons_zero, List.set_cons_succ]
  refine ⟨hK6, wpAnyH_done (by kernel_rfl) (NoPanic.normal ?_) _⟩
  have Z12 : Hid (LS w [(w.heap.size, w.heap.size + 1, fun V : World => V.heap[w.heap.size]? = some BX0), (w1.heap.size, w2.heap.size, fun V : World => OBkZ V w1.heap.size w2.heap.size (.slice (some ⟨ga0.1, 0, none⟩) bk0.wn.length bk0.wn.length) (.slice (some ⟨ga0.2.1, 0, none⟩) bk0.ls.length bk0.ls.length) (.slice (some ⟨ga0.2.2, 0, none⟩) bk0.sc.length bk0.sc.length) bk0), (w2.heap.size, w3.heap.size, fun V : World => V.ownsRow w2.heap.size 2 1 (.slice (some ⟨ga2, 0, none⟩) s2.length s2.length) s2.length (s2.map (Value.int .i64))), (w3.heap.size, Ka, fun V : World => PB V w3.heap.size (.slice vaa BK.wn.length vca) (.slice uaa BK.ls.length uca) (.slice waa BK.sc.length wca) (wvO rsa) BK rsa), (Ka, Ka + 1, fun V : World => V.heap[Ka]? = some (Obj.cells #[.int .i64 C, .int .i64 AT, .int .i64 BK.st, .slice vaa BK.wn.length vca, .slice uaa BK.ls.length uca, .slice waa BK.sc.length wca] 33)), (Va.heap.size, Kx0, fun V : World => OBkZ V Va.heap.size Kx0 (.slice (some ⟨x0.1, 0, none⟩) bk0.wn.length bk0.wn.length) (.slice (some ⟨x0.2.1, 0, none⟩) bk0.ls.length bk0.ls.length) (.slice (some ⟨x0.2.2, 0, none⟩) bk0.sc.length bk0.sc.length) bk0), (Kx0, Kx0 + 1, fun V : World => V.heap[Kx0]? = some (Obj.cells #[.int .i64 bk0.st, .slice (some ⟨x0.1, 0, none⟩) bk0.wn.length bk0.wn.length, .slice (some ⟨x0.2.1, 0, none⟩) bk0.ls.length bk0.ls.length, .slice (some ⟨x0.2.2, 0, none⟩) bk0.sc.length bk0.sc.length] 31)), (Vx0.heap.size, w6.heap.size, fun V : World => V.ownsRow Vx0.heap.size 2 1 (.slice (some ⟨x2, 0, none⟩) s2.length s2.length) s2.length (s2.map (Value.int .i64))), (w6.heap.size, Kg, fun V : World => PB V w6.heap.size (.slice vag BK.wn.length vcg) (.slice uag BK.ls.length ucg) (.slice wag BK.sc.length wcg) (wvO rsg) BK rsg), (Kg, Kg + 1, fun V : World => V.heap[Kg]? = some (Obj.cells #[.int .i64 C, .int .i64 AT, .int .i64 BK.st, .slice vag BK.wn.length vcg, .slice uag BK.ls.length ucg, .slice wag BK.sc.length wcg] 33))] yb0) := Z11.out.next hK6.2
  clear Z11 hK6 hK5 hb6 hb5 hk5 hS cvx0_0 cvx0_1 cvx0_2 cvx0_3 lvx0 cp0_0 cp0_1 cp0_2 cp0_3 lp0
  go_wp2_with (fail)
  refine (toInt64S_any HL2.out (HR2.out.below Z12.out.bl)).mono ?_
  rintro e w9 ⟨e2, rfl, ho, hb⟩
  have Z13 : Hid (LS w [(w.heap.size, w.heap.size + 1, fun V : World => V.heap[w.heap.size]? = some BX0), (w1.heap.size, w2.heap.size, fun V : World => OBkZ V w1.heap.size w2.heap.size (.slice (some ⟨ga0.1, 0, none⟩) bk0.wn.length bk0.wn.length) (.slice (some ⟨ga0.2.1, 0, none⟩) bk0.ls.length bk0.ls.length) (.slice (some ⟨ga0.2.2, 0, none⟩) bk0.sc.length bk0.sc.length) bk0), (w2.heap.size, w3.heap.size, fun V : World => V.ownsRow w2.heap.size 2 1 (.slice (some ⟨ga2, 0, none⟩) s2.length s2.length) s2.length (s2.map (Value.int .i64))), (w3.heap.size, Ka, fun V : World => PB V w3.heap.size (.slice vaa BK.wn.length vca) (.slice uaa BK.ls.length uca) (.slice waa BK.sc.length wca) (wvO rsa) BK rsa), (Ka, Ka + 1, fun V : World => V.heap[Ka]? = some (Obj.cells #[.int .i64 C, .int .i64 AT, .int .i64 BK.st, .slice vaa BK.wn.length vca, .slice uaa BK.ls.length uca, .slice waa BK.sc.length wca] 33)), (Va.heap.size, Kx0, fun V : World => OBkZ V Va.heap.size Kx0 (.slice (some ⟨x0.1, 0, none⟩) bk0.wn.length bk0.wn.length) (.slice (some ⟨x0.2.1, 0, none⟩) bk0.ls.length bk0.ls.length) (.slice (some ⟨x0.2.2, 0, none⟩) bk0.sc.length bk0.sc.length) bk0), (Kx0, Kx0 + 1, fun V : World => V.heap[Kx0]? = some (Obj.cells #[.int .i64 bk0.st, .slice (some ⟨x0.1, 0, none⟩) bk0.wn.length bk0.wn.length, .slice (some ⟨x0.2.1, 0, none⟩) bk0.ls.length bk0.ls.length, .slice (some ⟨x0.2.2, 0, none⟩) bk0.sc.length bk0.sc.length] 31)), (Vx0.heap.size, w6.heap.size, fun V : World => V.ownsRow Vx0.heap.size 2 1 (.slice (some ⟨x2, 0, none⟩) s2.length s2.length) s2.length (s2.map (Value.int .i64))), (w6.heap.size, Kg, fun V : World => PB V w6.heap.size (.slice vag BK.wn.length vcg) (.slice uag BK.ls.length ucg) (.slice wag BK.sc.length wcg) (wvO rsg) BK rsg), (Kg, Kg + 1, fun V : World => V.heap[Kg]? = some (Obj.cells #[.int .i64 C, .int .i64 AT, .int .i64 BK.st, .slice vag BK.wn.length vcg, .slice uag BK.ls.length ucg, .slice wag BK.sc.length wcg] 33)), (yb0.heap.size, w9.heap.size, fun V : World => V.ownsRow yb0.heap.size 2 1 (.slice (some ⟨e2, 0, none⟩) s2.length s2.length) s2.length (s2.map (Value.int .i64)))] w9) := Z12.out.push hb (Ow.rowAll ho hb) (Nat.le_refl _)
  clear Z12 hb ho
  go_wp2_with (fail)
  refine (eqInt64S_same (by have := HL2.out; omega) (IS.rg (B := Vx0.heap.size) (show w9.ownsRow Vx0.heap.size 2 1 (.slice (some ⟨x2, 0, none⟩) s2.length s2.length) s2.length (s2.map (Value.int .i64)) from Z13.out.get 7 rfl)) (IS.rg (B := yb0.heap.size) (show w9.ownsRow yb0.heap.size 2 1 (.slice (some ⟨e2, 0, none⟩) s2.length s2.length) s2.length (s2.map (Value.int .i64)) from Z13.out.get 10 rfl))).mono ?_
  rintro e w10 ⟨rfl, hb⟩
  have Z14 : Hid (LS w [(w.heap.size, w.heap.size + 1, fun V : World => V.heap[w.heap.size]? = some BX0), (w1.heap.size, w2.heap.size, fun V : World => OBkZ V w1.heap.size w2.heap.size (.slice (some ⟨ga0.1, 0, none⟩) bk0.wn.length bk0.wn.length) (.slice (some ⟨ga0.2.1, 0, none⟩) bk0.ls.length bk0.ls.length) (.slice (some ⟨ga0.2.2, 0, none⟩) bk0.sc.length bk0.sc.length) bk0), (w2.heap.size, w3.heap.size, fun V : World => V.ownsRow w2.heap.size 2 1 (.slice (some ⟨ga2, 0, none⟩) s2.length s2.length) s2.length (s2.map (Value.int .i64))), (w3.heap.size, Ka, fun V : World => PB V w3.heap.size (.slice vaa BK.wn.length vca) (.slice uaa BK.ls.length uca) (.slice waa BK.sc.length wca) (wvO rsa) BK rsa), (Ka, Ka + 1, fun V : World => V.heap[Ka]? = some (Obj.cells #[.int .i64 C, .int .i64 AT, .int .i64 BK.st, .slice vaa BK.wn.length vca, .slice uaa BK.ls.length uca, .slice waa BK.sc.length wca] 33)), (Va.heap.size, Kx0, fun V : World => OBkZ V Va.heap.size Kx0 (.slice (some ⟨x0.1, 0, none⟩) bk0.wn.length bk0.wn.length) (.slice (some ⟨x0.2.1, 0, none⟩) bk0.ls.length bk0.ls.length) (.slice (some ⟨x0.2.2, 0, none⟩) bk0.sc.length bk0.sc.length) bk0), (Kx0, Kx0 + 1, fun V : World => V.heap[Kx0]? = some (Obj.cells #[.int .i64 bk0.st, .slice (some ⟨x0.1, 0, none⟩) bk0.wn.length bk0.wn.length, .slice (some ⟨x0.2.1, 0, none⟩) bk0.ls.length bk0.ls.length, .slice (some ⟨x0.2.2, 0, none⟩) bk0.sc.length bk0.sc.length] 31)), (Vx0.heap.size, w6.heap.size, fun V : World => V.ownsRow Vx0.heap.size 2 1 (.slice (some ⟨x2, 0, none⟩) s2.length s2.length) s2.length (s2.map (Value.int .i64))), (w6.heap.size, Kg, fun V : World => PB V w6.heap.size (.slice vag BK.wn.length vcg) (.slice uag BK.ls.length ucg) (.slice wag BK.sc.length wcg) (wvO rsg) BK rsg), (Kg, Kg + 1, fun V : World => V.heap[Kg]? = some (Obj.cells #[.int .i64 C, .int .i64 AT, .int .i64 BK.st, .slice vag BK.wn.length vcg, .slice uag BK.ls.length ucg, .slice wag BK.sc.length wcg] 33)), (yb0.heap.size, w9.heap.size, fun V : World => V.ownsRow yb0.heap.size 2 1 (.slice (some ⟨e2, 0, none⟩) s2.length s2.length) s2.length (s2.map (Value.int .i64)))] w10) := Z13.out.next hb
  clear Z13 hb
  have kvx0 := Z14.out.get 6 rfl
  have cvx0_0 : w10.cell? ⟨Kx0, 0, none⟩ = some (.int .i64 bk0.st) := cellOf kvx0 0 rfl
  have cvx0_1 : w10.cell? ⟨Kx0, 1, none⟩ = some (.slice (some ⟨x0.1, 0, none⟩) bk0.wn.length bk0.wn.length) := cellOf kvx0 1 rfl
  have cvx0_2 : w10.cell? ⟨Kx0, 2, none⟩ = some (.slice (some ⟨x0.2.1, 0, none⟩) bk0.ls.length bk0.ls.length) := cellOf kvx0 2 rfl
  have cvx0_3 : w10.cell? ⟨Kx0, 3, none⟩ = some (.slice (some ⟨x0.2.2, 0, none⟩) bk0.sc.length bk0.sc.length) := cellOf kvx0 3 rfl
  have lvx0 : Kx0 < w10.heap.size := ltOf kvx0
  clear kvx0
  go_wp2_with (fail)
  clear cvx0_0 cvx0_1 cvx0_2 cvx0_3 lvx0
  refine (markLotBook_lz bk0.st HL0.out (show OBkZ w10 Va.heap.size Kx0 (.slice (some ⟨x0.1, 0, none⟩) bk0.wn.length bk0.wn.length) (.slice (some ⟨x0.2.1, 0, none⟩) bk0.ls.length bk0.ls.length) (.slice (some ⟨x0.2.2, 0, none⟩) bk0.sc.length bk0.sc.length) bk0 from Z14.out.get 5 rfl)).mono ?_
  rintro e w11 ⟨rfl, hm, hc⟩
  have Z15 : Hid (LS w [(w.heap.size, w.heap.size + 1, fun V : World => V.heap[w.heap.size]? = some BX0), (w1.heap.size, w2.heap.size, fun V : World => OBkZ V w1.heap.size w2.heap.size (.slice (some ⟨ga0.1, 0, none⟩) bk0.wn.length bk0.wn.length) (.slice (some ⟨ga0.2.1, 0, none⟩) bk0.ls.length bk0.ls.length) (.slice (some ⟨ga0.2.2, 0, none⟩) bk0.sc.length bk0.sc.length) bk0), (w2.heap.size, w3.heap.size, fun V : World => V.ownsRow w2.heap.size 2 1 (.slice (some ⟨ga2, 0, none⟩) s2.length s2.length) s2.length (s2.map (Value.int .i64))), (w3.heap.size, Ka, fun V : World => PB V w3.heap.size (.slice vaa BK.wn.length vca) (.slice uaa BK.ls.length uca) (.slice waa BK.sc.length wca) (wvO rsa) BK rsa), (Ka, Ka + 1, fun V : World => V.heap[Ka]? = some (Obj.cells #[.int .i64 C, .int .i64 AT, .int .i64 BK.st, .slice vaa BK.wn.length vca, .slice uaa BK.ls.length uca, .slice waa BK.sc.length wca] 33)), (Va.heap.size, Kx0, fun V : World => True), (Kx0, Kx0 + 1, fun V : World => V.heap[Kx0]? = some (Obj.cells #[.int .i64 bk0.st, .slice (some ⟨x0.1, 0, none⟩) bk0.wn.length bk0.wn.length, .slice (some ⟨x0.2.1, 0, none⟩) bk0.ls.length bk0.ls.length, .slice (some ⟨x0.2.2, 0, none⟩) bk0.sc.length bk0.sc.length] 31)), (Vx0.heap.size, w6.heap.size, fun V : World => V.ownsRow Vx0.heap.size 2 1 (.slice (some ⟨x2, 0, none⟩) s2.length s2.length) s2.length (s2.map (Value.int .i64))), (w6.heap.size, Kg, fun V : World => PB V w6.heap.size (.slice vag BK.wn.length vcg) (.slice uag BK.ls.length ucg) (.slice wag BK.sc.length wcg) (wvO rsg) BK rsg), (Kg, Kg + 1, fun V : World => V.heap[Kg]? = some (Obj.cells #[.int .i64 C, .int .i64 AT, .int .i64 BK.st, .slice vag BK.wn.length vcg, .slice uag BK.ls.length ucg, .slice wag BK.sc.length wcg] 33)), (yb0.heap.size, w9.heap.size, fun V : World => V.ownsRow yb0.heap.size 2 1 (.slice (some ⟨e2, 0, none⟩) s2.length s2.length) s2.length (s2.map (Value.int .i64)))] w11) := Z14.out.put 5 rfl hc ((Z14.out.own 5 rfl).true hc.size)
  clear Z14 hm hc
  obtain ⟨N0, hN⟩ : ∃ N, N = zB bk0 := ⟨_, rfl⟩
  rw [← hN]
  have hN0 : 0 ≤ N0 ∧ N0 ≤ 10000000 ∧ ¬ N0 < 0 := by have := zB_bd HL0.out; omega
  have hN0a := hN0.2.2
  clear hN
  go_wp2_with (fail)
  refine (markInt64S_to N0 HL2.out hN0.1 (by omega) (show w11.ownsRow Vx0.heap.size 2 1 (.slice (some ⟨x2, 0, none⟩) s2.length s2.length) s2.length (s2.map (Value.int .i64)) from Z15.out.get 7 rfl) (HX2.out)).mono ?_
  rintro e w12 ⟨rfl, hm, hc⟩
  have Z16 : Hid (LS w [(w.heap.size, w.heap.size + 1, fun V : World => V.heap[w.heap.size]? = some BX0), (w1.heap.size, w2.heap.size, fun V : World => OBkZ V w1.heap.size w2.heap.size (.slice (some ⟨ga0.1, 0, none⟩) bk0.wn.length bk0.wn.length) (.slice (some ⟨ga0.2.1, 0, none⟩) bk0.ls.length bk0.ls.length) (.slice (some ⟨ga0.2.2, 0, none⟩) bk0.sc.length bk0.sc.length) bk0), (w2.heap.size, w3.heap.size, fun V : World => V.ownsRow w2.heap.size 2 1 (.slice (some ⟨ga2, 0, none⟩) s2.length s2.length) s2.length (s2.map (Value.int .i64))), (w3.heap.size, Ka, fun V : World => PB V w3.heap.size (.slice vaa BK.wn.length vca) (.slice uaa BK.ls.length uca) (.slice waa BK.sc.length wca) (wvO rsa) BK rsa), (Ka, Ka + 1, fun V : World => V.heap[Ka]? = some (Obj.cells #[.int .i64 C, .int .i64 AT, .int .i64 BK.st, .slice vaa BK.wn.length vca, .slice uaa BK.ls.length uca, .slice waa BK.sc.length wca] 33)), (Va.heap.size, Kx0, fun V : World => True), (Kx0, Kx0 + 1, fun V : World => V.heap[Kx0]? = some (Obj.cells #[.int .i64 bk0.st, .slice (some ⟨x0.1, 0, none⟩) bk0.wn.length bk0.wn.length, .slice (some ⟨x0.2.1, 0, none⟩) bk0.ls.length bk0.ls.length, .slice (some ⟨x0.2.2, 0, none⟩) bk0.sc.length bk0.sc.length] 31)), (Vx0.heap.size, w6.heap.size, fun V : World => True), (w6.heap.size, Kg, fun V : World => PB V w6.heap.size (.slice vag BK.wn.length vcg) (.slice uag BK.ls.length ucg) (.slice wag BK.sc.length wcg) (wvO rsg) BK rsg), (Kg, Kg + 1, fun V : World => V.heap[Kg]? = some (Obj.cells #[.int .i64 C, .int .i64 AT, .int .i64 BK.st, .slice vag BK.wn.length vcg, .slice uag BK.ls.length ucg, .slice wag BK.sc.length wcg] 33)), (yb0.heap.size, w9.heap.size, fun V : World => V.ownsRow yb0.heap.size 2 1 (.slice (some ⟨e2, 0, none⟩) s2.length s2.length) s2.length (s2.map (Value.int .i64)))] w12) := Z15.out.put 7 rfl hc ((Z15.out.own 7 rfl).true hc.size)
  clear Z15 hm hc
  obtain ⟨N2, hN⟩ : ∃ N, N = N0 + (s2.length : Int) := ⟨_, rfl⟩
  rw [← hN]
  have hN2 : 0 ≤ N2 ∧ N2 ≤ 20000000 ∧ ¬ N2 < 0 := by have := HL2.out; omega
  have hN2a := hN2.2.2
  clear hN
  have kvg := Z16.out.get 9 rfl
  have cvg_0 : w12.cell? ⟨Kg, 0, none⟩ = some (.int .i64 C) := cellOf kvg 0 rfl
  have cvg_1 : w12.cell? ⟨Kg, 1, none⟩ = some (.int .i64 AT) := cellOf kvg 1 rfl
  have cvg_2 : w12.cell? ⟨Kg, 2, none⟩ = some (.int .i64 BK.st) := cellOf kvg 2 rfl
  have cvg_3 : w12.cell? ⟨Kg, 3, none⟩ = some (.slice vag BK.wn.length vcg) := cellOf kvg 3 rfl
  have cvg_4 : w12.cell? ⟨Kg, 4, none⟩ = some (.slice uag BK.ls.length ucg) := cellOf kvg 4 rfl
  have cvg_5 : w12.cell? ⟨Kg, 5, none⟩ = some (.slice wag BK.sc.length wcg) := cellOf kvg 5 rfl
  have lvg : Kg < w12.heap.size := ltOf kvg
  clear kvg
  have kva := Z16.out.get 4 rfl
  have cva_0 : w12.cell? ⟨Ka, 0, none⟩ = some (.int .i64 C) := cellOf kva 0 rfl
  have cva_1 : w12.cell? ⟨Ka, 1, none⟩ = some (.int .i64 AT) := cellOf kva 1 rfl
  have cva_2 : w12.cell? ⟨Ka, 2, none⟩ = some (.int .i64 BK.st) := cellOf kva 2 rfl
  have cva_3 : w12.cell? ⟨Ka, 3, none⟩ = some (.slice vaa BK.wn.length vca) := cellOf kva 3 rfl
  have cva_4 : w12.cell? ⟨Ka, 4, none⟩ = some (.slice uaa BK.ls.length uca) := cellOf kva 4 rfl
  have cva_5 : w12.cell? ⟨Ka, 5, none⟩ = some (.slice waa BK.sc.length wca) := cellOf kva 5 rfl
  have lva : Ka < w12.heap.size := ltOf kva
  clear kva
  go_wp2_with (fail)
  clear cvg_0 cvg_1 cvg_2 cvg_3 cvg_4 cvg_5 lvg cva_0 cva_1 cva_2 cva_3 cva_4 cva_5 lva
  refine (eqBookResult_to C AT BK.st HLN.out rfl (PB.rd (B := w6.heap.size) (show PB w12 w6.heap.size (.slice vag BK.wn.length vcg) (.slice uag BK.ls.length ucg) (.slice wag BK.sc.length wcg) (wvO rsg) BK rsg from (Z16.out.get 8 rfl))) (PB.rd (B := w3.heap.size) (show PB w12 w3.heap.size (.slice vaa BK.wn.length vca) (.slice uaa BK.ls.length uca) (.slice waa BK.sc.length wca) (wvO rsa) BK rsa from (Z16.out.get 3 rfl)))).mono ?_
  rintro e w13 ⟨rfl, hb⟩
  have Z17 : Hid (LS w [(w.heap.size, w.heap.size + 1, fun V : World => V.heap[w.heap.size]? = some BX0), (w1.heap.size, w2.heap.size, fun V : World => OBkZ V w1.heap.size w2.heap.size (.slice (some ⟨ga0.1, 0, none⟩) bk0.wn.length bk0.wn.length) (.slice (some ⟨ga0.2.1, 0, none⟩) bk0.ls.length bk0.ls.length) (.slice (some ⟨ga0.2.2, 0, none⟩) bk0.sc.length bk0.sc.length) bk0), (w2.heap.size, w3.heap.size, fun V : World => V.ownsRow w2.heap.size 2 1 (.slice (some ⟨ga2, 0, none⟩) s2.length s2.length) s2.length (s2.map (Value.int .i64))), (w3.heap.size, Ka, fun V : World => PB V w3.heap.size (.slice vaa BK.wn.length vca) (.slice uaa BK.ls.length uca) (.slice waa BK.sc.length wca) (wvO rsa) BK rsa), (Ka, Ka + 1, fun V : World => V.heap[Ka]? = some (Obj.cells #[.int .i64 C, .int .i64 AT, .int .i64 BK.st, .slice vaa BK.wn.length vca, .slice uaa BK.ls.length uca, .slice waa BK.sc.length wca] 33)), (Va.heap.size, Kx0, fun V : World => True), (Kx0, Kx0 + 1, fun V : World => V.heap[Kx0]? = some (Obj.cells #[.int .i64 bk0.st, .slice (some ⟨x0.1, 0, none⟩) bk0.wn.length bk0.wn.length, .slice (some ⟨x0.2.1, 0, none⟩) bk0.ls.length bk0.ls.length, .slice (some ⟨x0.2.2, 0, none⟩) bk0.sc.length bk0.sc.length] 31)), (Vx0.heap.size, w6.heap.size, fun V : World => True), (w6.heap.size, Kg, fun V : World => PB V w6.heap.size (.slice vag BK.wn.length vcg) (.slice uag BK.ls.length ucg) (.slice wag BK.sc.length wcg) (wvO rsg) BK rsg), (Kg, Kg + 1, fun V : World => V.heap[Kg]? = some (Obj.cells #[.int .i64 C, .int .i64 AT, .int .i64 BK.st, .slice vag BK.wn.length vcg, .slice uag BK.ls.length ucg, .slice wag BK.sc.length wcg] 33)), (yb0.heap.size, w9.heap.size, fun V : World => V.ownsRow yb0.heap.size 2 1 (.slice (some ⟨e2, 0, none⟩) s2.length s2.length) s2.length (s2.map (Value.int .i64)))] w13) := Z16.out.next hb
  clear Z16 hb
  have kvg := Z17.out.get 9 rfl
  have cvg_0 : w13.cell? ⟨Kg, 0, none⟩ = some (.int .i64 C) := cellOf kvg 0 rfl
  have cvg_1 : w13.cell? ⟨Kg, 1, none⟩ = some (.int .i64 AT) := cellOf kvg 1 rfl
  have cvg_2 : w13.cell? ⟨Kg, 2, none⟩ = some (.int .i64 BK.st) := cellOf kvg 2 rfl
  have cvg_3 : w13.cell? ⟨Kg, 3, none⟩ = some (.slice vag BK.wn.length vcg) := cellOf kvg 3 rfl
  have cvg_4 : w13.cell? ⟨Kg, 4, none⟩ = some (.slice uag BK.ls.length ucg) := cellOf kvg 4 rfl
  have cvg_5 : w13.cell? ⟨Kg, 5, none⟩ = some (.slice wag BK.sc.length wcg) := cellOf kvg 5 rfl
  have lvg : Kg < w13.heap.size := ltOf kvg
  clear kvg
  go_wp2_with (fail)
  clear cvg_0 cvg_1 cvg_2 cvg_3 cvg_4 cvg_5 lvg
  refine (markBookResult_to C AT BK.st HLN.out (show PB w13 w6.heap.size (.slice vag BK.wn.length vcg) (.slice uag BK.ls.length ucg) (.slice wag BK.sc.length wcg) (wvO rsg) BK rsg from (Z17.out.get 8 rfl)) HXg.out).mono ?_
  rintro e w14 ⟨rfl, hm, hc⟩
  have Z18 : Hid (LS w [(w.heap.size, w.heap.size + 1, fun V : World => V.heap[w.heap.size]? = some BX0), (w1.heap.size, w2.heap.size, fun V : World => OBkZ V w1.heap.size w2.heap.size (.slice (some ⟨ga0.1, 0, none⟩) bk0.wn.length bk0.wn.length) (.slice (some ⟨ga0.2.1, 0, none⟩) bk0.ls.length bk0.ls.length) (.slice (some ⟨ga0.2.2, 0, none⟩) bk0.sc.length bk0.sc.length) bk0), (w2.heap.size, w3.heap.size, fun V : World => V.ownsRow w2.heap.size 2 1 (.slice (some ⟨ga2, 0, none⟩) s2.length s2.length) s2.length (s2.map (Value.int .i64))), (w3.heap.size, Ka, fun V : World => PB V w3.heap.size (.slice vaa BK.wn.length vca) (.slice uaa BK.ls.length uca) (.slice waa BK.sc.length wca) (wvO rsa) BK rsa), (Ka, Ka + 1, fun V : World => V.heap[Ka]? = some (Obj.cells #[.int .i64 C, .int .i64 AT, .int .i64 BK.st, .slice vaa BK.wn.length vca, .slice uaa BK.ls.length uca, .slice waa BK.sc.length wca] 33)), (Va.heap.size, Kx0, fun V : World => True), (Kx0, Kx0 + 1, fun V : World => V.heap[Kx0]? = some (Obj.cells #[.int .i64 bk0.st, .slice (some ⟨x0.1, 0, none⟩) bk0.wn.length bk0.wn.length, .slice (some ⟨x0.2.1, 0, none⟩) bk0.ls.length bk0.ls.length, .slice (some ⟨x0.2.2, 0, none⟩) bk0.sc.length bk0.sc.length] 31)), (Vx0.heap.size, w6.heap.size, fun V : World => True), (w6.heap.size, Kg, fun V : World => MkB V w6.heap.size (.slice vag BK.wn.length vcg) (.slice uag BK.ls.length ucg) (.slice wag BK.sc.length wcg) BK rsg), (Kg, Kg + 1, fun V : World => V.heap[Kg]? = some (Obj.cells #[.int .i64 C, .int .i64 AT, .int .i64 BK.st, .slice vag BK.wn.length vcg, .slice uag BK.ls.length ucg, .slice wag BK.sc.length wcg] 33)), (yb0.heap.size, w9.heap.size, fun V : World => V.ownsRow yb0.heap.size 2 1 (.slice (some ⟨e2, 0, none⟩) s2.length s2.length) s2.length (s2.map (Value.int .i64)))] w14) := Z17.out.put 8 rfl hc (Ow.mB hm (Z17.out.own 8 rfl).le.1 (Nat.le_trans (Z17.out.own 8 rfl).le.2 hc.size) HXg.out)
  clear Z17 hm hc
  obtain ⟨TT, hTT⟩ : ∃ TT, TT = zB BK := ⟨_, rfl⟩
  have hT0 : ¬ TT < 0 := by omega
  have HTT : Hid (TT = zB BK) := hTT
  rw [← hTT]
  clear hTT
  have kvg := Z18.out.get 9 rfl
  have cvg_0 : w14.cell? ⟨Kg, 0, none⟩ = some (.int .i64 C) := cellOf kvg 0 rfl
  have cvg_1 : w14.cell? ⟨Kg, 1, none⟩ = some (.int .i64 AT) := cellOf kvg 1 rfl
  have cvg_2 : w14.cell? ⟨Kg, 2, none⟩ = some (.int .i64 BK.st) := cellOf kvg 2 rfl
  have cvg_3 : w14.cell? ⟨Kg, 3, none⟩ = some (.slice vag BK.wn.length vcg) := cellOf kvg 3 rfl
  have cvg_4 : w14.cell? ⟨Kg, 4, none⟩ = some (.slice uag BK.ls.length ucg) := cellOf kvg 4 rfl
  have cvg_5 : w14.cell? ⟨Kg, 5, none⟩ = some (.slice wag BK.sc.length wcg) := cellOf kvg 5 rfl
  have lvg : Kg < w14.heap.size := ltOf kvg
  clear kvg
  go_wp2_with (fail)
  clear cvg_0 cvg_1 cvg_2 cvg_3 cvg_4 cvg_5 lvg
  refine (heldBookResult_to C AT BK.st HLN.out (show MkB w14 w6.heap.size (.slice vag BK.wn.length vcg) (.slice uag BK.ls.length ucg) (.slice wag BK.sc.length wcg) BK rsg from Z18.out.get 8 rfl) ⟨_, _, _, _, _, _, rfl, rfl, rfl⟩).mono ?_
  rintro e w15 ⟨rfl, hb⟩
  have Z19 : Hid (LS w [(w.heap.size, w.heap.size + 1, fun V : World => V.heap[w.heap.size]? = some BX0), (w1.heap.size, w2.heap.size, fun V : World => OBkZ V w1.heap.size w2.heap.size (.slice (some ⟨ga0.1, 0, none⟩) bk0.wn.length bk0.wn.length) (.slice (some ⟨ga0.2.1, 0, none⟩) bk0.ls.length bk0.ls.length) (.slice (some ⟨ga0.2.2, 0, none⟩) bk0.sc.length bk0.sc.length) bk0), (w2.heap.size, w3.heap.size, fun V : World => V.ownsRow w2.heap.size 2 1 (.slice (some ⟨ga2, 0, none⟩) s2.length s2.length) s2.length (s2.map (Value.int .i64))), (w3.heap.size, Ka, fun V : World => PB V w3.heap.size (.slice vaa BK.wn.length vca) (.slice uaa BK.ls.length uca) (.slice waa BK.sc.length wca) (wvO rsa) BK rsa), (Ka, Ka + 1, fun V : World => V.heap[Ka]? = some (Obj.cells #[.int .i64 C, .int .i64 AT, .int .i64 BK.st, .slice vaa BK.wn.length vca, .slice uaa BK.ls.length uca, .slice waa BK.sc.length wca] 33)), (Va.heap.size, Kx0, fun V : World => True), (Kx0, Kx0 + 1, fun V : World => V.heap[Kx0]? = some (Obj.cells #[.int .i64 bk0.st, .slice (some ⟨x0.1, 0, none⟩) bk0.wn.length bk0.wn.length, .slice (some ⟨x0.2.1, 0, none⟩) bk0.ls.length bk0.ls.length, .slice (some ⟨x0.2.2, 0, none⟩) bk0.sc.length bk0.sc.length] 31)), (Vx0.heap.size, w6.heap.size, fun V : World => True), (w6.heap.size, Kg, fun V : World => MkB V w6.heap.size (.slice vag BK.wn.length vcg) (.slice uag BK.ls.length ucg) (.slice wag BK.sc.length wcg) BK rsg), (Kg, Kg + 1, fun V : World => V.heap[Kg]? = some (Obj.cells #[.int .i64 C, .int .i64 AT, .int .i64 BK.st, .slice vag BK.wn.length vcg, .slice uag BK.ls.length ucg, .slice wag BK.sc.length wcg] 33)), (yb0.heap.size, w9.heap.size, fun V : World => V.ownsRow yb0.heap.size 2 1 (.slice (some ⟨e2, 0, none⟩) s2.length s2.length) s2.length (s2.map (Value.int .i64)))] w15) := Z18.out.next hb
  clear Z18 hb
  rw [← HTT.out]
  have kp0 := Z19.out.get 0 rfl
  rw [TB0.out] at kp0
  have cp0_0 : w15.cell? ⟨w.heap.size, 0, none⟩ = some (.int .i64 bk0.st) := cellOf kp0 0 rfl
  have cp0_1 : w15.cell? ⟨w.heap.size, 1, none⟩ = some (.slice sa0 sn0 sc0) := cellOf kp0 1 rfl
  have cp0_2 : w15.cell? ⟨w.heap.size, 2, none⟩ = some (.slice ta0 tn0 tc0) := cellOf kp0 2 rfl
  have cp0_3 : w15.cell? ⟨w.heap.size, 3, none⟩ = some (.slice xa0 xn0 xc0) := cellOf kp0 3 rfl
  have lp0 : w.heap.size < w15.heap.size := ltOf kp0
  clear kp0
  go_wp2_with (fail)
  clear cp0_0 cp0_1 cp0_2 cp0_3 lp0
  refine (toLotBook_any bk0.st HL0.out (HR0.out.below Z19.out.bl)).mono ?_
  rintro e w16 ⟨gh0, rfl, ho, hb⟩
  have Z20 : Hid (LS w [(w.heap.size, w.heap.size + 1, fun V : World => V.heap[w.heap.size]? = some BX0), (w1.heap.size, w2.heap.size, fun V : World => OBkZ V w1.heap.size w2.heap.size (.slice (some ⟨ga0.1, 0, none⟩) bk0.wn.length bk0.wn.length) (.slice (some ⟨ga0.2.1, 0, none⟩) bk0.ls.length bk0.ls.length) (.slice (some ⟨ga0.2.2, 0, none⟩) bk0.sc.length bk0.sc.length) bk0), (w2.heap.size, w3.heap.size, fun V : World => V.ownsRow w2.heap.size 2 1 (.slice (some ⟨ga2, 0, none⟩) s2.length s2.length) s2.length (s2.map (Value.int .i64))), (w3.heap.size, Ka, fun V : World => PB V w3.heap.size (.slice vaa BK.wn.length vca) (.slice uaa BK.ls.length uca) (.slice waa BK.sc.length wca) (wvO rsa) BK rsa), (Ka, Ka + 1, fun V : World => V.heap[Ka]? = some (Obj.cells #[.int .i64 C, .int .i64 AT, .int .i64 BK.st, .slice vaa BK.wn.length vca, .slice uaa BK.ls.length uca, .slice waa BK.sc.length wca] 33)), (Va.heap.size, Kx0, fun V : World => True), (Kx0, Kx0 + 1, fun V : World => V.heap[Kx0]? = some (Obj.cells #[.int .i64 bk0.st, .slice (some ⟨x0.1, 0, none⟩) bk0.wn.length bk0.wn.length, .slice (some ⟨x0.2.1, 0, none⟩) bk0.ls.length bk0.ls.length, .slice (some ⟨x0.2.2, 0, none⟩) bk0.sc.length bk0.sc.length] 31)), (Vx0.heap.size, w6.heap.size, fun V : World => True), (w6.heap.size, Kg, fun V : World => MkB V w6.heap.size (.slice vag BK.wn.length vcg) (.slice uag BK.ls.length ucg) (.slice wag BK.sc.length wcg) BK rsg), (Kg, Kg + 1, fun V : World => V.heap[Kg]? = some (Obj.cells #[.int .i64 C, .int .i64 AT, .int .i64 BK.st, .slice vag BK.wn.length vcg, .slice uag BK.ls.length ucg, .slice wag BK.sc.length wcg] 33)), (yb0.heap.size, w9.heap.size, fun V : World => V.ownsRow yb0.heap.size 2 1 (.slice (some ⟨e2, 0, none⟩) s2.length s2.length) s2.length (s2.map (Value.int .i64))), (w15.heap.size, w16.heap.size, fun V : World => OBkZ V w15.heap.size w16.heap.size (.slice (some ⟨gh0.1, 0, none⟩) bk0.wn.length bk0.wn.length) (.slice (some ⟨gh0.2.1, 0, none⟩) bk0.ls.length bk0.ls.length) (.slice (some ⟨gh0.2.2, 0, none⟩) bk0.sc.length bk0.sc.length) bk0)] w16) := Z19.out.push hb (Ow.bkZ ho hb) (Nat.le_refl _)
  clear Z19 hb ho
  go_wp2_with (fail)
  refine (toInt64S_any HL2.out (HR2.out.below Z20.out.bl)).mono ?_
  rintro e w17 ⟨gh2, rfl, ho, hb⟩
  have Z21 : Hid (LS w [(w.heap.size, w.heap.size + 1, fun V : World => V.heap[w.heap.size]? = some BX0), (w1.heap.size, w2.heap.size, fun V : World => OBkZ V w1.heap.size w2.heap.size (.slice (some ⟨ga0.1, 0, none⟩) bk0.wn.length bk0.wn.length) (.slice (some ⟨ga0.2.1, 0, none⟩) bk0.ls.length bk0.ls.length) (.slice (some ⟨ga0.2.2, 0, none⟩) bk0.sc.length bk0.sc.length) bk0), (w2.heap.size, w3.heap.size, fun V : World => V.ownsRow w2.heap.size 2 1 (.slice (some ⟨ga2, 0, none⟩) s2.length s2.length) s2.length (s2.map (Value.int .i64))), (w3.heap.size, Ka, fun V : World => PB V w3.heap.size (.slice vaa BK.wn.length vca) (.slice uaa BK.ls.length uca) (.slice waa BK.sc.length wca) (wvO rsa) BK rsa), (Ka, Ka + 1, fun V : World => V.heap[Ka]? = some (Obj.cells #[.int .i64 C, .int .i64 AT, .int .i64 BK.st, .slice vaa BK.wn.length vca, .slice uaa BK.ls.length uca, .slice waa BK.sc.length wca] 33)), (Va.heap.size, Kx0, fun V : World => True), (Kx0, Kx0 + 1, fun V : World => V.heap[Kx0]? = some (Obj.cells #[.int .i64 bk0.st, .slice (some ⟨x0.1, 0, none⟩) bk0.wn.length bk0.wn.length, .slice (some ⟨x0.2.1, 0, none⟩) bk0.ls.length bk0.ls.length, .slice (some ⟨x0.2.2, 0, none⟩) bk0.sc.length bk0.sc.length] 31)), (Vx0.heap.size, w6.heap.size, fun V : World => True), (w6.heap.size, Kg, fun V : World => MkB V w6.heap.size (.slice vag BK.wn.length vcg) (.slice uag BK.ls.length ucg) (.slice wag BK.sc.length wcg) BK rsg), (Kg, Kg + 1, fun V : World => V.heap[Kg]? = some (Obj.cells #[.int .i64 C, .int .i64 AT, .int .i64 BK.st, .slice vag BK.wn.length vcg, .slice uag BK.ls.length ucg, .slice wag BK.sc.length wcg] 33)), (yb0.heap.size, w9.heap.size, fun V : World => V.ownsRow yb0.heap.size 2 1 (.slice (some ⟨e2, 0, none⟩) s2.length s2.length) s2.length (s2.map (Value.int .i64))), (w15.heap.size, w16.heap.size, fun V : World => OBkZ V w15.heap.size w16.heap.size (.slice (some ⟨gh0.1, 0, none⟩) bk0.wn.length bk0.wn.length) (.slice (some ⟨gh0.2.1, 0, none⟩) bk0.ls.length bk0.ls.length) (.slice (some ⟨gh0.2.2, 0, none⟩) bk0.sc.length bk0.sc.length) bk0), (w16.heap.size, w17.heap.size, fun V : World => V.ownsRow w16.heap.size 2 1 (.slice (some ⟨gh2, 0, none⟩) s2.length s2.length) s2.length (s2.map (Value.int .i64)))] w17) := Z20.out.push hb (Ow.rowAll ho hb) (Nat.le_refl _)
  clear Z20 hb ho
  go_wp2_with (fail)
  refine (HIM.out w17 gh0 gh2 (OBkZ.rx (B := w15.heap.size) (show OBkZ w17 w15.heap.size w16.heap.size (.slice (some ⟨gh0.1, 0, none⟩) bk0.wn.length bk0.wn.length) (.slice (some ⟨gh0.2.1, 0, none⟩) bk0.ls.length bk0.ls.length) (.slice (some ⟨gh0.2.2, 0, none⟩) bk0.sc.length bk0.sc.length) bk0 from Z21.out.get 11 rfl)) (IS.rg (B := w16.heap.size) (show w17.ownsRow w16.heap.size 2 1 (.slice (some ⟨gh2, 0, none⟩) s2.length s2.length) s2.length (s2.map (Value.int .i64)) from Z21.out.get 12 rfl))).mono ?_
  rintro e w18 ⟨vq, vr, rfl, hrq, hb⟩
  obtain ⟨vq1, vq2, vq3⟩ := vq
  obtain ⟨vah, vch, he1⟩ := OG.fm hrq.wn
  obtain ⟨uah, uch, he2⟩ := OG.fm hrq.row
  obtain ⟨wah, wch, he3⟩ := hrq.sc.form
  rw [hrq.len] at he2
  simp only at he1 he2 he3 hrq
  subst he1 he2 he3
  obtain ⟨rsh, rfl⟩ : ∃ x, x = vr := ⟨_, rfl⟩
  have Z22 : Hid (LS w [(w.heap.size, w.heap.size + 1, fun V : World => V.heap[w.heap.size]? = some BX0), (w1.heap.size, w2.heap.size, fun V : World => OBkZ V w1.heap.size w2.heap.size (.slice (some ⟨ga0.1, 0, none⟩) bk0.wn.length bk0.wn.length) (.slice (some ⟨ga0.2.1, 0, none⟩) bk0.ls.length bk0.ls.length) (.slice (some ⟨ga0.2.2, 0, none⟩) bk0.sc.length bk0.sc.length) bk0), (w2.heap.size, w3.heap.size, fun V : World => V.ownsRow w2.heap.size 2 1 (.slice (some ⟨ga2, 0, none⟩) s2.length s2.length) s2.length (s2.map (Value.int .i64))), (w3.heap.size, Ka, fun V : World => PB V w3.heap.size (.slice vaa BK.wn.length vca) (.slice uaa BK.ls.length uca) (.slice waa BK.sc.length wca) (wvO rsa) BK rsa), (Ka, Ka + 1, fun V : World => V.heap[Ka]? = some (Obj.cells #[.int .i64 C, .int .i64 AT, .int .i64 BK.st, .slice vaa BK.wn.length vca, .slice uaa BK.ls.length uca, .slice waa BK.sc.length wca] 33)), (Va.heap.size, Kx0, fun V : World => True), (Kx0, Kx0 + 1, fun V : World => V.heap[Kx0]? = some (Obj.cells #[.int .i64 bk0.st, .slice (some ⟨x0.1, 0, none⟩) bk0.wn.length bk0.wn.length, .slice (some ⟨x0.2.1, 0, none⟩) bk0.ls.length bk0.ls.length, .slice (some ⟨x0.2.2, 0, none⟩) bk0.sc.length bk0.sc.length] 31)), (Vx0.heap.size, w6.heap.size, fun V : World => True), (w6.heap.size, Kg, fun V : World => MkB V w6.heap.size (.slice vag BK.wn.length vcg) (.slice uag BK.ls.length ucg) (.slice wag BK.sc.length wcg) BK rsg), (Kg, Kg + 1, fun V : World => V.heap[Kg]? = some (Obj.cells #[.int .i64 C, .int .i64 AT, .int .i64 BK.st, .slice vag BK.wn.length vcg, .slice uag BK.ls.length ucg, .slice wag BK.sc.length wcg] 33)), (yb0.heap.size, w9.heap.size, fun V : World => V.ownsRow yb0.heap.size 2 1 (.slice (some ⟨e2, 0, none⟩) s2.length s2.length) s2.length (s2.map (Value.int .i64))), (w15.heap.size, w16.heap.size, fun V : World => OBkZ V w15.heap.size w16.heap.size (.slice (some ⟨gh0.1, 0, none⟩) bk0.wn.length bk0.wn.length) (.slice (some ⟨gh0.2.1, 0, none⟩) bk0.ls.length bk0.ls.length) (.slice (some ⟨gh0.2.2, 0, none⟩) bk0.sc.length bk0.sc.length) bk0), (w16.heap.size, w17.heap.size, fun V : World => V.ownsRow w16.heap.size 2 1 (.slice (some ⟨gh2, 0, none⟩) s2.length s2.length) s2.length (s2.map (Value.int .i64))), (w17.heap.size, w18.heap.size, fun V : World => PB V w17.heap.size (.slice vah BK.wn.length vch) (.slice uah BK.ls.length uch) (.slice wah BK.sc.length wch) (wvO rsh) BK rsh)] w18) := Z21.out.push hb (Ow.pbAll hrq hb) (Nat.le_refl _)
  clear Z21 hb hrq
  have kva := Z22.out.get 4 rfl
  have cva_0 : w18.cell? ⟨Ka, 0, none⟩ = some (.int .i64 C) := cellOf kva 0 rfl
  have cva_1 : w18.cell? ⟨Ka, 1, none⟩ = some (.int .i64 AT) := cellOf kva 1 rfl
  have cva_2 : w18.cell? ⟨Ka, 2, none⟩ = some (.int .i64 BK.st) := cellOf kva 2 rfl
  have cva_3 : w18.cell? ⟨Ka, 3, none⟩ = some (.slice vaa BK.wn.length vca) := cellOf kva 3 rfl
  have cva_4 : w18.cell? ⟨Ka, 4, none⟩ = some (.slice uaa BK.ls.length uca) := cellOf kva 4 rfl
  have cva_5 : w18.cell? ⟨Ka, 5, none⟩ = some (.slice waa BK.sc.length wca) := cellOf kva 5 rfl
  have lva : Ka < w18.heap.size := ltOf kva
  clear kva
  have Z23 : Hid (LS w [(w.heap.size, w.heap.size + 1, fun V : World => V.heap[w.heap.size]? = some BX0), (w1.heap.size, w2.heap.size, fun V : World => OBkZ V w1.heap.size w2.heap.size (.slice (some ⟨ga0.1, 0, none⟩) bk0.wn.length bk0.wn.length) (.slice (some ⟨ga0.2.1, 0, none⟩) bk0.ls.length bk0.ls.length) (.slice (some ⟨ga0.2.2, 0, none⟩) bk0.sc.length bk0.sc.length) bk0), (w2.heap.size, w3.heap.size, fun V : World => V.ownsRow w2.heap.size 2 1 (.slice (some ⟨ga2, 0, none⟩) s2.length s2.length) s2.length (s2.map (Value.int .i64))), (w3.heap.size, Ka, fun V : World => PB V w3.heap.size (.slice vaa BK.wn.length vca) (.slice uaa BK.ls.length uca) (.slice waa BK.sc.length wca) (wvO rsa) BK rsa), (Ka, Ka + 1, fun V : World => V.heap[Ka]? = some (Obj.cells #[.int .i64 C, .int .i64 AT, .int .i64 BK.st, .slice vaa BK.wn.length vca, .slice uaa BK.ls.length uca, .slice waa BK.sc.length wca] 33)), (Va.heap.size, Kx0, fun V : World => True), (Kx0, Kx0 + 1, fun V : World => V.heap[Kx0]? = some (Obj.cells #[.int .i64 bk0.st, .slice (some ⟨x0.1, 0, none⟩) bk0.wn.length bk0.wn.length, .slice (some ⟨x0.2.1, 0, none⟩) bk0.ls.length bk0.ls.length, .slice (some ⟨x0.2.2, 0, none⟩) bk0.sc.length bk0.sc.length] 31)), (Vx0.heap.size, w6.heap.size, fun V : World => True), (w6.heap.size, Kg, fun V : World => MkB V w6.heap.size (.slice vag BK.wn.length vcg) (.slice uag BK.ls.length ucg) (.slice wag BK.sc.length wcg) BK rsg), (Kg, Kg + 1, fun V : World => V.heap[Kg]? = some (Obj.cells #[.int .i64 C, .int .i64 AT, .int .i64 BK.st, .slice vag BK.wn.length vcg, .slice uag BK.ls.length ucg, .slice wag BK.sc.length wcg] 33)), (yb0.heap.size, w9.heap.size, fun V : World => V.ownsRow yb0.heap.size 2 1 (.slice (some ⟨e2, 0, none⟩) s2.length s2.length) s2.length (s2.map (Value.int .i64))), (w15.heap.size, w16.heap.size, fun V : World => OBkZ V w15.heap.size w16.heap.size (.slice (some ⟨gh0.1, 0, none⟩) bk0.wn.length bk0.wn.length) (.slice (some ⟨gh0.2.1, 0, none⟩) bk0.ls.length bk0.ls.length) (.slice (some ⟨gh0.2.2, 0, none⟩) bk0.sc.length bk0.sc.length) bk0), (w16.heap.size, w17.heap.size, fun V : World => V.ownsRow w16.heap.size 2 1 (.slice (some ⟨gh2, 0, none⟩) s2.length s2.length) s2.length (s2.map (Value.int .i64))), (w17.heap.size, w18.heap.size, fun V : World => PB V w17.heap.size (.slice vah BK.wn.length vch) (.slice uah BK.ls.length uch) (.slice wah BK.sc.length wch) (wvO rsh) BK rsh), (w18.heap.size, w18.heap.size + 1, fun V : World => V.heap[w18.heap.size]? = some (Obj.cells #[.int .i64 C, .int .i64 AT, .int .i64 BK.st, .slice vah BK.wn.length vch, .slice uah BK.ls.length uch, .slice wah BK.sc.length wch] 33))] (w18.alloc (Obj.cells #[.int .i64 C, .int .i64 AT, .int .i64 BK.st, .slice vah BK.wn.length vch, .slice uah BK.ls.length uch, .slice wah BK.sc.length wch] 33))) := Z22.out.push (by (repeat' (first | (with_reducible exact Below.refl _ _) | (with_reducible assumption) | (with_reducible refine Below.setCell ?_ ?_ _) | (with_reducible refine Below.alloc ?_ ?_ _) | (with_reducible refine below_drewN ?_ _) | (with_reducible refine Below.drew ?_) | (with_reducible exact Nat.le_refl _) | omega | (simp; done) | (simp; omega)))) (Ow.block (heap_alloc_new _ _)) (Nat.le_refl _)
  clear Z22
  go_wp2_with (fail)
  obtain ⟨Vh, hV⟩ : ∃ V, V = w18.alloc (Obj.cells #[.int .i64 C, .int .i64 AT, .int .i64 BK.st, .slice vah BK.wn.length vch, .slice uah BK.ls.length uch, .slice wah BK.sc.length wch] 33) := ⟨_, rfl⟩
  rw [← hV] at Z23 ⊢
  obtain ⟨Kh, hK⟩ : ∃ K, K = w18.heap.size := ⟨_, rfl⟩
  rw [← hK] at Z23  ⊢
  clear hV hK
  clear cva_0 cva_1 cva_2 cva_3 cva_4 cva_5 lva
  refine (eqBookResult_to C AT BK.st HLN.out rfl (PB.rd (B := w17.heap.size) (show PB Vh w17.heap.size (.slice vah BK.wn.length vch) (.slice uah BK.ls.length uch) (.slice wah BK.sc.length wch) (wvO rsh) BK rsh from (Z23.out.get 13 rfl))) (PB.rd (B := w3.heap.size) (show PB Vh w3.heap.size (.slice vaa BK.wn.length vca) (.slice uaa BK.ls.length uca) (.slice waa BK.sc.length wca) (wvO rsa) BK rsa from (Z23.out.get 3 rfl)))).mono ?_
  rintro e w19 ⟨rfl, hb⟩
  have Z24 : Hid (LS w [(w.heap.size, w.heap.size + 1, fun V : World => V.heap[w.heap.size]? = some BX0), (w1.heap.size, w2.heap.size, fun V : World => OBkZ V w1.heap.size w2.heap.size (.slice (some ⟨ga0.1, 0, none⟩) bk0.wn.length bk0.wn.length) (.slice (some ⟨ga0.2.1, 0, none⟩) bk0.ls.length bk0.ls.length) (.slice (some ⟨ga0.2.2, 0, none⟩) bk0.sc.length bk0.sc.length) bk0), (w2.heap.size, w3.heap.size, fun V : World => V.ownsRow w2.heap.size 2 1 (.slice (some ⟨ga2, 0, none⟩) s2.length s2.length) s2.length (s2.map (Value.int .i64))), (w3.heap.size, Ka, fun V : World => PB V w3.heap.size (.slice vaa BK.wn.length vca) (.slice uaa BK.ls.length uca) (.slice waa BK.sc.length wca) (wvO rsa) BK rsa), (Ka, Ka + 1, fun V : World => V.heap[Ka]? = some (Obj.cells #[.int .i64 C, .int .i64 AT, .int .i64 BK.st, .slice vaa BK.wn.length vca, .slice uaa BK.ls.length uca, .slice waa BK.sc.length wca] 33)), (Va.heap.size, Kx0, fun V : World => True), (Kx0, Kx0 + 1, fun V : World => V.heap[Kx0]? = some (Obj.cells #[.int .i64 bk0.st, .slice (some ⟨x0.1, 0, none⟩) bk0.wn.length bk0.wn.length, .slice (some ⟨x0.2.1, 0, none⟩) bk0.ls.length bk0.ls.length, .slice (some ⟨x0.2.2, 0, none⟩) bk0.sc.length bk0.sc.length] 31)), (Vx0.heap.size, w6.heap.size, fun V : World => True), (w6.heap.size, Kg, fun V : World => MkB V w6.heap.size (.slice vag BK.wn.length vcg) (.slice uag BK.ls.length ucg) (.slice wag BK.sc.length wcg) BK rsg), (Kg, Kg + 1, fun V : World => V.heap[Kg]? = some (Obj.cells #[.int .i64 C, .int .i64 AT, .int .i64 BK.st, .slice vag BK.wn.length vcg, .slice uag BK.ls.length ucg, .slice wag BK.sc.length wcg] 33)), (yb0.heap.size, w9.heap.size, fun V : World => V.ownsRow yb0.heap.size 2 1 (.slice (some ⟨e2, 0, none⟩) s2.length s2.length) s2.length (s2.map (Value.int .i64))), (w15.heap.size, w16.heap.size, fun V : World => OBkZ V w15.heap.size w16.heap.size (.slice (some ⟨gh0.1, 0, none⟩) bk0.wn.length bk0.wn.length) (.slice (some ⟨gh0.2.1, 0, none⟩) bk0.ls.length bk0.ls.length) (.slice (some ⟨gh0.2.2, 0, none⟩) bk0.sc.length bk0.sc.length) bk0), (w16.heap.size, w17.heap.size, fun V : World => V.ownsRow w16.heap.size 2 1 (.slice (some ⟨gh2, 0, none⟩) s2.length s2.length) s2.length (s2.map (Value.int .i64))), (w17.heap.size, Kh, fun V : World => PB V w17.heap.size (.slice vah BK.wn.length vch) (.slice uah BK.ls.length uch) (.slice wah BK.sc.length wch) (wvO rsh) BK rsh), (Kh, Kh + 1, fun V : World => V.heap[Kh]? = some (Obj.cells #[.int .i64 C, .int .i64 AT, .int .i64 BK.st, .slice vah BK.wn.length vch, .slice uah BK.ls.length uch, .slice wah BK.sc.length wch] 33))] w19) := Z23.out.next hb
  clear Z23 hb
  have kvg := Z24.out.get 9 rfl
  have cvg_0 : w19.cell? ⟨Kg, 0, none⟩ = some (.int .i64 C) := cellOf kvg 0 rfl
  have cvg_1 : w19.cell? ⟨Kg, 1, none⟩ = some (.int .i64 AT) := cellOf kvg 1 rfl
  have cvg_2 : w19.cell? ⟨Kg, 2, none⟩ = some (.int .i64 BK.st) := cellOf kvg 2 rfl
  have cvg_3 : w19.cell? ⟨Kg, 3, none⟩ = some (.slice vag BK.wn.length vcg) := cellOf kvg 3 rfl
  have cvg_4 : w19.cell? ⟨Kg, 4, none⟩ = some (.slice uag BK.ls.length ucg) := cellOf kvg 4 rfl
  have cvg_5 : w19.cell? ⟨Kg, 5, none⟩ = some (.slice wag BK.sc.length wcg) := cellOf kvg 5 rfl
  have lvg : Kg < w19.heap.size := ltOf kvg
  clear kvg
  go_wp2_with (fail)
  clear cvg_0 cvg_1 cvg_2 cvg_3 cvg_4 cvg_5 lvg
  refine (heldBookResult_to C AT BK.st HLN.out (show MkB w19 w6.heap.size (.slice vag BK.wn.length vcg) (.slice uag BK.ls.length ucg) (.slice wag BK.sc.length wcg) BK rsg from Z24.out.get 8 rfl) ⟨_, _, _, _, _, _, rfl, rfl, rfl⟩).mono ?_
  rintro e w20 ⟨rfl, hb⟩
  have Z25 : Hid (LS w [(w.heap.size, w.heap.size + 1, fun V : World => V.heap[w.heap.size]? = some BX0), (w1.heap.size, w2.heap.size, fun V : World => OBkZ V w1.heap.size w2.heap.size (.slice (some ⟨ga0.1, 0, none⟩) bk0.wn.length bk0.wn.length) (.slice (some ⟨ga0.2.1, 0, none⟩) bk0.ls.length bk0.ls.length) (.slice (some ⟨ga0.2.2, 0, none⟩) bk0.sc.length bk0.sc.length) bk0), (w2.heap.size, w3.heap.size, fun V : World => V.ownsRow w2.heap.size 2 1 (.slice (some ⟨ga2, 0, none⟩) s2.length s2.length) s2.length (s2.map (Value.int .i64))), (w3.heap.size, Ka, fun V : World => PB V w3.heap.size (.slice vaa BK.wn.length vca) (.slice uaa BK.ls.length uca) (.slice waa BK.sc.length wca) (wvO rsa) BK rsa), (Ka, Ka + 1, fun V : World => V.heap[Ka]? = some (Obj.cells #[.int .i64 C, .int .i64 AT, .int .i64 BK.st, .slice vaa BK.wn.length vca, .slice uaa BK.ls.length uca, .slice waa BK.sc.length wca] 33)), (Va.heap.size, Kx0, fun V : World => True), (Kx0, Kx0 + 1, fun V : World => V.heap[Kx0]? = some (Obj.cells #[.int .i64 bk0.st, .slice (some ⟨x0.1, 0, none⟩) bk0.wn.length bk0.wn.length, .slice (some ⟨x0.2.1, 0, none⟩) bk0.ls.length bk0.ls.length, .slice (some ⟨x0.2.2, 0, none⟩) bk0.sc.length bk0.sc.length] 31)), (Vx0.heap.size, w6.heap.size, fun V : World => True), (w6.heap.size, Kg, fun V : World => MkB V w6.heap.size (.slice vag BK.wn.length vcg) (.slice uag BK.ls.length ucg) (.slice wag BK.sc.length wcg) BK rsg), (Kg, Kg + 1, fun V : World => V.heap[Kg]? = some (Obj.cells #[.int .i64 C, .int .i64 AT, .int .i64 BK.st, .slice vag BK.wn.length vcg, .slice uag BK.ls.length ucg, .slice wag BK.sc.length wcg] 33)), (yb0.heap.size, w9.heap.size, fun V : World => V.ownsRow yb0.heap.size 2 1 (.slice (some ⟨e2, 0, none⟩) s2.length s2.length) s2.length (s2.map (Value.int .i64))), (w15.heap.size, w16.heap.size, fun V : World => OBkZ V w15.heap.size w16.heap.size (.slice (some ⟨gh0.1, 0, none⟩) bk0.wn.length bk0.wn.length) (.slice (some ⟨gh0.2.1, 0, none⟩) bk0.ls.length bk0.ls.length) (.slice (some ⟨gh0.2.2, 0, none⟩) bk0.sc.length bk0.sc.length) bk0), (w16.heap.size, w17.heap.size, fun V : World => V.ownsRow w16.heap.size 2 1 (.slice (some ⟨gh2, 0, none⟩) s2.length s2.length) s2.length (s2.map (Value.int .i64))), (w17.heap.size, Kh, fun V : World => PB V w17.heap.size (.slice vah BK.wn.length vch) (.slice uah BK.ls.length uch) (.slice wah BK.sc.length wch) (wvO rsh) BK rsh), (Kh, Kh + 1, fun V : World => V.heap[Kh]? = some (Obj.cells #[.int .i64 C, .int .i64 AT, .int .i64 BK.st, .slice vah BK.wn.length vch, .slice uah BK.ls.length uch, .slice wah BK.sc.length wch] 33))] w20) := Z24.out.next hb
  clear Z24 hb
  rw [← HTT.out]
  go_wp2
  go_returns
  exact ⟨rfl, Z25.out.bl⟩

set_option maxRecDepth 100000 in
theorem st21_lifted (os : Os) (started : os.Started) (H : Type) (enc : TypeId × Value → H) :
    ReturnsInHanded {} Try.checked os 3 .any (Rows.fnExactStartLotSpec.pre6 enc Try.prog Try.f3 Rows.fnExactStartLotRow.domain false) (Rows.fnExactStartLotSpec.post enc Try.prog Try.f3 false true false false) := by
  refine returnsInHanded_of_change (C := Try.checked) own started (by kernel_rfl) Try.func3
    (ChangeSpec.witness6 (enc := enc) (C := Try.checked) false ⟨#[], #[.agg #[.int .i64 0, .slice none 0 0, .slice none 0 0, .slice none 0 0], .int .i64 0, .slice none 0 0], []⟩ 8 (by kernel_rfl) (by kernel_rfl) (by kernel_rfl) (by kernel_rfl)) ?_
  intro W base args ds gs before hval0 hW hcnd _
  have hval : ∀ (j : Nat) t v, Try.f3.params[j]? = some t → args[j]? = some v → Value.okWide Try.prog W .any base t v := hval0
  have hW' := hW
  obtain ⟨p, q, hA0, hV, rfl, hfz, hnd⟩ := hW
  have hA : DataW.TrodAll enc Try.prog W 0 (fun _ => true) true Try.f3.params.toList args.toList ds p := hA0
  rw [Try.params3] at hA hval
  obtain ⟨v0, vs0, d0, ds0, p0, q0, hargs, rfl, rfl, h0, r0⟩ := trodAll_cons hA
  obtain ⟨v1, vs1, d1, ds1, p1, q1, rfl, rfl, rfl, h1, r1⟩ := trodAll_cons r0
  obtain ⟨v2, vs2, d2, ds2, p2, q2, rfl, rfl, rfl, h2, r2⟩ := trodAll_cons r1
  obtain ⟨rfl, rfl, rfl⟩ := trodAll_nil r2
  obtain rfl : args = #[v0, v1, v2] := by cases args; simp_all
  obtain ⟨rfl, rfl⟩ := trodVars_none hV
  have k0 := h0
  have lt0 : ∀ x ∈ p0, x.block < W.heap.size := by obtain ⟨m, hm⟩ := k0; exact DataW.trod_lt m _ _ _ hm
  obtain ⟨sa0, sn0, sc0, ta0, tn0, tc0, xa0, xn0, xc0, bk0, rfl, ri0, sl0⟩ := book_open (hval 0 26 v0 rfl rfl) h0
  obtain ⟨n1, rfl, rfl, rfl, wn1⟩ := open_int Try.underlying2 (hval 1 2 v1 rfl rfl) h1
  have k2 := h2
  have lt2 : ∀ x ∈ p2, x.block < W.heap.size := by obtain ⟨m, hm⟩ := k2; exact DataW.trod_lt m _ _ _ hm
  obtain ⟨sa2, sn2, sc2, s2, rfl, ri2, sl2⟩ := ints_open (hval 2 24 v2 rfl rfl) h2
  clear hA0 hval0
  refine (law_st21 bk0 sl0 ri0 n1 wn1 s2 sl2 ri2).mono fun e W' ⟨he, hg⟩ => ?_
  subst he
  exact ⟨_, rfl, _, _, _, [], _, [], hW', trodAll_mk1 (shut_bool Try.underlying4 _), (trodAll_cons_mk (Below.trod laidOut (by kernel_rfl) (of_decide_eq_true (by kernel_rfl)) k0 hg lt0) (trodAll_cons_mk (shut_int Try.underlying2 wn1) (trodAll_cons_mk (Below.trod laidOut (by kernel_rfl) (of_decide_eq_true (by kernel_rfl)) k2 hg lt2) trodAll_mk0))), rfl, hg.frame _, fun h => by cases h⟩

theorem st21_over : Rows.fnExactStartLotRow.holds Try.pinned (OpenSpec.ofChange Rows.fnExactStartLotSpec) :=
  OpenClaim.holds_of_wide 3 Try.f3 rfl rfl rfl rfl rfl rfl rfl ⟨rfl, rfl, rfl, rfl, rfl⟩ rfl rfl rfl rfl rfl (by kernel_rfl) Try.func3 (by kernel_rfl)
    (of_decide_eq_true (by kernel_rfl)) (by unfold Func.isWrapper; first | (rw [if_pos (by decide +kernel)]; kernel_rfl) | (rw [if_neg (by decide +kernel)]; exact ⟨rfl, rfl⟩))
    (fun os started H enc _ => st21_lifted os started H enc)

theorem st21_proved : Rows.FnExactStartLotSaid :=
  st21_over
#print axioms st21_proved

end Go.Proofs.Ytcfjanignfbidaa
