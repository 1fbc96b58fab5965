/- Proved here: 'the program's ClassOf answers as the model's; it writes into no argument', without a condition. -/
import Derived.Test.YtjacmneopijiaaaVnI
import Derived.Test.YtjacmneopijiaaaVnS
import Derived.Test.YtjacmneopijiaaaVcB
import Derived.Test.YtjacmneopijiaaaVdO
import Derived.Test.YtjacmneopijiaaaMkSI
import Derived.Test.YtjacmneopijiaaaLwS
import Derived.Test.YtjacmneopijiaaaRows
namespace Go.Proofs.Ytjacmneopijiaaa
open Go.ChangeShapes Go.WideShapes Go.ChangeAt Go.RowKit Go.Joins
set_option linter.unusedVariables false
set_option linter.unusedSimpArgs false

theorem own : ownKnob Try.prog.godebug = none := by kernel_rfl
theorem laidOut : laidOutB Try.prog = true := by kernel_rfl

set_option maxRecDepth 10000 in
set_option maxHeartbeats 25600000 in
theorem law_co15 {w : World} (da_0 db_0 dc_0 dd_0 : Int) (hk0 : Hid (-9223372036854775808 ≤ dd_0 ∧ dd_0 ≤ 9223372036854775807)) {sa1 : Option Addr} {sn1 sc1 : Nat} (s1 : List Cls) (hm1 : s1.length ≤ maxLen) (hr1 : RG 6 vcC w (.slice sa1 sn1 sc1) s1) :
    Calls Try.prog 5 #[.agg #[.int .i64 da_0, .int .i64 db_0, .int .i64 dc_0, .int .i64 dd_0], .slice sa1 sn1 sc1] w fun e w' => e = .returned (.bool true) ∧ Below w.heap.size w w' := by
  have HM1 : Hid (sn1 ≤ maxLen) := by unfold Hid; rw [hr1.len]; exact hm1
  have HR1 : Hid (RG 6 vcC w (.slice sa1 sn1 sc1) s1) := hr1
  have HE1 : Hid (sn1 = s1.length) := hr1.len
  clear hm1 hr1
  obtain ⟨BX0, hBX0⟩ : ∃ BX, BX = Obj.cells #[.int .i64 da_0, .int .i64 db_0, .int .i64 dc_0, .int .i64 dd_0] 37 := ⟨_, rfl⟩
  have Z0 : Hid (LS w [(w.heap.size, w.heap.size + 1, fun V : World => V.heap[w.heap.size]? = some BX0)] (w.alloc (Obj.cells #[.int .i64 da_0, .int .i64 db_0, .int .i64 dc_0, .int .i64 dd_0] 37))) := by
    have p0 := LS.start w
    have p1 := LS.push (V' := (w.alloc (Obj.cells #[.int .i64 da_0, .int .i64 db_0, .int .i64 dc_0, .int .i64 dd_0] 37))) p0 (by (repeat' (first | (with_reducible exact Below.refl _ _) | (with_reducible assumption) | (with_reducible refine Below.setCell ?_ ?_ _) | (with_reducible refine Below.alloc ?_ ?_ _) | (with_reducible refine below_drewN ?_ _) | (with_reducible refine Below.drew ?_) | (with_reducible exact Nat.le_refl _) | omega | (simp; done) | (simp; omega)))) (Ow.block (k := w.heap.size) (o := BX0) (by rw [hBX0]; have := heap_alloc_new w (Obj.cells #[.int .i64 da_0, .int .i64 db_0, .int .i64 dc_0, .int .i64 dd_0] 37); simpa using this)) (by simp)
    exact p1
  have TB0 : Hid (BX0 = Obj.cells #[.int .i64 da_0, .int .i64 db_0, .int .i64 dc_0, .int .i64 dd_0] 37) := hBX0
  clear hBX0
  go_enter Try.func5, Try.ntmps5
  go_wp2_with (fail)
  obtain ⟨W0, hW0⟩ : ∃ V, V = (w.alloc (Obj.cells #[.int .i64 da_0, .int .i64 db_0, .int .i64 dc_0, .int .i64 dd_0] 37)) := ⟨_, rfl⟩
  rw [← hW0] at Z0 ⊢
  clear hW0
  refine (szClassS_gen sa1 sn1 sc1 1048576 _ (by omega) (by omega) HM1.out).mono ?_
  rintro e w1 ⟨r1, rfl, hq1, hb⟩
  have Z1 : Hid (LS w [(w.heap.size, w.heap.size + 1, fun V : World => V.heap[w.heap.size]? = some BX0)] w1) := Z0.out.next hb
  clear Z0 hb
  rcases hq1 with hneg | ⟨u1, v1, tt1⟩
  · go_wp2
    go_returns
    exact ⟨rfl, Z1.out.bl⟩
  have hl1 : ¬ r1 < 0 := by omega
  have HL1 : Hid (s1.length ≤ 1048576) := by unfold Hid; rw [← HE1.out]; omega
  obtain ⟨C0, hC0⟩ : ∃ X, X = vcF s1 := ⟨_, rfl⟩
  obtain ⟨C1, hC1⟩ : ∃ X, X = vnV ⟨da_0, db_0, dc_0, dd_0⟩ s1 := ⟨_, rfl⟩
  have HSP : Hid (∀ (W : World) (g1 : Nat), (RG 6 vcC W (.slice (some ⟨g1, 0, none⟩) s1.length s1.length) s1) → Calls Try.prog 19 #[.agg #[.int .i64 da_0, .int .i64 db_0, .int .i64 dc_0, .int .i64 dd_0], .slice (some ⟨g1, 0, none⟩) s1.length s1.length] W fun e w' => e = .returned (.agg #[.int .i64 C0, .int .i64 C1]) ∧ Below W.heap.size W w') := fun W g1 h1 => by
    rw [hC1, hC0]
    exact spec_vn ⟨da_0, db_0, dc_0, dd_0⟩ HL1.out h1
  have HIM : Hid (∀ (W : World) (g1 : Nat), (RG 6 vcC W (.slice (some ⟨g1, 0, none⟩) s1.length s1.length) s1) → Calls Try.prog 21 #[.agg #[.int .i64 da_0, .int .i64 db_0, .int .i64 dc_0, .int .i64 dd_0], .slice (some ⟨g1, 0, none⟩) s1.length s1.length] W fun e w' => e = .returned (.agg #[.int .i64 C0, .int .i64 C1]) ∧ Below W.heap.size W w') := fun W g1 h1 => by
    rw [hC1, hC0]
    exact impl_vn ⟨da_0, db_0, dc_0, dd_0⟩ hk0.out HL1.out h1
  clear hC0 hC1 u1 v1 tt1
  have kp0 := Z1.out.get 0 rfl
  rw [TB0.out] at kp0
  have cp0_0 : w1.cell? ⟨w.heap.size, 0, none⟩ = some (.int .i64 da_0) := cellOf kp0 0 rfl
  have cp0_1 : w1.cell? ⟨w.heap.size, 1, none⟩ = some (.int .i64 db_0) := cellOf kp0 1 rfl
  have cp0_2 : w1.cell? ⟨w.heap.size, 2, none⟩ = some (.int .i64 dc_0) := cellOf kp0 2 rfl
  have cp0_3 : w1.cell? ⟨w.heap.size, 3, none⟩ = some (.int .i64 dd_0) := cellOf kp0 3 rfl
  have lp0 : w.heap.size < w1.heap.size := ltOf kp0
  clear kp0
  go_wp2_with (fail)
  clear cp0_0 cp0_1 cp0_2 cp0_3 lp0
  refine (toDefect_is da_0 db_0 dc_0 dd_0 _).mono ?_
  rintro e w2 ⟨rfl, hb⟩
  have Z2 : Hid (LS w [(w.heap.size, w.heap.size + 1, fun V : World => V.heap[w.heap.size]? = some BX0)] w2) := Z1.out.next hb
  clear Z1 hb
  go_wp2_with (fail)
  refine (toClassS_any HL1.out (HR1.out.below Z2.out.bl)).mono ?_
  rintro e w3 ⟨ga1, rfl, ho, hb⟩
  have Z3 : Hid (LS w [(w.heap.size, w.heap.size + 1, fun V : World => V.heap[w.heap.size]? = some BX0), (w2.heap.size, w3.heap.size, fun V : World => V.ownsRow w2.heap.size 66 6 (.slice (some ⟨ga1, 0, none⟩) s1.length s1.length) s1.length (s1.flatMap vcC))] w3) := Z2.out.push hb (Ow.rowAll ho hb) (Nat.le_refl _)
  clear Z2 hb ho
  go_wp2_with (fail)
  refine (HSP.out w3 ga1 (OG.rg (T := 66) (B := w2.heap.size) vcC_len (show w3.ownsRow w2.heap.size 66 6 (.slice (some ⟨ga1, 0, none⟩) s1.length s1.length) s1.length (s1.flatMap vcC) from Z3.out.get 1 rfl))).mono ?_
  rintro e w4 ⟨rfl, hb⟩
  have Z4 : Hid (LS w [(w.heap.size, w.heap.size + 1, fun V : World => V.heap[w.heap.size]? = some BX0), (w2.heap.size, w3.heap.size, fun V : World => V.ownsRow w2.heap.size 66 6 (.slice (some ⟨ga1, 0, none⟩) s1.length s1.length) s1.length (s1.flatMap vcC))] w4) := Z3.out.next hb
  clear Z3 hb
  have Z5 : Hid (LS w [(w.heap.size, w.heap.size + 1, fun V : World => V.heap[w.heap.size]? = some BX0), (w2.heap.size, w3.heap.size, fun V : World => V.ownsRow w2.heap.size 66 6 (.slice (some ⟨ga1, 0, none⟩) s1.length s1.length) s1.length (s1.flatMap vcC)), (w4.heap.size, w4.heap.size + 1, fun V : World => V.heap[w4.heap.size]? = some (Obj.cells #[.int .i64 C0, .int .i64 C1] 39))] (w4.alloc (Obj.cells #[.int .i64 C0, .int .i64 C1] 39))) := Z4.out.push (by (repeat' (first | (with_reducible exact Below.refl _ _) | (with_reducible assumption) | (with_reducible refine Below.setCell ?_ ?_ _) | (with_reducible refine Below.alloc ?_ ?_ _) | (with_reducible refine below_drewN ?_ _) | (with_reducible refine Below.drew ?_) | (with_reducible exact Nat.le_refl _) | omega | (simp; done) | (simp; omega)))) (Ow.block (heap_alloc_new _ _)) (Nat.le_refl _)
  clear Z4
  go_wp2_with (fail)
  obtain ⟨Va, hV⟩ : ∃ V, V = w4.alloc (Obj.cells #[.int .i64 C0, .int .i64 C1] 39) := ⟨_, rfl⟩
  rw [← hV] at Z5 ⊢
  obtain ⟨Ka, hK⟩ : ∃ K, K = w4.heap.size := ⟨_, rfl⟩
  rw [← hK] at Z5  ⊢
  clear hV hK
  refine (toClassS_any HL1.out (HR1.out.below Z5.out.bl)).mono ?_
  rintro e w5 ⟨x1, rfl, ho, hb⟩
  have Z6 : Hid (LS w [(w.heap.size, w.heap.size + 1, fun V : World => V.heap[w.heap.size]? = some BX0), (w2.heap.size, w3.heap.size, fun V : World => V.ownsRow w2.heap.size 66 6 (.slice (some ⟨ga1, 0, none⟩) s1.length s1.length) s1.length (s1.flatMap vcC)), (Ka, Ka + 1, fun V : World => V.heap[Ka]? = some (Obj.cells #[.int .i64 C0, .int .i64 C1] 39)), (Va.heap.size, w5.heap.size, fun V : World => V.ownsRow Va.heap.size 66 6 (.slice (some ⟨x1, 0, none⟩) s1.length s1.length) s1.length (s1.flatMap vcC))] w5) := Z5.out.push hb (Ow.rowAll ho hb) (Nat.le_refl _)
  clear Z5 hb ho
  have kp0 := Z6.out.get 0 rfl
  rw [TB0.out] at kp0
  have cp0_0 : w5.cell? ⟨w.heap.size, 0, none⟩ = some (.int .i64 da_0) := cellOf kp0 0 rfl
  have cp0_1 : w5.cell? ⟨w.heap.size, 1, none⟩ = some (.int .i64 db_0) := cellOf kp0 1 rfl
  have cp0_2 : w5.cell? ⟨w.heap.size, 2, none⟩ = some (.int .i64 dc_0) := cellOf kp0 2 rfl
  have cp0_3 : w5.cell? ⟨w.heap.size, 3, none⟩ = some (.int .i64 dd_0) := cellOf kp0 3 rfl
  have lp0 : w.heap.size < w5.heap.size := ltOf kp0
  clear kp0
  go_wp2_with (fail)
  clear cp0_0 cp0_1 cp0_2 cp0_3 lp0
  refine (toDefect_is da_0 db_0 dc_0 dd_0 _).mono ?_
  rintro e w6 ⟨rfl, hb⟩
  have Z7 : Hid (LS w [(w.heap.size, w.heap.size + 1, fun V : World => V.heap[w.heap.size]? = some BX0), (w2.heap.size, w3.heap.size, fun V : World => V.ownsRow w2.heap.size 66 6 (.slice (some ⟨ga1, 0, none⟩) s1.length s1.length) s1.length (s1.flatMap vcC)), (Ka, Ka + 1, fun V : World => V.heap[Ka]? = some (Obj.cells #[.int .i64 C0, .int .i64 C1] 39)), (Va.heap.size, w5.heap.size, fun V : World => V.ownsRow Va.heap.size 66 6 (.slice (some ⟨x1, 0, none⟩) s1.length s1.length) s1.length (s1.flatMap vcC))] w6) := Z6.out.next hb
  clear Z6 hb
  go_wp2_with (fail)
  refine (HIM.out w6 x1 (OG.rg (T := 66) (B := Va.heap.size) vcC_len (show w6.ownsRow Va.heap.size 66 6 (.slice (some ⟨x1, 0, none⟩) s1.length s1.length) s1.length (s1.flatMap vcC) from Z7.out.get 3 rfl))).mono ?_
  rintro e w7 ⟨rfl, hb⟩
  have Z8 : Hid (LS w [(w.heap.size, w.heap.size + 1, fun V : World => V.heap[w.heap.size]? = some BX0), (w2.heap.size, w3.heap.size, fun V : World => V.ownsRow w2.heap.size 66 6 (.slice (some ⟨ga1, 0, none⟩) s1.length s1.length) s1.length (s1.flatMap vcC)), (Ka, Ka + 1, fun V : World => V.heap[Ka]? = some (Obj.cells #[.int .i64 C0, .int .i64 C1] 39)), (Va.heap.size, w5.heap.size, fun V : World => V.ownsRow Va.heap.size 66 6 (.slice (some ⟨x1, 0, none⟩) s1.length s1.length) s1.length (s1.flatMap vcC))] w7) := Z7.out.next hb
  clear Z7 hb
  have kva := Z8.out.get 2 rfl
  have cva_0 : w7.cell? ⟨Ka, 0, none⟩ = some (.int .i64 C0) := cellOf kva 0 rfl
  have cva_1 : w7.cell? ⟨Ka, 1, none⟩ = some (.int .i64 C1) := cellOf kva 1 rfl
  have lva : Ka < w7.heap.size := ltOf kva
  clear kva
  have Z9 : Hid (LS w [(w.heap.size, w.heap.size + 1, fun V : World => V.heap[w.heap.size]? = some BX0), (w2.heap.size, w3.heap.size, fun V : World => V.ownsRow w2.heap.size 66 6 (.slice (some ⟨ga1, 0, none⟩) s1.length s1.length) s1.length (s1.flatMap vcC)), (Ka, Ka + 1, fun V : World => V.heap[Ka]? = some (Obj.cells #[.int .i64 C0, .int .i64 C1] 39)), (Va.heap.size, w5.heap.size, fun V : World => V.ownsRow Va.heap.size 66 6 (.slice (some ⟨x1, 0, none⟩) s1.length s1.length) s1.length (s1.flatMap vcC)), (w7.heap.size, w7.heap.size + 1, fun V : World => V.heap[w7.heap.size]? = some (Obj.cells #[.int .i64 C0, .int .i64 C1] 39))] (w7.alloc (Obj.cells #[.int .i64 C0, .int .i64 C1] 39))) := Z8.out.push (by (repeat' (first | (with_reducible exact Below.refl _ _) | (with_reducible assumption) | (with_reducible refine Below.setCell ?_ ?_ _) | (with_reducible refine Below.alloc ?_ ?_ _) | (with_reducible refine below_drewN ?_ _) | (with_reducible refine Below.drew ?_) | (with_reducible exact Nat.le_refl _) | omega | (simp; done) | (simp; omega)))) (Ow.block (heap_alloc_new _ _)) (Nat.le_refl _)
  clear Z8
  go_wp2_with (fail)
  obtain ⟨Vg, hV⟩ : ∃ V, V = w7.alloc (Obj.cells #[.int .i64 C0, .int .i64 C1] 39) := ⟨_, rfl⟩
  rw [← hV] at Z9 ⊢
  obtain ⟨Kg, hK⟩ : ∃ K, K = w7.heap.size := ⟨_, rfl⟩
  rw [← hK] at Z9  ⊢
  clear hV hK
  clear cva_0 cva_1 lva
  refine (eqShapeInt_to C0 C1 _).mono ?_
  rintro e w8 ⟨rfl, hb⟩
  have Z10 : Hid (LS w [(w.heap.size, w.heap.size + 1, fun V : World => V.heap[w.heap.size]? = some BX0), (w2.heap.size, w3.heap.size, fun V : World => V.ownsRow w2.heap.size 66 6 (.slice (some ⟨ga1, 0, none⟩) s1.length s1.length) s1.length (s1.flatMap vcC)), (Ka, Ka + 1, fun V : World => V.heap[Ka]? = some (Obj.cells #[.int .i64 C0, .int .i64 C1] 39)), (Va.heap.size, w5.heap.size, fun V : World => V.ownsRow Va.heap.size 66 6 (.slice (some ⟨x1, 0, none⟩) s1.length s1.length) s1.length (s1.flatMap vcC)), (Kg, Kg + 1, fun V : World => V.heap[Kg]? = some (Obj.cells #[.int .i64 C0, .int .i64 C1] 39))] w8) := Z9.out.next hb
  clear Z9 hb
  go_wp2_with (fail)
  refine (toClassS_any HL1.out (HR1.out.below Z10.out.bl)).mono ?_
  rintro e w9 ⟨e1, rfl, ho, hb⟩
  have Z11 : Hid (LS w [(w.heap.size, w.heap.size + 1, fun V : World => V.heap[w.heap.size]? = some BX0), (w2.heap.size, w3.heap.size, fun V : World => V.ownsRow w2.heap.size 66 6 (.slice (some ⟨ga1, 0, none⟩) s1.length s1.length) s1.length (s1.flatMap vcC)), (Ka, Ka + 1, fun V : World => V.heap[Ka]? = some (Obj.cells #[.int .i64 C0, .int .i64 C1] 39)), (Va.heap.size, w5.heap.size, fun V : World => V.ownsRow Va.heap.size 66 6 (.slice (some ⟨x1, 0, none⟩) s1.length s1.length) s1.length (s1.flatMap vcC)), (Kg, Kg + 1, fun V : World => V.heap[Kg]? = some (Obj.cells #[.int .i64 C0, .int .i64 C1] 39)), (w8.heap.size, w9.heap.size, fun V : World => V.ownsRow w8.heap.size 66 6 (.slice (some ⟨e1, 0, none⟩) s1.length s1.length) s1.length (s1.flatMap vcC))] w9) := Z10.out.push hb (Ow.rowAll ho hb) (Nat.le_refl _)
  clear Z10 hb ho
  go_wp2_with (fail)
  refine (eqClassS_same (by have := HL1.out; omega) (OG.rg (T := 66) (B := Va.heap.size) vcC_len (show w9.ownsRow Va.heap.size 66 6 (.slice (some ⟨x1, 0, none⟩) s1.length s1.length) s1.length (s1.flatMap vcC) from Z11.out.get 3 rfl)) (OG.rg (T := 66) (B := w8.heap.size) vcC_len (show w9.ownsRow w8.heap.size 66 6 (.slice (some ⟨e1, 0, none⟩) s1.length s1.length) s1.length (s1.flatMap vcC) from Z11.out.get 5 rfl))).mono ?_
  rintro e w10 ⟨rfl, hb⟩
  have Z12 : Hid (LS w [(w.heap.size, w.heap.size + 1, fun V : World => V.heap[w.heap.size]? = some BX0), (w2.heap.size, w3.heap.size, fun V : World => V.ownsRow w2.heap.size 66 6 (.slice (some ⟨ga1, 0, none⟩) s1.length s1.length) s1.length (s1.flatMap vcC)), (Ka, Ka + 1, fun V : World => V.heap[Ka]? = some (Obj.cells #[.int .i64 C0, .int .i64 C1] 39)), (Va.heap.size, w5.heap.size, fun V : World => V.ownsRow Va.heap.size 66 6 (.slice (some ⟨x1, 0, none⟩) s1.length s1.length) s1.length (s1.flatMap vcC)), (Kg, Kg + 1, fun V : World => V.heap[Kg]? = some (Obj.cells #[.int .i64 C0, .int .i64 C1] 39)), (w8.heap.size, w9.heap.size, fun V : World => V.ownsRow w8.heap.size 66 6 (.slice (some ⟨e1, 0, none⟩) s1.length s1.length) s1.length (s1.flatMap vcC))] w10) := Z11.out.next hb
  clear Z11 hb
  go_wp2
  go_returns
  exact ⟨rfl, Z12.out.bl⟩

set_option maxRecDepth 100000 in
theorem co15_lifted (os : Os) (started : os.Started) (H : Type) (enc : TypeId × Value → H) :
    ReturnsInHanded {} Try.checked os 5 .any (Rows.fnExactClassOfSpec.pre6 enc Try.prog Try.f5 Rows.fnExactClassOfRow.domain false) (Rows.fnExactClassOfSpec.post enc Try.prog Try.f5 false true false false) := by
  refine returnsInHanded_of_change (C := Try.checked) own started (by kernel_rfl) Try.func5
    (ChangeSpec.witness6 (enc := enc) (C := Try.checked) false ⟨#[], #[.agg #[.int .i64 0, .int .i64 0, .int .i64 0, .int .i64 0], .slice none 0 0], []⟩ 8 (by kernel_rfl) (by kernel_rfl) (by kernel_rfl) (by kernel_rfl)) ?_
  intro W base args ds gs before hval0 hW hcnd _
  have hval : ∀ (j : Nat) t v, Try.f5.params[j]? = some t → args[j]? = some v → Value.okWide Try.prog W .any base t v := hval0
  have hW' := hW
  obtain ⟨p, q, hA0, hV, rfl, hfz, hnd⟩ := hW
  have hA : DataW.TrodAll enc Try.prog W 0 (fun _ => true) true Try.f5.params.toList args.toList ds p := hA0
  rw [Try.params5] at hA hval
  obtain ⟨v0, vs0, d0, ds0, p0, q0, hargs, rfl, rfl, h0, r0⟩ := trodAll_cons hA
  obtain ⟨v1, vs1, d1, ds1, p1, q1, rfl, rfl, rfl, h1, r1⟩ := trodAll_cons r0
  obtain ⟨rfl, rfl, rfl⟩ := trodAll_nil r1
  obtain rfl : args = #[v0, v1] := by cases args; simp_all
  obtain ⟨rfl, rfl⟩ := trodVars_none hV
  have k0 := h0
  have lt0 : ∀ x ∈ p0, x.block < W.heap.size := by obtain ⟨m, hm⟩ := k0; exact DataW.trod_lt m _ _ _ hm
  obtain ⟨da0, db0, dc0, dd0, rfl, wk0⟩ := defect_open (hval 0 37 v0 rfl rfl) h0
  have k1 := h1
  have lt1 : ∀ x ∈ p1, x.block < W.heap.size := by obtain ⟨m, hm⟩ := k1; exact DataW.trod_lt m _ _ _ hm
  obtain ⟨sa1, sn1, sc1, s1, rfl, rb1, sl1⟩ := classes_open (hval 1 29 v1 rfl rfl) h1
  clear hA0 hval0
  refine (law_co15 da0 db0 dc0 dd0 wk0 s1 sl1 rb1).mono fun e W' ⟨he, hg⟩ => ?_
  subst he
  exact ⟨_, rfl, _, _, _, [], _, [], hW', trodAll_mk1 (shut_bool Try.underlying4 _), (trodAll_cons_mk (Below.trod laidOut (by kernel_rfl) (of_decide_eq_true (by kernel_rfl)) k0 hg lt0) (trodAll_cons_mk (Below.trod laidOut (by kernel_rfl) (of_decide_eq_true (by kernel_rfl)) k1 hg lt1) trodAll_mk0)), rfl, hg.frame _, fun h => by cases h⟩

theorem co15_over : Rows.fnExactClassOfRow.holds Try.pinned (OpenSpec.ofChange Rows.fnExactClassOfSpec) :=
  OpenClaim.holds_of_wide 5 Try.f5 rfl rfl rfl rfl rfl rfl rfl ⟨rfl, rfl, rfl, rfl, rfl⟩ rfl rfl rfl rfl rfl (by kernel_rfl) Try.func5 (by kernel_rfl)
    (of_decide_eq_true (by kernel_rfl)) (by unfold Func.isWrapper; first | (rw [if_pos (by decide +kernel)]; kernel_rfl) | (rw [if_neg (by decide +kernel)]; exact ⟨rfl, rfl⟩))
    (fun os started H enc _ => co15_lifted os started H enc)

theorem co15_proved : Rows.FnExactClassOfSaid :=
  co15_over
#print axioms co15_proved

end Go.Proofs.Ytjacmneopijiaaa
