/- Proved here: 'the program's SitesOf answers as the model's; it writes into no argument and keeps nothing of one; its answer owns its memory, behind another call too', without a condition. -/
import Derived.Test.YtgjdcdhdfhkfcaaSiI
import Derived.Test.YtgjdcdhdfhkfcaaSiS
import Derived.Test.YtgjdcdhdfhkfcaaMkSt
import Derived.Test.YtgjdcdhdfhkfcaaLwS
import Derived.Test.YtgjdcdhdfhkfcaaRows
namespace Go.Proofs.Ytgjdcdhdfhkfcaa
open Go.ChangeShapes Go.WideShapes Go.ChangeAt Go.RowKit Go.Joins
set_option linter.unusedVariables false
set_option linter.unusedSimpArgs false

theorem own : ownKnob Try.prog.godebug = none := by kernel_rfl
theorem laidOut : laidOutB Try.prog = true := by kernel_rfl

set_option maxRecDepth 10000 in
set_option maxHeartbeats 25600000 in
theorem law_st14 {w : World} (n0 : Int) (n1 : Int) :
    Calls Try.prog 6 #[.int .i64 n0, .int .i64 n1] w fun e w' => e = .returned (.bool true) ∧ Below w.heap.size w w' := by
  have Z0 : Hid (LS w [] w) := LS.start w
  go_enter Try.func6, Try.ntmps6
  obtain ⟨C, hC⟩ : ∃ X, X = siC n0 n1 := ⟨_, rfl⟩
  obtain ⟨L, hL⟩ : ∃ X, X = siL n0 n1 := ⟨_, rfl⟩
  obtain ⟨LN, hLN⟩ : ∃ X, X = L.length := ⟨_, rfl⟩
  have HLN : Hid (LN = L.length ∧ LN ≤ 200) := ⟨hLN, by rw [hLN, hL]; exact siL_len n0 n1⟩
  have HSP : Hid (∀ (W : World) ,  Calls Try.prog 12 #[.int .i64 n0, .int .i64 n1] W fun e w' => ∃ v, e = .returned (.agg #[.int .i64 C, v]) ∧ w'.ownsRow W.heap.size 31 2 v LN (L.flatMap siC2) ∧ Below W.heap.size W w') := fun W   => by
    rw [hLN, hL, hC]
    exact spec_sites n0 n1 W
  have HIM : Hid (∀ (W : World) ,  Calls Try.prog 11 #[.int .i64 n0, .int .i64 n1] W fun e w' => ∃ v, e = .returned (.agg #[.int .i64 C, v]) ∧ w'.ownsRow W.heap.size 31 2 v LN (L.flatMap siC2) ∧ Below W.heap.size W w') := fun W   => by
    rw [hLN, hL, hC]
    exact impl_sites n0 n1 W
  clear hC hL hLN 
  go_wp2_with (fail)
  refine (HSP.out w  ).mono ?_
  rintro e w1 ⟨vq, rfl, hrq, hb⟩
  obtain ⟨vaa, vca, rfl⟩ : ∃ a c, vq = .slice a LN c := by
    rcases hrq.2 with ⟨rfl, h0⟩ | ⟨g, cap, cur, rfl, _⟩
    · exact ⟨_, _, by rw [h0]⟩
    · exact ⟨_, _, rfl⟩
  have Z1 : Hid (LS w [(w.heap.size, w1.heap.size, fun V : World => V.ownsRow w.heap.size 31 2 (.slice vaa LN vca) LN (L.flatMap siC2))] w1) := Z0.out.push hb (Ow.rowAll hrq hb) (Nat.le_refl _)
  clear Z0 hb hrq
  have Z2 : Hid (LS w [(w.heap.size, w1.heap.size, fun V : World => V.ownsRow w.heap.size 31 2 (.slice vaa LN vca) LN (L.flatMap siC2)), (w1.heap.size, w1.heap.size + 1, fun V : World => V.heap[w1.heap.size]? = some (Obj.cells #[.int .i64 C, .slice vaa LN vca] 28))] (w1.alloc (Obj.cells #[.int .i64 C, .slice vaa LN vca] 28))) := Z1.out.push (by (repeat' (first | (with_reducible exact Below.refl _ _) | (with_reducible assumption) | (with_reducible refine Below.setCell ?_ ?_ _) | (with_reducible refine Below.alloc ?_ ?_ _) | (with_reducible refine below_drewN ?_ _) | (with_reducible refine Below.drew ?_) | (with_reducible exact Nat.le_refl _) | omega | (simp; done) | (simp; omega)))) (Ow.block (heap_alloc_new _ _)) (Nat.le_refl _)
  clear Z1
  go_wp2_with (fail)
  obtain ⟨Va, hV⟩ : ∃ V, V = w1.alloc (Obj.cells #[.int .i64 C, .slice vaa LN vca] 28) := ⟨_, rfl⟩
  rw [← hV] at Z2 ⊢
  obtain ⟨Ka, hK⟩ : ∃ K, K = w1.heap.size := ⟨_, rfl⟩
  rw [← hK] at Z2  ⊢
  clear hV hK
  refine (HIM.out Va  ).mono ?_
  rintro e w2 ⟨vq, rfl, hrq, hb⟩
  obtain ⟨vag, vcg, rfl⟩ : ∃ a c, vq = .slice a LN c := by
    rcases hrq.2 with ⟨rfl, h0⟩ | ⟨g, cap, cur, rfl, _⟩
    · exact ⟨_, _, by rw [h0]⟩
    · exact ⟨_, _, rfl⟩
  have HXg : Hid (∀ g, (.slice vag LN vcg : Value).ownBlock = some g → g < w2.heap.size) := fun g hg => (World.ownsRow.lt hrq g hg).2
  have Z3 : Hid (LS w [(w.heap.size, Ka, fun V : World => V.ownsRow w.heap.size 31 2 (.slice vaa LN vca) LN (L.flatMap siC2)), (Ka, Ka + 1, fun V : World => V.heap[Ka]? = some (Obj.cells #[.int .i64 C, .slice vaa LN vca] 28)), (Va.heap.size, w2.heap.size, fun V : World => V.ownsRow Va.heap.size 31 2 (.slice vag LN vcg) LN (L.flatMap siC2))] w2) := Z2.out.push hb (Ow.rowAll hrq hb) (Nat.le_refl _)
  clear Z2 hb hrq
  have kva := Z3.out.get 1 rfl
  have cva_0 : w2.cell? ⟨Ka, 0, none⟩ = some (.int .i64 C) := cellOf kva 0 rfl
  have cva_1 : w2.cell? ⟨Ka, 1, none⟩ = some (.slice vaa LN vca) := cellOf kva 1 rfl
  have lva : Ka < w2.heap.size := ltOf kva
  clear kva
  have Z4 : Hid (LS w [(w.heap.size, Ka, fun V : World => V.ownsRow w.heap.size 31 2 (.slice vaa LN vca) LN (L.flatMap siC2)), (Ka, Ka + 1, fun V : World => V.heap[Ka]? = some (Obj.cells #[.int .i64 C, .slice vaa LN vca] 28)), (Va.heap.size, w2.heap.size, fun V : World => V.ownsRow Va.heap.size 31 2 (.slice vag LN vcg) LN (L.flatMap siC2)), (w2.heap.size, w2.heap.size + 1, fun V : World => V.heap[w2.heap.size]? = some (Obj.cells #[.int .i64 C, .slice vag LN vcg] 28))] (w2.alloc (Obj.cells #[.int .i64 C, .slice vag LN vcg] 28))) := Z3.out.push (by (repeat' (first | (with_reducible exact Below.refl _ _) | (with_reducible assumption) | (with_reducible refine Below.setCell ?_ ?_ _) | (with_reducible refine Below.alloc ?_ ?_ _) | (with_reducible refine below_drewN ?_ _) | (with_reducible refine Below.drew ?_) | (with_reducible exact Nat.le_refl _) | omega | (simp; done) | (simp; omega)))) (Ow.block (heap_alloc_new _ _)) (Nat.le_refl _)
  clear Z3
  go_wp2_with (fail)
  obtain ⟨Vg, hV⟩ : ∃ V, V = w2.alloc (Obj.cells #[.int .i64 C, .slice vag LN vcg] 28) := ⟨_, rfl⟩
  rw [← hV] at Z4 ⊢
  obtain ⟨Kg, hK⟩ : ∃ K, K = w2.heap.size := ⟨_, rfl⟩
  rw [← hK] at Z4 HXg ⊢
  clear hV hK
  clear cva_0 cva_1 lva
  refine (eqSitesResult_to C (by have := HLN.out; omega) (OG.rg (T := 31) (B := Va.heap.size) siC2_len (by have h : Vg.ownsRow Va.heap.size 31 2 (.slice vag LN vcg) LN (L.flatMap siC2) := (Z4.out.get 2 rfl); rw [HLN.out.1] at h ⊢; exact h : Vg.ownsRow Va.heap.size 31 2 (.slice vag LN vcg) L.length (L.flatMap siC2))) (OG.rg (T := 31) (B := w.heap.size) siC2_len (by have h : Vg.ownsRow w.heap.size 31 2 (.slice vaa LN vca) LN (L.flatMap siC2) := (Z4.out.get 0 rfl); rw [HLN.out.1] at h ⊢; exact h : Vg.ownsRow w.heap.size 31 2 (.slice vaa LN vca) L.length (L.flatMap siC2)))).mono ?_
  rintro e w3 ⟨rfl, hb⟩
  have Z5 : Hid (LS w [(w.heap.size, Ka, fun V : World => V.ownsRow w.heap.size 31 2 (.slice vaa LN vca) LN (L.flatMap siC2)), (Ka, Ka + 1, fun V : World => V.heap[Ka]? = some (Obj.cells #[.int .i64 C, .slice vaa LN vca] 28)), (Va.heap.size, Kg, fun V : World => V.ownsRow Va.heap.size 31 2 (.slice vag LN vcg) LN (L.flatMap siC2)), (Kg, Kg + 1, fun V : World => V.heap[Kg]? = some (Obj.cells #[.int .i64 C, .slice vag LN vcg] 28))] w3) := Z4.out.next hb
  clear Z4 hb
  have kvg := Z5.out.get 3 rfl
  have cvg_0 : w3.cell? ⟨Kg, 0, none⟩ = some (.int .i64 C) := cellOf kvg 0 rfl
  have cvg_1 : w3.cell? ⟨Kg, 1, none⟩ = some (.slice vag LN vcg) := cellOf kvg 1 rfl
  have lvg : Kg < w3.heap.size := ltOf kvg
  clear kvg
  go_wp2_with (fail)
  clear cvg_0 cvg_1 lvg
  refine (markSitesResult_to C 1 (by have := HLN.out; omega) (by omega) (by omega) (show w3.ownsRow Va.heap.size 31 2 (.slice vag LN vcg) LN (L.flatMap siC2) from (Z5.out.get 2 rfl)) HXg.out).mono ?_
  rintro e w4 ⟨rfl, hm, hc⟩
  have Z6 : Hid (LS w [(w.heap.size, Ka, fun V : World => V.ownsRow w.heap.size 31 2 (.slice vaa LN vca) LN (L.flatMap siC2)), (Ka, Ka + 1, fun V : World => V.heap[Ka]? = some (Obj.cells #[.int .i64 C, .slice vaa LN vca] 28)), (Va.heap.size, Kg, fun V : World => V.ownsRow Va.heap.size 31 2 (.slice vag LN vcg) LN (mkV 1 (LN * 2))), (Kg, Kg + 1, fun V : World => V.heap[Kg]? = some (Obj.cells #[.int .i64 C, .slice vag LN vcg] 28))] w4) := Z5.out.put 2 rfl hc (Ow.row hm (Z5.out.own 2 rfl).le.1 (Nat.le_trans (Z5.out.own 2 rfl).le.2 hc.size) HXg.out)
  clear Z5 hm hc
  obtain ⟨TT, hTT⟩ : ∃ TT, TT = 1 + 2 * (LN : Int) := ⟨_, rfl⟩
  have hT0 : ¬ TT < 0 := by omega
  have HTT : Hid (TT = 1 + 2 * (LN : Int)) := hTT
  rw [← hTT]
  clear hTT
  have kvg := Z6.out.get 3 rfl
  have cvg_0 : w4.cell? ⟨Kg, 0, none⟩ = some (.int .i64 C) := cellOf kvg 0 rfl
  have cvg_1 : w4.cell? ⟨Kg, 1, none⟩ = some (.slice vag LN vcg) := cellOf kvg 1 rfl
  have lvg : Kg < w4.heap.size := ltOf kvg
  clear kvg
  go_wp2_with (fail)
  clear cvg_0 cvg_1 lvg
  refine (heldSitesResult_to C 1 (by have := HLN.out; omega) (by omega) (by omega) (show w4.ownsRow Va.heap.size 31 2 (.slice vag LN vcg) LN (mkV 1 (LN * 2)) from Z6.out.get 2 rfl)).mono ?_
  rintro e w5 ⟨rfl, hb⟩
  have Z7 : Hid (LS w [(w.heap.size, Ka, fun V : World => V.ownsRow w.heap.size 31 2 (.slice vaa LN vca) LN (L.flatMap siC2)), (Ka, Ka + 1, fun V : World => V.heap[Ka]? = some (Obj.cells #[.int .i64 C, .slice vaa LN vca] 28)), (Va.heap.size, Kg, fun V : World => V.ownsRow Va.heap.size 31 2 (.slice vag LN vcg) LN (mkV 1 (LN * 2))), (Kg, Kg + 1, fun V : World => V.heap[Kg]? = some (Obj.cells #[.int .i64 C, .slice vag LN vcg] 28))] w5) := Z6.out.next hb
  clear Z6 hb
  rw [← HTT.out]
  go_wp2_with (fail)
  refine (HIM.out w5  ).mono ?_
  rintro e w6 ⟨vq, rfl, hrq, hb⟩
  obtain ⟨vah, vch, rfl⟩ : ∃ a c, vq = .slice a LN c := by
    rcases hrq.2 with ⟨rfl, h0⟩ | ⟨g, cap, cur, rfl, _⟩
    · exact ⟨_, _, by rw [h0]⟩
    · exact ⟨_, _, rfl⟩
  have Z8 : Hid (LS w [(w.heap.size, Ka, fun V : World => V.ownsRow w.heap.size 31 2 (.slice vaa LN vca) LN (L.flatMap siC2)), (Ka, Ka + 1, fun V : World => V.heap[Ka]? = some (Obj.cells #[.int .i64 C, .slice vaa LN vca] 28)), (Va.heap.size, Kg, fun V : World => V.ownsRow Va.heap.size 31 2 (.slice vag LN vcg) LN (mkV 1 (LN * 2))), (Kg, Kg + 1, fun V : World => V.heap[Kg]? = some (Obj.cells #[.int .i64 C, .slice vag LN vcg] 28)), (w5.heap.size, w6.heap.size, fun V : World => V.ownsRow w5.heap.size 31 2 (.slice vah LN vch) LN (L.flatMap siC2))] w6) := Z7.out.push hb (Ow.rowAll hrq hb) (Nat.le_refl _)
  clear Z7 hb hrq
  have kva := Z8.out.get 1 rfl
  have cva_0 : w6.cell? ⟨Ka, 0, none⟩ = some (.int .i64 C) := cellOf kva 0 rfl
  have cva_1 : w6.cell? ⟨Ka, 1, none⟩ = some (.slice vaa LN vca) := cellOf kva 1 rfl
  have lva : Ka < w6.heap.size := ltOf kva
  clear kva
  have Z9 : Hid (LS w [(w.heap.size, Ka, fun V : World => V.ownsRow w.heap.size 31 2 (.slice vaa LN vca) LN (L.flatMap siC2)), (Ka, Ka + 1, fun V : World => V.heap[Ka]? = some (Obj.cells #[.int .i64 C, .slice vaa LN vca] 28)), (Va.heap.size, Kg, fun V : World => V.ownsRow Va.heap.size 31 2 (.slice vag LN vcg) LN (mkV 1 (LN * 2))), (Kg, Kg + 1, fun V : World => V.heap[Kg]? = some (Obj.cells #[.int .i64 C, .slice vag LN vcg] 28)), (w5.heap.size, w6.heap.size, fun V : World => V.ownsRow w5.heap.size 31 2 (.slice vah LN vch) LN (L.flatMap siC2)), (w6.heap.size, w6.heap.size + 1, fun V : World => V.heap[w6.heap.size]? = some (Obj.cells #[.int .i64 C, .slice vah LN vch] 28))] (w6.alloc (Obj.cells #[.int .i64 C, .slice vah LN vch] 28))) := Z8.out.push (by (repeat' (first | (with_reducible exact Below.refl _ _) | (with_reducible assumption) | (with_reducible refine Below.setCell ?_ ?_ _) | (with_reducible refine Below.alloc ?_ ?_ _) | (with_reducible refine below_drewN ?_ _) | (with_reducible refine Below.drew ?_) | (with_reducible exact Nat.le_refl _) | omega | (simp; done) | (simp; omega)))) (Ow.block (heap_alloc_new _ _)) (Nat.le_refl _)
  clear Z8
  go_wp2_with (fail)
  obtain ⟨Vh, hV⟩ : ∃ V, V = w6.alloc (Obj.cells #[.int .i64 C, .slice vah LN vch] 28) := ⟨_, rfl⟩
  rw [← hV] at Z9 ⊢
  obtain ⟨Kh, hK⟩ : ∃ K, K = w6.heap.size := ⟨_, rfl⟩
  rw [← hK] at Z9  ⊢
  clear hV hK
  clear cva_0 cva_1 lva
  refine (eqSitesResult_to C (by have := HLN.out; omega) (OG.rg (T := 31) (B := w5.heap.size) siC2_len (by have h : Vh.ownsRow w5.heap.size 31 2 (.slice vah LN vch) LN (L.flatMap siC2) := (Z9.out.get 4 rfl); rw [HLN.out.1] at h ⊢; exact h : Vh.ownsRow w5.heap.size 31 2 (.slice vah LN vch) L.length (L.flatMap siC2))) (OG.rg (T := 31) (B := w.heap.size) siC2_len (by have h : Vh.ownsRow w.heap.size 31 2 (.slice vaa LN vca) LN (L.flatMap siC2) := (Z9.out.get 0 rfl); rw [HLN.out.1] at h ⊢; exact h : Vh.ownsRow w.heap.size 31 2 (.slice vaa LN vca) L.length (L.flatMap siC2)))).mono ?_
  rintro e w7 ⟨rfl, hb⟩
  have Z10 : Hid (LS w [(w.heap.size, Ka, fun V : World => V.ownsRow w.heap.size 31 2 (.slice vaa LN vca) LN (L.flatMap siC2)), (Ka, Ka + 1, fun V : World => V.heap[Ka]? = some (Obj.cells #[.int .i64 C, .slice vaa LN vca] 28)), (Va.heap.size, Kg, fun V : World => V.ownsRow Va.heap.size 31 2 (.slice vag LN vcg) LN (mkV 1 (LN * 2))), (Kg, Kg + 1, fun V : World => V.heap[Kg]? = some (Obj.cells #[.int .i64 C, .slice vag LN vcg] 28)), (w5.heap.size, Kh, fun V : World => V.ownsRow w5.heap.size 31 2 (.slice vah LN vch) LN (L.flatMap siC2)), (Kh, Kh + 1, fun V : World => V.heap[Kh]? = some (Obj.cells #[.int .i64 C, .slice vah LN vch] 28))] w7) := Z9.out.next hb
  clear Z9 hb
  have kvg := Z10.out.get 3 rfl
  have cvg_0 : w7.cell? ⟨Kg, 0, none⟩ = some (.int .i64 C) := cellOf kvg 0 rfl
  have cvg_1 : w7.cell? ⟨Kg, 1, none⟩ = some (.slice vag LN vcg) := cellOf kvg 1 rfl
  have lvg : Kg < w7.heap.size := ltOf kvg
  clear kvg
  go_wp2_with (fail)
  clear cvg_0 cvg_1 lvg
  refine (heldSitesResult_to C 1 (by have := HLN.out; omega) (by omega) (by omega) (show w7.ownsRow Va.heap.size 31 2 (.slice vag LN vcg) LN (mkV 1 (LN * 2)) from Z10.out.get 2 rfl)).mono ?_
  rintro e w8 ⟨rfl, hb⟩
  have Z11 : Hid (LS w [(w.heap.size, Ka, fun V : World => V.ownsRow w.heap.size 31 2 (.slice vaa LN vca) LN (L.flatMap siC2)), (Ka, Ka + 1, fun V : World => V.heap[Ka]? = some (Obj.cells #[.int .i64 C, .slice vaa LN vca] 28)), (Va.heap.size, Kg, fun V : World => V.ownsRow Va.heap.size 31 2 (.slice vag LN vcg) LN (mkV 1 (LN * 2))), (Kg, Kg + 1, fun V : World => V.heap[Kg]? = some (Obj.cells #[.int .i64 C, .slice vag LN vcg] 28)), (w5.heap.size, Kh, fun V : World => V.ownsRow w5.heap.size 31 2 (.slice vah LN vch) LN (L.flatMap siC2)), (Kh, Kh + 1, fun V : World => V.heap[Kh]? = some (Obj.cells #[.int .i64 C, .slice vah LN vch] 28))] w8) := Z10.out.next hb
  clear Z10 hb
  rw [← HTT.out]
  go_wp2
  go_returns
  exact ⟨rfl, Z11.out.bl⟩

set_option maxRecDepth 100000 in
theorem st14_lifted (os : Os) (started : os.Started) (H : Type) (enc : TypeId × Value → H) :
    ReturnsInHanded {} Try.checked os 6 .any (Rows.fnExactSitesOfSpec.pre6 enc Try.prog Try.f6 Rows.fnExactSitesOfRow.domain false) (Rows.fnExactSitesOfSpec.post enc Try.prog Try.f6 false true false false) := by
  refine returnsInHanded_of_change (C := Try.checked) own started (by kernel_rfl) Try.func6
    (ChangeSpec.witness6 (enc := enc) (C := Try.checked) false ⟨#[], #[.int .i64 0, .int .i64 0], []⟩ 8 (by kernel_rfl) (by kernel_rfl) (by kernel_rfl) (by kernel_rfl)) ?_
  intro W base args ds gs before hval0 hW hcnd _
  have hval : ∀ (j : Nat) t v, Try.f6.params[j]? = some t → args[j]? = some v → Value.okWide Try.prog W .any base t v := hval0
  have hW' := hW
  obtain ⟨p, q, hA0, hV, rfl, hfz, hnd⟩ := hW
  have hA : DataW.TrodAll enc Try.prog W 0 (fun _ => true) true Try.f6.params.toList args.toList ds p := hA0
  rw [Try.params6] at hA hval
  obtain ⟨v0, vs0, d0, ds0, p0, q0, hargs, rfl, rfl, h0, r0⟩ := trodAll_cons hA
  obtain ⟨v1, vs1, d1, ds1, p1, q1, rfl, rfl, rfl, h1, r1⟩ := trodAll_cons r0
  obtain ⟨rfl, rfl, rfl⟩ := trodAll_nil r1
  obtain rfl : args = #[v0, v1] := by cases args; simp_all
  obtain ⟨rfl, rfl⟩ := trodVars_none hV
  obtain ⟨n0, rfl, rfl, rfl, wn0⟩ := open_int Try.underlying2 (hval 0 2 v0 rfl rfl) h0
  obtain ⟨n1, rfl, rfl, rfl, wn1⟩ := open_int Try.underlying2 (hval 1 2 v1 rfl rfl) h1
  clear hA0 hval0
  simp only [List.append_nil] at hW'
  refine (law_st14 n0 n1).mono fun e W' ⟨he, hg⟩ => ?_
  subst he
  refine ⟨_, rfl, _, _, _, [], [], [], hW', ?_, ?_, rfl, hg.frame _, fun h => by cases h⟩
  · exact trodAll_cons_mk (shut_bool Try.underlying4 _) trodAll_mk0
  · exact (trodAll_cons_mk (shut_int Try.underlying2 wn0) (trodAll_cons_mk (shut_int Try.underlying2 wn1) trodAll_mk0))

theorem st14_over : Rows.fnExactSitesOfRow.holds Try.pinned (OpenSpec.ofChange Rows.fnExactSitesOfSpec) :=
  OpenClaim.holds_of_wide 6 Try.f6 rfl rfl rfl rfl rfl rfl rfl ⟨rfl, rfl, rfl, rfl, rfl⟩ rfl rfl rfl rfl rfl (by kernel_rfl) Try.func6 (by kernel_rfl)
    (of_decide_eq_true (by kernel_rfl)) (by unfold Func.isWrapper; first | (rw [if_pos (by decide +kernel)]; kernel_rfl) | (rw [if_neg (by decide +kernel)]; exact ⟨rfl, rfl⟩))
    (fun os started H enc _ => st14_lifted os started H enc)

theorem st14_proved : Rows.FnExactSitesOfSaid :=
  st14_over
#print axioms st14_proved

end Go.Proofs.Ytgjdcdhdfhkfcaa
