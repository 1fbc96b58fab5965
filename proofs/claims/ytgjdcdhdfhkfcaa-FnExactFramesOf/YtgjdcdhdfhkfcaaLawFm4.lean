/- Proved here: 'the program's FramesOf answers as the model's; it writes into no argument and keeps nothing of one; its answer owns its memory, behind another call too', without a condition. -/
import Derived.Test.YtgjdcdhdfhkfcaaFmI
import Derived.Test.YtgjdcdhdfhkfcaaFmS
import Derived.Test.YtgjdcdhdfhkfcaaFlL
import Derived.Test.YtgjdcdhdfhkfcaaFlK
import Derived.Test.YtgjdcdhdfhkfcaaFrR
import Derived.Test.YtgjdcdhdfhkfcaaLwS
import Derived.Test.YtgjdcdhdfhkfcaaRows
namespace Go.Proofs.Ytgjdcdhdfhkfcaa
open Go.ChangeShapes Go.WideShapes Go.ChangeAt Go.RowKit Go.Joins
set_option linter.unusedVariables false
set_option linter.unusedSimpArgs false

theorem own : ownKnob Try.prog.godebug = none := by kernel_rfl
theorem laidOut : laidOutB Try.prog = true := by kernel_rfl
theorem tot8 {L : List (List Nat)} (h : ∀ j, (L.getD j []).length ≤ 8) : ∀ j, totL L j ≤ 8 * j := by
  intro j
  induction j with
  | zero => simp [totL]
  | succ j ih => rw [totL]; have := h j; omega
theorem fm_small {L : List (List Nat)} {s : List Nat} (h : L.map (List.map fv) = fmL s) : SmL L := by
  have hl : L.length ≤ 25 := by
    have h1 := congrArg List.length h
    rw [List.length_map] at h1
    rw [h1]
    unfold fmL
    split
    · simp
    · rw [fmV, List.length_map, List.length_range, fmN]; omega
  have h8 : ∀ j, (L.getD j []).length ≤ 8 := by
    intro j
    have h1 := congrArg (fun l => l[j]?) h
    simp only [List.getElem?_map] at h1
    rw [List.getD_eq_getElem?_getD]
    cases e : L[j]? with
    | none => simp
    | some r =>
      rw [e] at h1
      simp only [Option.map_some] at h1
      have hm : r.map fv ∈ fmL s := List.mem_of_getElem? h1.symm
      unfold fmL at hm
      split at hm
      · simp at hm
      · rw [fmV, List.mem_map] at hm
        obtain ⟨q, _, hq⟩ := hm
        have h9 := congrArg List.length hq
        simp [fmR] at h9
        simp [← h9]
  exact ⟨by omega, by have := tot8 h8 L.length; omega⟩

set_option maxRecDepth 10000 in
set_option maxHeartbeats 25600000 in
theorem law_fm14 {w : World} {sa0 : Option Addr} {sn0 sc0 : Nat} (s0 : List Nat) (hm0 : s0.length ≤ maxLen) (hr0 : RG 1 flC w (.slice sa0 sn0 sc0) s0) :
    Calls Try.prog 4 #[.slice sa0 sn0 sc0] w fun e w' => e = .returned (.bool true) ∧ Below w.heap.size w w' := by
  have HM0 : Hid (sn0 ≤ maxLen) := by unfold Hid; rw [hr0.len]; exact hm0
  have HR0 : Hid (RG 1 flC w (.slice sa0 sn0 sc0) s0) := hr0
  have HE0 : Hid (sn0 = s0.length) := hr0.len
  clear hm0 hr0
  have Z0 : Hid (LS w [] w) := LS.start w
  go_enter Try.func4, Try.ntmps4
  by_cases hf0 : (1048576 : Int) < (sn0 : Int)
  · go_wp2
    go_returns
    exact ⟨rfl, Below.refl _ _⟩
  have HL0 : Hid (s0.length ≤ 1048576) := by unfold Hid; rw [← HE0.out]; omega
  obtain ⟨C, hC⟩ : ∃ X, X = fmC s0 := ⟨_, rfl⟩
  obtain ⟨FV, hFV⟩ : ∃ X, X = fmL s0 := ⟨_, rfl⟩
  have HSM : Hid (∀ L : List (List Nat), L.map (List.map fv) = FV → SmL L) := fun L h => fm_small (by rw [h, hFV])
  have HSP : Hid (∀ (W : World) (g0 : Nat), (RG 1 flC W (.slice (some ⟨g0, 0, none⟩) s0.length s0.length) s0) → Calls Try.prog 13 #[.slice (some ⟨g0, 0, none⟩) s0.length s0.length] W fun e w' => ∃ (v : Value) (vl : List Value × List (List Nat)), e = .returned (.agg #[.int .i64 C, v]) ∧ (RoL w' W.heap.size v vl.2 vl.1 ∧ vl.2.map (List.map fv) = FV) ∧ Below W.heap.size W w') := fun W g0 h0 => by
    rw [hFV, hC]
    exact (spec_frames HL0.out h0).mono (fun e w' h9 => let ⟨v, h1, ⟨vs, L, h2, h3⟩, h4⟩ := h9; ⟨v, (vs, L), h1, ⟨h2, h3⟩, h4⟩)
  have HIM : Hid (∀ (W : World) (g0 : Nat), (RG 1 flC W (.slice (some ⟨g0, 0, none⟩) s0.length s0.length) s0) → Calls Try.prog 15 #[.slice (some ⟨g0, 0, none⟩) s0.length s0.length] W fun e w' => ∃ (v : Value) (vl : List Value × List (List Nat)), e = .returned (.agg #[.int .i64 C, v]) ∧ (RoL w' W.heap.size v vl.2 vl.1 ∧ vl.2.map (List.map fv) = FV) ∧ Below W.heap.size W w') := fun W g0 h0 => by
    rw [hFV, hC]
    exact (impl_frames HL0.out h0).mono (fun e w' h9 => let ⟨v, h1, ⟨vs, L, h2, h3⟩, h4⟩ := h9; ⟨v, (vs, L), h1, ⟨h2, h3⟩, h4⟩)
  clear hC hFV 
  go_wp2_with (fail)
  refine (toFloat64S_any HL0.out (HR0.out.below Z0.out.bl)).mono ?_
  rintro e w1 ⟨ga0, rfl, ho, hb⟩
  have Z1 : Hid (LS w [(w.heap.size, w1.heap.size, fun V : World => V.ownsRow w.heap.size 55 1 (.slice (some ⟨ga0, 0, none⟩) s0.length s0.length) s0.length (s0.flatMap flC))] w1) := Z0.out.push hb (Ow.rowAll ho hb) (Nat.le_refl _)
  clear Z0 hb ho
  go_wp2_with (fail)
  refine (HSP.out w1 ga0 (OG.rg (T := 55) (B := w.heap.size) flC_len (show w1.ownsRow w.heap.size 55 1 (.slice (some ⟨ga0, 0, none⟩) s0.length s0.length) s0.length (s0.flatMap flC) from Z1.out.get 0 rfl))).mono ?_
  rintro e w2 ⟨vq, vr, rfl, hrq, hb⟩
  obtain ⟨vsa, La⟩ := vr
  obtain ⟨hrq, hv9⟩ := hrq
  simp only at hrq hv9
  obtain ⟨vaa, vca, rfl⟩ := hrq.form
  have HVa : Hid (La.map (List.map fv) = FV) := hv9
  have HLNa : Hid (SmL La) := HSM.out La hv9
  clear hv9
  have Z2 : Hid (LS w [(w.heap.size, w1.heap.size, fun V : World => V.ownsRow w.heap.size 55 1 (.slice (some ⟨ga0, 0, none⟩) s0.length s0.length) s0.length (s0.flatMap flC)), (w1.heap.size, w2.heap.size, fun V : World => RoL V w1.heap.size (.slice vaa La.length vca) La vsa)] w2) := Z1.out.push hb (Ow.rAllL hrq hb) (Nat.le_refl _)
  clear Z1 hb hrq
  have Z3 : Hid (LS w [(w.heap.size, w1.heap.size, fun V : World => V.ownsRow w.heap.size 55 1 (.slice (some ⟨ga0, 0, none⟩) s0.length s0.length) s0.length (s0.flatMap flC)), (w1.heap.size, w2.heap.size, fun V : World => RoL V w1.heap.size (.slice vaa La.length vca) La vsa), (w2.heap.size, w2.heap.size + 1, fun V : World => V.heap[w2.heap.size]? = some (Obj.cells #[.int .i64 C, .slice vaa La.length vca] 35))] (w2.alloc (Obj.cells #[.int .i64 C, .slice vaa La.length vca] 35))) := Z2.out.push (by (repeat' (first | (with_reducible exact Below.refl _ _) | (with_reducible assumption) | (with_reducible refine Below.setCell ?_ ?_ _) | (with_reducible refine Below.alloc ?_ ?_ _) | (with_reducible refine below_drewN ?_ _) | (with_reducible refine Below.drew ?_) | (with_reducible exact Nat.le_refl _) | omega | (simp; done) | (simp; omega)))) (Ow.block (heap_alloc_new _ _)) (Nat.le_refl _)
  clear Z2
  go_wp2_with (fail)
  obtain ⟨Va, hV⟩ : ∃ V, V = w2.alloc (Obj.cells #[.int .i64 C, .slice vaa La.length vca] 35) := ⟨_, rfl⟩
  rw [← hV] at Z3 ⊢
  obtain ⟨Ka, hK⟩ : ∃ K, K = w2.heap.size := ⟨_, rfl⟩
  rw [← hK] at Z3  ⊢
  clear hV hK
  refine (toFloat64S_any HL0.out (HR0.out.below Z3.out.bl)).mono ?_
  rintro e w3 ⟨x0, rfl, ho, hb⟩
  have HX0 : Hid (∀ g, (.slice (some ⟨x0, 0, none⟩) s0.length s0.length : Value).ownBlock = some g → g < w3.heap.size) := fun g hg => (World.ownsRow.lt ho g hg).2
  have Z4 : Hid (LS w [(w.heap.size, w1.heap.size, fun V : World => V.ownsRow w.heap.size 55 1 (.slice (some ⟨ga0, 0, none⟩) s0.length s0.length) s0.length (s0.flatMap flC)), (w1.heap.size, Ka, fun V : World => RoL V w1.heap.size (.slice vaa La.length vca) La vsa), (Ka, Ka + 1, fun V : World => V.heap[Ka]? = some (Obj.cells #[.int .i64 C, .slice vaa La.length vca] 35)), (Va.heap.size, w3.heap.size, fun V : World => V.ownsRow Va.heap.size 55 1 (.slice (some ⟨x0, 0, none⟩) s0.length s0.length) s0.length (s0.flatMap flC))] w3) := Z3.out.push hb (Ow.rowAll ho hb) (Nat.le_refl _)
  clear Z3 hb ho
  go_wp2_with (fail)
  refine (HIM.out w3 x0 (OG.rg (T := 55) (B := Va.heap.size) flC_len (show w3.ownsRow Va.heap.size 55 1 (.slice (some ⟨x0, 0, none⟩) s0.length s0.length) s0.length (s0.flatMap flC) from Z4.out.get 3 rfl))).mono ?_
  rintro e w4 ⟨vq, vr, rfl, hrq, hb⟩
  obtain ⟨vsg, Lg⟩ := vr
  obtain ⟨hrq, hv9⟩ := hrq
  simp only at hrq hv9
  obtain ⟨vag, vcg, rfl⟩ := hrq.form
  have HVg : Hid (Lg.map (List.map fv) = FV) := hv9
  have HLNg : Hid (SmL Lg) := HSM.out Lg hv9
  clear hv9
  have HXg : Hid (LtL (.slice vag Lg.length vcg) vsg Lg.length w4.heap.size) := hrq.lt
  have Z5 : Hid (LS w [(w.heap.size, w1.heap.size, fun V : World => V.ownsRow w.heap.size 55 1 (.slice (some ⟨ga0, 0, none⟩) s0.length s0.length) s0.length (s0.flatMap flC)), (w1.heap.size, Ka, fun V : World => RoL V w1.heap.size (.slice vaa La.length vca) La vsa), (Ka, Ka + 1, fun V : World => V.heap[Ka]? = some (Obj.cells #[.int .i64 C, .slice vaa La.length vca] 35)), (Va.heap.size, w3.heap.size, fun V : World => V.ownsRow Va.heap.size 55 1 (.slice (some ⟨x0, 0, none⟩) s0.length s0.length) s0.length (s0.flatMap flC)), (w3.heap.size, w4.heap.size, fun V : World => RoL V w3.heap.size (.slice vag Lg.length vcg) Lg vsg)] w4) := Z4.out.push hb (Ow.rAllL hrq hb) (Nat.le_refl _)
  clear Z4 hb hrq
  have kva := Z5.out.get 2 rfl
  have cva_0 : w4.cell? ⟨Ka, 0, none⟩ = some (.int .i64 C) := cellOf kva 0 rfl
  have cva_1 : w4.cell? ⟨Ka, 1, none⟩ = some (.slice vaa La.length vca) := cellOf kva 1 rfl
  have lva : Ka < w4.heap.size := ltOf kva
  clear kva
  have Z6 : Hid (LS w [(w.heap.size, w1.heap.size, fun V : World => V.ownsRow w.heap.size 55 1 (.slice (some ⟨ga0, 0, none⟩) s0.length s0.length) s0.length (s0.flatMap flC)), (w1.heap.size, Ka, fun V : World => RoL V w1.heap.size (.slice vaa La.length vca) La vsa), (Ka, Ka + 1, fun V : World => V.heap[Ka]? = some (Obj.cells #[.int .i64 C, .slice vaa La.length vca] 35)), (Va.heap.size, w3.heap.size, fun V : World => V.ownsRow Va.heap.size 55 1 (.slice (some ⟨x0, 0, none⟩) s0.length s0.length) s0.length (s0.flatMap flC)), (w3.heap.size, w4.heap.size, fun V : World => RoL V w3.heap.size (.slice vag Lg.length vcg) Lg vsg), (w4.heap.size, w4.heap.size + 1, fun V : World => V.heap[w4.heap.size]? = some (Obj.cells #[.int .i64 C, .slice vag Lg.length vcg] 35))] (w4.alloc (Obj.cells #[.int .i64 C, .slice vag Lg.length vcg] 35))) := Z5.out.push (by (repeat' (first | (with_reducible exact Below.refl _ _) | (with_reducible assumption) | (with_reducible refine Below.setCell ?_ ?_ _) | (with_reducible refine Below.alloc ?_ ?_ _) | (with_reducible refine below_drewN ?_ _) | (with_reducible refine Below.drew ?_) | (with_reducible exact Nat.le_refl _) | omega | (simp; done) | (simp; omega)))) (Ow.block (heap_alloc_new _ _)) (Nat.le_refl _)
  clear Z5
  go_wp2_with (fail)
  obtain ⟨Vg, hV⟩ : ∃ V, V = w4.alloc (Obj.cells #[.int .i64 C, .slice vag Lg.length vcg] 35) := ⟨_, rfl⟩
  rw [← hV] at Z6 ⊢
  obtain ⟨Kg, hK⟩ : ∃ K, K = w4.heap.size := ⟨_, rfl⟩
  rw [← hK] at Z6 HXg ⊢
  clear hV hK
  clear cva_0 cva_1 lva
  refine (eqFramesResult_v C HLNg.out (HVg.out.trans HVa.out.symm) (RoL.rd (B := w3.heap.size) (show RoL Vg w3.heap.size (.slice vag Lg.length vcg) Lg vsg from (Z6.out.get 4 rfl))) (RoL.rd (B := w1.heap.size) (show RoL Vg w1.heap.size (.slice vaa La.length vca) La vsa from (Z6.out.get 1 rfl)))).mono ?_
  rintro e w5 ⟨rfl, hb⟩
  have Z7 : Hid (LS w [(w.heap.size, w1.heap.size, fun V : World => V.ownsRow w.heap.size 55 1 (.slice (some ⟨ga0, 0, none⟩) s0.length s0.length) s0.length (s0.flatMap flC)), (w1.heap.size, Ka, fun V : World => RoL V w1.heap.size (.slice vaa La.length vca) La vsa), (Ka, Ka + 1, fun V : World => V.heap[Ka]? = some (Obj.cells #[.int .i64 C, .slice vaa La.length vca] 35)), (Va.heap.size, w3.heap.size, fun V : World => V.ownsRow Va.heap.size 55 1 (.slice (some ⟨x0, 0, none⟩) s0.length s0.length) s0.length (s0.flatMap flC)), (w3.heap.size, Kg, fun V : World => RoL V w3.heap.size (.slice vag Lg.length vcg) Lg vsg), (Kg, Kg + 1, fun V : World => V.heap[Kg]? = some (Obj.cells #[.int .i64 C, .slice vag Lg.length vcg] 35))] w5) := Z6.out.next hb
  clear Z6 hb
  go_wp2_with (fail)
  refine (toFloat64S_any HL0.out (HR0.out.below Z7.out.bl)).mono ?_
  rintro e w6 ⟨e0, rfl, ho, hb⟩
  have Z8 : Hid (LS w [(w.heap.size, w1.heap.size, fun V : World => V.ownsRow w.heap.size 55 1 (.slice (some ⟨ga0, 0, none⟩) s0.length s0.length) s0.length (s0.flatMap flC)), (w1.heap.size, Ka, fun V : World => RoL V w1.heap.size (.slice vaa La.length vca) La vsa), (Ka, Ka + 1, fun V : World => V.heap[Ka]? = some (Obj.cells #[.int .i64 C, .slice vaa La.length vca] 35)), (Va.heap.size, w3.heap.size, fun V : World => V.ownsRow Va.heap.size 55 1 (.slice (some ⟨x0, 0, none⟩) s0.length s0.length) s0.length (s0.flatMap flC)), (w3.heap.size, Kg, fun V : World => RoL V w3.heap.size (.slice vag Lg.length vcg) Lg vsg), (Kg, Kg + 1, fun V : World => V.heap[Kg]? = some (Obj.cells #[.int .i64 C, .slice vag Lg.length vcg] 35)), (w5.heap.size, w6.heap.size, fun V : World => V.ownsRow w5.heap.size 55 1 (.slice (some ⟨e0, 0, none⟩) s0.length s0.length) s0.length (s0.flatMap flC))] w6) := Z7.out.push hb (Ow.rowAll ho hb) (Nat.le_refl _)
  clear Z7 hb ho
  go_wp2_with (fail)
  refine (eqFloat64S_same (by have := HL0.out; omega) (OG.rg (T := 55) (B := Va.heap.size) flC_len (show w6.ownsRow Va.heap.size 55 1 (.slice (some ⟨x0, 0, none⟩) s0.length s0.length) s0.length (s0.flatMap flC) from Z8.out.get 3 rfl)) (OG.rg (T := 55) (B := w5.heap.size) flC_len (show w6.ownsRow w5.heap.size 55 1 (.slice (some ⟨e0, 0, none⟩) s0.length s0.length) s0.length (s0.flatMap flC) from Z8.out.get 6 rfl))).mono ?_
  rintro e w7 ⟨rfl, hb⟩
  have Z9 : Hid (LS w [(w.heap.size, w1.heap.size, fun V : World => V.ownsRow w.heap.size 55 1 (.slice (some ⟨ga0, 0, none⟩) s0.length s0.length) s0.length (s0.flatMap flC)), (w1.heap.size, Ka, fun V : World => RoL V w1.heap.size (.slice vaa La.length vca) La vsa), (Ka, Ka + 1, fun V : World => V.heap[Ka]? = some (Obj.cells #[.int .i64 C, .slice vaa La.length vca] 35)), (Va.heap.size, w3.heap.size, fun V : World => V.ownsRow Va.heap.size 55 1 (.slice (some ⟨x0, 0, none⟩) s0.length s0.length) s0.length (s0.flatMap flC)), (w3.heap.size, Kg, fun V : World => RoL V w3.heap.size (.slice vag Lg.length vcg) Lg vsg), (Kg, Kg + 1, fun V : World => V.heap[Kg]? = some (Obj.cells #[.int .i64 C, .slice vag Lg.length vcg] 35)), (w5.heap.size, w6.heap.size, fun V : World => V.ownsRow w5.heap.size 55 1 (.slice (some ⟨e0, 0, none⟩) s0.length s0.length) s0.length (s0.flatMap flC))] w7) := Z8.out.next hb
  clear Z8 hb
  go_wp2_with (fail)
  refine (markFloat64S_to 1 HL0.out (by omega) (by omega) (show w7.ownsRow Va.heap.size 55 1 (.slice (some ⟨x0, 0, none⟩) s0.length s0.length) s0.length (s0.flatMap flC) from Z9.out.get 3 rfl) (HX0.out)).mono ?_
  rintro e w8 ⟨rfl, hm, hc⟩
  have Z10 : Hid (LS w [(w.heap.size, w1.heap.size, fun V : World => V.ownsRow w.heap.size 55 1 (.slice (some ⟨ga0, 0, none⟩) s0.length s0.length) s0.length (s0.flatMap flC)), (w1.heap.size, Ka, fun V : World => RoL V w1.heap.size (.slice vaa La.length vca) La vsa), (Ka, Ka + 1, fun V : World => V.heap[Ka]? = some (Obj.cells #[.int .i64 C, .slice vaa La.length vca] 35)), (Va.heap.size, w3.heap.size, fun V : World => True), (w3.heap.size, Kg, fun V : World => RoL V w3.heap.size (.slice vag Lg.length vcg) Lg vsg), (Kg, Kg + 1, fun V : World => V.heap[Kg]? = some (Obj.cells #[.int .i64 C, .slice vag Lg.length vcg] 35)), (w5.heap.size, w6.heap.size, fun V : World => V.ownsRow w5.heap.size 55 1 (.slice (some ⟨e0, 0, none⟩) s0.length s0.length) s0.length (s0.flatMap flC))] w8) := Z9.out.put 3 rfl hc ((Z9.out.own 3 rfl).true hc.size)
  clear Z9 hm hc
  obtain ⟨N0, hN⟩ : ∃ N, N = 1 + (s0.length : Int) := ⟨_, rfl⟩
  rw [← hN]
  have hN0 : 0 ≤ N0 ∧ N0 ≤ 10000000 ∧ ¬ N0 < 0 := by have := HL0.out; omega
  have hN0a := hN0.2.2
  clear hN
  have kvg := Z10.out.get 5 rfl
  have cvg_0 : w8.cell? ⟨Kg, 0, none⟩ = some (.int .i64 C) := cellOf kvg 0 rfl
  have cvg_1 : w8.cell? ⟨Kg, 1, none⟩ = some (.slice vag Lg.length vcg) := cellOf kvg 1 rfl
  have lvg : Kg < w8.heap.size := ltOf kvg
  clear kvg
  have kva := Z10.out.get 2 rfl
  have cva_0 : w8.cell? ⟨Ka, 0, none⟩ = some (.int .i64 C) := cellOf kva 0 rfl
  have cva_1 : w8.cell? ⟨Ka, 1, none⟩ = some (.slice vaa La.length vca) := cellOf kva 1 rfl
  have lva : Ka < w8.heap.size := ltOf kva
  clear kva
  go_wp2_with (fail)
  clear cvg_0 cvg_1 lvg cva_0 cva_1 lva
  refine (eqFramesResult_v C HLNg.out (HVg.out.trans HVa.out.symm) (RoL.rd (B := w3.heap.size) (show RoL w8 w3.heap.size (.slice vag Lg.length vcg) Lg vsg from (Z10.out.get 4 rfl))) (RoL.rd (B := w1.heap.size) (show RoL w8 w1.heap.size (.slice vaa La.length vca) La vsa from (Z10.out.get 1 rfl)))).mono ?_
  rintro e w9 ⟨rfl, hb⟩
  have Z11 : Hid (LS w [(w.heap.size, w1.heap.size, fun V : World => V.ownsRow w.heap.size 55 1 (.slice (some ⟨ga0, 0, none⟩) s0.length s0.length) s0.length (s0.flatMap flC)), (w1.heap.size, Ka, fun V : World => RoL V w1.heap.size (.slice vaa La.length vca) La vsa), (Ka, Ka + 1, fun V : World => V.heap[Ka]? = some (Obj.cells #[.int .i64 C, .slice vaa La.length vca] 35)), (Va.heap.size, w3.heap.size, fun V : World => True), (w3.heap.size, Kg, fun V : World => RoL V w3.heap.size (.slice vag Lg.length vcg) Lg vsg), (Kg, Kg + 1, fun V : World => V.heap[Kg]? = some (Obj.cells #[.int .i64 C, .slice vag Lg.length vcg] 35)), (w5.heap.size, w6.heap.size, fun V : World => V.ownsRow w5.heap.size 55 1 (.slice (some ⟨e0, 0, none⟩) s0.length s0.length) s0.length (s0.flatMap flC))] w9) := Z10.out.next hb
  clear Z10 hb
  have kvg := Z11.out.get 5 rfl
  have cvg_0 : w9.cell? ⟨Kg, 0, none⟩ = some (.int .i64 C) := cellOf kvg 0 rfl
  have cvg_1 : w9.cell? ⟨Kg, 1, none⟩ = some (.slice vag Lg.length vcg) := cellOf kvg 1 rfl
  have lvg : Kg < w9.heap.size := ltOf kvg
  clear kvg
  go_wp2_with (fail)
  clear cvg_0 cvg_1 lvg
  refine (markFramesResult_to C 1 HLNg.out (by omega) (by omega) (show RoL w9 w3.heap.size (.slice vag Lg.length vcg) Lg vsg from (Z11.out.get 4 rfl)) HXg.out).mono ?_
  rintro e w10 ⟨rfl, hm, hc⟩
  have Z12 : Hid (LS w [(w.heap.size, w1.heap.size, fun V : World => V.ownsRow w.heap.size 55 1 (.slice (some ⟨ga0, 0, none⟩) s0.length s0.length) s0.length (s0.flatMap flC)), (w1.heap.size, Ka, fun V : World => RoL V w1.heap.size (.slice vaa La.length vca) La vsa), (Ka, Ka + 1, fun V : World => V.heap[Ka]? = some (Obj.cells #[.int .i64 C, .slice vaa La.length vca] 35)), (Va.heap.size, w3.heap.size, fun V : World => True), (w3.heap.size, Kg, fun V : World => RoL V w3.heap.size (.slice vag Lg.length vcg) (mkGL 1 Lg Lg.length) vsg), (Kg, Kg + 1, fun V : World => V.heap[Kg]? = some (Obj.cells #[.int .i64 C, .slice vag Lg.length vcg] 35)), (w5.heap.size, w6.heap.size, fun V : World => V.ownsRow w5.heap.size 55 1 (.slice (some ⟨e0, 0, none⟩) s0.length s0.length) s0.length (s0.flatMap flC))] w10) := Z11.out.put 4 rfl hc (Ow.rL hm (Z11.out.own 4 rfl).le.1 (Nat.le_trans (Z11.out.own 4 rfl).le.2 hc.size) (by rw [mkGL_len]; exact HXg.out))
  clear Z11 hm hc
  obtain ⟨TT, hTT⟩ : ∃ TT, TT = 1 + (totL Lg Lg.length : Int) := ⟨_, rfl⟩
  have hT0 : ¬ TT < 0 := by omega
  have HTT : Hid (TT = 1 + (totL Lg Lg.length : Int)) := hTT
  rw [← hTT]
  clear hTT
  have kvg := Z12.out.get 5 rfl
  have cvg_0 : w10.cell? ⟨Kg, 0, none⟩ = some (.int .i64 C) := cellOf kvg 0 rfl
  have cvg_1 : w10.cell? ⟨Kg, 1, none⟩ = some (.slice vag Lg.length vcg) := cellOf kvg 1 rfl
  have lvg : Kg < w10.heap.size := ltOf kvg
  clear kvg
  go_wp2_with (fail)
  clear cvg_0 cvg_1 lvg
  refine (heldFramesResult_to C 1 HLNg.out (by omega) (by omega) (show RoL w10 w3.heap.size (.slice vag Lg.length vcg) (mkGL 1 Lg Lg.length) vsg from Z12.out.get 4 rfl)).mono ?_
  rintro e w11 ⟨rfl, hb⟩
  have Z13 : Hid (LS w [(w.heap.size, w1.heap.size, fun V : World => V.ownsRow w.heap.size 55 1 (.slice (some ⟨ga0, 0, none⟩) s0.length s0.length) s0.length (s0.flatMap flC)), (w1.heap.size, Ka, fun V : World => RoL V w1.heap.size (.slice vaa La.length vca) La vsa), (Ka, Ka + 1, fun V : World => V.heap[Ka]? = some (Obj.cells #[.int .i64 C, .slice vaa La.length vca] 35)), (Va.heap.size, w3.heap.size, fun V : World => True), (w3.heap.size, Kg, fun V : World => RoL V w3.heap.size (.slice vag Lg.length vcg) (mkGL 1 Lg Lg.length) vsg), (Kg, Kg + 1, fun V : World => V.heap[Kg]? = some (Obj.cells #[.int .i64 C, .slice vag Lg.length vcg] 35)), (w5.heap.size, w6.heap.size, fun V : World => V.ownsRow w5.heap.size 55 1 (.slice (some ⟨e0, 0, none⟩) s0.length s0.length) s0.length (s0.flatMap flC))] w11) := Z12.out.next hb
  clear Z12 hb
  rw [← HTT.out]
  go_wp2_with (fail)
  refine (toFloat64S_any HL0.out (HR0.out.below Z13.out.bl)).mono ?_
  rintro e w12 ⟨gh0, rfl, ho, hb⟩
  have Z14 : Hid (LS w [(w.heap.size, w1.heap.size, fun V : World => V.ownsRow w.heap.size 55 1 (.slice (some ⟨ga0, 0, none⟩) s0.length s0.length) s0.length (s0.flatMap flC)), (w1.heap.size, Ka, fun V : World => RoL V w1.heap.size (.slice vaa La.length vca) La vsa), (Ka, Ka + 1, fun V : World => V.heap[Ka]? = some (Obj.cells #[.int .i64 C, .slice vaa La.length vca] 35)), (Va.heap.size, w3.heap.size, fun V : World => True), (w3.heap.size, Kg, fun V : World => RoL V w3.heap.size (.slice vag Lg.length vcg) (mkGL 1 Lg Lg.length) vsg), (Kg, Kg + 1, fun V : World => V.heap[Kg]? = some (Obj.cells #[.int .i64 C, .slice vag Lg.length vcg] 35)), (w5.heap.size, w6.heap.size, fun V : World => V.ownsRow w5.heap.size 55 1 (.slice (some ⟨e0, 0, none⟩) s0.length s0.length) s0.length (s0.flatMap flC)), (w11.heap.size, w12.heap.size, fun V : World => V.ownsRow w11.heap.size 55 1 (.slice (some ⟨gh0, 0, none⟩) s0.length s0.length) s0.length (s0.flatMap flC))] w12) := Z13.out.push hb (Ow.rowAll ho hb) (Nat.le_refl _)
  clear Z13 hb ho
  go_wp2_with (fail)
  refine (HIM.out w12 gh0 (OG.rg (T := 55) (B := w11.heap.size) flC_len (show w12.ownsRow w11.heap.size 55 1 (.slice (some ⟨gh0, 0, none⟩) s0.length s0.length) s0.length (s0.flatMap flC) from Z14.out.get 7 rfl))).mono ?_
  rintro e w13 ⟨vq, vr, rfl, hrq, hb⟩
  obtain ⟨vsh, Lh⟩ := vr
  obtain ⟨hrq, hv9⟩ := hrq
  simp only at hrq hv9
  obtain ⟨vah, vch, rfl⟩ := hrq.form
  have HVh : Hid (Lh.map (List.map fv) = FV) := hv9
  have HLNh : Hid (SmL Lh) := HSM.out Lh hv9
  clear hv9
  have Z15 : Hid (LS w [(w.heap.size, w1.heap.size, fun V : World => V.ownsRow w.heap.size 55 1 (.slice (some ⟨ga0, 0, none⟩) s0.length s0.length) s0.length (s0.flatMap flC)), (w1.heap.size, Ka, fun V : World => RoL V w1.heap.size (.slice vaa La.length vca) La vsa), (Ka, Ka + 1, fun V : World => V.heap[Ka]? = some (Obj.cells #[.int .i64 C, .slice vaa La.length vca] 35)), (Va.heap.size, w3.heap.size, fun V : World => True), (w3.heap.size, Kg, fun V : World => RoL V w3.heap.size (.slice vag Lg.length vcg) (mkGL 1 Lg Lg.length) vsg), (Kg, Kg + 1, fun V : World => V.heap[Kg]? = some (Obj.cells #[.int .i64 C, .slice vag Lg.length vcg] 35)), (w5.heap.size, w6.heap.size, fun V : World => V.ownsRow w5.heap.size 55 1 (.slice (some ⟨e0, 0, none⟩) s0.length s0.length) s0.length (s0.flatMap flC)), (w11.heap.size, w12.heap.size, fun V : World => V.ownsRow w11.heap.size 55 1 (.slice (some ⟨gh0, 0, none⟩) s0.length s0.length) s0.length (s0.flatMap flC)), (w12.heap.size, w13.heap.size, fun V : World => RoL V w12.heap.size (.slice vah Lh.length vch) Lh vsh)] w13) := Z14.out.push hb (Ow.rAllL hrq hb) (Nat.le_refl _)
  clear Z14 hb hrq
  have kva := Z15.out.get 2 rfl
  have cva_0 : w13.cell? ⟨Ka, 0, none⟩ = some (.int .i64 C) := cellOf kva 0 rfl
  have cva_1 : w13.cell? ⟨Ka, 1, none⟩ = some (.slice vaa La.length vca) := cellOf kva 1 rfl
  have lva : Ka < w13.heap.size := ltOf kva
  clear kva
  have Z16 : Hid (LS w [(w.heap.size, w1.heap.size, fun V : World => V.ownsRow w.heap.size 55 1 (.slice (some ⟨ga0, 0, none⟩) s0.length s0.length) s0.length (s0.flatMap flC)), (w1.heap.size, Ka, fun V : World => RoL V w1.heap.size (.slice vaa La.length vca) La vsa), (Ka, Ka + 1, fun V : World => V.heap[Ka]? = some (Obj.cells #[.int .i64 C, .slice vaa La.length vca] 35)), (Va.heap.size, w3.heap.size, fun V : World => True), (w3.heap.size, Kg, fun V : World => RoL V w3.heap.size (.slice vag Lg.length vcg) (mkGL 1 Lg Lg.length) vsg), (Kg, Kg + 1, fun V : World => V.heap[Kg]? = some (Obj.cells #[.int .i64 C, .slice vag Lg.length vcg] 35)), (w5.heap.size, w6.heap.size, fun V : World => V.ownsRow w5.heap.size 55 1 (.slice (some ⟨e0, 0, none⟩) s0.length s0.length) s0.length (s0.flatMap flC)), (w11.heap.size, w12.heap.size, fun V : World => V.ownsRow w11.heap.size 55 1 (.slice (some ⟨gh0, 0, none⟩) s0.length s0.length) s0.length (s0.flatMap flC)), (w12.heap.size, w13.heap.size, fun V : World => RoL V w12.heap.size (.slice vah Lh.length vch) Lh vsh), (w13.heap.size, w13.heap.size + 1, fun V : World => V.heap[w13.heap.size]? = some (Obj.cells #[.int .i64 C, .slice vah Lh.length vch] 35))] (w13.alloc (Obj.cells #[.int .i64 C, .slice vah Lh.length vch] 35))) := Z15.out.push (by (repeat' (first | (with_reducible exact Below.refl _ _) | (with_reducible assumption) | (with_reducible refine Below.setCell ?_ ?_ _) | (with_reducible refine Below.alloc ?_ ?_ _) | (with_reducible refine below_drewN ?_ _) | (with_reducible refine Below.drew ?_) | (with_reducible exact Nat.le_refl _) | omega | (simp; done) | (simp; omega)))) (Ow.block (heap_alloc_new _ _)) (Nat.le_refl _)
  clear Z15
  go_wp2_with (fail)
  obtain ⟨Vh, hV⟩ : ∃ V, V = w13.alloc (Obj.cells #[.int .i64 C, .slice vah Lh.length vch] 35) := ⟨_, rfl⟩
  rw [← hV] at Z16 ⊢
  obtain ⟨Kh, hK⟩ : ∃ K, K = w13.heap.size := ⟨_, rfl⟩
  rw [← hK] at Z16  ⊢
  clear hV hK
  clear cva_0 cva_1 lva
  refine (eqFramesResult_v C HLNh.out (HVh.out.trans HVa.out.symm) (RoL.rd (B := w12.heap.size) (show RoL Vh w12.heap.size (.slice vah Lh.length vch) Lh vsh from (Z16.out.get 8 rfl))) (RoL.rd (B := w1.heap.size) (show RoL Vh w1.heap.size (.slice vaa La.length vca) La vsa from (Z16.out.get 1 rfl)))).mono ?_
  rintro e w14 ⟨rfl, hb⟩
  have Z17 : Hid (LS w [(w.heap.size, w1.heap.size, fun V : World => V.ownsRow w.heap.size 55 1 (.slice (some ⟨ga0, 0, none⟩) s0.length s0.length) s0.length (s0.flatMap flC)), (w1.heap.size, Ka, fun V : World => RoL V w1.heap.size (.slice vaa La.length vca) La vsa), (Ka, Ka + 1, fun V : World => V.heap[Ka]? = some (Obj.cells #[.int .i64 C, .slice vaa La.length vca] 35)), (Va.heap.size, w3.heap.size, fun V : World => True), (w3.heap.size, Kg, fun V : World => RoL V w3.heap.size (.slice vag Lg.length vcg) (mkGL 1 Lg Lg.length) vsg), (Kg, Kg + 1, fun V : World => V.heap[Kg]? = some (Obj.cells #[.int .i64 C, .slice vag Lg.length vcg] 35)), (w5.heap.size, w6.heap.size, fun V : World => V.ownsRow w5.heap.size 55 1 (.slice (some ⟨e0, 0, none⟩) s0.length s0.length) s0.length (s0.flatMap flC)), (w11.heap.size, w12.heap.size, fun V : World => V.ownsRow w11.heap.size 55 1 (.slice (some ⟨gh0, 0, none⟩) s0.length s0.length) s0.length (s0.flatMap flC)), (w12.heap.size, Kh, fun V : World => RoL V w12.heap.size (.slice vah Lh.length vch) Lh vsh), (Kh, Kh + 1, fun V : World => V.heap[Kh]? = some (Obj.cells #[.int .i64 C, .slice vah Lh.length vch] 35))] w14) := Z16.out.next hb
  clear Z16 hb
  have kvg := Z17.out.get 5 rfl
  have cvg_0 : w14.cell? ⟨Kg, 0, none⟩ = some (.int .i64 C) := cellOf kvg 0 rfl
  have cvg_1 : w14.cell? ⟨Kg, 1, none⟩ = some (.slice vag Lg.length vcg) := cellOf kvg 1 rfl
  have lvg : Kg < w14.heap.size := ltOf kvg
  clear kvg
  go_wp2_with (fail)
  clear cvg_0 cvg_1 lvg
  refine (heldFramesResult_to C 1 HLNg.out (by omega) (by omega) (show RoL w14 w3.heap.size (.slice vag Lg.length vcg) (mkGL 1 Lg Lg.length) vsg from Z17.out.get 4 rfl)).mono ?_
  rintro e w15 ⟨rfl, hb⟩
  have Z18 : Hid (LS w [(w.heap.size, w1.heap.size, fun V : World => V.ownsRow w.heap.size 55 1 (.slice (some ⟨ga0, 0, none⟩) s0.length s0.length) s0.length (s0.flatMap flC)), (w1.heap.size, Ka, fun V : World => RoL V w1.heap.size (.slice vaa La.length vca) La vsa), (Ka, Ka + 1, fun V : World => V.heap[Ka]? = some (Obj.cells #[.int .i64 C, .slice vaa La.length vca] 35)), (Va.heap.size, w3.heap.size, fun V : World => True), (w3.heap.size, Kg, fun V : World => RoL V w3.heap.size (.slice vag Lg.length vcg) (mkGL 1 Lg Lg.length) vsg), (Kg, Kg + 1, fun V : World => V.heap[Kg]? = some (Obj.cells #[.int .i64 C, .slice vag Lg.length vcg] 35)), (w5.heap.size, w6.heap.size, fun V : World => V.ownsRow w5.heap.size 55 1 (.slice (some ⟨e0, 0, none⟩) s0.length s0.length) s0.length (s0.flatMap flC)), (w11.heap.size, w12.heap.size, fun V : World => V.ownsRow w11.heap.size 55 1 (.slice (some ⟨gh0, 0, none⟩) s0.length s0.length) s0.length (s0.flatMap flC)), (w12.heap.size, Kh, fun V : World => RoL V w12.heap.size (.slice vah Lh.length vch) Lh vsh), (Kh, Kh + 1, fun V : World => V.heap[Kh]? = some (Obj.cells #[.int .i64 C, .slice vah Lh.length vch] 35))] w15) := Z17.out.next hb
  clear Z17 hb
  rw [← HTT.out]
  go_wp2
  go_returns
  exact ⟨rfl, Z18.out.bl⟩

set_option maxRecDepth 100000 in
theorem fm14_lifted (os : Os) (started : os.Started) (H : Type) (enc : TypeId × Value → H) :
    ReturnsInHanded {} Try.checked os 4 .any (Rows.fnExactFramesOfSpec.pre6 enc Try.prog Try.f4 Rows.fnExactFramesOfRow.domain false) (Rows.fnExactFramesOfSpec.post enc Try.prog Try.f4 false true false false) := by
  refine returnsInHanded_of_change (C := Try.checked) own started (by kernel_rfl) Try.func4
    (ChangeSpec.witness6 (enc := enc) (C := Try.checked) false ⟨#[], #[.slice none 0 0], []⟩ 8 (by kernel_rfl) (by kernel_rfl) (by kernel_rfl) (by kernel_rfl)) ?_
  intro W base args ds gs before hval0 hW hcnd _
  have hval : ∀ (j : Nat) t v, Try.f4.params[j]? = some t → args[j]? = some v → Value.okWide Try.prog W .any base t v := hval0
  have hW' := hW
  obtain ⟨p, q, hA0, hV, rfl, hfz, hnd⟩ := hW
  have hA : DataW.TrodAll enc Try.prog W 0 (fun _ => true) true Try.f4.params.toList args.toList ds p := hA0
  rw [Try.params4] at hA hval
  obtain ⟨v0, vs0, d0, ds0, p0, q0, hargs, rfl, rfl, h0, r0⟩ := trodAll_cons hA
  obtain ⟨rfl, rfl, rfl⟩ := trodAll_nil r0
  obtain rfl : args = #[v0] := by cases args; simp_all
  obtain ⟨rfl, rfl⟩ := trodVars_none hV
  have k0 := h0
  have lt0 : ∀ x ∈ p0, x.block < W.heap.size := by obtain ⟨m, hm⟩ := k0; exact DataW.trod_lt m _ _ _ hm
  obtain ⟨sa0, sn0, sc0, s0, rfl, ri0, sl0⟩ := floats_open (hval 0 32 v0 rfl rfl) h0
  clear hA0 hval0
  refine (law_fm14 s0 sl0 ri0).mono fun e W' ⟨he, hg⟩ => ?_
  subst he
  exact ⟨_, rfl, _, _, _, [], _, [], hW', trodAll_mk1 (shut_bool Try.underlying4 _), (trodAll_cons_mk (Below.trod laidOut (by kernel_rfl) (of_decide_eq_true (by kernel_rfl)) k0 hg lt0) trodAll_mk0), rfl, hg.frame _, fun h => by cases h⟩

theorem fm14_over : Rows.fnExactFramesOfRow.holds Try.pinned (OpenSpec.ofChange Rows.fnExactFramesOfSpec) :=
  OpenClaim.holds_of_wide 4 Try.f4 rfl rfl rfl rfl rfl rfl rfl ⟨rfl, rfl, rfl, rfl, rfl⟩ rfl rfl rfl rfl rfl (by kernel_rfl) Try.func4 (by kernel_rfl)
    (of_decide_eq_true (by kernel_rfl)) (by unfold Func.isWrapper; first | (rw [if_pos (by decide +kernel)]; kernel_rfl) | (rw [if_neg (by decide +kernel)]; exact ⟨rfl, rfl⟩))
    (fun os started H enc _ => fm14_lifted os started H enc)

theorem fm14_proved : Rows.FnExactFramesOfSaid :=
  fm14_over
#print axioms fm14_proved

end Go.Proofs.Ytgjdcdhdfhkfcaa
