/- Proved here: 'the program's FieldOf answers as the model's; it writes into no argument and keeps nothing of one; its answer owns its memory, behind another call too', for every list, pupil and shift, without a condition. -/
import Derived.Test.YtgaabcgdfbgchaaFdP
import Derived.Test.YtgaabcgdfbgchaaWrZ
import Derived.Test.YtgaabcgdfbgchaaPuM
import Derived.Test.YtgaabcgdfbgchaaRows
namespace Go.Proofs.Ytgaabcgdfbgchaa
open Go.ChangeShapes Go.WideShapes Go.ChangeAt Go.RowKit Go.Joins
set_option linter.unusedVariables false
set_option linter.unusedSimpArgs false

theorem ffL_len (ms : List Zv) (C F : Int) (s : List Int) (sh : Int) : (ffL ms C F s sh).length ≤ 24 := by
  unfold ffL
  split
  · rename_i h
    have hz : lfK ms.length C F s = 0 := by
      unfold ffK at h
      split at h
      · assumption
      · exact h
    have := (lfK_ok hz).1
    simp [fdL]; omega
  · simp

set_option maxRecDepth 10000 in
set_option maxHeartbeats 25600000 in
theorem law_fd {w : World} {aa ap : Option Addr} {n ca m cp : Nat} (s : List Zf) (hm1 : s.length ≤ maxLen) (h1 : RZs w (.slice aa n ca) s) (Cu Fo : Int) (t : List Int) (hm2 : m ≤ maxLen) (h2 : RdI w (.slice ap m cp) t) (o : Int) :
    Calls Try.prog 6 #[.slice aa n ca, .agg #[.int .i64 Cu, .int .i64 Fo, .slice ap m cp], .int .i64 o] w fun e w' => e = .returned (.bool true) ∧ Below w.heap.size w w' := by
  have hln : n = s.length := h1.len
  have hlm : m = t.length := h2.len
  obtain ⟨BX, hBX⟩ : ∃ BX, BX = Obj.cells #[.int .i64 Cu, .int .i64 Fo, .slice ap m cp] 42 := ⟨_, rfl⟩
  have H : Hid (RZs w (.slice aa n ca) s ∧ n = s.length ∧ n ≤ maxLen ∧ RdI w (.slice ap m cp) t ∧ m = t.length ∧ m ≤ maxLen ∧ BX = Obj.cells #[.int .i64 Cu, .int .i64 Fo, .slice ap m cp] 42) := ⟨h1, hln, by omega, h2, hlm, hm2, hBX⟩
  clear h1 hm1 hln hlm h2 hm2
  have TW : Hid (∀ W : World, W.heap[w.heap.size]? = some BX → W.cell? ⟨w.heap.size, 0, none⟩ = some (.int .i64 Cu) ∧ W.cell? ⟨w.heap.size, 1, none⟩ = some (.int .i64 Fo) ∧ W.cell? ⟨w.heap.size, 2, none⟩ = some (.slice ap m cp) ∧ (∀ i, W.frozen? ⟨w.heap.size, i, none⟩ = false) ∧ w.heap.size < W.heap.size) := fun W h => three_at (by rw [h, hBX])
  have HN0 : Hid (LV w [(w.heap.size, BX)] (w.alloc (.cells #[.int .i64 Cu, .int .i64 Fo, .slice ap m cp] 42))) := by rw [hBX]; exact ⟨by (repeat' (first | (with_reducible exact Below.refl _ _) | (with_reducible assumption) | (with_reducible refine Below.setCell ?_ ?_ _) | (with_reducible refine Below.alloc ?_ ?_ _) | (with_reducible refine below_drewN ?_ _) | (with_reducible refine Below.drew ?_) | (with_reducible exact Nat.le_refl _) | omega | (simp; done) | (simp; omega))), fun p hp => by obtain rfl := List.mem_singleton.1 hp; exact heap_alloc_new _ _⟩
  clear hBX
  go_enter Try.func6, Try.ntmps6
  go_wp2_with (fail)
  refine (szZS_gen aa n ca 1048576 _ (by omega) (by omega) H.out.2.2.1).mono ?_
  rintro e w0 ⟨r, rfl, hr, hb0⟩
  have B0 : Hid (LV w [(w.heap.size, BX)] w0) := HN0.out.next hb0
  clear hb0
  rcases hr with hneg | ⟨r1, r2, r3⟩
  · go_wp2
    go_returns
    exact ⟨rfl, B0.out.bl⟩
  have hr0 : ¬ r < 0 := by omega
  have HL : Hid (s.length ≤ 1048576) := by unfold Hid; rw [← H.out.2.1]; omega
  obtain ⟨u0, u1, u2, uf, ul⟩ := TW.out _ (B0.out.at_ (w.heap.size, BX) (by simp))
  go_wp2_with (fail)
  refine (szPupil_gen Cu Fo ap m cp r _ r1 (by omega) H.out.2.2.2.2.2.1).mono ?_
  rintro e w1 ⟨r', rfl, hr', hb1⟩
  have B1 : Hid (LV w [(w.heap.size, BX)] w1) := B0.out.next hb1
  clear hb1 u0 u1 u2 uf ul
  rcases hr' with hneg | ⟨r1', r2', r3'⟩
  · go_wp2
    go_returns
    exact ⟨rfl, B1.out.bl⟩
  have hr0' : ¬ r' < 0 := by omega
  have HT20 : Hid (t.length ≤ 1048576) := by unfold Hid; rw [← H.out.2.2.2.2.1]; omega
  obtain ⟨R, hR⟩ : ∃ R, R = ffL (s.map Zf.v) Cu Fo t o := ⟨_, rfl⟩
  obtain ⟨C, hC⟩ : ∃ C, C = ffK s.length Cu Fo t o := ⟨_, rfl⟩
  have HRl : Hid (R.length ≤ 24) := by unfold Hid; rw [hR]; exact ffL_len _ _ _ _ _
  have HSP : Hid (∀ (W : World) (g c1 g2 c2 : Nat), RZs W (.slice (some ⟨g, 0, none⟩) s.length c1) s → RdI W (.slice (some ⟨g2, 0, none⟩) t.length c2) t → Calls Try.prog 25 #[.slice (some ⟨g, 0, none⟩) s.length c1, .agg #[.int .i64 Cu, .int .i64 Fo, .slice (some ⟨g2, 0, none⟩) t.length c2], .int .i64 o] W fun e w' => ∃ v zs, e = .returned (.agg #[.int .i64 C, v]) ∧ OZs w' W.heap.size v zs ∧ zs.map Zf.v = R ∧ Below W.heap.size W w') := fun W g c1 g2 c2 a b => by rw [hR, hC]; exact spec_fo Cu Fo o a b
  have HIM : Hid (∀ (W : World) (g c1 g2 c2 : Nat), RZs W (.slice (some ⟨g, 0, none⟩) s.length c1) s → RdI W (.slice (some ⟨g2, 0, none⟩) t.length c2) t → Calls Try.prog 26 #[.slice (some ⟨g, 0, none⟩) s.length c1, .agg #[.int .i64 Cu, .int .i64 Fo, .slice (some ⟨g2, 0, none⟩) t.length c2], .int .i64 o] W fun e w' => ∃ v zs, e = .returned (.agg #[.int .i64 C, v]) ∧ OZs w' W.heap.size v zs ∧ zs.map Zf.v = R ∧ Below W.heap.size W w') := fun W g c1 g2 c2 a b => by rw [hR, hC]; exact impl_fo Cu Fo o a b
  clear hR hC r1 r2 r3 r1' r2' r3' HN0 B0
  obtain ⟨u0, u1, u2, uf, ul⟩ := TW.out _ (B1.out.at_ (w.heap.size, BX) (by simp))
  have HWB : Below w.heap.size w w1 := B1.out.bl
  go_wp2_with (fail)
  refine wp_region_float (by kernel_rfl) (fun hS => ?_)
  refine fl_take (i := 0) (d := 26) (v := .slice aa n ca) rfl rfl rfl (by kernel_rfl) (by kernel_rfl) (by kernel_rfl) hS ?_ ?_
  · intro w' hk; go_simp
  simp only [Act.put, List.setIfInBounds_toArray, List.set_cons_zero, List.set_cons_succ]
  refine fl_take (i := 2) (d := 28) (v := .agg #[.int .i64 Cu, .int .i64 Fo, .slice ap m cp]) rfl rfl rfl (by kernel_rfl) (by kernel_rfl) (by kernel_rfl) hS ?_ ?_
  · intro w' hk; go_simp
  simp only [Act.put, List.setIfInBounds_toArray, List.set_cons_zero, List.set_cons_succ]
  refine fl_take (i := 4) (d := 30) (v := .int .i64 o) rfl rfl rfl (by kernel_rfl) (by kernel_rfl) (by kernel_rfl) hS ?_ ?_
  · intro w' hk; go_simp
  simp only [Act.put, List.setIfInBounds_toArray, List.set_cons_zero, List.set_cons_succ]
  refine float_pend (z := #[.int .i64 0, .slice none 0 0]) (T := 32) (ja := 6) (js := 7) rfl rfl rfl rfl rfl (fun a w => by go_simp) [1, 3, 5] _ _ _ (fun _ => False) (by kernel_rfl) (by kernel_rfl) ?_ (Nat.le_refl _) (fun _ h => h.elim) hS
  intro y1 hW1
  have hB1 : Below w1.heap.size w1 y1 := hS.2.trans (hW1.mono hS.2.size)
  refine ⟨_, 27, _, _, rfl, rfl, by go_simp, (toZS_any HL.out ((H.out.1.below HWB).below hB1)).mono ?_⟩
  rintro e y2 ⟨gq, rfl, ka, hba⟩
  refine ⟨_, rfl, hba, ?_⟩
  simp only [Act.put, List.setIfInBounds_toArray, List.set_cons_zero, List.set_cons_succ]
  intro y3 hW3
  have hB3 : Below w1.heap.size w1 y3 := (hB1.trans (hba.mono hB1.size)).trans (hW3.mono (Nat.le_trans hB1.size hba.size))
  refine ⟨_, 29, _, _, rfl, rfl, by go_simp, (toPupil_any Cu Fo HT20.out ((H.out.2.2.2.1.below HWB).below hB3)).mono ?_⟩
  rintro e y4 ⟨gp, rfl, kb, hbb⟩
  refine ⟨_, rfl, hbb, ?_⟩
  simp only [Act.put, List.setIfInBounds_toArray, List.set_cons_zero, List.set_cons_succ]
  intro y5 hW5
  refine ⟨_, 31, _, _, rfl, rfl, by go_simp, (HSP.out y5 gq _ gp _ (RG.below (RG.below (RG.below ka.rg hW3) hbb) hW5) (RG.below kb.rg hW5)).mono ?_⟩
  rintro e y6 ⟨vq, z1, rfl, hrq, hvq, hbq⟩
  obtain ⟨sa, sc, rfl⟩ := hrq.rg.form
  obtain ⟨L1, hL1⟩ : ∃ L, L = z1.length := ⟨_, rfl⟩
  rw [← hL1] at hrq ⊢
  have HVz1 : Hid (z1.map Zf.v = R ∧ z1.length ≤ 24 ∧ L1 = z1.length) := ⟨hvq, by have h3 := congrArg List.length hvq; rw [List.length_map] at h3; have := HRl.out; omega, hL1⟩
  clear hL1
  refine ⟨_, rfl, hbq, ?_⟩
  simp only [Act.put, List.setIfInBounds_toArray, List.set_cons_zero, List.set_cons_succ]
  unfold Fl
  refine after_store ?_ _ _ _ #[.int .i64 C, .slice sa L1 sc] (by rfl) (by rfl) (fun _ => by rfl) (fun _ => by rfl) (by simp) (by kernel_rfl) (by simp [Value.oneCell']) ?_
  · exact Nat.le_refl _
  intro K0 V1 hK hk1 hk2 hF hoth hsz hcell
  simp only [Act.put, List.setIfInBounds_toArray, List.set_cons_zero, List.set_cons_succ]
  refine NoPanic.normal ?_
  have hRV : OZs V1 y5.heap.size (.slice sa L1 sc) z1 := OZs.keep hrq fun q hq => by
    have h9 := OG.lt hrq q hq
    exact hoth q (fun e => hF (by subst e; exact Or.inr ⟨h9.1, h9.2⟩)) h9.2
  have hRl : OZs V1 w1.heap.size (.slice sa L1 sc) z1 := OG.low hRV (Nat.le_trans hB3.size (Nat.le_trans hbb.size hW5.size))
  have hc0 := hcell 0 (.int .i64 C) rfl
  have hc1 := hcell 1 (.slice sa L1 sc) rfl
  obtain ⟨oq, hoq⟩ : ∃ oq, V1.heap[K0]? = some oq := ⟨_, Array.getElem?_eq_getElem hk2⟩
  have T6 : Hid (∀ W : World, W.heap[K0]? = some oq → W.cell? ⟨K0, 0, none⟩ = some (.int .i64 C) ∧ W.cell? ⟨K0, 1, none⟩ = some (.slice sa L1 sc) ∧ K0 < W.heap.size) := fun W h => ⟨(World.cell?_of_block (a := ⟨K0, 0, none⟩) (h.trans hoq.symm)).trans hc0, (World.cell?_of_block (a := ⟨K0, 1, none⟩) (h.trans hoq.symm)).trans hc1, blk_at h⟩
  have R2 : Hid (LV w [(K0, oq), (w.heap.size, BX)] V1 ∧ LOz w.heap.size V1.heap.size (.slice sa L1 sc) z1 V1) := ⟨(B1.out.next hK.2).cons hoq, OG.low hRl HWB.size, fun g hg => (OG.lt hRV g hg).2⟩
  have hK0w : w.heap.size < V1.heap.size ∧ K0 < V1.heap.size := ⟨by have := hK.2.size; omega, hk2⟩
  clear hK hk1 hF hoth hsz hcell hRV hRl hrq hbq hW5 hbb hB3 hW3 hba hB1 hW1 hS ka kb hvq HWB hk2 hoq hc0 hc1 u0 u1 u2 uf ul B1
  go_wp2_with (fail)
  refine (toZS_any HL.out (H.out.1.below R2.out.1.bl)).mono ?_
  rintro e w5 ⟨x1, rfl, hi5, hb5⟩
  have Z5 : Hid (LV w [(K0, oq), (w.heap.size, BX)] w5 ∧ LOz w.heap.size V1.heap.size (.slice sa L1 sc) z1 w5 ∧ LOz V1.heap.size w5.heap.size (.slice (some ⟨x1, 0, none⟩) s.length s.length) s w5) := ⟨R2.out.1.next hb5, R2.out.2.next hb5, hi5, fun g hg => (OG.lt hi5 g hg).2⟩
  have hs5 := hb5.size
  clear hi5 hb5 R2
  obtain ⟨u0, u1, u2, uf, ul⟩ := TW.out _ (Z5.out.1.at_ (w.heap.size, BX) (by simp))
  go_wp2_with (fail)
  refine (toPupil_any Cu Fo HT20.out (H.out.2.2.2.1.below Z5.out.1.bl)).mono ?_
  rintro e w6 ⟨x2, rfl, hi6, hb6⟩
  have ha6 : Below w6.heap.size w6 (w6.alloc (Obj.cells #[.int .i64 Cu, .int .i64 Fo, .slice (some ⟨x2, 0, none⟩) t.length t.length] 45)) := by (repeat' (first | (with_reducible exact Below.refl _ _) | (with_reducible assumption) | (with_reducible refine Below.setCell ?_ ?_ _) | (with_reducible refine Below.alloc ?_ ?_ _) | (with_reducible refine below_drewN ?_ _) | (with_reducible refine Below.drew ?_) | (with_reducible exact Nat.le_refl _) | omega | (simp; done) | (simp; omega)))
  have Z6 : Hid (LV w [(w6.heap.size, Obj.cells #[.int .i64 Cu, .int .i64 Fo, .slice (some ⟨x2, 0, none⟩) t.length t.length] 45), (K0, oq), (w.heap.size, BX)] (w6.alloc (Obj.cells #[.int .i64 Cu, .int .i64 Fo, .slice (some ⟨x2, 0, none⟩) t.length t.length] 45)) ∧ LOz w.heap.size V1.heap.size (.slice sa L1 sc) z1 (w6.alloc (Obj.cells #[.int .i64 Cu, .int .i64 Fo, .slice (some ⟨x2, 0, none⟩) t.length t.length] 45)) ∧ LOz V1.heap.size w5.heap.size (.slice (some ⟨x1, 0, none⟩) s.length s.length) s (w6.alloc (Obj.cells #[.int .i64 Cu, .int .i64 Fo, .slice (some ⟨x2, 0, none⟩) t.length t.length] 45)) ∧ LO w5.heap.size w6.heap.size (.slice (some ⟨x2, 0, none⟩) t.length t.length) t (w6.alloc (Obj.cells #[.int .i64 Cu, .int .i64 Fo, .slice (some ⟨x2, 0, none⟩) t.length t.length] 45))) :=
    ⟨((Z5.out.1.next hb6).next ha6).cons (heap_alloc_new _ _), (Z5.out.2.1.next hb6).next ha6, (Z5.out.2.2.next hb6).next ha6, hi6.bel ha6, fun g hg => (IS.lt hi6 g hg).2⟩
  have hs6 := hb6.size
  clear hi6 hb6 ha6 Z5 u0 u1 u2 uf ul
  go_wp2_with (fail)
  obtain ⟨V6, hV6⟩ : ∃ V6, V6 = w6.alloc (Obj.cells #[.int .i64 Cu, .int .i64 Fo, .slice (some ⟨x2, 0, none⟩) t.length t.length] 45) := ⟨_, rfl⟩
  have hs6' : V6.heap.size = w6.heap.size + 1 := by rw [hV6]; simp
  rw [← hV6] at Z6 ⊢
  obtain ⟨KP, hKP⟩ : ∃ K, K = w6.heap.size := ⟨_, rfl⟩
  rw [← hKP] at Z6 hs6 hs6' ⊢
  clear hV6 hKP
  refine (HIM.out V6 x1 _ x2 _ Z6.out.2.2.1.is.rg Z6.out.2.2.2.is.rg).mono ?_
  rintro e w8 ⟨vg, z2, rfl, hg8, hv2, hb8⟩
  obtain ⟨ga, gc, rfl⟩ := hg8.rg.form
  obtain ⟨L2, hL2⟩ : ∃ L, L = z2.length := ⟨_, rfl⟩
  rw [← hL2] at hg8 ⊢
  have HV2 : Hid (z2.map Zf.v = R ∧ z2.length ≤ 24 ∧ L2 = z2.length) := ⟨hv2, by have h3 := congrArg List.length hv2; rw [List.length_map] at h3; have := HRl.out; omega, hL2⟩
  have ha8 : Below w8.heap.size w8 (w8.alloc (Obj.cells #[.int .i64 C, .slice ga L2 gc] 32)) := by (repeat' (first | (with_reducible exact Below.refl _ _) | (with_reducible assumption) | (with_reducible refine Below.setCell ?_ ?_ _) | (with_reducible refine Below.alloc ?_ ?_ _) | (with_reducible refine below_drewN ?_ _) | (with_reducible refine Below.drew ?_) | (with_reducible exact Nat.le_refl _) | omega | (simp; done) | (simp; omega)))
  have Z8 : Hid (LV w [(w8.heap.size, Obj.cells #[.int .i64 C, .slice ga L2 gc] 32), (KP, Obj.cells #[.int .i64 Cu, .int .i64 Fo, .slice (some ⟨x2, 0, none⟩) t.length t.length] 45), (K0, oq), (w.heap.size, BX)] (w8.alloc (Obj.cells #[.int .i64 C, .slice ga L2 gc] 32)) ∧ LOz w.heap.size V1.heap.size (.slice sa L1 sc) z1 (w8.alloc (Obj.cells #[.int .i64 C, .slice ga L2 gc] 32)) ∧ LOz V1.heap.size w5.heap.size (.slice (some ⟨x1, 0, none⟩) s.length s.length) s (w8.alloc (Obj.cells #[.int .i64 C, .slice ga L2 gc] 32)) ∧ LO w5.heap.size KP (.slice (some ⟨x2, 0, none⟩) t.length t.length) t (w8.alloc (Obj.cells #[.int .i64 C, .slice ga L2 gc] 32)) ∧ LOz V6.heap.size w8.heap.size (.slice ga L2 gc) z2 (w8.alloc (Obj.cells #[.int .i64 C, .slice ga L2 gc] 32))) :=
    ⟨((Z6.out.1.next hb8).next ha8).cons (heap_alloc_new _ _), (Z6.out.2.1.next hb8).next ha8, (Z6.out.2.2.1.next hb8).next ha8, (Z6.out.2.2.2.next hb8).next ha8, ⟨OG.below hg8 ha8, fun g hg => (OG.lt hg8 g hg).2⟩⟩
  have hs8 := hb8.size
  obtain ⟨p0, p1, pl⟩ := T6.out _ ((Z6.out.1.next hb8).at_ (K0, oq) (by simp))
  clear hg8 hb8 ha8 Z6 hv2 hL2
  go_wp2_with (fail)
  clear p0 p1 pl
  obtain ⟨V8, hV8⟩ : ∃ V8, V8 = w8.alloc (Obj.cells #[.int .i64 C, .slice ga L2 gc] 32) := ⟨_, rfl⟩
  obtain ⟨K1, hK1⟩ : ∃ K1, K1 = w8.heap.size := ⟨_, rfl⟩
  rw [← hV8] at Z8 ⊢
  rw [← hK1] at Z8 hs8 ⊢
  clear hV8 hK1
  obtain ⟨b0, e0⟩ : ∃ b, b = V1.heap.size := ⟨_, rfl⟩
  obtain ⟨b1, e1⟩ : ∃ b, b = w5.heap.size := ⟨_, rfl⟩
  obtain ⟨b3, e3⟩ : ∃ b, b = V6.heap.size := ⟨_, rfl⟩
  rw [← e0, ← e1, ← e3] at Z8
  have HO : Hid (w.heap.size < b0 ∧ K0 < b0 ∧ b0 ≤ b1 ∧ b1 ≤ KP ∧ KP < b3 ∧ b3 ≤ K1) := ⟨by omega, by omega, by omega, by omega, by omega, by omega⟩
  clear e0 e1 e3 hK0w hs5 hs6 hs6' hs8
  refine (eqWR C (by have := HV2.out.2.1; omega) (HV2.out.1.trans HVz1.out.1.symm) Z8.out.2.2.2.2.is.rg Z8.out.2.1.is.rg).mono ?_
  rintro e V9 ⟨rfl, hb9⟩
  have Z9 : Hid (LV w [(K1, Obj.cells #[.int .i64 C, .slice ga L2 gc] 32), (KP, Obj.cells #[.int .i64 Cu, .int .i64 Fo, .slice (some ⟨x2, 0, none⟩) t.length t.length] 45), (K0, oq), (w.heap.size, BX)] V9 ∧ LOz w.heap.size b0 (.slice sa L1 sc) z1 V9 ∧ LOz b0 b1 (.slice (some ⟨x1, 0, none⟩) s.length s.length) s V9 ∧ LO b1 KP (.slice (some ⟨x2, 0, none⟩) t.length t.length) t V9 ∧ LOz b3 K1 (.slice ga L2 gc) z2 V9) := ⟨Z8.out.1.next hb9, Z8.out.2.1.next hb9, Z8.out.2.2.1.next hb9, Z8.out.2.2.2.1.next hb9, Z8.out.2.2.2.2.next hb9⟩
  clear hb9 Z8
  go_wp2_with (fail)
  refine (toZS_any HL.out (H.out.1.below Z9.out.1.bl)).mono ?_
  rintro e V10 ⟨y10, rfl, hi10, hb10⟩
  have Z10 : Hid (LV w [(K1, Obj.cells #[.int .i64 C, .slice ga L2 gc] 32), (KP, Obj.cells #[.int .i64 Cu, .int .i64 Fo, .slice (some ⟨x2, 0, none⟩) t.length t.length] 45), (K0, oq), (w.heap.size, BX)] V10 ∧ LOz w.heap.size b0 (.slice sa L1 sc) z1 V10 ∧ LOz b0 b1 (.slice (some ⟨x1, 0, none⟩) s.length s.length) s V10 ∧ LO b1 KP (.slice (some ⟨x2, 0, none⟩) t.length t.length) t V10 ∧ LOz b3 K1 (.slice ga L2 gc) z2 V10) := ⟨Z9.out.1.next hb10, Z9.out.2.1.next hb10, Z9.out.2.2.1.next hb10, Z9.out.2.2.2.1.next hb10, Z9.out.2.2.2.2.next hb10⟩
  have HY : Hid (RZs V10 _ _) := hi10.rg
  clear hi10 hb10 Z9
  go_wp2_with (fail)
  refine (eqZS_v (by have := HL.out; omega) rfl Z10.out.2.2.1.is.rg HY.out).mono ?_
  rintro e V11 ⟨rfl, hb11⟩
  have Z11 : Hid (LV w [(K1, Obj.cells #[.int .i64 C, .slice ga L2 gc] 32), (KP, Obj.cells #[.int .i64 Cu, .int .i64 Fo, .slice (some ⟨x2, 0, none⟩) t.length t.length] 45), (K0, oq), (w.heap.size, BX)] V11 ∧ LOz w.heap.size b0 (.slice sa L1 sc) z1 V11 ∧ LOz b0 b1 (.slice (some ⟨x1, 0, none⟩) s.length s.length) s V11 ∧ LO b1 KP (.slice (some ⟨x2, 0, none⟩) t.length t.length) t V11 ∧ LOz b3 K1 (.slice ga L2 gc) z2 V11) := ⟨Z10.out.1.next hb11, Z10.out.2.1.next hb11, Z10.out.2.2.1.next hb11, Z10.out.2.2.2.1.next hb11, Z10.out.2.2.2.2.next hb11⟩
  clear hb11 Z10 HY
  obtain ⟨u0, u1, u2, uf, ul⟩ := TW.out _ (Z11.out.1.at_ (w.heap.size, BX) (by simp))
  have kp := Z11.out.1.at_ (KP, Obj.cells #[.int .i64 Cu, .int .i64 Fo, .slice (some ⟨x2, 0, none⟩) t.length t.length] 45) (by simp)
  obtain ⟨x0', x1', x2', xf, xl⟩ := three_at kp
  clear kp
  go_wp2_with (fail)
  refine wp_region_float (by kernel_rfl) (fun hS => ?_)
  refine fl_take (i := 0) (d := 49) (v := .agg #[.int .i64 Cu, .int .i64 Fo, .slice (some ⟨x2, 0, none⟩) t.length t.length]) rfl rfl rfl (by kernel_rfl) (by kernel_rfl) (by kernel_rfl) hS ?_ ?_
  · intro w' hk; go_simp
  simp only [Act.put, List.setIfInBounds_toArray, List.set_cons_zero, List.set_cons_succ]
  refine fl_take (i := 1) (d := 50) (v := .agg #[.int .i64 Cu, .int .i64 Fo, .slice ap m cp]) rfl rfl rfl (by kernel_rfl) (by kernel_rfl) (by kernel_rfl) hS ?_ ?_
  · intro w' hk; go_simp
  simp only [Act.put, List.setIfInBounds_toArray, List.set_cons_zero, List.set_cons_succ]
  refine wpAnyH_all (rs := [2]) (by kernel_rfl) (by simp) ?_
  intro i hi
  obtain rfl : i = 2 := by simpa using hi
  refine op_call (d := 51) rfl rfl rfl (by go_simp) ((toPupil_any Cu Fo HT20.out ((H.out.2.2.2.1.below Z11.out.1.bl).below (Below.refl _ _).drew)).mono ?_)
  rintro e y5 ⟨g5, rfl, hk5, hb5⟩
  have hK5 : KS V11 y5 := hS.call hb5
  refine ⟨_, rfl, hK5, ?_⟩
  simp only [Act.put, List.setIfInBounds_toArray, List.set_cons_zero, List.set_cons_succ]
  refine wpAnyH_all (rs := [3]) (by kernel_rfl) (by simp) ?_
  intro i hi
  obtain rfl : i = 3 := by simpa using hi
  refine op_call (d := 52) rfl rfl rfl (by go_simp) ((eqPupil_same Cu Fo (by have := HT20.out; omega) (Z11.out.2.2.2.1.is.rg.below hK5.2) hk5.rg).mono ?_)
  rintro e y6 ⟨rfl, hb6⟩
  have hK6 : KS V11 y6 := hK5.call hb6
  refine ⟨_, rfl, hK6, ?_⟩
  simp only [Act.put, List.setIfInBounds_toArray, List.set_cons_zero, List.set_cons_succ]
  refine wpAnyH_all (rs := [4]) (by kernel_rfl) (by simp) ?_
  intro i hi
  obtain rfl : i = 4 := by simpa using hi
  refine op_val (d := 53) (v := .bool false) (w' := y6) rfl rfl rfl (by go_simp; try rfl) ?_
  simp only [Act.put, List.setIfInBounds_toArray, List.set_cons_zero, List.set_cons_succ]
  refine ⟨hK6, wpAnyH_done (by kernel_rfl) (NoPanic.normal ?_) _⟩
  have Z11b : Hid (LV w [(K1, Obj.cells #[.int .i64 C, .slice ga L2 gc] 32), (KP, Obj.cells #[.int .i64 Cu, .int .i64 Fo, .slice (some ⟨x2, 0, none⟩) t.length t.length] 45), (K0, oq), (w.heap.size, BX)] y6 ∧ LOz w.heap.size b0 (.slice sa L1 sc) z1 y6 ∧ LOz b0 b1 (.slice (some ⟨x1, 0, none⟩) s.length s.length) s y6 ∧ LO b1 KP (.slice (some ⟨x2, 0, none⟩) t.length t.length) t y6 ∧ LOz b3 K1 (.slice ga L2 gc) z2 y6) := ⟨Z11.out.1.next hK6.2, Z11.out.2.1.next hK6.2, Z11.out.2.2.1.next hK6.2, Z11.out.2.2.2.1.next hK6.2, Z11.out.2.2.2.2.next hK6.2⟩
  clear hK6 hK5 hb6 hb5 hk5 hS Z11
  clear u0 u1 u2 uf ul x0' x1' x2' xf xl
  obtain ⟨N1, hN1⟩ : ∃ N, N = (1 : Int) + 2 * (s.length : Int) := ⟨_, rfl⟩
  have HN : Hid (N1 = 1 + 2 * (s.length : Int)) := hN1
  have hN10 : 0 ≤ N1 ∧ N1 ≤ 1125899906842624 := by have := HL.out; omega
  clear hN1
  go_wp2_with (fail)
  refine (markZO (s := s) 1 HL.out (by omega) (by omega) Z11b.out.2.2.1).mono ?_
  rintro e V12 ⟨rfl, hm12, hc12⟩
  have Z12 : Hid (LV w [(K1, Obj.cells #[.int .i64 C, .slice ga L2 gc] 32), (KP, Obj.cells #[.int .i64 Cu, .int .i64 Fo, .slice (some ⟨x2, 0, none⟩) t.length t.length] 45), (K0, oq), (w.heap.size, BX)] V12 ∧ LOz w.heap.size b0 (.slice sa L1 sc) z1 V12 ∧ LOz b0 b1 (.slice (some ⟨x1, 0, none⟩) s.length s.length) (mzK 1 s.length) V12 ∧ LO b1 KP (.slice (some ⟨x2, 0, none⟩) t.length t.length) t V12 ∧ LOz b3 K1 (.slice ga L2 gc) z2 V12) := ⟨Z11b.out.1.chg hc12 (by have := HO.out; omega) (fun p hp => by have := HO.out; simp at hp; rcases hp with rfl | rfl | rfl | rfl <;> simp <;> omega), Z11b.out.2.1.chg hc12 (by have := HO.out; omega), hm12, Z11b.out.2.2.2.1.chg hc12 (by have := HO.out; omega), Z11b.out.2.2.2.2.chg hc12 (by have := HO.out; omega)⟩
  clear hm12 hc12 Z11b
  rw [← HN.out]
  have kp := Z12.out.1.at_ (KP, Obj.cells #[.int .i64 Cu, .int .i64 Fo, .slice (some ⟨x2, 0, none⟩) t.length t.length] 45) (by simp)
  obtain ⟨x0', x1', x2', xf, xl⟩ := three_at kp
  clear kp
  go_wp2_with (fail)
  clear x0' x1' x2' xf xl
  refine (markPu Cu Fo N1 (s := t) HT20.out hN10.1 hN10.2 Z12.out.2.2.2.1).mono ?_
  rintro e V12b ⟨rfl, hm12, hc12⟩
  have Z12b : Hid (LV w [(K1, Obj.cells #[.int .i64 C, .slice ga L2 gc] 32), (KP, Obj.cells #[.int .i64 Cu, .int .i64 Fo, .slice (some ⟨x2, 0, none⟩) t.length t.length] 45), (K0, oq), (w.heap.size, BX)] V12b ∧ LOz w.heap.size b0 (.slice sa L1 sc) z1 V12b ∧ LOz b0 b1 (.slice (some ⟨x1, 0, none⟩) s.length s.length) (mzK 1 s.length) V12b ∧ LO b1 KP (.slice (some ⟨x2, 0, none⟩) t.length t.length) (marks N1 t.length) V12b ∧ LOz b3 K1 (.slice ga L2 gc) z2 V12b) := ⟨Z12.out.1.chg hc12 (by have := HO.out; omega) (fun p hp => by have := HO.out; simp at hp; rcases hp with rfl | rfl | rfl | rfl <;> simp <;> omega), Z12.out.2.1.chg hc12 (by have := HO.out; omega), Z12.out.2.2.1.chg hc12 (by have := HO.out; omega), hm12, Z12.out.2.2.2.2.chg hc12 (by have := HO.out; omega)⟩
  clear hm12 hc12 Z12
  obtain ⟨N2, hN2⟩ : ∃ N, N = N1 + (t.length : Int) := ⟨_, rfl⟩
  have hN20 : ¬ N2 < 0 := by omega
  rw [← hN2]
  clear hN2
  obtain ⟨p0, p1, pl⟩ := T6.out _ (Z12b.out.1.at_ (K0, oq) (by simp))
  have k1 := Z12b.out.1.at_ (K1, Obj.cells #[.int .i64 C, .slice ga L2 gc] 32) (by simp)
  obtain ⟨q0, q1, qf, ql⟩ := z_two k1
  clear k1
  go_wp2_with (fail)
  clear p0 p1 pl q0 q1 qf ql
  refine (eqWR C (by have := HV2.out.2.1; omega) (HV2.out.1.trans HVz1.out.1.symm) Z12b.out.2.2.2.2.is.rg Z12b.out.2.1.is.rg).mono ?_
  rintro e V13 ⟨rfl, hb13⟩
  have Z13 : Hid (LV w [(K1, Obj.cells #[.int .i64 C, .slice ga L2 gc] 32), (KP, Obj.cells #[.int .i64 Cu, .int .i64 Fo, .slice (some ⟨x2, 0, none⟩) t.length t.length] 45), (K0, oq), (w.heap.size, BX)] V13 ∧ LOz w.heap.size b0 (.slice sa L1 sc) z1 V13 ∧ LOz b0 b1 (.slice (some ⟨x1, 0, none⟩) s.length s.length) (mzK 1 s.length) V13 ∧ LO b1 KP (.slice (some ⟨x2, 0, none⟩) t.length t.length) (marks N1 t.length) V13 ∧ LOz b3 K1 (.slice ga L2 gc) z2 V13) := ⟨Z12b.out.1.next hb13, Z12b.out.2.1.next hb13, Z12b.out.2.2.1.next hb13, Z12b.out.2.2.2.1.next hb13, Z12b.out.2.2.2.2.next hb13⟩
  clear hb13 Z12b
  obtain ⟨p0, p1, pl⟩ := T6.out _ (Z13.out.1.at_ (K0, oq) (by simp))
  have k1 := Z13.out.1.at_ (K1, Obj.cells #[.int .i64 C, .slice ga L2 gc] 32) (by simp)
  obtain ⟨q0, q1, qf, ql⟩ := z_two k1
  clear k1
  go_wp2_with (fail)
  clear p0 p1 pl q0 q1 qf ql
  have hLz : z2.length ≤ 1048576 := by have := HV2.out.2.1; omega
  refine (markWR C hLz Z13.out.2.2.2.2).mono ?_
  rintro e V14 ⟨rfl, hm14, hc14⟩
  have Z14 : Hid (LV w [(K1, Obj.cells #[.int .i64 C, .slice ga L2 gc] 32), (KP, Obj.cells #[.int .i64 Cu, .int .i64 Fo, .slice (some ⟨x2, 0, none⟩) t.length t.length] 45), (K0, oq), (w.heap.size, BX)] V14 ∧ LOz w.heap.size b0 (.slice sa L1 sc) z1 V14 ∧ LOz b0 b1 (.slice (some ⟨x1, 0, none⟩) s.length s.length) (mzK 1 s.length) V14 ∧ LO b1 KP (.slice (some ⟨x2, 0, none⟩) t.length t.length) (marks N1 t.length) V14 ∧ LOz b3 K1 (.slice ga L2 gc) (mzK 1 z2.length) V14) := ⟨Z13.out.1.chg hc14 (by have := HO.out; omega) (fun p hp => by have := HO.out; simp at hp; rcases hp with rfl | rfl | rfl | rfl <;> simp <;> omega), Z13.out.2.1.chg hc14 (by have := HO.out; omega), Z13.out.2.2.1.chg hc14 (by have := HO.out; omega), Z13.out.2.2.2.1.chg hc14 (by have := HO.out; omega), hm14⟩
  clear hm14 hc14 Z13
  obtain ⟨TT, hTT⟩ : ∃ TT, TT = 1 + 2 * (z2.length : Int) := ⟨_, rfl⟩
  have hT0 : ¬ TT < 0 := by omega
  have HT : Hid (TT = 1 + 2 * (z2.length : Int)) := hTT
  rw [← hTT]
  clear hTT
  obtain ⟨p0, p1, pl⟩ := T6.out _ (Z14.out.1.at_ (K0, oq) (by simp))
  have k1 := Z14.out.1.at_ (K1, Obj.cells #[.int .i64 C, .slice ga L2 gc] 32) (by simp)
  obtain ⟨q0, q1, qf, ql⟩ := z_two k1
  clear k1
  go_wp2_with (fail)
  clear p0 p1 pl q0 q1 qf ql
  refine (heldWR C hLz Z14.out.2.2.2.2.is.rg).mono ?_
  rintro e V15 ⟨rfl, hb15⟩
  have Z15 : Hid (LV w [(K1, Obj.cells #[.int .i64 C, .slice ga L2 gc] 32), (KP, Obj.cells #[.int .i64 Cu, .int .i64 Fo, .slice (some ⟨x2, 0, none⟩) t.length t.length] 45), (K0, oq), (w.heap.size, BX)] V15 ∧ LOz w.heap.size b0 (.slice sa L1 sc) z1 V15 ∧ LOz b0 b1 (.slice (some ⟨x1, 0, none⟩) s.length s.length) (mzK 1 s.length) V15 ∧ LO b1 KP (.slice (some ⟨x2, 0, none⟩) t.length t.length) (marks N1 t.length) V15 ∧ LOz b3 K1 (.slice ga L2 gc) (mzK 1 z2.length) V15) := ⟨Z14.out.1.next hb15, Z14.out.2.1.next hb15, Z14.out.2.2.1.next hb15, Z14.out.2.2.2.1.next hb15, Z14.out.2.2.2.2.next hb15⟩
  clear hb15 Z14
  rw [← HT.out]
  obtain ⟨u0, u1, u2, uf, ul⟩ := TW.out _ (Z15.out.1.at_ (w.heap.size, BX) (by simp))
  have HWB : Below w.heap.size w V15 := Z15.out.1.bl
  go_wp2_with (fail)
  refine wp_region_float (by kernel_rfl) (fun hS => ?_)
  refine fl_take (i := 0) (d := 79) (v := .slice aa n ca) rfl rfl rfl (by kernel_rfl) (by kernel_rfl) (by kernel_rfl) hS ?_ ?_
  · intro w' hk; go_simp
  simp only [Act.put, List.setIfInBounds_toArray, List.set_cons_zero, List.set_cons_succ]
  refine fl_take (i := 2) (d := 81) (v := .agg #[.int .i64 Cu, .int .i64 Fo, .slice ap m cp]) rfl rfl rfl (by kernel_rfl) (by kernel_rfl) (by kernel_rfl) hS ?_ ?_
  · intro w' hk; go_simp
  simp only [Act.put, List.setIfInBounds_toArray, List.set_cons_zero, List.set_cons_succ]
  refine fl_take (i := 4) (d := 83) (v := .int .i64 o) rfl rfl rfl (by kernel_rfl) (by kernel_rfl) (by kernel_rfl) hS ?_ ?_
  · intro w' hk; go_simp
  simp only [Act.put, List.setIfInBounds_toArray, List.set_cons_zero, List.set_cons_succ]
  refine float_pend (z := #[.int .i64 0, .slice none 0 0]) (T := 32) (ja := 6) (js := 7) rfl rfl rfl rfl rfl (fun a w => by go_simp) [1, 3, 5] _ _ _ (fun _ => False) (by kernel_rfl) (by kernel_rfl) ?_ (Nat.le_refl _) (fun _ h => h.elim) hS
  intro y1 hW1
  have hB1 : Below V15.heap.size V15 y1 := hS.2.trans (hW1.mono hS.2.size)
  refine ⟨_, 80, _, _, rfl, rfl, by go_simp, (toZS_any HL.out ((H.out.1.below HWB).below hB1)).mono ?_⟩
  rintro e y2 ⟨gq, rfl, ka, hba⟩
  refine ⟨_, rfl, hba, ?_⟩
  simp only [Act.put, List.setIfInBounds_toArray, List.set_cons_zero, List.set_cons_succ]
  intro y3 hW3
  have hB3 : Below V15.heap.size V15 y3 := (hB1.trans (hba.mono hB1.size)).trans (hW3.mono (Nat.le_trans hB1.size hba.size))
  refine ⟨_, 82, _, _, rfl, rfl, by go_simp, (toPupil_any Cu Fo HT20.out ((H.out.2.2.2.1.below HWB).below hB3)).mono ?_⟩
  rintro e y4 ⟨gp, rfl, kb, hbb⟩
  refine ⟨_, rfl, hbb, ?_⟩
  simp only [Act.put, List.setIfInBounds_toArray, List.set_cons_zero, List.set_cons_succ]
  intro y5 hW5
  refine ⟨_, 84, _, _, rfl, rfl, by go_simp, (HIM.out y5 gq _ gp _ (RG.below (RG.below (RG.below ka.rg hW3) hbb) hW5) (RG.below kb.rg hW5)).mono ?_⟩
  rintro e y6 ⟨vq, z3, rfl, hrq, hvq, hbq⟩
  obtain ⟨ha, hcc, rfl⟩ := hrq.rg.form
  obtain ⟨L3, hL3⟩ : ∃ L, L = z3.length := ⟨_, rfl⟩
  rw [← hL3] at hrq ⊢
  have HVz3 : Hid (z3.map Zf.v = R ∧ z3.length ≤ 24 ∧ L3 = z3.length) := ⟨hvq, by have h3 := congrArg List.length hvq; rw [List.length_map] at h3; have := HRl.out; omega, hL3⟩
  clear hL3
  refine ⟨_, rfl, hbq, ?_⟩
  simp only [Act.put, List.setIfInBounds_toArray, List.set_cons_zero, List.set_cons_succ]
  unfold Fl
  refine after_store ?_ _ _ _ #[.int .i64 C, .slice ha L3 hcc] (by rfl) (by rfl) (fun _ => by rfl) (fun _ => by rfl) (by simp) (by kernel_rfl) (by simp [Value.oneCell']) ?_
  · exact Nat.le_refl _
  intro K3 VA hK hk1 hk2 hF hoth hsz hcell
  simp only [Act.put, List.setIfInBounds_toArray, List.set_cons_zero, List.set_cons_succ]
  refine NoPanic.normal ?_
  have hRV : OZs VA y5.heap.size (.slice ha L3 hcc) z3 := OZs.keep hrq fun q hq => by
    have h9 := OG.lt hrq q hq
    exact hoth q (fun e => hF (by subst e; exact Or.inr ⟨h9.1, h9.2⟩)) h9.2
  have hRl : OZs VA V15.heap.size (.slice ha L3 hcc) z3 := OG.low hRV (Nat.le_trans hB3.size (Nat.le_trans hbb.size hW5.size))
  have hc0 := hcell 0 (.int .i64 C) rfl
  have hc1 := hcell 1 (.slice ha L3 hcc) rfl
  have ZA : Hid ((LV w [(K1, Obj.cells #[.int .i64 C, .slice ga L2 gc] 32), (KP, Obj.cells #[.int .i64 Cu, .int .i64 Fo, .slice (some ⟨x2, 0, none⟩) t.length t.length] 45), (K0, oq), (w.heap.size, BX)] VA ∧ LOz w.heap.size b0 (.slice sa L1 sc) z1 VA ∧ LOz b0 b1 (.slice (some ⟨x1, 0, none⟩) s.length s.length) (mzK 1 s.length) VA ∧ LO b1 KP (.slice (some ⟨x2, 0, none⟩) t.length t.length) (marks N1 t.length) VA ∧ LOz b3 K1 (.slice ga L2 gc) (mzK 1 z2.length) VA) ∧ RZs VA (.slice ha L3 hcc) z3) := ⟨⟨Z15.out.1.next hK.2, Z15.out.2.1.next hK.2, Z15.out.2.2.1.next hK.2, Z15.out.2.2.2.1.next hK.2, Z15.out.2.2.2.2.next hK.2⟩, hRV.rg⟩
  clear hK hk1 hF hoth hsz hcell hRV hRl hrq hbq hW5 hbb hB3 hW3 hba hB1 hW1 hS ka kb hvq HWB u0 u1 u2 uf ul Z15
  obtain ⟨p0, p1, pl⟩ := T6.out _ (ZA.out.1.1.at_ (K0, oq) (by simp))
  go_wp2_with (fail)
  clear p0 p1 pl
  clear hc0 hc1 hk2
  refine (eqWR C (by have := HVz3.out.2.1; omega) (HVz3.out.1.trans HVz1.out.1.symm) ZA.out.2 ZA.out.1.2.1.is.rg).mono ?_
  rintro e VB ⟨rfl, hbB⟩
  have ZB : Hid (LV w [(K1, Obj.cells #[.int .i64 C, .slice ga L2 gc] 32), (KP, Obj.cells #[.int .i64 Cu, .int .i64 Fo, .slice (some ⟨x2, 0, none⟩) t.length t.length] 45), (K0, oq), (w.heap.size, BX)] VB ∧ LOz w.heap.size b0 (.slice sa L1 sc) z1 VB ∧ LOz b0 b1 (.slice (some ⟨x1, 0, none⟩) s.length s.length) (mzK 1 s.length) VB ∧ LO b1 KP (.slice (some ⟨x2, 0, none⟩) t.length t.length) (marks N1 t.length) VB ∧ LOz b3 K1 (.slice ga L2 gc) (mzK 1 z2.length) VB) := ⟨ZA.out.1.1.next hbB, ZA.out.1.2.1.next hbB, ZA.out.1.2.2.1.next hbB, ZA.out.1.2.2.2.1.next hbB, ZA.out.1.2.2.2.2.next hbB⟩
  clear hbB ZA
  have k1 := ZB.out.1.at_ (K1, Obj.cells #[.int .i64 C, .slice ga L2 gc] 32) (by simp)
  obtain ⟨q0, q1, qf, ql⟩ := z_two k1
  clear k1
  go_wp2_with (fail)
  clear q0 q1 qf ql
  refine (heldWR C hLz ZB.out.2.2.2.2.is.rg).mono ?_
  rintro e VC ⟨rfl, hbC⟩
  have BC : Hid (Below w.heap.size w VC) := (ZB.out.1.next hbC).bl
  clear hbC ZB
  rw [← HT.out]
  go_wp2
  go_returns
  exact ⟨rfl, BC.out⟩

set_option maxRecDepth 100000 in
theorem fd_lifted (os : Os) (started : os.Started) (H : Type) (enc : TypeId × Value → H) :
    ReturnsInHanded {} Try.checked os 6 .any (Rows.fnExactFieldOfSpec.pre6 enc Try.prog Try.f6 Rows.fnExactFieldOfRow.domain false) (Rows.fnExactFieldOfSpec.post enc Try.prog Try.f6 false true false false) := by
  refine returnsInHanded_of_change (C := Try.checked) own started (by kernel_rfl) Try.func6
    (ChangeSpec.witness6 (enc := enc) (C := Try.checked) false ⟨#[], #[.slice none 0 0, .agg #[.int .i64 0, .int .i64 0, .slice none 0 0], .int .i64 0], []⟩ 8 (by kernel_rfl) (by kernel_rfl) (by kernel_rfl) (by kernel_rfl)) ?_
  intro W base args ds gs before hval0 hW hcnd _
  have hval : ∀ (j : Nat) t v, Try.f6.params[j]? = some t → args[j]? = some v → Value.okWide Try.prog W .any base t v := hval0
  have hW' := hW
  obtain ⟨p, q, hA0, hV, rfl, hfz, hnd⟩ := hW
  have hA : DataW.TrodAll enc Try.prog W 0 (fun _ => true) true Try.f6.params.toList args.toList ds p := hA0
  rw [Try.params6] at hA hval
  obtain ⟨v0, vs0, d0, ds0, p0, q0, hargs, rfl, rfl, h0, r0⟩ := trodAll_cons hA
  obtain ⟨v1, vs1, d1, ds1, p1, q1, rfl, rfl, rfl, h1, r1⟩ := trodAll_cons r0
  obtain ⟨v2, vs2, d2, ds2, p2, q2, rfl, rfl, rfl, h2, r2⟩ := trodAll_cons r1
  obtain ⟨rfl, rfl, rfl⟩ := trodAll_nil r2
  obtain rfl : args = #[v0, v1, v2] := by cases args; simp_all
  obtain ⟨rfl, rfl⟩ := trodVars_none hV
  have k0 := h0
  have lt0 : ∀ x ∈ p0, x.block < W.heap.size := by obtain ⟨m, hm⟩ := k0; exact DataW.trod_lt m _ _ _ hm
  obtain ⟨sa0, sn0, sc0, s0, rfl, rz0, sl0⟩ := zs_open (hval 0 28 v0 rfl rfl) h0
  have k1 := h1
  have lt1 : ∀ x ∈ p1, x.block < W.heap.size := by obtain ⟨m, hm⟩ := k1; exact DataW.trod_lt m _ _ _ hm
  obtain ⟨C1, F1, sa1, sn1, sc1, s1, rfl, ri1, sl1⟩ := pupil_open (hval 1 42 v1 rfl rfl) h1
  obtain ⟨n2, rfl, rfl, rfl, wn2⟩ := open_int Try.underlying2 (hval 2 2 v2 rfl rfl) h2
  clear hA0 hval0
  refine (law_fd s0 sl0 rz0 C1 F1 s1 sl1 ri1 n2).mono fun e W' ⟨he, hg⟩ => ?_
  subst he
  exact ⟨_, rfl, _, _, _, [], _, [], hW', trodAll_mk1 (shut_bool Try.underlying4 _), (trodAll_cons_mk (Below.trod laidOut (by kernel_rfl) (of_decide_eq_true (by kernel_rfl)) k0 hg lt0) (trodAll_cons_mk (Below.trod laidOut (by kernel_rfl) (of_decide_eq_true (by kernel_rfl)) k1 hg lt1) (trodAll_cons_mk (shut_int Try.underlying2 wn2) trodAll_mk0))), rfl, hg.frame _, fun h => by cases h⟩

theorem fd_over : Rows.fnExactFieldOfRow.holds Try.pinned (OpenSpec.ofChange Rows.fnExactFieldOfSpec) :=
  OpenClaim.holds_of_wide 6 Try.f6 rfl rfl rfl rfl rfl rfl rfl ⟨rfl, rfl, rfl, rfl, rfl⟩ rfl rfl rfl rfl rfl (by kernel_rfl) Try.func6 (by kernel_rfl)
    (of_decide_eq_true (by kernel_rfl)) (by unfold Func.isWrapper; first | (rw [if_pos (by decide +kernel)]; kernel_rfl) | (rw [if_neg (by decide +kernel)]; exact ⟨rfl, rfl⟩))
    (fun os started H enc _ => fd_lifted os started H enc)

theorem fd_proved : Rows.FnExactFieldOfSaid :=
  fd_over
#print axioms fd_proved

end Go.Proofs.Ytgaabcgdfbgchaa
