/- Proved here: 'the program's OrdersOf answers as the model's; it writes into no argument and keeps nothing of one; its answer owns its memory, behind another call too', for every list, without a condition. -/
import Derived.Test.YtgaabcgdfbgchaaOoB
import Derived.Test.YtgaabcgdfbgchaaWrZ
import Derived.Test.YtgaabcgdfbgchaaRows
namespace Go.Proofs.Ytgaabcgdfbgchaa
open Go.ChangeShapes Go.WideShapes Go.ChangeAt Go.RowKit Go.Joins
set_option linter.unusedVariables false
set_option linter.unusedSimpArgs false

theorem orR_len (ms : List Zv) : (orR ms).length ≤ 24 := by
  unfold orR
  split
  · rename_i h
    unfold mcK at h
    split at h
    · cases h
    · split at h
      · cases h
      · simp [orL]; omega
  · simp

set_option maxRecDepth 10000 in
set_option maxHeartbeats 12800000 in
theorem law_oo {w : World} {aa : Option Addr} {n ca : Nat} (s : List Zf) (hm1 : s.length ≤ maxLen) (h1 : RZs w (.slice aa n ca) s) :
    Calls Try.prog 4 #[.slice aa n ca] w fun e w' => e = .returned (.bool true) ∧ Below w.heap.size w w' := by
  have hln : n = s.length := h1.len
  have H : Hid (RZs w (.slice aa n ca) s ∧ n = s.length ∧ n ≤ maxLen) := ⟨h1, hln, by omega⟩
  clear h1 hm1 hln
  go_enter Try.func4, Try.ntmps4
  go_wp2_with (fail)
  refine (szZS_gen aa n ca 1048576 _ (by omega) (by omega) H.out.2.2).mono ?_
  rintro e w0 ⟨r, rfl, hr, hb0⟩
  have B0 : Hid (Below w.heap.size w w0) := hb0
  clear hb0
  rcases hr with hneg | ⟨r1, r2, r3⟩
  · go_wp2
    go_returns
    exact ⟨rfl, B0.out⟩
  have hr0 : ¬ r < 0 := by omega
  have HL : Hid (s.length ≤ 1048576) := by unfold Hid; rw [← H.out.2.1]; omega
  obtain ⟨R, hR⟩ : ∃ R, R = orR (s.map Zf.v) := ⟨_, rfl⟩
  obtain ⟨C, hC⟩ : ∃ C, C = mcK s.length := ⟨_, rfl⟩
  have HRl : Hid (R.length ≤ 24) := by unfold Hid; rw [hR]; exact orR_len _
  have HSP : Hid (∀ (W : World) (g c1 : Nat), RZs W (.slice (some ⟨g, 0, none⟩) s.length c1) s → Calls Try.prog 12 #[.slice (some ⟨g, 0, none⟩) s.length c1] W fun e w' => ∃ v zs, e = .returned (.agg #[.int .i64 C, v]) ∧ OZs w' W.heap.size v zs ∧ zs.map Zf.v = R ∧ Below W.heap.size W w') := fun W g c1 a => by rw [hR, hC]; exact spec_oo a
  have HIM : Hid (∀ (W : World) (g c1 : Nat), RZs W (.slice (some ⟨g, 0, none⟩) s.length c1) s → Calls Try.prog 14 #[.slice (some ⟨g, 0, none⟩) s.length c1] W fun e w' => ∃ v zs, e = .returned (.agg #[.int .i64 C, v]) ∧ OZs w' W.heap.size v zs ∧ zs.map Zf.v = R ∧ Below W.heap.size W w') := fun W g c1 a => by rw [hR, hC]; exact impl_oo a
  clear hR hC r1 r2 r3
  go_wp2_with (fail)
  refine (toZS_any HL.out (H.out.1.below B0.out)).mono ?_
  rintro e w1 ⟨g1, rfl, hi1, hb1⟩
  have hB1 := B0.out.trans (hb1.mono B0.out.size)
  go_wp2_with (fail)
  refine (HSP.out w1 g1 _ hi1.rg).mono ?_
  rintro e w4 ⟨vs, z1, rfl, hs, hv1, hb4⟩
  obtain ⟨sa, sc, rfl⟩ := hs.rg.form
  have hB4 := hB1.trans (hb4.mono hB1.size)
  obtain ⟨L1, hL1⟩ : ∃ L, L = z1.length := ⟨_, rfl⟩
  rw [← hL1] at hs ⊢
  have HV1 : Hid (z1.map Zf.v = R ∧ z1.length ≤ 24 ∧ L1 = z1.length) := ⟨hv1, by have h3 := congrArg List.length hv1; rw [List.length_map] at h3; have := HRl.out; omega, hL1⟩
  have Z4 : Hid (LV w [(w4.heap.size, Obj.cells #[.int .i64 C, .slice sa L1 sc] 32)] (w4.alloc (Obj.cells #[.int .i64 C, .slice sa L1 sc] 32)) ∧ LOz w.heap.size w4.heap.size (.slice sa L1 sc) z1 (w4.alloc (Obj.cells #[.int .i64 C, .slice sa L1 sc] 32))) :=
    ⟨⟨hB4.alloc hB4.size _, fun p hp => by obtain rfl := List.mem_singleton.1 hp; exact heap_alloc_new _ _⟩, ⟨OG.below (OG.low hs (by have := hB1.size; omega)) (by (repeat' (first | (with_reducible exact Below.refl _ _) | (with_reducible assumption) | (with_reducible refine Below.setCell ?_ ?_ _) | (with_reducible refine Below.alloc ?_ ?_ _) | (with_reducible refine below_drewN ?_ _) | (with_reducible refine Below.drew ?_) | (with_reducible exact Nat.le_refl _) | omega | (simp; done) | (simp; omega)))), fun g hg => (OG.lt hs g hg).2⟩⟩
  have hK0 : w.heap.size ≤ w4.heap.size := hB4.size
  clear hi1 hb1 hB1 hs hb4 hB4 hv1 hL1
  obtain ⟨V4, hV4⟩ : ∃ V4, V4 = w4.alloc (Obj.cells #[.int .i64 C, .slice sa L1 sc] 32) := ⟨_, rfl⟩
  have hs4 : V4.heap.size = w4.heap.size + 1 := by rw [hV4]; simp
  go_wp2_with (fail)
  rw [← hV4] at Z4 ⊢
  obtain ⟨K0, hK⟩ : ∃ K0, K0 = w4.heap.size := ⟨_, rfl⟩
  rw [← hK] at Z4 hK0 hs4 ⊢
  clear hV4 hK
  refine (toZS_any HL.out (H.out.1.below Z4.out.1.bl)).mono ?_
  rintro e w5 ⟨x1, rfl, hi5, hb5⟩
  have Z5 : Hid (LV w [(K0, Obj.cells #[.int .i64 C, .slice sa L1 sc] 32)] w5 ∧ LOz w.heap.size K0 (.slice sa L1 sc) z1 w5 ∧ LOz V4.heap.size w5.heap.size (.slice (some ⟨x1, 0, none⟩) s.length s.length) s w5) :=
    ⟨Z4.out.1.next hb5, Z4.out.2.next hb5, hi5, fun g hg => (OG.lt hi5 g hg).2⟩
  have hs5 := hb5.size
  clear hi5 hb5 Z4
  go_wp2_with (fail)
  refine (HIM.out w5 x1 _ Z5.out.2.2.is.rg).mono ?_
  rintro e w8 ⟨vg, z2, rfl, hg8, hv2, hb8⟩
  obtain ⟨ga, gc, rfl⟩ := hg8.rg.form
  obtain ⟨L2, hL2⟩ : ∃ L, L = z2.length := ⟨_, rfl⟩
  rw [← hL2] at hg8 ⊢
  have HV2 : Hid (z2.map Zf.v = R ∧ z2.length ≤ 24 ∧ L2 = z2.length) := ⟨hv2, by have h3 := congrArg List.length hv2; rw [List.length_map] at h3; have := HRl.out; omega, hL2⟩
  have ha8 : Below w8.heap.size w8 (w8.alloc (Obj.cells #[.int .i64 C, .slice ga L2 gc] 32)) := by (repeat' (first | (with_reducible exact Below.refl _ _) | (with_reducible assumption) | (with_reducible refine Below.setCell ?_ ?_ _) | (with_reducible refine Below.alloc ?_ ?_ _) | (with_reducible refine below_drewN ?_ _) | (with_reducible refine Below.drew ?_) | (with_reducible exact Nat.le_refl _) | omega | (simp; done) | (simp; omega)))
  have Z8 : Hid (LV w [(w8.heap.size, Obj.cells #[.int .i64 C, .slice ga L2 gc] 32), (K0, Obj.cells #[.int .i64 C, .slice sa L1 sc] 32)] (w8.alloc (Obj.cells #[.int .i64 C, .slice ga L2 gc] 32)) ∧ LOz w.heap.size K0 (.slice sa L1 sc) z1 (w8.alloc (Obj.cells #[.int .i64 C, .slice ga L2 gc] 32)) ∧ LOz V4.heap.size w5.heap.size (.slice (some ⟨x1, 0, none⟩) s.length s.length) s (w8.alloc (Obj.cells #[.int .i64 C, .slice ga L2 gc] 32)) ∧ LOz w5.heap.size w8.heap.size (.slice ga L2 gc) z2 (w8.alloc (Obj.cells #[.int .i64 C, .slice ga L2 gc] 32))) :=
    ⟨((Z5.out.1.next hb8).next ha8).cons (heap_alloc_new _ _), (Z5.out.2.1.next hb8).next ha8, (Z5.out.2.2.next hb8).next ha8, ⟨OG.below hg8 ha8, fun g hg => (OG.lt hg8 g hg).2⟩⟩
  have hs8 := hb8.size
  have hKz : Hid (w5.heap[K0]? = some (Obj.cells #[.int .i64 C, .slice sa L1 sc] 32)) := Z5.out.1.at_ (K0, Obj.cells #[.int .i64 C, .slice sa L1 sc] 32) (by simp)
  have k8 := (hb8.block K0 (blk_at hKz.out)).trans hKz.out
  clear hg8 hb8 ha8 Z5 hKz hv2 hL2
  obtain ⟨p0, p1, pf, pl⟩ := z_two k8
  clear k8
  go_wp2_with (fail)
  clear p0 p1 pf pl
  obtain ⟨V8, hV8⟩ : ∃ V8, V8 = w8.alloc (Obj.cells #[.int .i64 C, .slice ga L2 gc] 32) := ⟨_, rfl⟩
  obtain ⟨K1, hK1⟩ : ∃ K1, K1 = w8.heap.size := ⟨_, rfl⟩
  rw [← hV8] at Z8 ⊢
  rw [← hK1] at Z8 hs8 ⊢
  clear hV8 hK1
  obtain ⟨b0, e0⟩ : ∃ b, b = V4.heap.size := ⟨_, rfl⟩
  obtain ⟨b1, e1⟩ : ∃ b, b = w5.heap.size := ⟨_, rfl⟩
  rw [← e0, ← e1] at Z8
  have HO : Hid (w.heap.size ≤ K0 ∧ K0 < b0 ∧ b0 ≤ b1 ∧ b1 ≤ K1) := ⟨hK0, by omega, by omega, by omega⟩
  clear e0 e1 hK0 hs4 hs5 hs8
  refine (eqWR C (by have := HV2.out.2.1; omega) (HV2.out.1.trans HV1.out.1.symm) Z8.out.2.2.2.is.rg Z8.out.2.1.is.rg).mono ?_
  rintro e V9 ⟨rfl, hb9⟩
  have Z9 : Hid (LV w [(K1, Obj.cells #[.int .i64 C, .slice ga L2 gc] 32), (K0, Obj.cells #[.int .i64 C, .slice sa L1 sc] 32)] V9 ∧ LOz w.heap.size K0 (.slice sa L1 sc) z1 V9 ∧ LOz b0 b1 (.slice (some ⟨x1, 0, none⟩) s.length s.length) s V9 ∧ LOz b1 K1 (.slice ga L2 gc) z2 V9) := ⟨Z8.out.1.next hb9, Z8.out.2.1.next hb9, Z8.out.2.2.1.next hb9, Z8.out.2.2.2.next hb9⟩
  clear hb9 Z8
  go_wp2_with (fail)
  refine (toZS_any HL.out (H.out.1.below Z9.out.1.bl)).mono ?_
  rintro e V10 ⟨y10, rfl, hi10, hb10⟩
  have Z10 : Hid (LV w [(K1, Obj.cells #[.int .i64 C, .slice ga L2 gc] 32), (K0, Obj.cells #[.int .i64 C, .slice sa L1 sc] 32)] V10 ∧ LOz w.heap.size K0 (.slice sa L1 sc) z1 V10 ∧ LOz b0 b1 (.slice (some ⟨x1, 0, none⟩) s.length s.length) s V10 ∧ LOz b1 K1 (.slice ga L2 gc) z2 V10) := ⟨Z9.out.1.next hb10, Z9.out.2.1.next hb10, Z9.out.2.2.1.next hb10, Z9.out.2.2.2.next hb10⟩
  have HY : Hid (RZs V10 _ _) := hi10.rg
  clear hi10 hb10 Z9
  go_wp2_with (fail)
  refine (eqZS_v (by have := HL.out; omega) rfl Z10.out.2.2.1.is.rg HY.out).mono ?_
  rintro e V11 ⟨rfl, hb11⟩
  have Z11 : Hid (LV w [(K1, Obj.cells #[.int .i64 C, .slice ga L2 gc] 32), (K0, Obj.cells #[.int .i64 C, .slice sa L1 sc] 32)] V11 ∧ LOz w.heap.size K0 (.slice sa L1 sc) z1 V11 ∧ LOz b0 b1 (.slice (some ⟨x1, 0, none⟩) s.length s.length) s V11 ∧ LOz b1 K1 (.slice ga L2 gc) z2 V11) := ⟨Z10.out.1.next hb11, Z10.out.2.1.next hb11, Z10.out.2.2.1.next hb11, Z10.out.2.2.2.next hb11⟩
  clear hb11 Z10 HY
  obtain ⟨N1, hN1⟩ : ∃ N, N = (1 : Int) + 2 * (s.length : Int) := ⟨_, rfl⟩
  have HN : Hid (N1 = 1 + 2 * (s.length : Int)) := hN1
  have hN10 : ¬ N1 < 0 := by omega
  clear hN1
  go_wp2_with (fail)
  refine (markZO (s := s) 1 HL.out (by omega) (by omega) Z11.out.2.2.1).mono ?_
  rintro e V12 ⟨rfl, hm12, hc12⟩
  have Z12 : Hid (LV w [(K1, Obj.cells #[.int .i64 C, .slice ga L2 gc] 32), (K0, Obj.cells #[.int .i64 C, .slice sa L1 sc] 32)] V12 ∧ LOz w.heap.size K0 (.slice sa L1 sc) z1 V12 ∧ LOz b0 b1 (.slice (some ⟨x1, 0, none⟩) s.length s.length) (mzK 1 s.length) V12 ∧ LOz b1 K1 (.slice ga L2 gc) z2 V12) := ⟨Z11.out.1.chg hc12 (by have := HO.out; omega) (fun p hp => by have := HO.out; simp at hp; rcases hp with rfl | rfl <;> simp <;> omega), Z11.out.2.1.chg hc12 (by have := HO.out; omega), hm12, Z11.out.2.2.2.chg hc12 (by have := HO.out; omega)⟩
  clear hm12 hc12 Z11
  rw [← HN.out]
  have k1 := Z12.out.1.at_ (K1, Obj.cells #[.int .i64 C, .slice ga L2 gc] 32) (by simp)
  have k0 := Z12.out.1.at_ (K0, Obj.cells #[.int .i64 C, .slice sa L1 sc] 32) (by simp)
  obtain ⟨p0, p1, pf, pl⟩ := z_two k0
  obtain ⟨q0, q1, qf, ql⟩ := z_two k1
  clear k0 k1
  go_wp2_with (fail)
  clear p0 p1 pf pl q0 q1 qf ql
  refine (eqWR C (by have := HV2.out.2.1; omega) (HV2.out.1.trans HV1.out.1.symm) Z12.out.2.2.2.is.rg Z12.out.2.1.is.rg).mono ?_
  rintro e V13 ⟨rfl, hb13⟩
  have Z13 : Hid (LV w [(K1, Obj.cells #[.int .i64 C, .slice ga L2 gc] 32), (K0, Obj.cells #[.int .i64 C, .slice sa L1 sc] 32)] V13 ∧ LOz w.heap.size K0 (.slice sa L1 sc) z1 V13 ∧ LOz b0 b1 (.slice (some ⟨x1, 0, none⟩) s.length s.length) (mzK 1 s.length) V13 ∧ LOz b1 K1 (.slice ga L2 gc) z2 V13) := ⟨Z12.out.1.next hb13, Z12.out.2.1.next hb13, Z12.out.2.2.1.next hb13, Z12.out.2.2.2.next hb13⟩
  clear hb13 Z12
  have k1 := Z13.out.1.at_ (K1, Obj.cells #[.int .i64 C, .slice ga L2 gc] 32) (by simp)
  have k0 := Z13.out.1.at_ (K0, Obj.cells #[.int .i64 C, .slice sa L1 sc] 32) (by simp)
  obtain ⟨p0, p1, pf, pl⟩ := z_two k0
  obtain ⟨q0, q1, qf, ql⟩ := z_two k1
  clear k0 k1
  go_wp2_with (fail)
  clear p0 p1 pf pl q0 q1 qf ql
  have hLz : z2.length ≤ 1048576 := by have := HV2.out.2.1; omega
  refine (markWR C hLz Z13.out.2.2.2).mono ?_
  rintro e V14 ⟨rfl, hm14, hc14⟩
  have Z14 : Hid (LV w [(K1, Obj.cells #[.int .i64 C, .slice ga L2 gc] 32), (K0, Obj.cells #[.int .i64 C, .slice sa L1 sc] 32)] V14 ∧ LOz w.heap.size K0 (.slice sa L1 sc) z1 V14 ∧ LOz b0 b1 (.slice (some ⟨x1, 0, none⟩) s.length s.length) (mzK 1 s.length) V14 ∧ LOz b1 K1 (.slice ga L2 gc) (mzK 1 z2.length) V14) := ⟨Z13.out.1.chg hc14 (by have := HO.out; omega) (fun p hp => by have := HO.out; simp at hp; rcases hp with rfl | rfl <;> simp <;> omega), Z13.out.2.1.chg hc14 (by have := HO.out; omega), Z13.out.2.2.1.chg hc14 (by have := HO.out; omega), hm14⟩
  clear hm14 hc14 Z13
  obtain ⟨TT, hTT⟩ : ∃ TT, TT = 1 + 2 * (z2.length : Int) := ⟨_, rfl⟩
  have hT0 : ¬ TT < 0 := by omega
  have HT : Hid (TT = 1 + 2 * (z2.length : Int)) := hTT
  rw [← hTT]
  clear hTT
  have k1 := Z14.out.1.at_ (K1, Obj.cells #[.int .i64 C, .slice ga L2 gc] 32) (by simp)
  have k0 := Z14.out.1.at_ (K0, Obj.cells #[.int .i64 C, .slice sa L1 sc] 32) (by simp)
  obtain ⟨p0, p1, pf, pl⟩ := z_two k0
  obtain ⟨q0, q1, qf, ql⟩ := z_two k1
  clear k0 k1
  go_wp2_with (fail)
  clear p0 p1 pf pl q0 q1 qf ql
  refine (heldWR C hLz Z14.out.2.2.2.is.rg).mono ?_
  rintro e V15 ⟨rfl, hb15⟩
  have Z15 : Hid (LV w [(K1, Obj.cells #[.int .i64 C, .slice ga L2 gc] 32), (K0, Obj.cells #[.int .i64 C, .slice sa L1 sc] 32)] V15 ∧ LOz w.heap.size K0 (.slice sa L1 sc) z1 V15 ∧ LOz b0 b1 (.slice (some ⟨x1, 0, none⟩) s.length s.length) (mzK 1 s.length) V15 ∧ LOz b1 K1 (.slice ga L2 gc) (mzK 1 z2.length) V15) := ⟨Z14.out.1.next hb15, Z14.out.2.1.next hb15, Z14.out.2.2.1.next hb15, Z14.out.2.2.2.next hb15⟩
  clear hb15 Z14
  rw [← HT.out]
  go_wp2_with (fail)
  refine (toZS_any HL.out (H.out.1.below Z15.out.1.bl)).mono ?_
  rintro e V16 ⟨y1, rfl, hj1, hc1⟩
  go_wp2_with (fail)
  refine (HIM.out _ y1 _ hj1.rg).mono ?_
  rintro e V19 ⟨vh, z3, rfl, hh, hv3, hc4⟩
  obtain ⟨ha, hcc, rfl⟩ := hh.rg.form
  obtain ⟨L3, hL3⟩ : ∃ L, L = z3.length := ⟨_, rfl⟩
  rw [← hL3] at hh ⊢
  have HV3 : Hid (z3.map Zf.v = R ∧ z3.length ≤ 24) := ⟨hv3, by have h3 := congrArg List.length hv3; rw [List.length_map] at h3; have := HRl.out; omega⟩
  have hcA : Below V19.heap.size V19 (V19.alloc (Obj.cells #[.int .i64 C, .slice ha L3 hcc] 32)) := by (repeat' (first | (with_reducible exact Below.refl _ _) | (with_reducible assumption) | (with_reducible refine Below.setCell ?_ ?_ _) | (with_reducible refine Below.alloc ?_ ?_ _) | (with_reducible refine below_drewN ?_ _) | (with_reducible refine Below.drew ?_) | (with_reducible exact Nat.le_refl _) | omega | (simp; done) | (simp; omega)))
  have hall : Below V15.heap.size V15 (V19.alloc (Obj.cells #[.int .i64 C, .slice ha L3 hcc] 32)) := (hc1.trans (hc4.mono hc1.size)).alloc (hc1.trans (hc4.mono hc1.size)).size _
  have ZA : Hid ((LV w [(K1, Obj.cells #[.int .i64 C, .slice ga L2 gc] 32), (K0, Obj.cells #[.int .i64 C, .slice sa L1 sc] 32)] (V19.alloc (Obj.cells #[.int .i64 C, .slice ha L3 hcc] 32)) ∧ LOz w.heap.size K0 (.slice sa L1 sc) z1 (V19.alloc (Obj.cells #[.int .i64 C, .slice ha L3 hcc] 32)) ∧ LOz b0 b1 (.slice (some ⟨x1, 0, none⟩) s.length s.length) (mzK 1 s.length) (V19.alloc (Obj.cells #[.int .i64 C, .slice ha L3 hcc] 32)) ∧ LOz b1 K1 (.slice ga L2 gc) (mzK 1 z2.length) (V19.alloc (Obj.cells #[.int .i64 C, .slice ha L3 hcc] 32))) ∧ OZs (V19.alloc (Obj.cells #[.int .i64 C, .slice ha L3 hcc] 32)) V16.heap.size (.slice ha L3 hcc) z3) := ⟨⟨Z15.out.1.next hall, Z15.out.2.1.next hall, Z15.out.2.2.1.next hall, Z15.out.2.2.2.next hall⟩, OG.below hh hcA⟩
  have kz : (V19.alloc (Obj.cells #[.int .i64 C, .slice ha L3 hcc] 32)).heap[K0]? = some (Obj.cells #[.int .i64 C, .slice sa L1 sc] 32) := ZA.out.1.1.at_ (K0, Obj.cells #[.int .i64 C, .slice sa L1 sc] 32) (by simp)
  have kl : K0 < V19.heap.size := by
    have h1 : K0 < V15.heap.size := blk_at (Z15.out.1.at_ (K0, Obj.cells #[.int .i64 C, .slice sa L1 sc] 32) (by simp))
    have h2 := hc1.size
    have h5 := hc4.size
    omega
  have ky : V19.heap[K0]? = some (Obj.cells #[.int .i64 C, .slice sa L1 sc] 32) := (Below.heap_alloc _ _ _ kl).symm.trans kz
  clear hj1 hc1 hh hc4 hall hcA Z15 kz hv3 hL3
  obtain ⟨p0, p1, pf, pl⟩ := z_two ky
  clear ky
  go_wp2_with (fail)
  clear p0 p1 pf pl kl
  obtain ⟨VA, hVA⟩ : ∃ VA, VA = V19.alloc (Obj.cells #[.int .i64 C, .slice ha L3 hcc] 32) := ⟨_, rfl⟩
  rw [← hVA] at ZA ⊢
  clear hVA
  refine (eqWR C (by have := HV3.out.2; omega) (HV3.out.1.trans HV1.out.1.symm) ZA.out.2.rg ZA.out.1.2.1.is.rg).mono ?_
  rintro e VB ⟨rfl, hbB⟩
  have ZB : Hid (LV w [(K1, Obj.cells #[.int .i64 C, .slice ga L2 gc] 32), (K0, Obj.cells #[.int .i64 C, .slice sa L1 sc] 32)] VB ∧ LOz w.heap.size K0 (.slice sa L1 sc) z1 VB ∧ LOz b0 b1 (.slice (some ⟨x1, 0, none⟩) s.length s.length) (mzK 1 s.length) VB ∧ LOz b1 K1 (.slice ga L2 gc) (mzK 1 z2.length) VB) := ⟨ZA.out.1.1.next hbB, ZA.out.1.2.1.next hbB, ZA.out.1.2.2.1.next hbB, ZA.out.1.2.2.2.next hbB⟩
  clear hbB ZA
  have k1 := ZB.out.1.at_ (K1, Obj.cells #[.int .i64 C, .slice ga L2 gc] 32) (by simp)
  have k0 := ZB.out.1.at_ (K0, Obj.cells #[.int .i64 C, .slice sa L1 sc] 32) (by simp)
  obtain ⟨p0, p1, pf, pl⟩ := z_two k0
  obtain ⟨q0, q1, qf, ql⟩ := z_two k1
  clear k0 k1
  go_wp2_with (fail)
  clear p0 p1 pf pl q0 q1 qf ql
  refine (heldWR C hLz ZB.out.2.2.2.is.rg).mono ?_
  rintro e VC ⟨rfl, hbC⟩
  have BC : Hid (Below w.heap.size w VC) := (ZB.out.1.next hbC).bl
  clear hbC ZB
  rw [← HT.out]
  go_wp2
  go_returns
  exact ⟨rfl, BC.out⟩

set_option maxRecDepth 100000 in
theorem oo_lifted (os : Os) (started : os.Started) (H : Type) (enc : TypeId × Value → H) :
    ReturnsInHanded {} Try.checked os 4 .any (Rows.fnExactOrdersOfSpec.pre6 enc Try.prog Try.f4 Rows.fnExactOrdersOfRow.domain false) (Rows.fnExactOrdersOfSpec.post enc Try.prog Try.f4 false true false false) := by
  refine returnsInHanded_of_change (C := Try.checked) own started (by kernel_rfl) Try.func4
    (ChangeSpec.witness6 (enc := enc) (C := Try.checked) false ⟨#[], #[.slice none 0 0], []⟩ 8 (by kernel_rfl) (by kernel_rfl) (by kernel_rfl) (by kernel_rfl)) ?_
  intro W base args ds gs before hval0 hW hcnd _
  have hval : ∀ (j : Nat) t v, Try.f4.params[j]? = some t → args[j]? = some v → Value.okWide Try.prog W .any base t v := hval0
  have hW' := hW
  obtain ⟨p, q, hA0, hV, rfl, hfz, hnd⟩ := hW
  have hA : DataW.TrodAll enc Try.prog W 0 (fun _ => true) true Try.f4.params.toList args.toList ds p := hA0
  rw [Try.params4] at hA hval
  obtain ⟨v0, vs0, d0, ds0, p0, q0, hargs, rfl, rfl, h0, r0⟩ := trodAll_cons hA
  obtain ⟨rfl, rfl, rfl⟩ := trodAll_nil r0
  obtain rfl : args = #[v0] := by cases args; simp_all
  obtain ⟨rfl, rfl⟩ := trodVars_none hV
  have k0 := h0
  have lt0 : ∀ x ∈ p0, x.block < W.heap.size := by obtain ⟨m, hm⟩ := k0; exact DataW.trod_lt m _ _ _ hm
  obtain ⟨sa0, sn0, sc0, s0, rfl, rz0, sl0⟩ := zs_open (hval 0 28 v0 rfl rfl) h0
  clear hA0 hval0
  refine (law_oo s0 sl0 rz0).mono fun e W' ⟨he, hg⟩ => ?_
  subst he
  exact ⟨_, rfl, _, _, _, [], _, [], hW', trodAll_mk1 (shut_bool Try.underlying4 _), (trodAll_cons_mk (Below.trod laidOut (by kernel_rfl) (of_decide_eq_true (by kernel_rfl)) k0 hg lt0) trodAll_mk0), rfl, hg.frame _, fun h => by cases h⟩

theorem oo_over : Rows.fnExactOrdersOfRow.holds Try.pinned (OpenSpec.ofChange Rows.fnExactOrdersOfSpec) :=
  OpenClaim.holds_of_wide 4 Try.f4 rfl rfl rfl rfl rfl rfl rfl ⟨rfl, rfl, rfl, rfl, rfl⟩ rfl rfl rfl rfl rfl (by kernel_rfl) Try.func4 (by kernel_rfl)
    (of_decide_eq_true (by kernel_rfl)) (by unfold Func.isWrapper; first | (rw [if_pos (by decide +kernel)]; kernel_rfl) | (rw [if_neg (by decide +kernel)]; exact ⟨rfl, rfl⟩))
    (fun os started H enc _ => oo_lifted os started H enc)

theorem oo_proved : Rows.FnExactOrdersOfSaid :=
  oo_over
#print axioms oo_proved

end Go.Proofs.Ytgaabcgdfbgchaa
