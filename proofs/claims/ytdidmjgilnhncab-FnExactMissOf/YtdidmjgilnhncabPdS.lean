/- Proved here: what a model predicts, of the document's model: prV. -/
import Derived.Test.YtdidmjgilnhncabMaC
import Derived.Test.YtdidmjgilnhncabMdS
import Derived.Test.YtdidmjgilnhncabAcS
import Derived.Test.YtdidmjgilnhncabInS
namespace Go.Proofs.Ytdidmjgilnhncab
open Go.RowKit
set_option linter.unusedVariables false
set_option linter.unusedSimpArgs false

theorem rqQ_bd (n d : Int) : -1000000000 ≤ (rqQ n d).n ∧ (rqQ n d).n ≤ 1000000000 := by
  show -1000000000 ≤ rqN n d ∧ rqN n d ≤ 1000000000
  unfold rqN
  cases h : inB (lowN n d) (lowD n d) with
  | false => exact ⟨by simp, by simp⟩
  | true => have := inB_true h; exact ⟨this.2.2.1, this.2.2.2⟩
theorem muQ_bd (a b : Fr) : -1000000000 ≤ (muQ a b).n ∧ (muQ a b).n ≤ 1000000000 := by
  unfold muQ; split
  · exact rqQ_bd _ _
  · exact ⟨by decide, by decide⟩

set_option maxRecDepth 10000 in
set_option maxHeartbeats 12800000 in
theorem spec_prV (m : Mdl) (x y : Int) (w : World) :
    Calls Try.prog 61 #[.agg #[.int .i64 m.sx.n, .int .i64 m.sx.d, .int .i64 m.sy.n, .int .i64 m.sy.d, .int .i64 m.k.n, .int .i64 m.k.d, .int .i64 m.r.n, .int .i64 m.r.d], .int .i64 x, .int .i64 y] w fun e w' => e = .returned (.agg #[.int .i64 (prV m x y).c, .int .i64 (prV m x y).x.n, .int .i64 (prV m x y).x.d, .int .i64 (prV m x y).y.n, .int .i64 (prV m x y).y.d]) ∧ Below w.heap.size w w' := by
  obtain ⟨P, hP⟩ : ∃ P, P = prV m x y := ⟨_, rfl⟩
  rw [← hP]
  obtain ⟨mf, hmf⟩ : ∃ f, f = mdF m := ⟨_, rfl⟩
  have HMF : Hid (∀ W, Calls Try.prog 60 #[.agg #[.int .i64 m.sx.n, .int .i64 m.sx.d, .int .i64 m.sy.n, .int .i64 m.sy.d, .int .i64 m.k.n, .int .i64 m.k.d, .int .i64 m.r.n, .int .i64 m.r.d]] W fun e w' => e = .returned (.int .i64 mf) ∧ Below W.heap.size W w') := fun W => by rw [hmf]; exact spec_mdF m W
  obtain ⟨i1, hi1⟩ : ∃ r, r = decide (-1000 ≤ x ∧ x ≤ 1000) := ⟨_, rfl⟩
  obtain ⟨i2, hi2⟩ : ∃ r, r = decide (-1000 ≤ y ∧ y ≤ 1000) := ⟨_, rfl⟩
  have HI1 : Hid (∀ W, Calls Try.prog 56 #[.int .i64 x, .int .i64 (-1000), .int .i64 1000] W fun e w' => e = .returned (.bool i1) ∧ w' = W) := fun W => by rw [hi1]; exact spec_in10 _ _ _ W
  have HI2 : Hid (∀ W, Calls Try.prog 56 #[.int .i64 y, .int .i64 (-1000), .int .i64 1000] W fun e w' => e = .returned (.bool i2) ∧ w' = W) := fun W => by rw [hi2]; exact spec_in10 _ _ _ W
  have HIN : Hid (inP x y = (i1 && i2) ∧ (i2 = true → -1000 ≤ y ∧ y ≤ 1000)) := by
    refine ⟨by unfold inP; rw [hi1, hi2], fun h => ?_⟩
    rw [h] at hi2; exact of_decide_eq_true hi2.symm
  have HP : Hid (P = prV m x y ∧ mf = mdF m) := ⟨hP, hmf⟩
  clear hP hmf hi1 hi2
  obtain ⟨V, hV⟩ : ∃ V, V = (w.alloc (.cells #[.int .i64 m.sx.n, .int .i64 m.sx.d, .int .i64 m.sy.n, .int .i64 m.sy.d, .int .i64 m.k.n, .int .i64 m.k.d, .int .i64 m.r.n, .int .i64 m.r.d] 33)).alloc (.cells #[.int .i64 0, .int .i64 0, .int .i64 0, .int .i64 0, .int .i64 0] 104) := ⟨_, rfl⟩
  obtain ⟨a1, h⟩ : ∃ a, a = m.sx.n := ⟨_, rfl⟩
  obtain ⟨a2, h2⟩ : ∃ a, a = m.sx.d := ⟨_, rfl⟩
  obtain ⟨b1, h3⟩ : ∃ a, a = m.sy.n := ⟨_, rfl⟩
  obtain ⟨b2, h4⟩ : ∃ a, a = m.sy.d := ⟨_, rfl⟩
  obtain ⟨k1, h5⟩ : ∃ a, a = m.k.n := ⟨_, rfl⟩
  obtain ⟨k2, h6⟩ : ∃ a, a = m.k.d := ⟨_, rfl⟩
  obtain ⟨r1, h7⟩ : ∃ a, a = m.r.n := ⟨_, rfl⟩
  obtain ⟨r2, h8⟩ : ∃ a, a = m.r.d := ⟨_, rfl⟩
  have HM : Hid (m = ⟨⟨a1, a2⟩, ⟨b1, b2⟩, ⟨k1, k2⟩, ⟨r1, r2⟩⟩) := by unfold Hid; rw [h, h2, h3, h4, h5, h6, h7, h8]
  rw [← h, ← h2, ← h3, ← h4, ← h5, ← h6, ← h7, ← h8] at HMF hV ⊢
  clear h h2 h3 h4 h5 h6 h7 h8
  have HV : Hid (V.heap[w.heap.size]? = some (.cells #[.int .i64 a1, .int .i64 a2, .int .i64 b1, .int .i64 b2, .int .i64 k1, .int .i64 k2, .int .i64 r1, .int .i64 r2] 33) ∧ V.heap[w.heap.size + 1]? = some (.cells #[.int .i64 0, .int .i64 0, .int .i64 0, .int .i64 0, .int .i64 0] 104) ∧ Below w.heap.size w V) := by
    refine ⟨?_, ?_, by rw [hV]; (repeat' (first | (with_reducible exact Below.refl _ _) | (with_reducible assumption) | (with_reducible refine Below.setCell ?_ ?_ _) | (with_reducible refine Below.alloc ?_ ?_ _) | (with_reducible refine below_drewN ?_ _) | (with_reducible refine Below.drew ?_) | (with_reducible exact Nat.le_refl _) | omega | (simp; done) | (simp; omega)))⟩
    · rw [hV]; exact (Below.heap_alloc _ _ _ (by simp)).trans (heap_alloc_new w _)
    · rw [hV]; have := heap_alloc_new (w.alloc (.cells #[.int .i64 a1, .int .i64 a2, .int .i64 b1, .int .i64 b2, .int .i64 k1, .int .i64 k2, .int .i64 r1, .int .i64 r2] 33)) (.cells #[.int .i64 0, .int .i64 0, .int .i64 0, .int .i64 0, .int .i64 0] 104); simpa using this
  obtain ⟨p0, p1, p2, p3, p4, p5, p6, p7, pl⟩ := eight_c HV.out.1
  obtain ⟨q0, q1, q2, q3, q4, g0, g1, g2, g3, g4, ql⟩ := five_c HV.out.2.1
  go_enter Try.func61, Try.ntmps61
  go_upto_region 1 with fail
  rw [← hV]
  clear hV
  go_wp2_with (fail)
  refine (HMF.out _).mono ?_
  rintro e w1 ⟨rfl, hb1⟩
  have HW1 : Hid (w1.heap[w.heap.size]? = some (.cells #[.int .i64 a1, .int .i64 a2, .int .i64 b1, .int .i64 b2, .int .i64 k1, .int .i64 k2, .int .i64 r1, .int .i64 r2] 33) ∧ w1.heap[w.heap.size + 1]? = some (.cells #[.int .i64 0, .int .i64 0, .int .i64 0, .int .i64 0, .int .i64 0] 104) ∧ Below w.heap.size w w1) := ⟨(hb1.block _ (ltOf HV.out.1)).trans HV.out.1, (hb1.block _ (ltOf HV.out.2.1)).trans HV.out.2.1, HV.out.2.2.trans (hb1.mono HV.out.2.2.size)⟩
  clear HMF hb1 HV p0 p1 p2 p3 p4 p5 p6 p7 pl q0 q1 q2 q3 q4 g0 g1 g2 g3 g4 ql
  obtain ⟨p0, p1, p2, p3, p4, p5, p6, p7, pl⟩ := eight_c HW1.out.1
  obtain ⟨q0, q1, q2, q3, q4, g0, g1, g2, g3, g4, ql⟩ := five_c HW1.out.2.1
  by_cases hm0 : mf = 0
  case neg =>
    have HE : Hid (P = ⟨mf, fr0, fr0⟩) := by unfold Hid; rw [HP.out.1, prV_md (by rw [← HP.out.2]; exact hm0), HP.out.2]
    have hA : (mf != 0) = true := by simpa using hm0
    have HB : Hid (Below w.heap.size w w1) := HW1.out.2.2
    clear hm0 HP HW1
    go_wp2
    try simp only [Exit.inBlock, Exit.then]
    refine bodyPost_ret (by simp [results, Try.results61, go_sem, q0, q1, q2, q3, q4, ql]; try rfl) rfl ⟨by rw [HE.out] <;> rfl, ?_⟩
    have hb := HB.out
    (repeat' (first | (with_reducible exact Below.refl _ _) | (with_reducible assumption) | (with_reducible refine Below.setCell ?_ ?_ _) | (with_reducible refine Below.alloc ?_ ?_ _) | (with_reducible refine below_drewN ?_ _) | (with_reducible refine Below.drew ?_) | (with_reducible exact Nat.le_refl _) | omega | (simp; done) | (simp; omega)))

  have hA : (mf != 0) = false := by rw [hm0]; rfl
  have HP2 : Hid (P = prV m x y ∧ mdF m = 0) := ⟨HP.out.1, by rw [← HP.out.2]; exact hm0⟩
  clear HP hm0
  go_wp2_with (fail)
  refine (HI1.out _).mono ?_
  rintro e w2 ⟨rfl, hw2⟩
  obtain rfl : w1 = w2 := hw2.symm
  cases i1 with
  | false =>
    have HE : Hid (P = ⟨3, fr0, fr0⟩) := by unfold Hid; rw [HP2.out.1, prV_out HP2.out.2 (by rw [HIN.out.1]; rfl)]
    have HB : Hid (Below w.heap.size w w1) := HW1.out.2.2
    clear HP2 HW1
    go_wp2
    try simp only [Exit.inBlock, Exit.then]
    refine bodyPost_ret (by simp [results, Try.results61, go_sem, q0, q1, q2, q3, q4, ql]; try rfl) rfl ⟨by rw [HE.out] <;> rfl, ?_⟩
    have hb := HB.out
    (repeat' (first | (with_reducible exact Below.refl _ _) | (with_reducible assumption) | (with_reducible refine Below.setCell ?_ ?_ _) | (with_reducible refine Below.alloc ?_ ?_ _) | (with_reducible refine below_drewN ?_ _) | (with_reducible refine Below.drew ?_) | (with_reducible exact Nat.le_refl _) | omega | (simp; done) | (simp; omega)))

  | true =>
  go_wp2_with (fail)
  refine (HI2.out _).mono ?_
  rintro e w3 ⟨rfl, hw3⟩
  obtain rfl : w1 = w3 := hw3.symm
  cases i2 with
  | false =>
    have HE : Hid (P = ⟨3, fr0, fr0⟩) := by unfold Hid; rw [HP2.out.1, prV_out HP2.out.2 (by rw [HIN.out.1]; rfl)]
    have HB : Hid (Below w.heap.size w w1) := HW1.out.2.2
    clear HP2 HW1
    go_wp2
    try simp only [Exit.inBlock, Exit.then]
    refine bodyPost_ret (by simp [results, Try.results61, go_sem, q0, q1, q2, q3, q4, ql]; try rfl) rfl ⟨by rw [HE.out] <;> rfl, ?_⟩
    have hb := HB.out
    (repeat' (first | (with_reducible exact Below.refl _ _) | (with_reducible assumption) | (with_reducible refine Below.setCell ?_ ?_ _) | (with_reducible refine Below.alloc ?_ ?_ _) | (with_reducible refine below_drewN ?_ _) | (with_reducible refine Below.drew ?_) | (with_reducible exact Nat.le_refl _) | omega | (simp; done) | (simp; omega)))

  | true =>
  have hy := HIN.out.2 rfl
  have HP3 : Hid (P = prV m x y ∧ mdF m = 0 ∧ inP x y = true) := ⟨HP2.out.1, HP2.out.2, by rw [HIN.out.1]; rfl⟩
  clear HP2 HIN HI1 HI2
  obtain ⟨X1, hX1⟩ : ∃ X, X = muQ ⟨k1, k2⟩ (whole x) := ⟨_, rfl⟩
  obtain ⟨X2, hX2⟩ : ∃ X, X = muQ ⟨r1, r2⟩ (whole y) := ⟨_, rfl⟩
  obtain ⟨X3, hX3⟩ : ∃ X, X = muQ ⟨r1, r2⟩ (whole x) := ⟨_, rfl⟩
  obtain ⟨X4, hX4⟩ : ∃ X, X = muQ ⟨k1, k2⟩ (whole y) := ⟨_, rfl⟩
  have HX1 : Hid (∀ W, Calls Try.prog 37 #[.agg #[.int .i64 k1, .int .i64 k2], .agg #[.int .i64 x, .int .i64 1]] W fun e w' => e = .returned (.agg #[.int .i64 (X1).c, .int .i64 (X1).n, .int .i64 (X1).d]) ∧ Below W.heap.size W w') := fun W => by rw [hX1]; exact spec_muQ ⟨k1, k2⟩ (whole x) W
  have HX2 : Hid (∀ W, Calls Try.prog 37 #[.agg #[.int .i64 r1, .int .i64 r2], .agg #[.int .i64 y, .int .i64 1]] W fun e w' => e = .returned (.agg #[.int .i64 (X2).c, .int .i64 (X2).n, .int .i64 (X2).d]) ∧ Below W.heap.size W w') := fun W => by rw [hX2]; exact spec_muQ ⟨r1, r2⟩ (whole y) W
  have HX3 : Hid (∀ W, Calls Try.prog 37 #[.agg #[.int .i64 r1, .int .i64 r2], .agg #[.int .i64 x, .int .i64 1]] W fun e w' => e = .returned (.agg #[.int .i64 (X3).c, .int .i64 (X3).n, .int .i64 (X3).d]) ∧ Below W.heap.size W w') := fun W => by rw [hX3]; exact spec_muQ ⟨r1, r2⟩ (whole x) W
  have HX4 : Hid (∀ W, Calls Try.prog 37 #[.agg #[.int .i64 k1, .int .i64 k2], .agg #[.int .i64 y, .int .i64 1]] W fun e w' => e = .returned (.agg #[.int .i64 (X4).c, .int .i64 (X4).n, .int .i64 (X4).d]) ∧ Below W.heap.size W w') := fun W => by rw [hX4]; exact spec_muQ ⟨k1, k2⟩ (whole y) W
  have HX2n : Hid (∀ W, Calls Try.prog 38 #[.agg #[.int .i64 (X2).c, .int .i64 (X2).n, .int .i64 (X2).d]] W fun e w' => e = .returned (.agg #[.int .i64 (X2.neg).c, .int .i64 (X2.neg).n, .int .i64 (X2.neg).d]) ∧ Below W.heap.size W w') := fun W => spec_less X2 (by rw [hX2]; exact muQ_bd _ _) W
  obtain ⟨A2, hA2⟩ : ∃ A, A = adA (adA ⟨0, a1, a2⟩ X1) X2.neg := ⟨_, rfl⟩
  obtain ⟨U2, hU2⟩ : ∃ A, A = adA (adA ⟨0, b1, b2⟩ X3) X4 := ⟨_, rfl⟩
  have HPA : Hid ((A2.c ≠ 0 → P = ⟨A2.c, fr0, fr0⟩) ∧ (A2.c = 0 → U2.c ≠ 0 → P = ⟨U2.c, fr0, fr0⟩) ∧ (A2.c = 0 → U2.c = 0 → P = ⟨0, A2.fr, U2.fr⟩)) := by
    have ea : A2 = paQ m x y := by rw [hA2, hX1, hX2, paQ_spec, HM.out]; rfl
    have eu : U2 = puQ m x y := by rw [hU2, hX3, hX4, puQ_spec, HM.out]; rfl
    rw [ea, eu]
    exact ⟨fun h => HP3.out.1.trans (prV_a HP3.out.2.1 HP3.out.2.2 h), fun h h2 => HP3.out.1.trans (prV_u HP3.out.2.1 HP3.out.2.2 h h2), fun h h2 => HP3.out.1.trans (prV_ok HP3.out.2.1 HP3.out.2.2 h h2)⟩
  have HEQ : Hid (A2 = adA (adA ⟨0, a1, a2⟩ X1) X2.neg ∧ U2 = adA (adA ⟨0, b1, b2⟩ X3) X4) := ⟨hA2, hU2⟩
  clear hX1 hX2 hX3 hX4 hA2 hU2 HP3 HM hy
  go_wp2_with (fail)
  obtain ⟨V1, hV1⟩ : ∃ V, V = w1.alloc (.cells #[.int .i64 0, .int .i64 a1, .int .i64 a2] 70) := ⟨_, rfl⟩
  rw [← hV1]
  obtain ⟨K1, hK1⟩ : ∃ K, K = w1.heap.size := ⟨_, rfl⟩
  rw [← hK1]
  have HV1 : Hid ((V1.heap[w.heap.size]? = some (.cells #[.int .i64 a1, .int .i64 a2, .int .i64 b1, .int .i64 b2, .int .i64 k1, .int .i64 k2, .int .i64 r1, .int .i64 r2] 33) ∧ V1.heap[w.heap.size + 1]? = some (.cells #[.int .i64 0, .int .i64 0, .int .i64 0, .int .i64 0, .int .i64 0] 104) ∧ Below w.heap.size w V1) ∧ True ∧ AC V1 K1 0 ⟨0, a1, a2⟩) := by
    have hb5 : Below w1.heap.size w1 V1 := by rw [hV1]; (repeat' (first | (with_reducible exact Below.refl _ _) | (with_reducible assumption) | (with_reducible refine Below.setCell ?_ ?_ _) | (with_reducible refine Below.alloc ?_ ?_ _) | (with_reducible refine below_drewN ?_ _) | (with_reducible refine Below.drew ?_) | (with_reducible exact Nat.le_refl _) | omega | (simp; done) | (simp; omega)))
    have hk : V1.heap[K1]? = some (.cells #[.int .i64 0, .int .i64 a1, .int .i64 a2] 70) := by rw [hV1, hK1]; exact heap_alloc_new w1 _
    exact ⟨⟨(hb5.block _ (ltOf HW1.out.1)).trans HW1.out.1, (hb5.block _ (ltOf HW1.out.2.1)).trans HW1.out.2.1, HW1.out.2.2.trans (hb5.mono HW1.out.2.2.size)⟩, trivial, AC.mk3 hk⟩
  have HK1 : Hid (w.heap.size + 1 < K1) := by unfold Hid; rw [hK1]; exact ltOf HW1.out.2.1
  clear hV1 hK1 HW1 p0 p1 p2 p3 p4 p5 p6 p7 pl q0 q1 q2 q3 q4 g0 g1 g2 g3 g4 ql
  have hB1 : w.heap.size + 1 < K1 := by have := HK1.out; omega
  have hl1 : w.heap.size < K1 := by omega
  have hKW1 : K1 ≤ V1.heap.size := Nat.le_of_lt HV1.out.2.2.lt
  obtain ⟨p0, p1, p2, p3, p4, p5, p6, p7, pl⟩ := eight_c HV1.out.1.1
  refine wp_region_holdsA (S := KA K1 V1) (by kernel_rfl) (KA.of (Below.drew (Below.refl _ _))) (fun hS => ?_)
  refine fl_takeA (i := 0) (d := 28) (v := .pointer (some ⟨w.heap.size, 4, none⟩)) rfl rfl rfl (by kernel_rfl) (by kernel_rfl) (by kernel_rfl) hS ?_ ?_
  · intro w' hk; unfold KA at hk; go_simp
  simp only [Act.put, List.setIfInBounds_toArray, List.set_cons_zero, List.set_cons_succ]
  refine fl_takeA (i := 1) (d := 29) (v := .agg #[.int .i64 k1, .int .i64 k2]) rfl rfl rfl (by kernel_rfl) (by kernel_rfl) (by kernel_rfl) hS ?_ ?_
  · intro w' hk; unfold KA at hk; go_simp
  simp only [Act.put, List.setIfInBounds_toArray, List.set_cons_zero, List.set_cons_succ]
  refine fl_takeA (i := 2) (d := 30) (v := .int .i64 x) rfl rfl rfl (by kernel_rfl) (by kernel_rfl) (by kernel_rfl) hS ?_ ?_
  · intro w' hk; unfold KA at hk; go_simp
  simp only [Act.put, List.setIfInBounds_toArray, List.set_cons_zero, List.set_cons_succ]
  refine wpAnyH_all (rs := [3]) (by kernel_rfl) (by simp) ?_
  intro i hi
  obtain rfl : i = 3 := by simpa using hi
  refine op_call (d := 31) rfl rfl rfl (by go_simp) ((spec_int x _).mono ?_)
  rintro e y11 ⟨rfl, hb11⟩
  have hL11 : Below V1.heap.size V1 y11 := ((Below.refl _ _).drew).trans hb11
  have hK11 := KA.of (show Below K1 V1 y11 from ((Below.refl _ _).drew).trans (hb11.mono (by simpa using hKW1)))
  refine ⟨_, rfl, hK11, ?_⟩
  simp only [Act.put, List.setIfInBounds_toArray, List.set_cons_zero, List.set_cons_succ]
  refine wpAnyH_all (rs := [4]) (by kernel_rfl) (by simp) ?_
  intro i hi
  obtain rfl : i = 4 := by simpa using hi
  refine op_call (d := 32) rfl rfl rfl (by go_simp) ((HX1.out _).mono ?_)
  rintro e y12 ⟨rfl, hb12⟩
  have hL12 : Below V1.heap.size V1 y12 := hL11.trans (hb12.mono hL11.size)
  have hK12 := KA.of (hL12.mono hKW1)
  refine ⟨_, rfl, hK12, ?_⟩
  simp only [Act.put, List.setIfInBounds_toArray, List.set_cons_zero, List.set_cons_succ]
  have hA1 : AC y12 K1 0 ⟨0, a1, a2⟩ := HV1.out.2.2.keep (hL12.block _ HV1.out.2.2.lt)
  refine wpAnyH_all (rs := [5]) (by kernel_rfl) (by simp) ?_
  intro i hi
  obtain rfl : i = 5 := by simpa using hi
  refine op_call (d := 33) rfl rfl rfl (by go_simp) ((spec_add (r := X1) hA1).mono ?_)
  rintro e y19 ⟨rfl, hD1⟩
  have hK19 := KA.of (((hL12).mono hKW1).trans (hD1.chg.below (Nat.le_refl _) (Nat.le_trans hKW1 hL12.size)))
  refine ⟨_, rfl, hK19, ?_⟩
  simp only [Act.put, List.setIfInBounds_toArray, List.set_cons_zero, List.set_cons_succ]
  refine wpAnyH_done (by kernel_rfl) (NoPanic.normal ?_) _
  have HV2 : Hid ((y19.heap[w.heap.size]? = some (.cells #[.int .i64 a1, .int .i64 a2, .int .i64 b1, .int .i64 b2, .int .i64 k1, .int .i64 k2, .int .i64 r1, .int .i64 r2] 33) ∧ y19.heap[w.heap.size + 1]? = some (.cells #[.int .i64 0, .int .i64 0, .int .i64 0, .int .i64 0, .int .i64 0] 104) ∧ Below w.heap.size w y19) ∧ True ∧ AC y19 K1 0 (adA ⟨0, a1, a2⟩ X1)) := by
    have hq : ∀ q, q < V1.heap.size → q ≠ K1 → y19.heap[q]? = V1.heap[q]? := fun q h1 h2 => (hD1.chg.block q (Nat.lt_of_lt_of_le h1 hL12.size) (by omega)).trans (hL12.block q h1)
    refine ⟨⟨(hq _ (ltOf HV1.out.1.1) (by omega)).trans HV1.out.1.1, (hq _ (ltOf HV1.out.1.2.1) (by omega)).trans HV1.out.1.2.1, ?_⟩, trivial, hD1.ac⟩
    exact HV1.out.1.2.2.trans (((hL12.mono hKW1).trans (hD1.chg.below (Nat.le_refl _) (Nat.le_trans hKW1 hL12.size))).mono (by omega))
  obtain ⟨A1, hAe⟩ : ∃ A, A = adA ⟨0, a1, a2⟩ X1 := ⟨_, rfl⟩
  rw [← hAe] at HV2 HEQ
  clear hAe hD1 hA1 hK19 hK12 hK11 hL12 hL11 hb12 hb11 hS hKW1 hB1 hl1 HV1 HX1 p0 p1 p2 p3 p4 p5 p6 p7 pl
  go_wp2_with (fail)
  have hB2 : w.heap.size + 1 < K1 := by have := HK1.out; omega
  have hl2 : w.heap.size < K1 := by omega
  have hKW2 : K1 ≤ y19.heap.size := Nat.le_of_lt HV2.out.2.2.lt
  obtain ⟨p0, p1, p2, p3, p4, p5, p6, p7, pl⟩ := eight_c HV2.out.1.1
  refine wp_region_holdsA (S := KA K1 y19) (by kernel_rfl) (KA.of (Below.drew (Below.refl _ _))) (fun hS => ?_)
  refine fl_takeA (i := 0) (d := 34) (v := .pointer (some ⟨w.heap.size, 6, none⟩)) rfl rfl rfl (by kernel_rfl) (by kernel_rfl) (by kernel_rfl) hS ?_ ?_
  · intro w' hk; unfold KA at hk; go_simp
  simp only [Act.put, List.setIfInBounds_toArray, List.set_cons_zero, List.set_cons_succ]
  refine fl_takeA (i := 1) (d := 35) (v := .agg #[.int .i64 r1, .int .i64 r2]) rfl rfl rfl (by kernel_rfl) (by kernel_rfl) (by kernel_rfl) hS ?_ ?_
  · intro w' hk; unfold KA at hk; go_simp
  simp only [Act.put, List.setIfInBounds_toArray, List.set_cons_zero, List.set_cons_succ]
  refine fl_takeA (i := 2) (d := 36) (v := .int .i64 y) rfl rfl rfl (by kernel_rfl) (by kernel_rfl) (by kernel_rfl) hS ?_ ?_
  · intro w' hk; unfold KA at hk; go_simp
  simp only [Act.put, List.setIfInBounds_toArray, List.set_cons_zero, List.set_cons_succ]
  refine wpAnyH_all (rs := [3]) (by kernel_rfl) (by simp) ?_
  intro i hi
  obtain rfl : i = 3 := by simpa using hi
  refine op_call (d := 37) rfl rfl rfl (by go_simp) ((spec_int y _).mono ?_)
  rintro e y21 ⟨rfl, hb21⟩
  have hL21 : Below y19.heap.size y19 y21 := ((Below.refl _ _).drew).trans hb21
  have hK21 := KA.of (show Below K1 y19 y21 from ((Below.refl _ _).drew).trans (hb21.mono (by simpa using hKW2)))
  refine ⟨_, rfl, hK21, ?_⟩
  simp only [Act.put, List.setIfInBounds_toArray, List.set_cons_zero, List.set_cons_succ]
  refine wpAnyH_all (rs := [4]) (by kernel_rfl) (by simp) ?_
  intro i hi
  obtain rfl : i = 4 := by simpa using hi
  refine op_call (d := 38) rfl rfl rfl (by go_simp) ((HX2.out _).mono ?_)
  rintro e y22 ⟨rfl, hb22⟩
  have hL22 : Below y19.heap.size y19 y22 := hL21.trans (hb22.mono hL21.size)
  have hK22 := KA.of (hL22.mono hKW2)
  refine ⟨_, rfl, hK22, ?_⟩
  simp only [Act.put, List.setIfInBounds_toArray, List.set_cons_zero, List.set_cons_succ]
  refine wpAnyH_all (rs := [5]) (by kernel_rfl) (by simp) ?_
  intro i hi
  obtain rfl : i = 5 := by simpa using hi
  refine op_call (d := 39) rfl rfl rfl (by go_simp) ((HX2n.out _).mono ?_)
  rintro e y23 ⟨rfl, hb23⟩
  have hL23 : Below y19.heap.size y19 y23 := hL22.trans (hb23.mono hL22.size)
  have hK23 := KA.of (hL23.mono hKW2)
  refine ⟨_, rfl, hK23, ?_⟩
  simp only [Act.put, List.setIfInBounds_toArray, List.set_cons_zero, List.set_cons_succ]
  have hA2 : AC y23 K1 0 A1 := HV2.out.2.2.keep (hL23.block _ HV2.out.2.2.lt)
  refine wpAnyH_all (rs := [6]) (by kernel_rfl) (by simp) ?_
  intro i hi
  obtain rfl : i = 6 := by simpa using hi
  refine op_call (d := 40) rfl rfl rfl (by go_simp) ((spec_add (r := X2.neg) hA2).mono ?_)
  rintro e y29 ⟨rfl, hD2⟩
  have hK29 := KA.of (((hL23).mono hKW2).trans (hD2.chg.below (Nat.le_refl _) (Nat.le_trans hKW2 hL23.size)))
  refine ⟨_, rfl, hK29, ?_⟩
  simp only [Act.put, List.setIfInBounds_toArray, List.set_cons_zero, List.set_cons_succ]
  refine wpAnyH_done (by kernel_rfl) (NoPanic.normal ?_) _
  have HV3 : Hid ((y29.heap[w.heap.size]? = some (.cells #[.int .i64 a1, .int .i64 a2, .int .i64 b1, .int .i64 b2, .int .i64 k1, .int .i64 k2, .int .i64 r1, .int .i64 r2] 33) ∧ y29.heap[w.heap.size + 1]? = some (.cells #[.int .i64 0, .int .i64 0, .int .i64 0, .int .i64 0, .int .i64 0] 104) ∧ Below w.heap.size w y29) ∧ True ∧ AC y29 K1 0 (adA A1 X2.neg)) := by
    have hq : ∀ q, q < y19.heap.size → q ≠ K1 → y29.heap[q]? = y19.heap[q]? := fun q h1 h2 => (hD2.chg.block q (Nat.lt_of_lt_of_le h1 hL23.size) (by omega)).trans (hL23.block q h1)
    refine ⟨⟨(hq _ (ltOf HV2.out.1.1) (by omega)).trans HV2.out.1.1, (hq _ (ltOf HV2.out.1.2.1) (by omega)).trans HV2.out.1.2.1, ?_⟩, trivial, hD2.ac⟩
    exact HV2.out.1.2.2.trans (((hL23.mono hKW2).trans (hD2.chg.below (Nat.le_refl _) (Nat.le_trans hKW2 hL23.size))).mono (by omega))
  rw [← HEQ.out.1] at HV3
  clear hD2 hA2 hK29 hK23 hK22 hK21 hL23 hL22 hL21 hb23 hb22 hb21 hS hKW2 hB2 hl2 HV2 HX2 HX2n p0 p1 p2 p3 p4 p5 p6 p7 pl
  obtain ⟨p0, p1, p2, p3, p4, p5, p6, p7, pl⟩ := eight_c HV3.out.1.1
  go_wp2_with (fail)
  obtain ⟨V4, hV4⟩ : ∃ V, V = y29.alloc (.cells #[.int .i64 0, .int .i64 b1, .int .i64 b2] 70) := ⟨_, rfl⟩
  rw [← hV4]
  obtain ⟨K2, hK2⟩ : ∃ K, K = y29.heap.size := ⟨_, rfl⟩
  rw [← hK2]
  have HK2 : Hid (w.heap.size + 1 < K2 ∧ K1 < K2) := by
    unfold Hid; rw [hK2]; exact ⟨ltOf HV3.out.1.2.1, HV3.out.2.2.lt⟩
  have HV4 : Hid ((V4.heap[w.heap.size]? = some (.cells #[.int .i64 a1, .int .i64 a2, .int .i64 b1, .int .i64 b2, .int .i64 k1, .int .i64 k2, .int .i64 r1, .int .i64 r2] 33) ∧ V4.heap[w.heap.size + 1]? = some (.cells #[.int .i64 0, .int .i64 0, .int .i64 0, .int .i64 0, .int .i64 0] 104) ∧ Below w.heap.size w V4) ∧ AC V4 K1 0 A2 ∧ AC V4 K2 0 ⟨0, b1, b2⟩) := by
    have hb5 : Below y29.heap.size y29 V4 := by rw [hV4]; (repeat' (first | (with_reducible exact Below.refl _ _) | (with_reducible assumption) | (with_reducible refine Below.setCell ?_ ?_ _) | (with_reducible refine Below.alloc ?_ ?_ _) | (with_reducible refine below_drewN ?_ _) | (with_reducible refine Below.drew ?_) | (with_reducible exact Nat.le_refl _) | omega | (simp; done) | (simp; omega)))
    have hk : V4.heap[K2]? = some (.cells #[.int .i64 0, .int .i64 b1, .int .i64 b2] 70) := by rw [hV4, hK2]; exact heap_alloc_new y29 _
    have HV3a : Hid (y29.heap[w.heap.size]? = some (.cells #[.int .i64 a1, .int .i64 a2, .int .i64 b1, .int .i64 b2, .int .i64 k1, .int .i64 k2, .int .i64 r1, .int .i64 r2] 33) ∧ y29.heap[w.heap.size + 1]? = some (.cells #[.int .i64 0, .int .i64 0, .int .i64 0, .int .i64 0, .int .i64 0] 104) ∧ Below w.heap.size w y29) := HV3.out.1
    exact ⟨⟨(hb5.block _ (ltOf HV3a.out.1)).trans HV3a.out.1, (hb5.block _ (ltOf HV3a.out.2.1)).trans HV3a.out.2.1, HV3a.out.2.2.trans (hb5.mono HV3a.out.2.2.size)⟩, HV3.out.2.2.keep (hb5.block _ HV3.out.2.2.lt), AC.mk3 hk⟩
  clear hV4 hK2 HV3 HK1 p0 p1 p2 p3 p4 p5 p6 p7 pl
  have hB3 : w.heap.size + 1 < K2 := by exact HK2.out.1
  have hl3 : w.heap.size < K2 := by omega
  have hKW3 : K2 ≤ V4.heap.size := Nat.le_of_lt HV4.out.2.2.lt
  obtain ⟨p0, p1, p2, p3, p4, p5, p6, p7, pl⟩ := eight_c HV4.out.1.1
  refine wp_region_holdsA (S := KA K2 V4) (by kernel_rfl) (KA.of (Below.drew (Below.refl _ _))) (fun hS => ?_)
  refine fl_takeA (i := 0) (d := 44) (v := .pointer (some ⟨w.heap.size, 6, none⟩)) rfl rfl rfl (by kernel_rfl) (by kernel_rfl) (by kernel_rfl) hS ?_ ?_
  · intro w' hk; unfold KA at hk; go_simp
  simp only [Act.put, List.setIfInBounds_toArray, List.set_cons_zero, List.set_cons_succ]
  refine fl_takeA (i := 1) (d := 45) (v := .agg #[.int .i64 r1, .int .i64 r2]) rfl rfl rfl (by kernel_rfl) (by kernel_rfl) (by kernel_rfl) hS ?_ ?_
  · intro w' hk; unfold KA at hk; go_simp
  simp only [Act.put, List.setIfInBounds_toArray, List.set_cons_zero, List.set_cons_succ]
  refine fl_takeA (i := 2) (d := 46) (v := .int .i64 x) rfl rfl rfl (by kernel_rfl) (by kernel_rfl) (by kernel_rfl) hS ?_ ?_
  · intro w' hk; unfold KA at hk; go_simp
  simp only [Act.put, List.setIfInBounds_toArray, List.set_cons_zero, List.set_cons_succ]
  refine wpAnyH_all (rs := [3]) (by kernel_rfl) (by simp) ?_
  intro i hi
  obtain rfl : i = 3 := by simpa using hi
  refine op_call (d := 47) rfl rfl rfl (by go_simp) ((spec_int x _).mono ?_)
  rintro e y31 ⟨rfl, hb31⟩
  have hL31 : Below V4.heap.size V4 y31 := ((Below.refl _ _).drew).trans hb31
  have hK31 := KA.of (show Below K2 V4 y31 from ((Below.refl _ _).drew).trans (hb31.mono (by simpa using hKW3)))
  refine ⟨_, rfl, hK31, ?_⟩
  simp only [Act.put, List.setIfInBounds_toArray, List.set_cons_zero, List.set_cons_succ]
  refine wpAnyH_all (rs := [4]) (by kernel_rfl) (by simp) ?_
  intro i hi
  obtain rfl : i = 4 := by simpa using hi
  refine op_call (d := 48) rfl rfl rfl (by go_simp) ((HX3.out _).mono ?_)
  rintro e y32 ⟨rfl, hb32⟩
  have hL32 : Below V4.heap.size V4 y32 := hL31.trans (hb32.mono hL31.size)
  have hK32 := KA.of (hL32.mono hKW3)
  refine ⟨_, rfl, hK32, ?_⟩
  simp only [Act.put, List.setIfInBounds_toArray, List.set_cons_zero, List.set_cons_succ]
  have hA3 : AC y32 K2 0 ⟨0, b1, b2⟩ := HV4.out.2.2.keep (hL32.block _ HV4.out.2.2.lt)
  refine wpAnyH_all (rs := [5]) (by kernel_rfl) (by simp) ?_
  intro i hi
  obtain rfl : i = 5 := by simpa using hi
  refine op_call (d := 49) rfl rfl rfl (by go_simp) ((spec_add (r := X3) hA3).mono ?_)
  rintro e y39 ⟨rfl, hD3⟩
  have hK39 := KA.of (((hL32).mono hKW3).trans (hD3.chg.below (Nat.le_refl _) (Nat.le_trans hKW3 hL32.size)))
  refine ⟨_, rfl, hK39, ?_⟩
  simp only [Act.put, List.setIfInBounds_toArray, List.set_cons_zero, List.set_cons_succ]
  refine wpAnyH_done (by kernel_rfl) (NoPanic.normal ?_) _
  have HV5 : Hid ((y39.heap[w.heap.size]? = some (.cells #[.int .i64 a1, .int .i64 a2, .int .i64 b1, .int .i64 b2, .int .i64 k1, .int .i64 k2, .int .i64 r1, .int .i64 r2] 33) ∧ y39.heap[w.heap.size + 1]? = some (.cells #[.int .i64 0, .int .i64 0, .int .i64 0, .int .i64 0, .int .i64 0] 104) ∧ Below w.heap.size w y39) ∧ AC y39 K1 0 A2 ∧ AC y39 K2 0 (adA ⟨0, b1, b2⟩ X3)) := by
    have hq : ∀ q, q < V4.heap.size → q ≠ K2 → y39.heap[q]? = V4.heap[q]? := fun q h1 h2 => (hD3.chg.block q (Nat.lt_of_lt_of_le h1 hL32.size) (by omega)).trans (hL32.block q h1)
    refine ⟨⟨(hq _ (ltOf HV4.out.1.1) (by omega)).trans HV4.out.1.1, (hq _ (ltOf HV4.out.1.2.1) (by omega)).trans HV4.out.1.2.1, ?_⟩, HV4.out.2.1.keep (hq _ HV4.out.2.1.lt (by have := HK2.out; omega)), hD3.ac⟩
    exact HV4.out.1.2.2.trans (((hL32.mono hKW3).trans (hD3.chg.below (Nat.le_refl _) (Nat.le_trans hKW3 hL32.size))).mono (by omega))
  obtain ⟨U1, hU1⟩ : ∃ A, A = adA ⟨0, b1, b2⟩ X3 := ⟨_, rfl⟩
  rw [← hU1] at HV5 HEQ
  clear hU1 hD3 hA3 hK39 hK32 hK31 hL32 hL31 hb32 hb31 hS hKW3 hB3 hl3 HV4 HX3 p0 p1 p2 p3 p4 p5 p6 p7 pl
  go_wp2_with (fail)
  have hB4 : w.heap.size + 1 < K2 := by exact HK2.out.1
  have hl4 : w.heap.size < K2 := by omega
  have hKW4 : K2 ≤ y39.heap.size := Nat.le_of_lt HV5.out.2.2.lt
  obtain ⟨p0, p1, p2, p3, p4, p5, p6, p7, pl⟩ := eight_c HV5.out.1.1
  refine wp_region_holdsA (S := KA K2 y39) (by kernel_rfl) (KA.of (Below.drew (Below.refl _ _))) (fun hS => ?_)
  refine fl_takeA (i := 0) (d := 50) (v := .pointer (some ⟨w.heap.size, 4, none⟩)) rfl rfl rfl (by kernel_rfl) (by kernel_rfl) (by kernel_rfl) hS ?_ ?_
  · intro w' hk; unfold KA at hk; go_simp
  simp only [Act.put, List.setIfInBounds_toArray, List.set_cons_zero, List.set_cons_succ]
  refine fl_takeA (i := 1) (d := 51) (v := .agg #[.int .i64 k1, .int .i64 k2]) rfl rfl rfl (by kernel_rfl) (by kernel_rfl) (by kernel_rfl) hS ?_ ?_
  · intro w' hk; unfold KA at hk; go_simp
  simp only [Act.put, List.setIfInBounds_toArray, List.set_cons_zero, List.set_cons_succ]
  refine fl_takeA (i := 2) (d := 52) (v := .int .i64 y) rfl rfl rfl (by kernel_rfl) (by kernel_rfl) (by kernel_rfl) hS ?_ ?_
  · intro w' hk; unfold KA at hk; go_simp
  simp only [Act.put, List.setIfInBounds_toArray, List.set_cons_zero, List.set_cons_succ]
  refine wpAnyH_all (rs := [3]) (by kernel_rfl) (by simp) ?_
  intro i hi
  obtain rfl : i = 3 := by simpa using hi
  refine op_call (d := 53) rfl rfl rfl (by go_simp) ((spec_int y _).mono ?_)
  rintro e y41 ⟨rfl, hb41⟩
  have hL41 : Below y39.heap.size y39 y41 := ((Below.refl _ _).drew).trans hb41
  have hK41 := KA.of (show Below K2 y39 y41 from ((Below.refl _ _).drew).trans (hb41.mono (by simpa using hKW4)))
  refine ⟨_, rfl, hK41, ?_⟩
  simp only [Act.put, List.setIfInBounds_toArray, List.set_cons_zero, List.set_cons_succ]
  refine wpAnyH_all (rs := [4]) (by kernel_rfl) (by simp) ?_
  intro i hi
  obtain rfl : i = 4 := by simpa using hi
  refine op_call (d := 54) rfl rfl rfl (by go_simp) ((HX4.out _).mono ?_)
  rintro e y42 ⟨rfl, hb42⟩
  have hL42 : Below y39.heap.size y39 y42 := hL41.trans (hb42.mono hL41.size)
  have hK42 := KA.of (hL42.mono hKW4)
  refine ⟨_, rfl, hK42, ?_⟩
  simp only [Act.put, List.setIfInBounds_toArray, List.set_cons_zero, List.set_cons_succ]
  have hA4 : AC y42 K2 0 U1 := HV5.out.2.2.keep (hL42.block _ HV5.out.2.2.lt)
  refine wpAnyH_all (rs := [5]) (by kernel_rfl) (by simp) ?_
  intro i hi
  obtain rfl : i = 5 := by simpa using hi
  refine op_call (d := 55) rfl rfl rfl (by go_simp) ((spec_add (r := X4) hA4).mono ?_)
  rintro e y49 ⟨rfl, hD4⟩
  have hK49 := KA.of (((hL42).mono hKW4).trans (hD4.chg.below (Nat.le_refl _) (Nat.le_trans hKW4 hL42.size)))
  refine ⟨_, rfl, hK49, ?_⟩
  simp only [Act.put, List.setIfInBounds_toArray, List.set_cons_zero, List.set_cons_succ]
  refine wpAnyH_done (by kernel_rfl) (NoPanic.normal ?_) _
  have HV6 : Hid ((y49.heap[w.heap.size]? = some (.cells #[.int .i64 a1, .int .i64 a2, .int .i64 b1, .int .i64 b2, .int .i64 k1, .int .i64 k2, .int .i64 r1, .int .i64 r2] 33) ∧ y49.heap[w.heap.size + 1]? = some (.cells #[.int .i64 0, .int .i64 0, .int .i64 0, .int .i64 0, .int .i64 0] 104) ∧ Below w.heap.size w y49) ∧ AC y49 K1 0 A2 ∧ AC y49 K2 0 (adA U1 X4)) := by
    have hq : ∀ q, q < y39.heap.size → q ≠ K2 → y49.heap[q]? = y39.heap[q]? := fun q h1 h2 => (hD4.chg.block q (Nat.lt_of_lt_of_le h1 hL42.size) (by omega)).trans (hL42.block q h1)
    refine ⟨⟨(hq _ (ltOf HV5.out.1.1) (by omega)).trans HV5.out.1.1, (hq _ (ltOf HV5.out.1.2.1) (by omega)).trans HV5.out.1.2.1, ?_⟩, HV5.out.2.1.keep (hq _ HV5.out.2.1.lt (by have := HK2.out; omega)), hD4.ac⟩
    exact HV5.out.1.2.2.trans (((hL42.mono hKW4).trans (hD4.chg.below (Nat.le_refl _) (Nat.le_trans hKW4 hL42.size))).mono (by omega))
  rw [← HEQ.out.2] at HV6
  clear hD4 hA4 hK49 hK42 hK41 hL42 hL41 hb42 hb41 hS hKW4 hB4 hl4 HV5 HX4 p0 p1 p2 p3 p4 p5 p6 p7 pl HEQ
  obtain ⟨Ac, An, Ad⟩ := A2
  obtain ⟨Uc, Un, Ud⟩ := U2
  obtain ⟨q0, q1, q2, q3, q4, g0, g1, g2, g3, g4, ql⟩ := five_c HV6.out.1.2.1
  have s0 : y49.cell? ⟨K1, 0, none⟩ = some (.int .i64 Ac) := HV6.out.2.1.c0
  have s1 : y49.cell? ⟨K1, 1, none⟩ = some (.int .i64 An) := HV6.out.2.1.c1
  have s2 : y49.cell? ⟨K1, 2, none⟩ = some (.int .i64 Ad) := HV6.out.2.1.c2
  have sl := HV6.out.2.1.lt
  have t0 : y49.cell? ⟨K2, 0, none⟩ = some (.int .i64 Uc) := HV6.out.2.2.c0
  have t1 : y49.cell? ⟨K2, 1, none⟩ = some (.int .i64 Un) := HV6.out.2.2.c1
  have t2 : y49.cell? ⟨K2, 2, none⟩ = some (.int .i64 Ud) := HV6.out.2.2.c2
  have tl := HV6.out.2.2.lt
  have HB : Hid (Below w.heap.size w y49) := HV6.out.1.2.2
  clear HV6 HK2
  by_cases hAc : Ac = 0
  case neg =>
    have HE : Hid (P = ⟨Ac, fr0, fr0⟩) := HPA.out.1 hAc
    have hA9 : (Ac != 0) = true := by simpa using hAc
    clear hAc HPA
    go_wp2
    try simp only [Exit.inBlock, Exit.then]
    refine bodyPost_ret (by simp [results, Try.results61, go_sem, q0, q1, q2, q3, q4, ql]; try rfl) rfl ⟨by rw [HE.out] <;> rfl, ?_⟩
    have hb := HB.out
    (repeat' (first | (with_reducible exact Below.refl _ _) | (with_reducible assumption) | (with_reducible refine Below.setCell ?_ ?_ _) | (with_reducible refine Below.alloc ?_ ?_ _) | (with_reducible refine below_drewN ?_ _) | (with_reducible refine Below.drew ?_) | (with_reducible exact Nat.le_refl _) | omega | (simp; done) | (simp; omega)))

  have hA9 : (Ac != 0) = false := by rw [hAc]; rfl
  by_cases hUc : Uc = 0
  case neg =>
    have HE : Hid (P = ⟨Uc, fr0, fr0⟩) := HPA.out.2.1 hAc hUc
    have hA8 : (Uc != 0) = true := by simpa using hUc
    clear hAc hUc HPA
    go_wp2
    try simp only [Exit.inBlock, Exit.then]
    refine bodyPost_ret (by simp [results, Try.results61, go_sem, q0, q1, q2, q3, q4, ql]; try rfl) rfl ⟨by rw [HE.out] <;> rfl, ?_⟩
    have hb := HB.out
    (repeat' (first | (with_reducible exact Below.refl _ _) | (with_reducible assumption) | (with_reducible refine Below.setCell ?_ ?_ _) | (with_reducible refine Below.alloc ?_ ?_ _) | (with_reducible refine below_drewN ?_ _) | (with_reducible refine Below.drew ?_) | (with_reducible exact Nat.le_refl _) | omega | (simp; done) | (simp; omega)))

  have HE : Hid (P = ⟨0, ⟨An, Ad⟩, ⟨Un, Ud⟩⟩) := HPA.out.2.2 hAc hUc
  have hA8 : (Uc != 0) = false := by rw [hUc]; rfl
  clear hAc hUc HPA
  go_wp2
  try simp only [Exit.inBlock, Exit.then]
  refine bodyPost_ret (by simp [results, Try.results61, go_sem, q0, q1, q2, q3, q4, ql]; try rfl) rfl ⟨by rw [HE.out] <;> rfl, ?_⟩
  have hb := HB.out
  (repeat' (first | (with_reducible exact Below.refl _ _) | (with_reducible assumption) | (with_reducible refine Below.setCell ?_ ?_ _) | (with_reducible refine Below.alloc ?_ ?_ _) | (with_reducible refine below_drewN ?_ _) | (with_reducible refine Below.drew ?_) | (with_reducible exact Nat.le_refl _) | omega | (simp; done) | (simp; omega)))


end Go.Proofs.Ytdidmjgilnhncab
