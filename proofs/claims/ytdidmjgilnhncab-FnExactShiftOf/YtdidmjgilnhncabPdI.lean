/- Proved here: what a model predicts, of the program: prV. -/
import Derived.Test.YtdidmjgilnhncabMaC
import Derived.Test.YtdidmjgilnhncabMdI
import Derived.Test.YtdidmjgilnhncabFsT
import Derived.Test.YtdidmjgilnhncabKept
namespace Go.Proofs.Ytdidmjgilnhncab
open Go.RowKit
set_option linter.unusedVariables false
set_option linter.unusedSimpArgs false

theorem rg_two {w : World} {g : Nat} {x y : FT} {T : TypeId} (h : w.heap[g]? = some (.cells #[.int .i64 x.a.n, .int .i64 x.a.d, .int .i64 x.t, .int .i64 y.a.n, .int .i64 y.a.d, .int .i64 y.t] T)) : RG 3 fstC w (.slice (some ⟨g, 0, none⟩) 2 2) [x, y] := by
  refine ⟨_, _, rfl, fun _ => ⟨g, 0, rfl, ltOf h, fun j hj i hi => ?_⟩⟩
  have hj2 : j < 2 := hj
  rcases (by omega : j = 0 ∨ j = 1) with rfl | rfl
  · rcases (by omega : i = 0 ∨ i = 1 ∨ i = 2) with rfl | rfl | rfl
    · exact cellOf h 0 rfl
    · exact cellOf h 1 rfl
    · exact cellOf h 2 rfl
  · rcases (by omega : i = 0 ∨ i = 1 ∨ i = 2) with rfl | rfl | rfl
    · exact cellOf h 3 rfl
    · exact cellOf h 4 rfl
    · exact cellOf h 5 rfl
theorem or_two {w : World} {g : Nat} {x y : Int} {T : TypeId} (h : w.heap[g]? = some (.cells #[.int .i64 x, .int .i64 y] T)) :
    Calls Try.prog 68 #[.slice (some ⟨g, 0, none⟩) 2 2] w fun e w' => e = .returned (.int .i64 (orL [x, y])) ∧ w' = w :=
  impl_or (by omega) rfl (fun j hj => by
    have hj2 : j < 2 := hj
    rcases (by omega : j = 0 ∨ j = 1) with rfl | rfl
    · exact cellOf h 0 rfl
    · exact cellOf h 1 rfl)

set_option maxRecDepth 10000 in
set_option maxHeartbeats 12800000 in
theorem impl_prV (m : Mdl) (x y : Int) (w : World) :
    Calls Try.prog 66 #[.agg #[.int .i64 m.sx.n, .int .i64 m.sx.d, .int .i64 m.sy.n, .int .i64 m.sy.d, .int .i64 m.k.n, .int .i64 m.k.d, .int .i64 m.r.n, .int .i64 m.r.d], .int .i64 x, .int .i64 y] w fun e w' => e = .returned (.agg #[.int .i64 (prV m x y).c, .int .i64 (prV m x y).x.n, .int .i64 (prV m x y).x.d, .int .i64 (prV m x y).y.n, .int .i64 (prV m x y).y.d]) ∧ Below w.heap.size w w' := by
  obtain ⟨P, hP⟩ : ∃ P, P = prV m x y := ⟨_, rfl⟩
  rw [← hP]
  obtain ⟨mf, hmf⟩ : ∃ f, f = mdF m := ⟨_, rfl⟩
  have HMF : Hid (∀ W, Calls Try.prog 85 #[.agg #[.int .i64 m.sx.n, .int .i64 m.sx.d, .int .i64 m.sy.n, .int .i64 m.sy.d, .int .i64 m.k.n, .int .i64 m.k.d, .int .i64 m.r.n, .int .i64 m.r.d]] W fun e w' => e = .returned (.int .i64 mf) ∧ Below W.heap.size W w') := fun W => by rw [hmf]; exact impl_mdF m W
  obtain ⟨i1, hi1⟩ : ∃ r, r = decide (-1000 ≤ x ∧ x ≤ 1000) := ⟨_, rfl⟩
  obtain ⟨i2, hi2⟩ : ∃ r, r = decide (-1000 ≤ y ∧ y ≤ 1000) := ⟨_, rfl⟩
  have HI1 : Hid (∀ W, Calls Try.prog 81 #[.int .i64 x, .int .i64 (-1000), .int .i64 1000] W fun e w' => e = .returned (.bool i1) ∧ w' = W) := fun W => impl_insC _ _ _ _ hi1 W
  have HI2 : Hid (∀ W, Calls Try.prog 81 #[.int .i64 y, .int .i64 (-1000), .int .i64 1000] W fun e w' => e = .returned (.bool i2) ∧ w' = W) := fun W => impl_insC _ _ _ _ hi2 W
  have HIN : Hid (inP x y = (i1 && i2) ∧ (i2 = true → -1000 ≤ y ∧ y ≤ 1000)) := by
    refine ⟨by unfold inP; rw [hi1, hi2], fun h => ?_⟩
    rw [h] at hi2; exact of_decide_eq_true hi2.symm
  have HP : Hid (P = prV m x y ∧ mf = mdF m) := ⟨hP, hmf⟩
  clear hP hmf hi1 hi2
  obtain ⟨V, hV⟩ : ∃ V, V = (w.alloc (.cells #[.int .i64 m.sx.n, .int .i64 m.sx.d, .int .i64 m.sy.n, .int .i64 m.sy.d, .int .i64 m.k.n, .int .i64 m.k.d, .int .i64 m.r.n, .int .i64 m.r.d] 33)).alloc (.cells #[.int .i64 0, .int .i64 0, .int .i64 0, .int .i64 0, .int .i64 0] 104) := ⟨_, rfl⟩
  obtain ⟨a1, h⟩ : ∃ a, a = m.sx.n := ⟨_, rfl⟩
  obtain ⟨a2, h2⟩ : ∃ a, a = m.sx.d := ⟨_, rfl⟩
  obtain ⟨b1, h3⟩ : ∃ a, a = m.sy.n := ⟨_, rfl⟩
  obtain ⟨b2, h4⟩ : ∃ a, a = m.sy.d := ⟨_, rfl⟩
  obtain ⟨k1, h5⟩ : ∃ a, a = m.k.n := ⟨_, rfl⟩
  obtain ⟨k2, h6⟩ : ∃ a, a = m.k.d := ⟨_, rfl⟩
  obtain ⟨r1, h7⟩ : ∃ a, a = m.r.n := ⟨_, rfl⟩
  obtain ⟨r2, h8⟩ : ∃ a, a = m.r.d := ⟨_, rfl⟩
  have HM : Hid (m = ⟨⟨a1, a2⟩, ⟨b1, b2⟩, ⟨k1, k2⟩, ⟨r1, r2⟩⟩) := by unfold Hid; rw [h, h2, h3, h4, h5, h6, h7, h8]
  rw [← h, ← h2, ← h3, ← h4, ← h5, ← h6, ← h7, ← h8] at HMF hV ⊢
  clear h h2 h3 h4 h5 h6 h7 h8
  have HV : Hid (V.heap[w.heap.size]? = some (.cells #[.int .i64 a1, .int .i64 a2, .int .i64 b1, .int .i64 b2, .int .i64 k1, .int .i64 k2, .int .i64 r1, .int .i64 r2] 33) ∧ V.heap[w.heap.size + 1]? = some (.cells #[.int .i64 0, .int .i64 0, .int .i64 0, .int .i64 0, .int .i64 0] 104) ∧ Below w.heap.size w V) := by
    refine ⟨?_, ?_, by rw [hV]; (repeat' (first | (with_reducible exact Below.refl _ _) | (with_reducible assumption) | (with_reducible refine Below.setCell ?_ ?_ _) | (with_reducible refine Below.alloc ?_ ?_ _) | (with_reducible refine below_drewN ?_ _) | (with_reducible refine Below.drew ?_) | (with_reducible exact Nat.le_refl _) | omega | (simp; done) | (simp; omega)))⟩
    · rw [hV]; exact (Below.heap_alloc _ _ _ (by simp)).trans (heap_alloc_new w _)
    · rw [hV]; have := heap_alloc_new (w.alloc (.cells #[.int .i64 a1, .int .i64 a2, .int .i64 b1, .int .i64 b2, .int .i64 k1, .int .i64 k2, .int .i64 r1, .int .i64 r2] 33)) (.cells #[.int .i64 0, .int .i64 0, .int .i64 0, .int .i64 0, .int .i64 0] 104); simpa using this
  obtain ⟨p0, p1, p2, p3, p4, p5, p6, p7, pl⟩ := eight_c HV.out.1
  obtain ⟨q0, q1, q2, q3, q4, g0, g1, g2, g3, g4, ql⟩ := five_c HV.out.2.1
  go_enter Try.func66, Try.ntmps66
  go_upto_region 1 with fail
  rw [← hV]
  clear hV
  go_wp2_with (fail)
  refine (HMF.out _).mono ?_
  rintro e w1 ⟨rfl, hb1⟩
  have HW1 : Hid (w1.heap[w.heap.size]? = some (.cells #[.int .i64 a1, .int .i64 a2, .int .i64 b1, .int .i64 b2, .int .i64 k1, .int .i64 k2, .int .i64 r1, .int .i64 r2] 33) ∧ w1.heap[w.heap.size + 1]? = some (.cells #[.int .i64 0, .int .i64 0, .int .i64 0, .int .i64 0, .int .i64 0] 104) ∧ Below w.heap.size w w1) := ⟨(hb1.block _ (ltOf HV.out.1)).trans HV.out.1, (hb1.block _ (ltOf HV.out.2.1)).trans HV.out.2.1, HV.out.2.2.trans (hb1.mono HV.out.2.2.size)⟩
  clear HMF hb1 HV p0 p1 p2 p3 p4 p5 p6 p7 pl q0 q1 q2 q3 q4 g0 g1 g2 g3 g4 ql
  obtain ⟨p0, p1, p2, p3, p4, p5, p6, p7, pl⟩ := eight_c HW1.out.1
  obtain ⟨q0, q1, q2, q3, q4, g0, g1, g2, g3, g4, ql⟩ := five_c HW1.out.2.1
  by_cases hm0 : mf = 0
  case neg =>
    have HE : Hid (P = ⟨mf, fr0, fr0⟩) := by unfold Hid; rw [HP.out.1, prV_md (by rw [← HP.out.2]; exact hm0), HP.out.2]
    have hA : (mf != 0) = true := by simpa using hm0
    have HB : Hid (Below w.heap.size w w1) := HW1.out.2.2
    clear hm0 HP HW1
    go_wp2
    try simp only [Exit.inBlock, Exit.then]
    refine bodyPost_ret (by simp [results, Try.results66, go_sem, q0, q1, q2, q3, q4, ql]; try rfl) rfl ⟨by rw [HE.out] <;> rfl, ?_⟩
    have hb := HB.out
    (repeat' (first | (with_reducible exact Below.refl _ _) | (with_reducible assumption) | (with_reducible refine Below.setCell ?_ ?_ _) | (with_reducible refine Below.alloc ?_ ?_ _) | (with_reducible refine below_drewN ?_ _) | (with_reducible refine Below.drew ?_) | (with_reducible exact Nat.le_refl _) | omega | (simp; done) | (simp; omega)))

  have hA : (mf != 0) = false := by rw [hm0]; rfl
  have HP2 : Hid (P = prV m x y ∧ mdF m = 0) := ⟨HP.out.1, by rw [← HP.out.2]; exact hm0⟩
  clear HP hm0
  go_wp2_with (fail)
  refine (HI1.out _).mono ?_
  rintro e w2 ⟨rfl, hw2⟩
  obtain rfl : w1 = w2 := hw2.symm
  cases i1 with
  | false =>
    have HE : Hid (P = ⟨3, fr0, fr0⟩) := by unfold Hid; rw [HP2.out.1, prV_out HP2.out.2 (by rw [HIN.out.1]; rfl)]
    have HB : Hid (Below w.heap.size w w1) := HW1.out.2.2
    clear HP2 HW1
    go_wp2
    try simp only [Exit.inBlock, Exit.then]
    refine bodyPost_ret (by simp [results, Try.results66, go_sem, q0, q1, q2, q3, q4, ql]; try rfl) rfl ⟨by rw [HE.out] <;> rfl, ?_⟩
    have hb := HB.out
    (repeat' (first | (with_reducible exact Below.refl _ _) | (with_reducible assumption) | (with_reducible refine Below.setCell ?_ ?_ _) | (with_reducible refine Below.alloc ?_ ?_ _) | (with_reducible refine below_drewN ?_ _) | (with_reducible refine Below.drew ?_) | (with_reducible exact Nat.le_refl _) | omega | (simp; done) | (simp; omega)))

  | true =>
  go_wp2_with (fail)
  refine (HI2.out _).mono ?_
  rintro e w3 ⟨rfl, hw3⟩
  obtain rfl : w1 = w3 := hw3.symm
  cases i2 with
  | false =>
    have HE : Hid (P = ⟨3, fr0, fr0⟩) := by unfold Hid; rw [HP2.out.1, prV_out HP2.out.2 (by rw [HIN.out.1]; rfl)]
    have HB : Hid (Below w.heap.size w w1) := HW1.out.2.2
    clear HP2 HW1
    go_wp2
    try simp only [Exit.inBlock, Exit.then]
    refine bodyPost_ret (by simp [results, Try.results66, go_sem, q0, q1, q2, q3, q4, ql]; try rfl) rfl ⟨by rw [HE.out] <;> rfl, ?_⟩
    have hb := HB.out
    (repeat' (first | (with_reducible exact Below.refl _ _) | (with_reducible assumption) | (with_reducible refine Below.setCell ?_ ?_ _) | (with_reducible refine Below.alloc ?_ ?_ _) | (with_reducible refine below_drewN ?_ _) | (with_reducible refine Below.drew ?_) | (with_reducible exact Nat.le_refl _) | omega | (simp; done) | (simp; omega)))

  | true =>
  have hy := HIN.out.2 rfl
  have HP3 : Hid (P = prV m x y ∧ mdF m = 0 ∧ inP x y = true) := ⟨HP2.out.1, HP2.out.2, by rw [HIN.out.1]; rfl⟩
  clear HP2 HIN HI1 HI2
  have hneg : IntKind.i64.wrap (-y) = -y := by rw [IntKind.wrap_i64]; omega
  obtain ⟨A, hA1⟩ : ∃ A, A = zq (paQ m x y) := ⟨_, rfl⟩
  obtain ⟨U, hU1⟩ : ∃ U, U = zq (puQ m x y) := ⟨_, rfl⟩
  have HFA : Hid (∀ (W : World) (g : Nat), W.heap[g]? = some (.cells #[.int .i64 k1, .int .i64 k2, .int .i64 x, .int .i64 r1, .int .i64 r2, .int .i64 (-y)] 83) → Calls Try.prog 69 #[.slice (some ⟨g, 0, none⟩) 2 2, .agg #[.int .i64 a1, .int .i64 a2]] W fun e w' => e = .returned (.agg #[.int .i64 (A).c, .int .i64 (A).n, .int .i64 (A).d]) ∧ Below W.heap.size W w') := fun W g hg => by
    rw [hA1, HM.out]
    exact impl_fromT ⟨a1, a2⟩ (by simp) (rg_two (x := ⟨⟨k1, k2⟩, x⟩) (y := ⟨⟨r1, r2⟩, -y⟩) hg)
  have HFU : Hid (∀ (W : World) (g : Nat), W.heap[g]? = some (.cells #[.int .i64 r1, .int .i64 r2, .int .i64 x, .int .i64 k1, .int .i64 k2, .int .i64 y] 83) → Calls Try.prog 69 #[.slice (some ⟨g, 0, none⟩) 2 2, .agg #[.int .i64 b1, .int .i64 b2]] W fun e w' => e = .returned (.agg #[.int .i64 (U).c, .int .i64 (U).n, .int .i64 (U).d]) ∧ Below W.heap.size W w') := fun W g hg => by
    rw [hU1, HM.out]
    exact impl_fromT ⟨b1, b2⟩ (by simp) (rg_two (x := ⟨⟨r1, r2⟩, x⟩) (y := ⟨⟨k1, k2⟩, y⟩) hg)
  obtain ⟨G, hG⟩ : ∃ G, G = orL [A.c, U.c] := ⟨_, rfl⟩
  have HOR : Hid (∀ (W : World) (g : Nat), W.heap[g]? = some (.cells #[.int .i64 A.c, .int .i64 U.c] 2) → Calls Try.prog 68 #[.slice (some ⟨g, 0, none⟩) 2 2] W fun e w' => e = .returned (.int .i64 G) ∧ w' = W) := fun W g hg => by rw [hG]; exact or_two hg
  have HPG : Hid ((G ≠ 0 → P = ⟨G, fr0, fr0⟩) ∧ (G = 0 → P = ⟨0, A.fr, U.fr⟩)) := by
    have hzc : ∀ q : QR, (zq q).c = q.c := fun q => by unfold zq; split <;> rfl
    have ha : A.c = (paQ m x y).c := by rw [hA1, hzc]
    have hu : U.c = (puQ m x y).c := by rw [hU1, hzc]
    by_cases h0 : (paQ m x y).c = 0
    · by_cases h1 : (puQ m x y).c = 0
      · have hg0 : G = 0 := by rw [hG]; simp [orL, ha, hu, h0, h1]
        refine ⟨fun h => absurd hg0 h, fun _ => ?_⟩
        rw [HP3.out.1, prV_ok HP3.out.2.1 HP3.out.2.2 h0 h1, hA1, hU1, zq_ok h0, zq_ok h1]
      · have hg0 : G = (puQ m x y).c := by rw [hG]; simp [orL, ha, hu, h0, h1]
        refine ⟨fun _ => ?_, fun h => absurd (hg0.symm.trans h) h1⟩
        rw [HP3.out.1, prV_u HP3.out.2.1 HP3.out.2.2 h0 h1, hg0]
    · have hg0 : G = (paQ m x y).c := by rw [hG]; simp [orL, ha, hu, h0]
      refine ⟨fun _ => ?_, fun h => absurd (hg0.symm.trans h) h0⟩
      rw [HP3.out.1, prV_a HP3.out.2.1 HP3.out.2.2 h0, hg0]
  clear hA1 hU1 hG HP3 HM hy
  obtain ⟨Ac, An, Ad⟩ := A
  obtain ⟨Uc, Un, Ud⟩ := U
  go_wp2_with (fail)
  refine (HFA.out _ _ (heap_alloc_new w1 _)).mono ?_
  rintro e w2 ⟨rfl, hb2⟩
  have HW2 : Hid (w2.heap[w.heap.size]? = some (.cells #[.int .i64 a1, .int .i64 a2, .int .i64 b1, .int .i64 b2, .int .i64 k1, .int .i64 k2, .int .i64 r1, .int .i64 r2] 33) ∧ w2.heap[w.heap.size + 1]? = some (.cells #[.int .i64 0, .int .i64 0, .int .i64 0, .int .i64 0, .int .i64 0] 104) ∧ Below w.heap.size w w2) := by
    have hb3 : Below w1.heap.size w1 w2 := (show Below w1.heap.size w1 _ from by (repeat' (first | (with_reducible exact Below.refl _ _) | (with_reducible assumption) | (with_reducible refine Below.setCell ?_ ?_ _) | (with_reducible refine Below.alloc ?_ ?_ _) | (with_reducible refine below_drewN ?_ _) | (with_reducible refine Below.drew ?_) | (with_reducible exact Nat.le_refl _) | omega | (simp; done) | (simp; omega)))).trans (hb2.mono (by simp))
    exact ⟨(hb3.block _ (ltOf HW1.out.1)).trans HW1.out.1, (hb3.block _ (ltOf HW1.out.2.1)).trans HW1.out.2.1, HW1.out.2.2.trans (hb3.mono HW1.out.2.2.size)⟩
  clear hb2 HFA HW1 p0 p1 p2 p3 p4 p5 p6 p7 pl q0 q1 q2 q3 q4 g0 g1 g2 g3 g4 ql hneg
  obtain ⟨p0, p1, p2, p3, p4, p5, p6, p7, pl⟩ := eight_c HW2.out.1
  obtain ⟨q0, q1, q2, q3, q4, g0, g1, g2, g3, g4, ql⟩ := five_c HW2.out.2.1
  go_wp2_with (fail)
  obtain ⟨V3, hV3⟩ : ∃ V, V = w2.alloc (.cells #[.int .i64 Ac, .int .i64 An, .int .i64 Ad] 38) := ⟨_, rfl⟩
  rw [← hV3]
  obtain ⟨K3, hK3⟩ : ∃ K, K = w2.heap.size := ⟨_, rfl⟩
  have HV3 : Hid ((V3.heap[w.heap.size]? = some (.cells #[.int .i64 a1, .int .i64 a2, .int .i64 b1, .int .i64 b2, .int .i64 k1, .int .i64 k2, .int .i64 r1, .int .i64 r2] 33) ∧ V3.heap[w.heap.size + 1]? = some (.cells #[.int .i64 0, .int .i64 0, .int .i64 0, .int .i64 0, .int .i64 0] 104) ∧ Below w.heap.size w V3) ∧ V3.heap[K3]? = some (.cells #[.int .i64 Ac, .int .i64 An, .int .i64 Ad] 38)) := by
    have hb3 : Below w2.heap.size w2 V3 := by rw [hV3]; (repeat' (first | (with_reducible exact Below.refl _ _) | (with_reducible assumption) | (with_reducible refine Below.setCell ?_ ?_ _) | (with_reducible refine Below.alloc ?_ ?_ _) | (with_reducible refine below_drewN ?_ _) | (with_reducible refine Below.drew ?_) | (with_reducible exact Nat.le_refl _) | omega | (simp; done) | (simp; omega)))
    exact ⟨⟨(hb3.block _ (ltOf HW2.out.1)).trans HW2.out.1, (hb3.block _ (ltOf HW2.out.2.1)).trans HW2.out.2.1, HW2.out.2.2.trans (hb3.mono HW2.out.2.2.size)⟩, by rw [hV3, hK3]; exact heap_alloc_new w2 _⟩
  have hsz3 : V3.heap.size = K3 + 1 := by rw [hV3, hK3]; simp
  have hg3 : (V3.alloc (.cells #[.int .i64 r1, .int .i64 r2, .int .i64 x, .int .i64 k1, .int .i64 k2, .int .i64 y] 83)).heap[K3 + 1]? = some (.cells #[.int .i64 r1, .int .i64 r2, .int .i64 x, .int .i64 k1, .int .i64 k2, .int .i64 y] 83) := by
    have := heap_alloc_new V3 (.cells #[.int .i64 r1, .int .i64 r2, .int .i64 x, .int .i64 k1, .int .i64 k2, .int .i64 y] 83)
    rw [hsz3] at this; exact this
  rw [← hK3]
  clear hV3 hK3 HW2 hsz3 p0 p1 p2 p3 p4 p5 p6 p7 pl q0 q1 q2 q3 q4 g0 g1 g2 g3 g4 ql
  refine (HFU.out _ _ hg3).mono ?_
  rintro e w4 ⟨rfl, hb4⟩
  have HW4 : Hid ((w4.heap[w.heap.size]? = some (.cells #[.int .i64 a1, .int .i64 a2, .int .i64 b1, .int .i64 b2, .int .i64 k1, .int .i64 k2, .int .i64 r1, .int .i64 r2] 33) ∧ w4.heap[w.heap.size + 1]? = some (.cells #[.int .i64 0, .int .i64 0, .int .i64 0, .int .i64 0, .int .i64 0] 104) ∧ Below w.heap.size w w4) ∧ w4.heap[K3]? = some (.cells #[.int .i64 Ac, .int .i64 An, .int .i64 Ad] 38)) := by
    have hb5 : Below V3.heap.size V3 w4 := (show Below V3.heap.size V3 _ from by (repeat' (first | (with_reducible exact Below.refl _ _) | (with_reducible assumption) | (with_reducible refine Below.setCell ?_ ?_ _) | (with_reducible refine Below.alloc ?_ ?_ _) | (with_reducible refine below_drewN ?_ _) | (with_reducible refine Below.drew ?_) | (with_reducible exact Nat.le_refl _) | omega | (simp; done) | (simp; omega)))).trans (hb4.mono (by simp))
    have HV3a : Hid (V3.heap[w.heap.size]? = some (.cells #[.int .i64 a1, .int .i64 a2, .int .i64 b1, .int .i64 b2, .int .i64 k1, .int .i64 k2, .int .i64 r1, .int .i64 r2] 33) ∧ V3.heap[w.heap.size + 1]? = some (.cells #[.int .i64 0, .int .i64 0, .int .i64 0, .int .i64 0, .int .i64 0] 104) ∧ Below w.heap.size w V3) := HV3.out.1
    exact ⟨⟨(hb5.block _ (ltOf HV3a.out.1)).trans HV3a.out.1, (hb5.block _ (ltOf HV3a.out.2.1)).trans HV3a.out.2.1, HV3a.out.2.2.trans (hb5.mono HV3a.out.2.2.size)⟩, (hb5.block _ (ltOf HV3.out.2)).trans HV3.out.2⟩
  clear hb4 HFU HV3 hg3
  obtain ⟨p0, p1, p2, p3, p4, p5, p6, p7, pl⟩ := eight_c HW4.out.1.1
  obtain ⟨q0, q1, q2, q3, q4, g0, g1, g2, g3, g4, ql⟩ := five_c HW4.out.1.2.1
  obtain ⟨s0, s1, s2, _, _, _, sl⟩ := three_c HW4.out.2
  go_wp2_with (fail)
  obtain ⟨V5, hV5⟩ : ∃ V, V = w4.alloc (.cells #[.int .i64 Uc, .int .i64 Un, .int .i64 Ud] 38) := ⟨_, rfl⟩
  rw [← hV5]
  obtain ⟨K5, hK5⟩ : ∃ K, K = w4.heap.size := ⟨_, rfl⟩
  have HV5 : Hid ((V5.heap[w.heap.size]? = some (.cells #[.int .i64 a1, .int .i64 a2, .int .i64 b1, .int .i64 b2, .int .i64 k1, .int .i64 k2, .int .i64 r1, .int .i64 r2] 33) ∧ V5.heap[w.heap.size + 1]? = some (.cells #[.int .i64 0, .int .i64 0, .int .i64 0, .int .i64 0, .int .i64 0] 104) ∧ Below w.heap.size w V5) ∧ V5.heap[K3]? = some (.cells #[.int .i64 Ac, .int .i64 An, .int .i64 Ad] 38) ∧ V5.heap[K5]? = some (.cells #[.int .i64 Uc, .int .i64 Un, .int .i64 Ud] 38)) := by
    have hb5 : Below w4.heap.size w4 V5 := by rw [hV5]; (repeat' (first | (with_reducible exact Below.refl _ _) | (with_reducible assumption) | (with_reducible refine Below.setCell ?_ ?_ _) | (with_reducible refine Below.alloc ?_ ?_ _) | (with_reducible refine below_drewN ?_ _) | (with_reducible refine Below.drew ?_) | (with_reducible exact Nat.le_refl _) | omega | (simp; done) | (simp; omega)))
    have HW4a : Hid (w4.heap[w.heap.size]? = some (.cells #[.int .i64 a1, .int .i64 a2, .int .i64 b1, .int .i64 b2, .int .i64 k1, .int .i64 k2, .int .i64 r1, .int .i64 r2] 33) ∧ w4.heap[w.heap.size + 1]? = some (.cells #[.int .i64 0, .int .i64 0, .int .i64 0, .int .i64 0, .int .i64 0] 104) ∧ Below w.heap.size w w4) := HW4.out.1
    exact ⟨⟨(hb5.block _ (ltOf HW4a.out.1)).trans HW4a.out.1, (hb5.block _ (ltOf HW4a.out.2.1)).trans HW4a.out.2.1, HW4a.out.2.2.trans (hb5.mono HW4a.out.2.2.size)⟩, (hb5.block _ (ltOf HW4.out.2)).trans HW4.out.2, by rw [hV5, hK5]; exact heap_alloc_new w4 _⟩
  have hsz5 : V5.heap.size = K5 + 1 := by rw [hV5, hK5]; simp
  have hg5 : (V5.alloc (.cells #[.int .i64 Ac, .int .i64 Uc] 2)).heap[K5 + 1]? = some (.cells #[.int .i64 Ac, .int .i64 Uc] 2) := by
    have := heap_alloc_new V5 (.cells #[.int .i64 Ac, .int .i64 Uc] 2)
    rw [hsz5] at this; exact this
  rw [← hK5]
  clear hV5 hK5 HW4 hsz5 p0 p1 p2 p3 p4 p5 p6 p7 pl q0 q1 q2 q3 q4 g0 g1 g2 g3 g4 ql s0 s1 s2 sl
  refine (HOR.out _ _ hg5).mono ?_
  rintro e w6 ⟨rfl, hw6⟩
  have HW6 : Hid ((w6.heap[w.heap.size]? = some (.cells #[.int .i64 a1, .int .i64 a2, .int .i64 b1, .int .i64 b2, .int .i64 k1, .int .i64 k2, .int .i64 r1, .int .i64 r2] 33) ∧ w6.heap[w.heap.size + 1]? = some (.cells #[.int .i64 0, .int .i64 0, .int .i64 0, .int .i64 0, .int .i64 0] 104) ∧ Below w.heap.size w w6) ∧ w6.heap[K3]? = some (.cells #[.int .i64 Ac, .int .i64 An, .int .i64 Ad] 38) ∧ w6.heap[K5]? = some (.cells #[.int .i64 Uc, .int .i64 Un, .int .i64 Ud] 38)) := by
    have hb5 : Below V5.heap.size V5 w6 := by rw [hw6]; (repeat' (first | (with_reducible exact Below.refl _ _) | (with_reducible assumption) | (with_reducible refine Below.setCell ?_ ?_ _) | (with_reducible refine Below.alloc ?_ ?_ _) | (with_reducible refine below_drewN ?_ _) | (with_reducible refine Below.drew ?_) | (with_reducible exact Nat.le_refl _) | omega | (simp; done) | (simp; omega)))
    have HV5a : Hid (V5.heap[w.heap.size]? = some (.cells #[.int .i64 a1, .int .i64 a2, .int .i64 b1, .int .i64 b2, .int .i64 k1, .int .i64 k2, .int .i64 r1, .int .i64 r2] 33) ∧ V5.heap[w.heap.size + 1]? = some (.cells #[.int .i64 0, .int .i64 0, .int .i64 0, .int .i64 0, .int .i64 0] 104) ∧ Below w.heap.size w V5) := HV5.out.1
    exact ⟨⟨(hb5.block _ (ltOf HV5a.out.1)).trans HV5a.out.1, (hb5.block _ (ltOf HV5a.out.2.1)).trans HV5a.out.2.1, HV5a.out.2.2.trans (hb5.mono HV5a.out.2.2.size)⟩, (hb5.block _ (ltOf HV5.out.2.1)).trans HV5.out.2.1, (hb5.block _ (ltOf HV5.out.2.2)).trans HV5.out.2.2⟩
  clear hw6 HV5 hg5 HOR
  obtain ⟨p0, p1, p2, p3, p4, p5, p6, p7, pl⟩ := eight_c HW6.out.1.1
  obtain ⟨q0, q1, q2, q3, q4, g0, g1, g2, g3, g4, ql⟩ := five_c HW6.out.1.2.1
  obtain ⟨s0, s1, s2, _, _, _, sl⟩ := three_c HW6.out.2.1
  obtain ⟨t0, t1, t2, _, _, _, tl⟩ := three_c HW6.out.2.2
  have HB : Hid (Below w.heap.size w w6) := HW6.out.1.2.2
  clear HW6
  by_cases hG0 : G = 0
  case neg =>
    have HE : Hid (P = ⟨G, fr0, fr0⟩) := HPG.out.1 hG0
    have hA9 : (G != 0) = true := by simpa using hG0
    clear hG0 HPG
    go_wp2
    try simp only [Exit.inBlock, Exit.then]
    refine bodyPost_ret (by simp [results, Try.results66, go_sem, q0, q1, q2, q3, q4, ql]; try rfl) rfl ⟨by rw [HE.out] <;> rfl, ?_⟩
    have hb := HB.out
    (repeat' (first | (with_reducible exact Below.refl _ _) | (with_reducible assumption) | (with_reducible refine Below.setCell ?_ ?_ _) | (with_reducible refine Below.alloc ?_ ?_ _) | (with_reducible refine below_drewN ?_ _) | (with_reducible refine Below.drew ?_) | (with_reducible exact Nat.le_refl _) | omega | (simp; done) | (simp; omega)))

  have HE : Hid (P = ⟨0, ⟨An, Ad⟩, ⟨Un, Ud⟩⟩) := HPG.out.2 hG0
  have hA9 : (G != 0) = false := by rw [hG0]; rfl
  clear hG0 HPG
  go_wp2
  try simp only [Exit.inBlock, Exit.then]
  refine bodyPost_ret (by simp [results, Try.results66, go_sem, q0, q1, q2, q3, q4, ql]; try rfl) rfl ⟨by rw [HE.out] <;> rfl, ?_⟩
  have hb := HB.out
  (repeat' (first | (with_reducible exact Below.refl _ _) | (with_reducible assumption) | (with_reducible refine Below.setCell ?_ ?_ _) | (with_reducible refine Below.alloc ?_ ?_ _) | (with_reducible refine below_drewN ?_ _) | (with_reducible refine Below.drew ?_) | (with_reducible exact Nat.le_refl _) | omega | (simp; done) | (simp; omega)))

end Go.Proofs.Ytdidmjgilnhncab
