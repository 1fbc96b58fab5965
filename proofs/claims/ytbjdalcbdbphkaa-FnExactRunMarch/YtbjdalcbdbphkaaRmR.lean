/- Proved here: RunMarch of the model. -/
import Derived.Test.YtbjdalcbdbphkaaRmQ
import Derived.Test.YtbjdalcbdbphkaaRmT
import Derived.Test.YtbjdalcbdbphkaaRmO
import Derived.Test.YtbjdalcbdbphkaaMhS
import Derived.Test.YtbjdalcbdbphkaaIns
namespace Go.Proofs.Ytbjdalcbdbphkaa
open Go.RowKit
set_option linter.unusedVariables false
set_option linter.unusedSimpArgs false

set_option maxRecDepth 10000 in
set_option maxHeartbeats 12800000 in
theorem spec_rm {W : World} {va : Value} {s : List Elm} (n k c b v : Int) (hs : s.length ≤ 1048576 ∧ ∀ j (h : j < s.length), smE 1048576 s[j]) (h : REl W va s) :
    Calls Try.prog 9 #[va, .int .i64 n, .agg #[.int .i64 k, .int .i64 c, .int .i64 b, .int .i64 v]] W fun e w' => e = .returned (.agg #[.int .i64 (rmC s n k c b v), .bool (mrF (rmR s n k c b v)), .int .i64 (mrS (rmR s n k c b v)), .int .i64 (mrC (rmR s n k c b v))]) ∧ Below W.heap.size W w' := by
  obtain ⟨Z, hZ⟩ : ∃ Z, Z = (W.alloc (.cells #[.int .i64 k, .int .i64 c, .int .i64 b, .int .i64 v] 31)).alloc (.cells #[.int .i64 0, .bool false, .int .i64 0, .int .i64 0] 27) := ⟨_, rfl⟩
  obtain ⟨K, hK⟩ : ∃ K, K = W.heap.size + 1 := ⟨_, rfl⟩
  have HZ : Hid (Below W.heap.size W Z ∧ Z.heap[K]? = some (.cells #[.int .i64 0, .bool false, .int .i64 0, .int .i64 0] 27) ∧ Z.heap[W.heap.size]? = some (.cells #[.int .i64 k, .int .i64 c, .int .i64 b, .int .i64 v] 31) ∧ W.heap.size < K) := by
    rw [hZ, hK]
    refine ⟨by (repeat' (first | (with_reducible exact Below.refl _ _) | (with_reducible assumption) | (with_reducible refine Below.setCell ?_ ?_ _) | (with_reducible refine Below.alloc ?_ ?_ _) | (with_reducible refine below_drewN ?_ _) | (with_reducible refine Below.drew ?_) | (with_reducible exact Nat.le_refl _) | omega | (simp; done) | (simp; omega))), ?_, ?_, by omega⟩
    · have h9 := heap_alloc_new (W.alloc (.cells #[.int .i64 k, .int .i64 c, .int .i64 b, .int .i64 v] 31)) (.cells #[.int .i64 0, .bool false, .int .i64 0, .int .i64 0] 27)
      simpa using h9
    · rw [heap_alloc_old _ _ (by simp)]; exact heap_alloc_new _ _
  have H : Hid (REl W va s) := h
  obtain ⟨C, hC⟩ : ∃ C, C = rmC s n k c b v := ⟨_, rfl⟩
  obtain ⟨R, hR⟩ : ∃ R, R = rmR s n k c b v := ⟨_, rfl⟩
  obtain ⟨D, hD⟩ : ∃ D, D = mfF s := ⟨_, rfl⟩
  have HCR : Hid ((C ≠ 0 → R = none) ∧ C = (if D ≠ 0 then D else if ¬ (1 ≤ n ∧ n ≤ 12) then 3 else if mayB k c b v n = true then 0 else 1) ∧ (C = 0 → R = rnM ⟨k, c.toNat, b, v⟩ (m0M ⟨k, c.toNat, b, v⟩) (sM n.toNat s) 0) ∧ (D = 0 → mfF s = 0)) :=
    ⟨fun e => by rw [hR]; exact rmR_no (by rw [← hC]; exact e), by rw [hC, hD]; rfl, fun e => by rw [hR, rmR, if_pos (by rw [← hC]; exact e)], fun e => hD.symm.trans e⟩
  have HF : Hid (Calls Try.prog 36 #[va] Z fun e w' => e = .returned (.int .i64 D) ∧ Below Z.heap.size Z w') := by rw [hD]; exact spec_mf hs (h.below HZ.out.1)
  obtain ⟨q, hq⟩ : ∃ q, q = decide (1 ≤ n ∧ n ≤ 12) := ⟨_, rfl⟩
  have HI : Hid (∀ X, Calls Try.prog 37 #[.int .i64 n, .int .i64 1, .int .i64 12] X fun e w' => e = .returned (.bool q) ∧ w' = X) := fun X => spec_ins n 1 12 q hq X
  have HQ : Hid (q = decide (1 ≤ n ∧ n ≤ 12)) := hq
  clear hq
  rw [← hC, ← hR]
  clear hC hR hD h hs
  go_enter Try.func9, Try.ntmps9
  go_wp2_with (fail)
  rw [← hZ, ← hK]
  refine HF.out.mono ?_
  rintro e w1 ⟨rfl, hb1⟩
  have hKZ := ltOfQ HZ.out.2.1
  have HW : Hid (Below W.heap.size W w1 ∧ w1.heap[K]? = some (.cells #[.int .i64 0, .bool false, .int .i64 0, .int .i64 0] 27) ∧ w1.heap[W.heap.size]? = some (.cells #[.int .i64 k, .int .i64 c, .int .i64 b, .int .i64 v] 31) ∧ W.heap.size < K) := ⟨HZ.out.1.trans (hb1.mono HZ.out.1.size), by rw [hb1.block _ hKZ]; exact HZ.out.2.1, by rw [hb1.block _ (ltOfQ HZ.out.2.2.1)]; exact HZ.out.2.2.1, HZ.out.2.2.2⟩
  have hWK : W.heap.size ≤ K := Nat.le_of_lt HZ.out.2.2.2
  clear hb1 HF HZ hZ hKZ hK
  by_cases hX : D = 0
  case neg =>
    have h1 : (D != 0) = true := by simpa using hX
    have HN : Hid (C = D ∧ R = none) := by
      have h9 : C = D := by rw [HCR.out.2.1, if_pos hX]
      exact ⟨h9, HCR.out.1 (by rw [h9]; exact hX)⟩
    have z0 := cellOfQ HW.out.2.1 0 rfl
    have z1 := cellOfQ HW.out.2.1 1 rfl
    have z2 := cellOfQ HW.out.2.1 2 rfl
    have z3 := cellOfQ HW.out.2.1 3 rfl
    have zl := ltOfQ HW.out.2.1
    have f0 := frozOfQ HW.out.2.1 0
    have f1 := frozOfQ HW.out.2.1 1
    have f2 := frozOfQ HW.out.2.1 2
    have f3 := frozOfQ HW.out.2.1 3
    have HB : Hid (Below W.heap.size W w1) := HW.out.1
    clear HCR
    go_wp2
    try simp only [Exit.inBlock, Exit.then]
    refine bodyPost_ret (by simp [results, Try.results9, go_sem, z0, z1, z2, z3, zl, f0, f1, f2, f3]; try rfl) rfl ⟨by rw [HN.out.1, HN.out.2]; rfl, ?_⟩
    have hb := HB.out
    (repeat' (first | (with_reducible exact Below.refl _ _) | (with_reducible assumption) | (with_reducible refine Below.setCell ?_ ?_ _) | (with_reducible refine Below.alloc ?_ ?_ _) | (with_reducible refine below_drewN ?_ _) | (with_reducible refine Below.drew ?_) | (with_reducible exact Nat.le_refl _) | omega | (simp; done) | (simp; omega)))
  have HD0 : Hid (D = 0) := hX
  subst hX
  go_wp2_with (fail)
  refine (HI.out _).mono ?_
  rintro e w2 ⟨rfl, hw⟩
  subst w2
  cases q
  case false =>
    have hnn : ¬ (1 ≤ n ∧ n ≤ 12) := of_decide_eq_false HQ.out.symm
    have HN : Hid (C = 3 ∧ R = none) := by
      have h9 : C = 3 := by rw [HCR.out.2.1, if_neg (fun e => e rfl), if_pos hnn]
      exact ⟨h9, HCR.out.1 (by rw [h9]; decide)⟩
    have z0 := cellOfQ HW.out.2.1 0 rfl
    have z1 := cellOfQ HW.out.2.1 1 rfl
    have z2 := cellOfQ HW.out.2.1 2 rfl
    have z3 := cellOfQ HW.out.2.1 3 rfl
    have zl := ltOfQ HW.out.2.1
    have f0 := frozOfQ HW.out.2.1 0
    have f1 := frozOfQ HW.out.2.1 1
    have f2 := frozOfQ HW.out.2.1 2
    have f3 := frozOfQ HW.out.2.1 3
    have HB : Hid (Below W.heap.size W w1) := HW.out.1
    clear HCR
    go_wp2
    try simp only [Exit.inBlock, Exit.then]
    refine bodyPost_ret (by simp [results, Try.results9, go_sem, z0, z1, z2, z3, zl, f0, f1, f2, f3]; try rfl) rfl ⟨by rw [HN.out.1, HN.out.2]; rfl, ?_⟩
    have hb := HB.out
    (repeat' (first | (with_reducible exact Below.refl _ _) | (with_reducible assumption) | (with_reducible refine Below.setCell ?_ ?_ _) | (with_reducible refine Below.alloc ?_ ?_ _) | (with_reducible refine below_drewN ?_ _) | (with_reducible refine Below.drew ?_) | (with_reducible exact Nat.le_refl _) | omega | (simp; done) | (simp; omega)))
  have hnn : 1 ≤ n ∧ n ≤ 12 := of_decide_eq_true HQ.out.symm
  have HE2 : Hid ((0 : Int) = 0 ∧ (1 ≤ n ∧ n ≤ 12) ∧ C = if mayB k c b v n = true then 0 else 1) := ⟨rfl, hnn, by rw [HCR.out.2.1, if_neg (fun e => e rfl), if_neg (fun e => e hnn)]⟩
  clear HQ
  obtain ⟨p, hp⟩ : ∃ p, p = mayB k c b v n := ⟨_, rfl⟩
  have HMY : Hid (∀ X, Calls Try.prog 38 #[.agg #[.int .i64 k, .int .i64 c, .int .i64 b, .int .i64 v], .int .i64 n] X fun e w' => e = .returned (.bool p) ∧ Below X.heap.size X w') := fun X => by rw [hp]; exact spec_may k c b v n HE2.out.2.1 X
  have HP : Hid (p = mayB k c b v n) := hp
  have e0 := cellOfQ HW.out.2.2.1 0 rfl
  have e1 := cellOfQ HW.out.2.2.1 1 rfl
  have e2 := cellOfQ HW.out.2.2.1 2 rfl
  have e3 := cellOfQ HW.out.2.2.1 3 rfl
  have el := ltOfQ HW.out.2.2.1
  clear hp
  go_wp2_with (fail)
  refine (HMY.out _).mono ?_
  rintro e w3 ⟨rfl, hb3⟩
  have HW3 : Hid (Below W.heap.size W w3 ∧ w3.heap[K]? = some (.cells #[.int .i64 0, .bool false, .int .i64 0, .int .i64 0] 27) ∧ w3.heap[W.heap.size]? = some (.cells #[.int .i64 k, .int .i64 c, .int .i64 b, .int .i64 v] 31)) := ⟨HW.out.1.trans (hb3.mono HW.out.1.size), by rw [hb3.block _ (ltOfQ HW.out.2.1)]; exact HW.out.2.1, by rw [hb3.block _ (ltOfQ HW.out.2.2.1)]; exact HW.out.2.2.1⟩
  clear hb3 HMY HW e0 e1 e2 e3 el
  cases p
  case false =>
    have HN : Hid (C = 1 ∧ R = none) := by
      have h9 : C = 1 := by rw [HE2.out.2.2, ← HP.out, if_neg (by decide)]
      exact ⟨h9, HCR.out.1 (by rw [h9]; decide)⟩
    have z0 := cellOfQ HW3.out.2.1 0 rfl
    have z1 := cellOfQ HW3.out.2.1 1 rfl
    have z2 := cellOfQ HW3.out.2.1 2 rfl
    have z3 := cellOfQ HW3.out.2.1 3 rfl
    have zl := ltOfQ HW3.out.2.1
    have f0 := frozOfQ HW3.out.2.1 0
    have f1 := frozOfQ HW3.out.2.1 1
    have f2 := frozOfQ HW3.out.2.1 2
    have f3 := frozOfQ HW3.out.2.1 3
    have HB : Hid (Below W.heap.size W w3) := HW3.out.1
    clear HCR HE2
    go_wp2
    try simp only [Exit.inBlock, Exit.then]
    refine bodyPost_ret (by simp [results, Try.results9, go_sem, z0, z1, z2, z3, zl, f0, f1, f2, f3]; try rfl) rfl ⟨by rw [HN.out.1, HN.out.2]; rfl, ?_⟩
    have hb := HB.out
    (repeat' (first | (with_reducible exact Below.refl _ _) | (with_reducible assumption) | (with_reducible refine Below.setCell ?_ ?_ _) | (with_reducible refine Below.alloc ?_ ?_ _) | (with_reducible refine below_drewN ?_ _) | (with_reducible refine Below.drew ?_) | (with_reducible exact Nat.le_refl _) | omega | (simp; done) | (simp; omega)))
  have hC0 : C = 0 := by rw [HE2.out.2.2, ← HP.out, if_pos rfl]
  have hOK := mayB_ok HP.out.symm
  have HRR : Hid (R = rnM ⟨k, c.toNat, b, v⟩ (m0M ⟨k, c.toNat, b, v⟩) (sM n.toNat s) 0) := HCR.out.2.2.1 hC0
  have HM0 : Hid (mfF s = 0) := HCR.out.2.2.2 HE2.out.1
  have hn12 := HE2.out.2.1
  have hcn : ((c.toNat : Nat) : Int) = c := by omega
  have hnnat : ((n.toNat : Nat) : Int) = n := by omega
  have HMA0 := spec_mar (W := w3) (va := va) (s := s) (n := n.toNat) (f := ⟨k, c.toNat, b, v⟩) HM0.out (H.out.below HW3.out.1) (by omega) (by show c.toNat < _; omega) hOK.2 R HRR.out
  rw [hnnat] at HMA0
  simp only [hcn] at HMA0
  have HMA : Hid (Calls Try.prog 39 #[va, .int .i64 n, .agg #[.int .i64 k, .int .i64 c, .int .i64 b, .int .i64 v]] w3 fun e w' => e = .returned (.agg #[.int .i64 0, .bool (mrF R), .int .i64 (mrS R), .int .i64 (mrC R)]) ∧ Below w3.heap.size w3 w') := HMA0
  have HC0 : Hid (C = 0) := hC0
  have e0 := cellOfQ HW3.out.2.2 0 rfl
  have e1 := cellOfQ HW3.out.2.2 1 rfl
  have e2 := cellOfQ HW3.out.2.2 2 rfl
  have e3 := cellOfQ HW3.out.2.2 3 rfl
  have el := ltOfQ HW3.out.2.2
  clear HMA0 HCR HE2 HP hC0 hOK hn12 hcn hnnat HRR HM0
  go_wp2_with (fail)
  refine HMA.out.mono ?_
  rintro e w4 ⟨rfl, hb4⟩
  have HW4 : Hid (Below W.heap.size W w4 ∧ w4.heap[K]? = some (.cells #[.int .i64 0, .bool false, .int .i64 0, .int .i64 0] 27)) := ⟨HW3.out.1.trans (hb4.mono HW3.out.1.size), by rw [hb4.block _ (ltOfQ HW3.out.2.1)]; exact HW3.out.2.1⟩
  have z0 := cellOfQ HW4.out.2 0 rfl
  have z1 := cellOfQ HW4.out.2 1 rfl
  have z2 := cellOfQ HW4.out.2 2 rfl
  have z3 := cellOfQ HW4.out.2 3 rfl
  have zl := ltOfQ HW4.out.2
  have f0 := frozOfQ HW4.out.2 0
  have f1 := frozOfQ HW4.out.2 1
  have f2 := frozOfQ HW4.out.2 2
  have f3 := frozOfQ HW4.out.2 3
  have HB : Hid (Below W.heap.size W w4) := HW4.out.1
  clear hb4 HMA HW3 HW4 e0 e1 e2 e3 el
  go_wp2
  try simp only [Exit.inBlock, Exit.then]
  refine bodyPost_ret (by simp [results, Try.results9, go_sem, z0, z1, z2, z3, zl, f0, f1, f2, f3]; try rfl) rfl ⟨by rw [HC0.out], ?_⟩
  have hb := HB.out
  (repeat' (first | (with_reducible exact Below.refl _ _) | (with_reducible assumption) | (with_reducible refine Below.setCell ?_ ?_ _) | (with_reducible refine Below.alloc ?_ ?_ _) | (with_reducible refine below_drewN ?_ _) | (with_reducible refine Below.drew ?_) | (with_reducible exact Nat.le_refl _) | omega | (simp; done) | (simp; omega)))

end Go.Proofs.Ytbjdalcbdbphkaa
