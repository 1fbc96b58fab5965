/- Proved here: how the laws' package compares and marks an answer with a code, a fleet and a list of numbers. -/
import Derived.Test.YtgbbigokbbllgaaOwF
import Derived.Test.YtgbbigokbbllgaaFzB
import Derived.Test.YtgbbigokbbllgaaMkFz
namespace Go.Proofs.Ytgbbigokbbllgaa
open Go.ChangeShapes Go.WideShapes Go.ChangeAt Go.RowKit Go.Joins Go.Deep
set_option linter.unusedVariables false
set_option linter.unusedSimpArgs false

set_option maxHeartbeats 3200000 in
theorem eqFleetResult_to (C Z : Int) {ls es ms : List Int} {v1 v2 v3 u1 u2 u3 : Value} {w : World} (hn : ls.length ≤ 1048576 ∧ es.length ≤ 1048576 ∧ ms.length ≤ 1048576) (h1 : RdF3 w v1 v2 v3 ls es ms) (h2 : RdF3 w u1 u2 u3 ls es ms) :
    Calls Try.prog 33 #[.agg #[.int .i64 C, .int .i64 Z, v1, v2, v3], .agg #[.int .i64 C, .int .i64 Z, u1, u2, u3]] w fun e w' => e = .returned (.bool true) ∧ Below w.heap.size w w' := by
  obtain ⟨a, c, e1⟩ := h1.l.1.form
  obtain ⟨b, d, e2⟩ := h1.l.2.form
  obtain ⟨f, h, e3⟩ := h1.m.form
  obtain ⟨a2, c2, e4⟩ := h2.l.1.form
  obtain ⟨b2, d2, e5⟩ := h2.l.2.form
  obtain ⟨f2, h2', e6⟩ := h2.m.form
  obtain ⟨n, hnn⟩ : ∃ m, m = ls.length := ⟨_, rfl⟩
  obtain ⟨m, hmm⟩ : ∃ m, m = es.length := ⟨_, rfl⟩
  obtain ⟨k, hkk⟩ : ∃ m, m = ms.length := ⟨_, rfl⟩
  rw [← hnn] at e1 e4
  rw [← hmm] at e2 e5
  rw [← hkk] at e3 e6
  subst e1 e2 e3 e4 e5 e6
  have H : Hid (RdF3 w (.slice a n c) (.slice b m d) (.slice f k h) ls es ms ∧ RdF3 w (.slice a2 n c2) (.slice b2 m d2) (.slice f2 k h2') ls es ms ∧ (ls.length ≤ 1048576 ∧ es.length ≤ 1048576) ∧ ms.length ≤ 1099511627776) := ⟨h1, h2, ⟨hn.1, hn.2.1⟩, by omega⟩
  clear h1 h2 hn hnn hmm hkk
  go_enter Try.func33, Try.ntmps33
  go_wp2_with (fail)
  refine (eqFleet_same Z H.out.2.2.1 (H.out.1.l.below (by (repeat' (first | (with_reducible exact Below.refl _ _) | (with_reducible assumption) | (with_reducible refine Below.setCell ?_ ?_ _) | (with_reducible refine Below.alloc ?_ ?_ _) | (with_reducible refine below_drewN ?_ _) | (with_reducible refine Below.drew ?_) | (with_reducible exact Nat.le_refl _) | omega | (simp; done) | (simp; omega))))) (H.out.2.1.l.below (by (repeat' (first | (with_reducible exact Below.refl _ _) | (with_reducible assumption) | (with_reducible refine Below.setCell ?_ ?_ _) | (with_reducible refine Below.alloc ?_ ?_ _) | (with_reducible refine below_drewN ?_ _) | (with_reducible refine Below.drew ?_) | (with_reducible exact Nat.le_refl _) | omega | (simp; done) | (simp; omega)))))).mono ?_
  rintro e w1 ⟨rfl, hb1⟩
  have g0 := (hb1.block w.heap.size (by simp; omega)).trans ((Below.heap_alloc _ _ _ (by simp)).trans (heap_alloc_new w _))
  have g1 := (hb1.block (w.heap.size + 1) (by simp)).trans (tw_at1 w _ _)
  obtain ⟨p0, p1, p2, p3, p4, pf, pl⟩ := five_F g0
  obtain ⟨q0, q1, q2, q3, q4, qf, ql⟩ := five_F g1
  have HB1 : Hid (Below w.heap.size w w1) := (show Below w.heap.size w _ from by (repeat' (first | (with_reducible exact Below.refl _ _) | (with_reducible assumption) | (with_reducible refine Below.setCell ?_ ?_ _) | (with_reducible refine Below.alloc ?_ ?_ _) | (with_reducible refine below_drewN ?_ _) | (with_reducible refine Below.drew ?_) | (with_reducible exact Nat.le_refl _) | omega | (simp; done) | (simp; omega)))).trans (hb1.mono (by simp; omega))
  clear hb1 g0 g1 pf qf
  go_wp2_with (fail)
  refine (eqInt64S_same H.out.2.2.2 (H.out.1.m.below HB1.out) (H.out.2.1.m.below HB1.out)).mono ?_
  rintro e w2 ⟨rfl, hb2⟩
  have HB2 : Hid (Below w.heap.size w w2) := HB1.out.trans (hb2.mono HB1.out.size)
  clear hb2
  go_wp2
  go_returns
  exact ⟨rfl, HB2.out⟩

set_option maxHeartbeats 3200000 in
theorem markFleetResult_to (C ZN : Int) {w : World} {B Z : Nat} {v1 v2 v3 : Value} {ls es ms : List Int} (hn : ls.length ≤ 1048576 ∧ es.length ≤ 1048576 ∧ ms.length ≤ 1048576) (h : OwF w B v1 v2 v3 ls es ms) (hZ : LtF3 v1 v2 v3 Z) :
    Calls Try.prog 34 #[.agg #[.int .i64 C, .int .i64 ZN, v1, v2, v3], .int .i64 1] w fun e w' => e = .returned (.int .i64 (1 + (ls.length : Int) + (es.length : Int) + (ms.length : Int))) ∧ MkF3 w' B v1 v2 v3 ls.length es.length ms.length ∧ Chg B Z w w' := by
  obtain ⟨a, c, e1⟩ := h.1.form1
  obtain ⟨b, d, e2⟩ := h.1.form2
  obtain ⟨f, hh, e3⟩ := h.2.1.form
  obtain ⟨n, hnn⟩ : ∃ m, m = ls.length := ⟨_, rfl⟩
  obtain ⟨m, hmm⟩ : ∃ m, m = es.length := ⟨_, rfl⟩
  obtain ⟨k, hkk⟩ : ∃ m, m = ms.length := ⟨_, rfl⟩
  rw [← hnn] at e1
  rw [← hmm] at e2
  rw [← hkk] at e3
  subst e1 e2 e3
  obtain ⟨T1, hT1⟩ : ∃ T, T = 1 + (n : Int) + (m : Int) := ⟨_, rfl⟩
  obtain ⟨T2, hT2⟩ : ∃ T, T = T1 + (k : Int) := ⟨_, rfl⟩
  have hb1 : 0 ≤ T1 ∧ T1 ≤ 1000000000000 := by omega
  obtain ⟨U, hU⟩ : ∃ U, U = w.alloc (.cells #[.int .i64 C, .int .i64 ZN, .slice a n c, .slice b m d, .slice f k hh] 56) := ⟨_, rfl⟩
  have hbU : Below w.heap.size w U := by rw [hU]; (repeat' (first | (with_reducible exact Below.refl _ _) | (with_reducible assumption) | (with_reducible refine Below.setCell ?_ ?_ _) | (with_reducible refine Below.alloc ?_ ?_ _) | (with_reducible refine below_drewN ?_ _) | (with_reducible refine Below.drew ?_) | (with_reducible exact Nat.le_refl _) | omega | (simp; done) | (simp; omega)))
  have kU : U.heap[w.heap.size]? = some (.cells #[.int .i64 C, .int .i64 ZN, .slice a n c, .slice b m d, .slice f k hh] 56) := by rw [hU]; exact heap_alloc_new w _
  have hwU : OwF U B (.slice a n c) (.slice b m d) (.slice f k hh) ls es ms := h.keep fun q hq => hbU.block q (h.blk hq).2
  have HM1 : Hid (Calls Try.prog 28 #[.agg #[.int .i64 ZN, .slice a n c, .slice b m d], .int .i64 1] U fun e w' => e = .returned (.int .i64 T1) ∧ (w'.ownsRow B 2 1 (.slice a n c) n (mkV 1 n) ∧ w'.ownsRow B 2 1 (.slice b m d) m (mkV (1 + (n : Int)) m)) ∧ Chg B Z U w' ∧ (∀ q, q < U.heap.size → ¬ BkL (.slice a n c) (.slice b m d) q → w'.heap[q]? = U.heap[q]?)) := by
    rw [hT1, hnn, hmm]
    rw [hnn, hmm] at hwU
    rw [hnn, hmm] at hZ
    exact markFleet_to ZN 1 ⟨hn.1, hn.2.1⟩ (by omega) (by omega) hwU.1 (fun q hq => hZ q (Or.inl hq))
  have HM2 : Hid (∀ W : World, W.ownsRow B 2 1 (.slice f k hh) k (ms.map (Value.int .i64)) → Calls Try.prog 51 #[.slice f k hh, .int .i64 T1] W fun e w' => e = .returned (.int .i64 T2) ∧ w'.ownsRow B 2 1 (.slice f k hh) k (mkV T1 k) ∧ (w' = W ∨ ∃ g, (Value.slice f k hh).ownBlock = some g ∧ Only g W w')) := fun W hW => by
    rw [hT2]; exact markI_on T1 (by omega) hb1.1 hb1.2 hW
  have H : Hid (OwF w B (.slice a n c) (.slice b m d) (.slice f k hh) ls es ms ∧ LtF3 (.slice a n c) (.slice b m d) (.slice f k hh) Z ∧ T1 = 1 + (n : Int) + (m : Int) ∧ T2 = T1 + (k : Int) ∧ k = ms.length ∧ Below w.heap.size w U ∧ OwF U B (.slice a n c) (.slice b m d) (.slice f k hh) ls es ms) := ⟨h, hZ, hT1, hT2, hkk, hbU, hwU⟩
  rw [← hnn, ← hmm, ← hkk, ← hT1, ← hT2]
  have HK : Hid (U.heap[w.heap.size]? = some (.cells #[.int .i64 C, .int .i64 ZN, .slice a n c, .slice b m d, .slice f k hh] 56)) := kU
  clear h hZ hn hnn hmm hkk hT1 hT2 hbU kU hwU
  go_enter Try.func34, Try.ntmps34
  go_wp2_with (fail)
  rw [← hU]
  clear hU
  refine HM1.out.mono ?_
  rintro e w1 ⟨rfl, hm1, hch, hoth⟩
  have k1 : w1.heap[w.heap.size]? = some (.cells #[.int .i64 C, .int .i64 ZN, .slice a n c, .slice b m d, .slice f k hh] 56) := (hoth _ (ltOf HK.out) fun e => by have := (H.out.1.1.blk e).2; omega).trans HK.out
  have hi1 : w1.ownsRow B 2 1 (.slice f k hh) k (ms.map (Value.int .i64)) := by
    have h1 := (H.out.2.2.2.2.2.2.2.1.kept (w' := w1) fun q hq => hoth q (IS.lt H.out.2.2.2.2.2.2.2.1 q hq).2 (H.out.2.2.2.2.2.2.2.2 q hq))
    unfold IS at h1
    rw [← H.out.2.2.2.2.1] at h1
    exact h1
  have HG : Hid (w1.ownsRow B 2 1 (.slice f k hh) k (ms.map (Value.int .i64)) ∧ (w1.ownsRow B 2 1 (.slice a n c) n (mkV 1 n) ∧ w1.ownsRow B 2 1 (.slice b m d) m (mkV (1 + (n : Int)) m)) ∧ Chg B Z w w1) := ⟨hi1, hm1, (Chg.of_below H.out.2.2.2.2.2.1).trans hch⟩
  obtain ⟨p0, p1, p2, p3, p4, pf, pl⟩ := five_F k1
  clear hi1 hm1 hch hoth k1 pf HM1 HK
  go_wp2_with (fail)
  refine (HM2.out _ HG.out.1).mono ?_
  rintro e w2 ⟨rfl, hm2, hon⟩
  have HC : Hid (MkF3 w2 B (.slice a n c) (.slice b m d) (.slice f k hh) n m k ∧ Chg B Z w w2) := by
    have hoth : ∀ q, (Value.slice f k hh).ownBlock ≠ some q → w2.heap[q]? = w1.heap[q]? := by
      intro q hq
      rcases hon with rfl | ⟨g, hg, h2⟩
      · rfl
      · exact h2.block q (fun e => hq (by rw [hg, e]))
    refine ⟨⟨⟨ownsRow_keep HG.out.2.1.1 fun q hq => hoth q fun e => H.out.1.2.2 q e (Or.inl hq), ownsRow_keep HG.out.2.1.2 fun q hq => hoth q fun e => H.out.1.2.2 q e (Or.inr hq)⟩, by rw [← H.out.2.2.1]; exact hm2⟩, HG.out.2.2.trans ?_⟩
    rcases hon with rfl | ⟨g, hg, h2⟩
    · exact Chg.refl _ _ _
    · exact Chg.only h2 (H.out.1.blk (Or.inr hg)).1 (H.out.2.1 g (Or.inr hg))
  clear hm2 hon HG HM2
  go_wp2
  go_returns
  exact ⟨rfl, HC.out.1, HC.out.2⟩

set_option maxHeartbeats 3200000 in
theorem heldFleet_to (ZN : Int) {w : World} {B n m : Nat} {v1 v2 : Value} (hn : n ≤ 1048576 ∧ m ≤ 1048576) (h : w.ownsRow B 2 1 v1 n (mkV 1 n) ∧ w.ownsRow B 2 1 v2 m (mkV (1 + (n : Int)) m)) :
    Calls Try.prog 56 #[.agg #[.int .i64 ZN, v1, v2], .int .i64 1] w fun e w' => e = .returned (.int .i64 (1 + (n : Int) + (m : Int))) ∧ Below w.heap.size w w' := by
  obtain ⟨a, c, e1⟩ := own_formL h.1
  obtain ⟨b, d, e2⟩ := own_formL h.2
  subst e1 e2
  obtain ⟨T1, hT1⟩ : ∃ T, T = 1 + (n : Int) := ⟨_, rfl⟩
  obtain ⟨T2, hT2⟩ : ∃ T, T = T1 + (m : Int) := ⟨_, rfl⟩
  rw [← hT1, ← hT2]
  have hb1 : 0 ≤ T1 ∧ T1 ≤ 1000000000000 := by omega
  have hb2 : ¬ T1 < 0 := by omega
  have hb3 : ¬ T2 < 0 := by omega
  have HS : Hid (∀ W : World, Below w.heap.size w W → Calls Try.prog 52 #[.slice a n c, .int .i64 1] W fun e w' => e = .returned (.int .i64 T1) ∧ w' = W) := fun W hW => by
    rw [hT1]; exact heldInt64S_to 1 hn.1 (by omega) (by omega) (ownsRow_keep h.1 fun q hq => hW.block q (World.ownsRow.lt h.1 q hq).2)
  have HI : Hid (∀ W : World, Below w.heap.size w W → Calls Try.prog 52 #[.slice b m d, .int .i64 T1] W fun e w' => e = .returned (.int .i64 T2) ∧ w' = W) := fun W hW => by
    rw [hT2]; exact heldInt64S_to T1 hn.2 hb1.1 hb1.2 (by rw [hT1]; exact ownsRow_keep h.2 fun q hq => hW.block q (World.ownsRow.lt h.2 q hq).2)
  clear h hn hT1 hT2
  obtain ⟨U, hU⟩ : ∃ U, U = w.alloc (.cells #[.int .i64 ZN, .slice a n c, .slice b m d] 45) := ⟨_, rfl⟩
  have HU : Hid (Below w.heap.size w U ∧ U.heap[w.heap.size]? = some (.cells #[.int .i64 ZN, .slice a n c, .slice b m d] 45)) := ⟨by rw [hU]; (repeat' (first | (with_reducible exact Below.refl _ _) | (with_reducible assumption) | (with_reducible refine Below.setCell ?_ ?_ _) | (with_reducible refine Below.alloc ?_ ?_ _) | (with_reducible refine below_drewN ?_ _) | (with_reducible refine Below.drew ?_) | (with_reducible exact Nat.le_refl _) | omega | (simp; done) | (simp; omega))), by rw [hU]; exact heap_alloc_new w _⟩
  go_enter Try.func56, Try.ntmps56
  go_wp2_with (fail)
  rw [← hU]
  clear hU
  refine (HS.out _ HU.out.1).mono ?_
  rintro e w1 ⟨rfl, hw⟩
  subst w1
  obtain ⟨p0, p1, p2, pf, pl⟩ := tw_three HU.out.2
  have H1 : Hid (Below w.heap.size w U) := HU.out.1
  clear HU HS pf
  go_wp2_with (fail)
  refine (HI.out _ H1.out).mono ?_
  rintro e w2 ⟨rfl, hw⟩
  subst w2
  go_wp2
  go_returns
  exact ⟨rfl, H1.out⟩

set_option maxHeartbeats 3200000 in
theorem heldFleetResult_to (C ZN : Int) {w : World} {B n m k : Nat} {v1 v2 v3 : Value} (hn : n ≤ 1048576 ∧ m ≤ 1048576 ∧ k ≤ 1048576) (h : MkF3 w B v1 v2 v3 n m k) :
    Calls Try.prog 35 #[.agg #[.int .i64 C, .int .i64 ZN, v1, v2, v3], .int .i64 1] w fun e w' => e = .returned (.int .i64 (1 + (n : Int) + (m : Int) + (k : Int))) ∧ Below w.heap.size w w' := by
  obtain ⟨a, c, e1⟩ := own_formL h.1.1
  obtain ⟨b, d, e2⟩ := own_formL h.1.2
  obtain ⟨f, hh, e3⟩ := own_formL h.2
  subst e1 e2 e3
  obtain ⟨T1, hT1⟩ : ∃ T, T = 1 + (n : Int) + (m : Int) := ⟨_, rfl⟩
  obtain ⟨T2, hT2⟩ : ∃ T, T = T1 + (k : Int) := ⟨_, rfl⟩
  rw [← hT1, ← hT2]
  have hb1 : 0 ≤ T1 ∧ T1 ≤ 1000000000000 := by omega
  have hb2 : ¬ T1 < 0 := by omega
  have hb3 : ¬ T2 < 0 := by omega
  have HS : Hid (∀ W : World, Below w.heap.size w W → Calls Try.prog 56 #[.agg #[.int .i64 ZN, .slice a n c, .slice b m d], .int .i64 1] W fun e w' => e = .returned (.int .i64 T1) ∧ Below W.heap.size W w') := fun W hW => by
    rw [hT1]; exact heldFleet_to ZN ⟨hn.1, hn.2.1⟩ ⟨ownsRow_keep h.1.1 fun q hq => hW.block q (World.ownsRow.lt h.1.1 q hq).2, ownsRow_keep h.1.2 fun q hq => hW.block q (World.ownsRow.lt h.1.2 q hq).2⟩
  have HI : Hid (∀ W : World, Below w.heap.size w W → Calls Try.prog 52 #[.slice f k hh, .int .i64 T1] W fun e w' => e = .returned (.int .i64 T2) ∧ w' = W) := fun W hW => by
    rw [hT2]; exact heldInt64S_to T1 hn.2.2 hb1.1 hb1.2 (by rw [hT1]; exact ownsRow_keep h.2 fun q hq => hW.block q (World.ownsRow.lt h.2 q hq).2)
  clear h hn hT1 hT2
  obtain ⟨U, hU⟩ : ∃ U, U = w.alloc (.cells #[.int .i64 C, .int .i64 ZN, .slice a n c, .slice b m d, .slice f k hh] 56) := ⟨_, rfl⟩
  have HU : Hid (Below w.heap.size w U ∧ U.heap[w.heap.size]? = some (.cells #[.int .i64 C, .int .i64 ZN, .slice a n c, .slice b m d, .slice f k hh] 56)) := ⟨by rw [hU]; (repeat' (first | (with_reducible exact Below.refl _ _) | (with_reducible assumption) | (with_reducible refine Below.setCell ?_ ?_ _) | (with_reducible refine Below.alloc ?_ ?_ _) | (with_reducible refine below_drewN ?_ _) | (with_reducible refine Below.drew ?_) | (with_reducible exact Nat.le_refl _) | omega | (simp; done) | (simp; omega))), by rw [hU]; exact heap_alloc_new w _⟩
  go_enter Try.func35, Try.ntmps35
  go_wp2_with (fail)
  rw [← hU]
  clear hU
  refine (HS.out _ HU.out.1).mono ?_
  rintro e w1 ⟨rfl, hb⟩
  obtain ⟨p0, p1, p2, p3, p4, pf, pl⟩ := five_F ((hb.block _ (ltOf HU.out.2)).trans HU.out.2)
  have H1 : Hid (Below w.heap.size w w1) := HU.out.1.trans (hb.mono HU.out.1.size)
  clear HU HS pf hb
  go_wp2_with (fail)
  refine (HI.out _ H1.out).mono ?_
  rintro e w2 ⟨rfl, hw⟩
  subst w2
  go_wp2
  go_returns
  exact ⟨rfl, H1.out⟩

end Go.Proofs.Ytgbbigokbbllgaa
