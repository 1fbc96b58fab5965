/- Proved here: how the laws' package marks a fleet. -/
import Derived.Test.YtgbbigokbbllgaaTwL
namespace Go.Proofs.Ytgbbigokbbllgaa
open Go.ChangeShapes Go.WideShapes Go.ChangeAt Go.RowKit Go.Joins Go.Deep
set_option linter.unusedVariables false
set_option linter.unusedSimpArgs false

set_option maxHeartbeats 3200000 in
theorem markFleet_to (C : Int) {w : World} {B Z : Nat} {v1 v2 : Value} {ls es : List Int} (z : Int) (hn : ls.length ≤ 1048576 ∧ es.length ≤ 1048576) (hz0 : 0 ≤ z) (hz1 : z ≤ 1000000000) (h : OwL w B v1 v2 ls es) (hZ : LtL v1 v2 Z) :
    Calls Try.prog 28 #[.agg #[.int .i64 C, v1, v2], .int .i64 z] w fun e w' => e = .returned (.int .i64 (z + (ls.length : Int) + (es.length : Int))) ∧ (w'.ownsRow B 2 1 v1 ls.length (mkV z ls.length) ∧ w'.ownsRow B 2 1 v2 es.length (mkV (z + (ls.length : Int)) es.length)) ∧ Chg B Z w w' ∧ (∀ q, q < w.heap.size → ¬ BkL v1 v2 q → w'.heap[q]? = w.heap[q]?) := by
  obtain ⟨a, c, e1⟩ := h.form1
  obtain ⟨b, d, e2⟩ := h.form2
  obtain ⟨n, hm⟩ : ∃ m, m = ls.length := ⟨_, rfl⟩
  obtain ⟨m, hk⟩ : ∃ m, m = es.length := ⟨_, rfl⟩
  rw [← hm] at e1 hn ⊢
  rw [← hk] at e2 hn ⊢
  subst e1 e2
  obtain ⟨T1, hT1⟩ : ∃ T, T = z + (n : Int) := ⟨_, rfl⟩
  obtain ⟨T2, hT2⟩ : ∃ T, T = T1 + (m : Int) := ⟨_, rfl⟩
  rw [← hT1, ← hT2]
  have hb1 : 0 ≤ T1 ∧ T1 ≤ 1000000000000 := by omega
  have H : Hid (OwL w B (.slice a n c) (.slice b m d) ls es ∧ LtL (.slice a n c) (.slice b m d) Z ∧ (n ≤ 1048576 ∧ m ≤ 1048576) ∧ T1 = z + (n : Int) ∧ T2 = T1 + (m : Int) ∧ n = ls.length ∧ m = es.length) := ⟨h, hZ, hn, hT1, hT2, hm, hk⟩
  have HZ : Hid (0 ≤ z ∧ z ≤ 1000000000) := ⟨hz0, hz1⟩
  clear h hZ hn hT1 hT2 hm hk hz0 hz1
  obtain ⟨U, hU⟩ : ∃ U, U = w.alloc (.cells #[.int .i64 C, .slice a n c, .slice b m d] 45) := ⟨_, rfl⟩
  have HU : Hid (Below w.heap.size w U ∧ U.heap[w.heap.size]? = some (.cells #[.int .i64 C, .slice a n c, .slice b m d] 45) ∧ OwL U B (.slice a n c) (.slice b m d) ls es) := by
    have hb : Below w.heap.size w U := by rw [hU]; (repeat' (first | (with_reducible exact Below.refl _ _) | (with_reducible assumption) | (with_reducible refine Below.setCell ?_ ?_ _) | (with_reducible refine Below.alloc ?_ ?_ _) | (with_reducible refine below_drewN ?_ _) | (with_reducible refine Below.drew ?_) | (with_reducible exact Nat.le_refl _) | omega | (simp; done) | (simp; omega)))
    exact ⟨hb, by rw [hU]; exact heap_alloc_new w _, H.out.1.keep fun q hq => hb.block q (H.out.1.blk hq).2⟩
  have HM1 : Hid (Calls Try.prog 51 #[.slice a n c, .int .i64 z] U fun e w' => e = .returned (.int .i64 T1) ∧ w'.ownsRow B 2 1 (.slice a n c) n (mkV z n) ∧ (w' = U ∨ ∃ g, (Value.slice a n c).ownBlock = some g ∧ Only g U w')) := by
    have h1 := HU.out.2.2.1
    unfold IS at h1
    rw [← H.out.2.2.2.2.2.1] at h1
    rw [H.out.2.2.2.1]
    exact markI_on z H.out.2.2.1.1 HZ.out.1 (by have := HZ.out.2; omega) h1
  go_enter Try.func28, Try.ntmps28
  go_wp2_with (fail)
  rw [← hU]
  clear hU
  refine HM1.out.mono ?_
  rintro e w1 ⟨rfl, hm1, hon⟩
  have hoth : ∀ q, (Value.slice a n c).ownBlock ≠ some q → w1.heap[q]? = U.heap[q]? := by
    intro q hq
    rcases hon with rfl | ⟨g, hg, h2⟩
    · rfl
    · exact h2.block q (fun e => hq (by rw [hg, e]))
  have k1 : w1.heap[w.heap.size]? = some (.cells #[.int .i64 C, .slice a n c, .slice b m d] 45) := (hoth _ fun e => by have := (H.out.1.blk (Or.inl e)).2; omega).trans HU.out.2.1
  have hi1 : w1.ownsRow B 2 1 (.slice b m d) m (es.map (Value.int .i64)) := by
    have h1 := (HU.out.2.2.2.1.kept (w' := w1) fun q hq => hoth q fun e => HU.out.2.2.2.2 q e hq)
    unfold IS at h1
    rw [← H.out.2.2.2.2.2.2] at h1
    exact h1
  have hch : Chg B Z w w1 := (Chg.of_below HU.out.1).trans (by
    rcases hon with rfl | ⟨g, hg, h2⟩
    · exact Chg.refl _ _ _
    · exact Chg.only h2 (H.out.1.blk (Or.inl hg)).1 (H.out.2.1 g (Or.inl hg)))
  have hq1 : ∀ q, q < w.heap.size → ¬ BkL (.slice a n c) (.slice b m d) q → w1.heap[q]? = w.heap[q]? := fun q h1 h2 => (hoth q fun e => h2 (Or.inl e)).trans (HU.out.1.block q h1)
  have HM2 : Hid (Calls Try.prog 51 #[.slice b m d, .int .i64 T1] w1 fun e w' => e = .returned (.int .i64 T2) ∧ (w'.ownsRow B 2 1 (.slice a n c) n (mkV z n) ∧ w'.ownsRow B 2 1 (.slice b m d) m (mkV T1 m)) ∧ Chg B Z w w' ∧ (∀ q, q < w.heap.size → ¬ BkL (.slice a n c) (.slice b m d) q → w'.heap[q]? = w.heap[q]?)) := by
    unfold Hid
    rw [H.out.2.2.2.2.1]
    refine (markI_on T1 H.out.2.2.1.2 hb1.1 hb1.2 hi1).mono ?_
    rintro e w' ⟨rfl, h1, h2⟩
    refine ⟨rfl, ⟨?_, h1⟩, hch.trans ?_, fun q h3 h4 => ?_⟩
    · refine ownsRow_keep hm1 fun q hq => ?_
      rcases h2 with rfl | ⟨g, hg, h3⟩
      · rfl
      · exact h3.block q (fun e => H.out.1.2.2 q hq (by rw [hg, e]))
    · rcases h2 with rfl | ⟨g, hg, h3⟩
      · exact Chg.refl _ _ _
      · exact Chg.only h3 (H.out.1.blk (Or.inr hg)).1 (H.out.2.1 g (Or.inr hg))
    · rcases h2 with rfl | ⟨g, hg, h5⟩
      · exact hq1 q h3 h4
      · exact (h5.block q (fun e => h4 (Or.inr (by rw [hg, e])))).trans (hq1 q h3 h4)
  obtain ⟨p0, p1, p2, pl⟩ := three_L k1
  clear hm1 hoth k1 hi1 hch HU hon HM1 hq1
  go_wp2_with (fail)
  refine HM2.out.mono ?_
  rintro e w2 ⟨rfl, hA, hC⟩
  have HC : Hid _ := And.intro hA hC
  clear hA hC HM2 p0 p1 p2 pl
  go_wp2
  go_returns
  exact ⟨rfl, HC.out.1, HC.out.2⟩

theorem markFleet_lw (C : Int) {w : World} {B Z : Nat} {v1 v2 : Value} {ls es : List Int} (z : Int) (hn : ls.length ≤ 1048576 ∧ es.length ≤ 1048576) (hz0 : 0 ≤ z) (hz1 : z ≤ 1000000000) (h : OwL w B v1 v2 ls es) (hZ : LtL v1 v2 Z) :
    Calls Try.prog 28 #[.agg #[.int .i64 C, v1, v2], .int .i64 z] w fun e w' => e = .returned (.int .i64 (z + (ls.length : Int) + (es.length : Int))) ∧ True ∧ Chg B Z w w' :=
  (markFleet_to C z hn hz0 hz1 h hZ).mono fun e w' h => ⟨h.1, trivial, h.2.2.1⟩

end Go.Proofs.Ytgbbigokbbllgaa
