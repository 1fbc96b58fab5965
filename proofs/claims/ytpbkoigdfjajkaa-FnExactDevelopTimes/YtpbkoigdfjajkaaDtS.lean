/- Proved here: DevelopTimes of the model. -/
import Derived.Test.YtpbkoigdfjajkaaDtT
namespace Go.Proofs.Ytpbkoigdfjajkaa
open Go.RowKit
set_option linter.unusedVariables false
set_option linter.unusedSimpArgs false

set_option maxRecDepth 10000 in
set_option maxHeartbeats 3200000 in
theorem spec_dt {w : World} {v : Value} {ls : List (List Int)} (hn : SmR ls) (h : RdR w v ls) :
    Calls Try.prog 6 #[v] w fun e w' => ∃ v' vs, e = .returned (.agg #[.int .i64 (gfC ls 1000000), v']) ∧ RI w' w.heap.size v' (dtL ls) vs ∧ Below w.heap.size w w' := by
  obtain ⟨a, c, rfl⟩ := h.form
  obtain ⟨n, hnn⟩ : ∃ n, n = ls.length := ⟨_, rfl⟩
  obtain ⟨C, hC⟩ : ∃ C, C = gfC ls 1000000 := ⟨_, rfl⟩
  rw [← hnn] at h ⊢
  rw [← hC]
  have HF : Hid (∀ W, Below w.heap.size w W → Calls Try.prog 17 #[.slice a n c] W fun e w' => e = .returned (.int .i64 C) ∧ Below W.heap.size W w') := fun W hW => by rw [hC]; exact spec_gf hn (h.below hW)
  have H : Hid (RdR w (.slice a n c) ls ∧ n = ls.length ∧ C = gfC ls 1000000) := ⟨h, hnn, hC⟩
  clear h hn hC hnn
  go_enter Try.func6, Try.ntmps6
  go_wp2_with (fail)
  refine (HF.out _ (by (repeat' (first | (with_reducible exact Below.refl _ _) | (with_reducible assumption) | (with_reducible refine Below.setCell ?_ ?_ _) | (with_reducible refine Below.alloc ?_ ?_ _) | (with_reducible refine below_drewN ?_ _) | (with_reducible refine Below.drew ?_) | (with_reducible exact Nat.le_refl _) | omega | (simp; done) | (simp; omega))))).mono ?_
  rintro e w1 ⟨rfl, hb1⟩
  have HB : Hid (w1.heap[w.heap.size]? = some (.cells #[.int .i64 0, .slice none 0 0] 25) ∧ Below w.heap.size w w1 ∧ w.heap.size < w1.heap.size) := by
    have k2 := (hb1.block w.heap.size (by simp)).trans (heap_alloc_new w (.cells #[.int .i64 0, .slice none 0 0] 25))
    exact ⟨k2, (show Below w.heap.size w _ from by (repeat' (first | (with_reducible exact Below.refl _ _) | (with_reducible assumption) | (with_reducible refine Below.setCell ?_ ?_ _) | (with_reducible refine Below.alloc ?_ ?_ _) | (with_reducible refine below_drewN ?_ _) | (with_reducible refine Below.drew ?_) | (with_reducible exact Nat.le_refl _) | omega | (simp; done) | (simp; omega)))).trans (hb1.mono (by simp)), ltOf k2⟩
  clear HF hb1
  by_cases hA0 : C = 0
  case neg =>
    obtain ⟨q0, q1, qf0, qf1, ql⟩ := two_of HB.out.1
    have HV : Hid (dtL ls = []) := dtL_nil (by rw [← H.out.2.2]; exact hA0)
    have hA1 : (C != 0) = true := by simpa using hA0
    go_wp2
    try simp only [Exit.inBlock, Exit.then]
    refine bodyPost_ret (by simp [results, Try.results6, go_sem, q0, q1, ql]; try rfl) rfl ⟨.slice none 0 0, [], rfl, ?_, ?_⟩
    · rw [HV.out]; exact RI.nil _ _
    · have hB := HB.out.2.1
      (repeat' (first | (with_reducible exact Below.refl _ _) | (with_reducible assumption) | (with_reducible refine Below.setCell ?_ ?_ _) | (with_reducible refine Below.alloc ?_ ?_ _) | (with_reducible refine below_drewN ?_ _) | (with_reducible refine Below.drew ?_) | (with_reducible exact Nat.le_refl _) | omega | (simp; done) | (simp; omega)))
  have HE : Hid (Calls Try.prog 18 #[.slice a n c] w1 fun e w' => ∃ v' vs, e = .returned v' ∧ RI w' w1.heap.size v' (dtL ls) vs ∧ Below w1.heap.size w1 w') := spec_times (H.out.2.2.symm.trans hA0) (H.out.1.below HB.out.2.1)
  clear H
  subst hA0
  go_wp2_with (fail)
  refine HE.out.mono ?_
  rintro e w5 ⟨v5, vs, rfl, hri, hb5⟩
  clear HE
  obtain ⟨q0, q1, qf0, qf1, ql⟩ := two_of ((hb5.block _ HB.out.2.2).trans HB.out.1)
  obtain ⟨va, vc, rfl⟩ := hri.form
  obtain ⟨nn, hnn⟩ : ∃ x, x = (dtL ls).length := ⟨_, rfl⟩
  rw [← hnn] at hri ⊢
  have HR : Hid (RI w5 w1.heap.size (.slice va nn vc) (dtL ls) vs ∧ Below w.heap.size w w5 ∧ w.heap.size < w1.heap.size) := ⟨hri, HB.out.2.1.trans (hb5.mono HB.out.2.1.size), HB.out.2.2⟩
  clear hri hb5 hnn
  go_wp2
  try simp only [Exit.inBlock, Exit.then]
  refine bodyPost_ret (by simp [results, Try.results6, go_sem, q0, q1, ql]; try rfl) rfl ⟨.slice va nn vc, vs, rfl, ?_, ?_⟩
  · have hs := HR.out.2.2
    refine RI.low (B := w1.heap.size) ?_ (by omega)
    repeat' (refine ri_result (w := w) ?_ (by omega) _ _)
    exact HR.out.1
  · have hB := HR.out.2.1
    (repeat' (first | (with_reducible exact Below.refl _ _) | (with_reducible assumption) | (with_reducible refine Below.setCell ?_ ?_ _) | (with_reducible refine Below.alloc ?_ ?_ _) | (with_reducible refine below_drewN ?_ _) | (with_reducible refine Below.drew ?_) | (with_reducible exact Nat.le_refl _) | omega | (simp; done) | (simp; omega)))

end Go.Proofs.Ytpbkoigdfjajkaa
