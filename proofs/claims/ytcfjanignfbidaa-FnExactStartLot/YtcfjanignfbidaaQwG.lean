/- Proved here: l21Begin of the model. -/
import Derived.Test.YtcfjanignfbidaaQoP
import Derived.Test.YtcfjanignfbidaaQbV
namespace Go.Proofs.Ytcfjanignfbidaa
open Go.RowKit Go.Maps
set_option linter.unusedVariables false
set_option linter.unusedSimpArgs false

set_option maxHeartbeats 1600000 in
theorem spec_beg {st : Int} {w : World} {vw vl vs : Value} {b : Bk} (id : Int) (hst : b.st = st) (hs : smBk 1048576 b) (h : RdX w vw vl vs b) :
    Calls Try.prog 53 #[.agg #[.int .i64 st, vw, vl, vs], .int .i64 id] w fun e w' => e = .returned (.tuple #[.int .i64 (bgA b id), .int .i64 (bgC b id)]) ∧ Below w.heap.size w w' := by
  obtain ⟨wa, wc, e1⟩ := h.wn.form
  obtain ⟨la, lc, e2⟩ := h.ls.rlo.form
  obtain ⟨xa, xc, e3⟩ := h.sc.form
  subst e1 e2 e3
  obtain ⟨wn, hwn⟩ : ∃ n, n = b.wn.length := ⟨_, rfl⟩
  obtain ⟨ln, hln⟩ : ∃ n, n = b.ls.length := ⟨_, rfl⟩
  obtain ⟨xn, hxn⟩ : ∃ n, n = b.sc.length := ⟨_, rfl⟩
  rw [← hwn, ← hln, ← hxn] at h ⊢
  obtain ⟨K, hK⟩ : ∃ K, K = bkF b := ⟨_, rfl⟩
  obtain ⟨I, hI⟩ : ∃ K, K = fdI (idA b.ls) id b.ls.length := ⟨_, rfl⟩
  obtain ⟨A, hA⟩ : ∃ K, K = bgA b id := ⟨_, rfl⟩
  obtain ⟨C, hC⟩ : ∃ K, K = bgC b id := ⟨_, rfl⟩
  rw [← hA, ← hC]
  have HC : Hid (C = (if K ≠ 0 then K else if I < 0 then 4 else 0) ∧ A = if C ≠ 0 then -1 else I) := ⟨by rw [hC, bgC, ← hK, ← hI], by rw [hA, bgA, ← hC, ← hI]⟩
  obtain ⟨W, hW⟩ : ∃ W, W = w.alloc (.cells #[.int .i64 st, .slice wa wn wc, .slice la ln lc, .slice xa xn xc] 31) := ⟨_, rfl⟩
  have HW : Hid (Below w.heap.size w W ∧ W.heap[w.heap.size]? = some (.cells #[.int .i64 st, .slice wa wn wc, .slice la ln lc, .slice xa xn xc] 31)) := by rw [hW]; exact ⟨by (repeat' (first | (with_reducible exact Below.refl _ _) | (with_reducible assumption) | (with_reducible refine Below.setCell ?_ ?_ _) | (with_reducible refine Below.alloc ?_ ?_ _) | (with_reducible refine below_drewN ?_ _) | (with_reducible refine Below.drew ?_) | (with_reducible exact Nat.le_refl _) | omega | (simp; done) | (simp; omega))), heap_alloc_new _ _⟩
  have HB : Hid (Calls Try.prog 34 #[.agg #[.int .i64 st, .slice wa wn wc, .slice la ln lc, .slice xa xn xc]] W fun e w' => e = .returned (.int .i64 K) ∧ Below W.heap.size W w') := by rw [hK]; exact spec_bf hst hs (h.below HW.out.1)
  have HF : Hid (∀ w', Below w.heap.size w w' → Calls Try.prog 67 #[.slice la ln lc, .int .i64 ln, .int .i64 id] w' fun e w2 => e = .returned (.int .i64 I) ∧ w2 = w') := fun w' hb => by
    have := spec_fd ln id (by omega) (by have := hs.ls; omega) (h.ls.rlo.below hb)
    rw [hln, ← hI] at this
    rw [hln]; exact this
  clear h hs hst hwn hln hxn hK hI hA hC
  go_enter Try.func53, Try.ntmps53
  go_wp2_with (fail)
  rw [← hW]
  clear hW
  refine HB.out.mono ?_
  rintro e w1 ⟨rfl, hb1⟩
  have m0 := (hb1.block _ (ltOfQ HW.out.2)).trans HW.out.2
  have HB1 : Hid (Below w.heap.size w w1) := HW.out.1.trans (hb1.mono HW.out.1.size)
  obtain ⟨p0, p1, p2, p3, pl⟩ : w1.cell? ⟨w.heap.size, 0, none⟩ = some (.int .i64 st) ∧ w1.cell? ⟨w.heap.size, 1, none⟩ = some (.slice wa wn wc) ∧ w1.cell? ⟨w.heap.size, 2, none⟩ = some (.slice la ln lc) ∧ w1.cell? ⟨w.heap.size, 3, none⟩ = some (.slice xa xn xc) ∧ w.heap.size < w1.heap.size := ⟨cellOfQ m0 0 rfl, cellOfQ m0 1 rfl, cellOfQ m0 2 rfl, cellOfQ m0 3 rfl, ltOfQ m0⟩
  clear hb1 HB HW m0
  by_cases hK0 : K = 0
  case neg =>
    have HR : Hid (C = K ∧ A = -1) := by
      have e : C = K := by rw [HC.out.1, if_pos hK0]
      exact ⟨e, by rw [HC.out.2, e, if_pos hK0]⟩
    have hKb : (K == 0) = false := beq_eq_false_iff_ne.2 hK0
    clear HC
    go_wp2
    go_returns
    exact ⟨by rw [HR.out.1, HR.out.2]; rfl, HB1.out⟩
  have HC2 : Hid (C = (if I < 0 then 4 else 0) ∧ A = if C ≠ 0 then -1 else I) := ⟨by rw [HC.out.1, if_neg (fun e => e hK0)], HC.out.2⟩
  subst hK0
  clear HC
  go_wp2_with (fail)
  refine (HF.out _ HB1.out).mono ?_
  rintro e w2 ⟨rfl, hw2⟩
  subst w2
  by_cases hI0 : I < 0
  · have HR : Hid (C = 4 ∧ A = -1) := by
      have e : C = 4 := by rw [HC2.out.1, if_pos hI0]
      exact ⟨e, by rw [HC2.out.2, e, if_pos (by decide)]⟩
    clear HC2
    go_wp2
    go_returns
    exact ⟨by rw [HR.out.1, HR.out.2]; rfl, HB1.out⟩
  · have HR : Hid (C = 0 ∧ A = I) := by
      have e : C = 0 := by rw [HC2.out.1, if_neg hI0]
      exact ⟨e, by rw [HC2.out.2, e, if_neg (by decide)]⟩
    clear HC2
    go_wp2
    go_returns
    exact ⟨by rw [HR.out.1, HR.out.2]; rfl, HB1.out⟩


end Go.Proofs.Ytcfjanignfbidaa
