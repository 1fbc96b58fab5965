/- Proved here: CutGrid and OpenAt of the program. -/
import Derived.Test.YteoddodeppgjaaaEaI
import Derived.Test.YteoddodeppgjaaaGfI
import Derived.Test.YteoddodeppgjaaaCgM
namespace Go.Proofs.Yteoddodeppgjaaa
open Go.RowKit
set_option linter.unusedVariables false
set_option linter.unusedSimpArgs false

set_option maxHeartbeats 800000 in
theorem impl_oneIf (b : Bool) (w : World) : Calls Try.prog 40 #[.bool b] w fun e w' => e = .returned (.int .i64 (if b = true then 1 else 0)) ∧ w' = w := by
  cases b with
  | true =>
    go_enter Try.func40, Try.ntmps40
    go_wp2
    go_returns
    exact ⟨rfl, rfl⟩
  | false =>
    go_enter Try.func40, Try.ntmps40
    go_wp2
    go_returns
    exact ⟨rfl, rfl⟩

set_option maxHeartbeats 1600000 in
theorem impl_cg_clo (lv x : Int) {w : World} {p : Nat} (hp : w.heap[p]? = some (.cells #[.int .i64 lv] 2)) : Calls Try.prog 39 #[.int .i64 x, .pointer (some ⟨p, 0, none⟩)] w fun e w' => e = .returned (.int .i64 (cgT lv x)) ∧ Below w.heap.size w w' := by
  have c0 := cellOf hp 0 rfl
  have l0 := ltOf hp
  clear hp
  have HO : Hid (∀ (b : Bool) (W : World), Calls Try.prog 40 #[.bool b] W fun e w' => e = .returned (.int .i64 (if b = true then 1 else 0)) ∧ w' = W) := impl_oneIf
  by_cases hx : lv ≤ x
  · have HT : Hid (cgT lv x = 1) := by unfold Hid cgT; rw [if_pos hx]
    go_enter Try.func39, Try.ntmps39
    go_wp2_with (fail)
    refine (HO.out true _).mono ?_
    rintro e w1 ⟨rfl, rfl⟩
    go_wp2
    go_returns
    exact ⟨by rw [HT.out]; rfl, Below.refl _ _⟩
  · have HT : Hid (cgT lv x = 0) := by unfold Hid cgT; rw [if_neg hx]
    go_enter Try.func39, Try.ntmps39
    go_wp2_with (fail)
    refine (HO.out false _).mono ?_
    rintro e w1 ⟨rfl, rfl⟩
    go_wp2
    go_returns
    exact ⟨by rw [HT.out]; rfl, Below.refl _ _⟩

set_option maxRecDepth 10000 in
set_option maxHeartbeats 6400000 in
theorem impl_cg (lv : Int) {w : World} {v : Value} {ls : List (List Int)} (hn : SmR ls) (h : RdR w v ls) :
    Calls Try.prog 18 #[v, .int .i64 lv] w fun e w' => ∃ v' vs, e = .returned (.agg #[.int .i64 (gfC ls 1000000), v']) ∧ RI w' w.heap.size v' (cgL ls lv) vs ∧ Below w.heap.size w w' := by
  obtain ⟨a, c, rfl⟩ := h.form
  obtain ⟨n, hnn⟩ : ∃ n, n = ls.length := ⟨_, rfl⟩
  obtain ⟨C, hC⟩ : ∃ C, C = gfC ls 1000000 := ⟨_, rfl⟩
  rw [← hnn] at h ⊢
  rw [← hC]
  have HF : Hid (∀ W, Below w.heap.size w W → Calls Try.prog 12 #[.slice a n c] W fun e w' => e = .returned (.int .i64 C) ∧ w' = W) := fun W hW => by rw [hC]; exact impl_gf hn (h.below hW)
  have H : Hid (RdR w (.slice a n c) ls ∧ n = ls.length ∧ C = gfC ls 1000000 ∧ cgL ls lv = (if C = 0 then tnL (cgT lv) ls else [])) := ⟨h, hnn, hC, by rw [hC]; rfl⟩
  clear h hn hC hnn
  obtain ⟨W2, hW2⟩ : ∃ W, W = (w.alloc (.cells #[.int .i64 lv] 2)).alloc (.cells #[.int .i64 0, .slice none 0 0] 33) := ⟨_, rfl⟩
  have HW : Hid (Below w.heap.size w W2 ∧ W2.heap[w.heap.size]? = some (.cells #[.int .i64 lv] 2) ∧ W2.heap[w.heap.size + 1]? = some (.cells #[.int .i64 0, .slice none 0 0] 33) ∧ W2.heap.size = w.heap.size + 1 + 1) := by
    rw [hW2]
    refine ⟨by (repeat' (first | (with_reducible exact Below.refl _ _) | (with_reducible assumption) | (with_reducible refine Below.setCell ?_ ?_ _) | (with_reducible refine Below.alloc ?_ ?_ _) | (with_reducible refine below_drewN ?_ _) | (with_reducible refine Below.drew ?_) | (with_reducible exact Nat.le_refl _) | omega | (simp; done) | (simp; omega))), (Below.heap_alloc _ _ _ (by simp)).trans (heap_alloc_new w _), ?_, by simp⟩
    have := heap_alloc_new (w.alloc (.cells #[.int .i64 lv] 2)) (.cells #[.int .i64 0, .slice none 0 0] 33)
    simpa using this
  obtain ⟨q0, q1, qf0, qf1, ql⟩ := two_of HW.out.2.2.1
  go_enter Try.func18, Try.ntmps18
  go_wp2_with (fail)
  rw [← hW2]
  refine (HF.out _ HW.out.1).mono ?_
  rintro e w1 ⟨rfl, hw1⟩
  subst hw1
  clear hW2 HF
  by_cases hA0 : C = 0
  case neg =>
    have HV : Hid (cgL ls lv = []) := by unfold Hid; rw [H.out.2.2.2, if_neg hA0]
    have hA1 : (C != 0) = true := by simpa using hA0
    go_wp2
    try simp only [Exit.inBlock, Exit.then]
    refine bodyPost_ret (by simp [results, Try.results18, go_sem, q0, q1, ql]; try rfl) rfl ⟨.slice none 0 0, [], rfl, ?_, ?_⟩
    · rw [HV.out]; exact RI.nil _ _
    · have hB := HW.out.1
      (repeat' (first | (with_reducible exact Below.refl _ _) | (with_reducible assumption) | (with_reducible refine Below.setCell ?_ ?_ _) | (with_reducible refine Below.alloc ?_ ?_ _) | (with_reducible refine below_drewN ?_ _) | (with_reducible refine Below.drew ?_) | (with_reducible exact Nat.le_refl _) | omega | (simp; done) | (simp; omega)))
  have HE : Hid (Calls Try.prog 38 #[.slice a n c, .func (Fn.func 39) #[] #[.pointer (some ⟨w.heap.size, 0, none⟩)]] w1 fun e w' => ∃ v' vs, e = .returned v' ∧ RI w' w1.heap.size v' (tnL (cgT lv) ls) vs ∧ Below w1.heap.size w1 w') :=
    impl_eachCut (.pointer (some ⟨w.heap.size, 0, none⟩)) (cgT lv) (gfC_good (H.out.2.2.1.symm.trans hA0)) (H.out.1.below HW.out.1) (fun W x hW _ _ => impl_cg_clo lv x ((hW.block _ (by have := HW.out.2.2.2; omega)).trans HW.out.2.1))
  have HV : Hid (cgL ls lv = tnL (cgT lv) ls) := by unfold Hid; rw [H.out.2.2.2, if_pos hA0]
  clear H
  subst hA0
  go_wp2_with (fail)
  refine HE.out.mono ?_
  rintro e w5 ⟨v5, vs, rfl, hri, hb5⟩
  clear HE q0 q1 qf0 qf1 ql
  obtain ⟨q0, q1, qf0, qf1, ql⟩ := two_of ((hb5.block _ (ltOf HW.out.2.2.1)).trans HW.out.2.2.1)
  obtain ⟨va, vc, rfl⟩ := hri.form
  obtain ⟨nn, hnn⟩ : ∃ x, x = (tnL (cgT lv) ls).length := ⟨_, rfl⟩
  rw [← hnn] at hri ⊢
  have HR : Hid (RI w5 w1.heap.size (.slice va nn vc) (tnL (cgT lv) ls) vs ∧ Below w.heap.size w w5) := ⟨hri, HW.out.1.trans (hb5.mono HW.out.1.size)⟩
  clear hri hb5 hnn
  go_wp2
  try simp only [Exit.inBlock, Exit.then]
  refine bodyPost_ret (by simp [results, Try.results18, go_sem, q0, q1, ql]; try rfl) rfl ⟨.slice va nn vc, vs, rfl, ?_, ?_⟩
  · rw [HV.out]
    have hs := HW.out.2.2.2
    refine RI.low (B := w1.heap.size) ?_ (by omega)
    repeat' (refine ri_result (w := w) ?_ (by omega) _ _)
    exact HR.out.1
  · have hB := HR.out.2
    (repeat' (first | (with_reducible exact Below.refl _ _) | (with_reducible assumption) | (with_reducible refine Below.setCell ?_ ?_ _) | (with_reducible refine Below.alloc ?_ ?_ _) | (with_reducible refine below_drewN ?_ _) | (with_reducible refine Below.drew ?_) | (with_reducible exact Nat.le_refl _) | omega | (simp; done) | (simp; omega)))

set_option maxHeartbeats 1600000 in
theorem impl_op_clo (lv x : Int) {w : World} {p : Nat} (hp : w.heap[p]? = some (.cells #[.int .i64 lv] 2)) : Calls Try.prog 46 #[.int .i64 x, .pointer (some ⟨p, 0, none⟩)] w fun e w' => e = .returned (.int .i64 (opT lv x)) ∧ Below w.heap.size w w' := by
  have c0 := cellOf hp 0 rfl
  have l0 := ltOf hp
  clear hp
  have HO : Hid (∀ (b : Bool) (W : World), Calls Try.prog 40 #[.bool b] W fun e w' => e = .returned (.int .i64 (if b = true then 1 else 0)) ∧ w' = W) := impl_oneIf
  by_cases hx : x ≤ lv
  · have HT : Hid (opT lv x = 1) := by unfold Hid opT; rw [if_pos hx]
    go_enter Try.func46, Try.ntmps46
    go_wp2_with (fail)
    refine (HO.out true _).mono ?_
    rintro e w1 ⟨rfl, rfl⟩
    go_wp2
    go_returns
    exact ⟨by rw [HT.out]; rfl, Below.refl _ _⟩
  · have HT : Hid (opT lv x = 0) := by unfold Hid opT; rw [if_neg hx]
    go_enter Try.func46, Try.ntmps46
    go_wp2_with (fail)
    refine (HO.out false _).mono ?_
    rintro e w1 ⟨rfl, rfl⟩
    go_wp2
    go_returns
    exact ⟨by rw [HT.out]; rfl, Below.refl _ _⟩

set_option maxRecDepth 10000 in
set_option maxHeartbeats 6400000 in
theorem impl_op (lv : Int) {w : World} {v : Value} {ls : List (List Int)} (hn : SmR ls) (h : RdR w v ls) :
    Calls Try.prog 29 #[v, .int .i64 lv] w fun e w' => ∃ v' vs, e = .returned (.agg #[.int .i64 (gfC ls 256000000), v']) ∧ RI w' w.heap.size v' (opL ls lv) vs ∧ Below w.heap.size w w' := by
  obtain ⟨a, c, rfl⟩ := h.form
  obtain ⟨n, hnn⟩ : ∃ n, n = ls.length := ⟨_, rfl⟩
  obtain ⟨C, hC⟩ : ∃ C, C = gfC ls 256000000 := ⟨_, rfl⟩
  rw [← hnn] at h ⊢
  rw [← hC]
  have HF : Hid (∀ W, Below w.heap.size w W → Calls Try.prog 34 #[.slice a n c, .int .i64 256000000] W fun e w' => e = .returned (.int .i64 C) ∧ w' = W) := fun W hW => by rw [hC]; exact impl_gridFault 256000000 hn (h.below hW)
  have H : Hid (RdR w (.slice a n c) ls ∧ n = ls.length ∧ C = gfC ls 256000000 ∧ opL ls lv = (if C = 0 then tnL (opT lv) ls else [])) := ⟨h, hnn, hC, by rw [hC]; rfl⟩
  clear h hn hC hnn
  obtain ⟨W2, hW2⟩ : ∃ W, W = (w.alloc (.cells #[.int .i64 lv] 2)).alloc (.cells #[.int .i64 0, .slice none 0 0] 33) := ⟨_, rfl⟩
  have HW : Hid (Below w.heap.size w W2 ∧ W2.heap[w.heap.size]? = some (.cells #[.int .i64 lv] 2) ∧ W2.heap[w.heap.size + 1]? = some (.cells #[.int .i64 0, .slice none 0 0] 33) ∧ W2.heap.size = w.heap.size + 1 + 1) := by
    rw [hW2]
    refine ⟨by (repeat' (first | (with_reducible exact Below.refl _ _) | (with_reducible assumption) | (with_reducible refine Below.setCell ?_ ?_ _) | (with_reducible refine Below.alloc ?_ ?_ _) | (with_reducible refine below_drewN ?_ _) | (with_reducible refine Below.drew ?_) | (with_reducible exact Nat.le_refl _) | omega | (simp; done) | (simp; omega))), (Below.heap_alloc _ _ _ (by simp)).trans (heap_alloc_new w _), ?_, by simp⟩
    have := heap_alloc_new (w.alloc (.cells #[.int .i64 lv] 2)) (.cells #[.int .i64 0, .slice none 0 0] 33)
    simpa using this
  obtain ⟨q0, q1, qf0, qf1, ql⟩ := two_of HW.out.2.2.1
  go_enter Try.func29, Try.ntmps29
  go_wp2_with (fail)
  rw [← hW2]
  refine (HF.out _ HW.out.1).mono ?_
  rintro e w1 ⟨rfl, hw1⟩
  subst hw1
  clear hW2 HF
  by_cases hA0 : C = 0
  case neg =>
    have HV : Hid (opL ls lv = []) := by unfold Hid; rw [H.out.2.2.2, if_neg hA0]
    have hA1 : (C != 0) = true := by simpa using hA0
    go_wp2
    try simp only [Exit.inBlock, Exit.then]
    refine bodyPost_ret (by simp [results, Try.results29, go_sem, q0, q1, ql]; try rfl) rfl ⟨.slice none 0 0, [], rfl, ?_, ?_⟩
    · rw [HV.out]; exact RI.nil _ _
    · have hB := HW.out.1
      (repeat' (first | (with_reducible exact Below.refl _ _) | (with_reducible assumption) | (with_reducible refine Below.setCell ?_ ?_ _) | (with_reducible refine Below.alloc ?_ ?_ _) | (with_reducible refine below_drewN ?_ _) | (with_reducible refine Below.drew ?_) | (with_reducible exact Nat.le_refl _) | omega | (simp; done) | (simp; omega)))
  have HE : Hid (Calls Try.prog 38 #[.slice a n c, .func (Fn.func 46) #[] #[.pointer (some ⟨w.heap.size, 0, none⟩)]] w1 fun e w' => ∃ v' vs, e = .returned v' ∧ RI w' w1.heap.size v' (tnL (opT lv) ls) vs ∧ Below w1.heap.size w1 w') :=
    impl_eachOpen (.pointer (some ⟨w.heap.size, 0, none⟩)) (opT lv) (gfC_good (H.out.2.2.1.symm.trans hA0)) (H.out.1.below HW.out.1) (fun W x hW _ _ => impl_op_clo lv x ((hW.block _ (by have := HW.out.2.2.2; omega)).trans HW.out.2.1))
  have HV : Hid (opL ls lv = tnL (opT lv) ls) := by unfold Hid; rw [H.out.2.2.2, if_pos hA0]
  clear H
  subst hA0
  go_wp2_with (fail)
  refine HE.out.mono ?_
  rintro e w5 ⟨v5, vs, rfl, hri, hb5⟩
  clear HE q0 q1 qf0 qf1 ql
  obtain ⟨q0, q1, qf0, qf1, ql⟩ := two_of ((hb5.block _ (ltOf HW.out.2.2.1)).trans HW.out.2.2.1)
  obtain ⟨va, vc, rfl⟩ := hri.form
  obtain ⟨nn, hnn⟩ : ∃ x, x = (tnL (opT lv) ls).length := ⟨_, rfl⟩
  rw [← hnn] at hri ⊢
  have HR : Hid (RI w5 w1.heap.size (.slice va nn vc) (tnL (opT lv) ls) vs ∧ Below w.heap.size w w5) := ⟨hri, HW.out.1.trans (hb5.mono HW.out.1.size)⟩
  clear hri hb5 hnn
  go_wp2
  try simp only [Exit.inBlock, Exit.then]
  refine bodyPost_ret (by simp [results, Try.results29, go_sem, q0, q1, ql]; try rfl) rfl ⟨.slice va nn vc, vs, rfl, ?_, ?_⟩
  · rw [HV.out]
    have hs := HW.out.2.2.2
    refine RI.low (B := w1.heap.size) ?_ (by omega)
    repeat' (refine ri_result (w := w) ?_ (by omega) _ _)
    exact HR.out.1
  · have hB := HR.out.2
    (repeat' (first | (with_reducible exact Below.refl _ _) | (with_reducible assumption) | (with_reducible refine Below.setCell ?_ ?_ _) | (with_reducible refine Below.alloc ?_ ?_ _) | (with_reducible refine below_drewN ?_ _) | (with_reducible refine Below.drew ?_) | (with_reducible exact Nat.le_refl _) | omega | (simp; done) | (simp; omega)))

end Go.Proofs.Yteoddodeppgjaaa
