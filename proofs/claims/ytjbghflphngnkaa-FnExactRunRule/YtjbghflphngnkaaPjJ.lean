/- Proved here: picked of the program: the first of those that are sorted. -/
import Derived.Test.YtjbghflphngnkaaPjI
namespace Go.Proofs.Ytjbghflphngnkaa
open Go.RowKit
set_option linter.unusedVariables false
set_option linter.unusedSimpArgs false

theorem stbF_len (c : Jb → Jb → Int) (l : List Jb) : (stbF c l.length l).length = l.length := by
  have h : ∀ (f a m b : Nat) (l : List Jb), (symF c f a m b l).length = l.length := by
    intro f
    induction f with
    | zero => intro a m b l; rfl
    | succ f ih =>
      intro a m b l
      unfold symF
      split
      · exact shU_len _ _ _
      · split
        · exact shD_len _ _ _
        · simp only
          have hr : (roF c a m b l).length = l.length := by unfold roF; split; exact rotF_len _ _ _ _ _; rfl
          split
          · rw [ih]; split
            · rw [ih, hr]
            · exact hr
          · split
            · rw [ih, hr]
            · exact hr
  unfold stbF
  split
  · exact insS_len _ _ _ _
  · split
    · rw [insS_len, insS_len]
    · rw [h, insS_len, insS_len]

set_option maxRecDepth 10000 in
set_option maxHeartbeats 6400000 in
theorem pick_1 (now : Int) {W : World} {a : Option Addr} {c : Nat} {l : List Jb} (hn : l.length ≤ 39) (hpos : 0 < l.length) (hnc : NCj a l.length c) (hs : RG 7 jbC W (.slice a l.length c) l) :
    Calls Try.prog 40 #[.slice a l.length c, .int .i64 1, .int .i64 now] W fun e w' => ∃ j : Jb, j = jA (stbF (orC 1 now) l.length l) 0 ∧ e = .returned (.agg #[.int .i64 j.id, .int .i64 j.co, .int .i64 j.ti, .int .i64 j.se, .int .i64 j.du, .int .i64 j.we, .int .i64 j.ki]) ∧ Below W.heap.size W w' := by
  obtain ⟨X, hX⟩ : ∃ X, X = W.alloc (.cells #[.int .i64 0, .int .i64 0, .int .i64 0, .int .i64 0, .int .i64 0, .int .i64 0, .int .i64 0] 51) := ⟨_, rfl⟩
  obtain ⟨n, hnn⟩ : ∃ n, n = l.length := ⟨_, rfl⟩
  obtain ⟨R, hR⟩ : ∃ R, R = stbF (orC 1 now) n l := ⟨_, rfl⟩
  have hRl : n = R.length := by rw [hR, hnn]; exact (stbF_len _ l).symm
  have HX : Hid (Below W.heap.size W X ∧ X.heap[W.heap.size]? = some (.cells #[.int .i64 0, .int .i64 0, .int .i64 0, .int .i64 0, .int .i64 0, .int .i64 0, .int .i64 0] 51) ∧ RG 7 jbC X (.slice a n c) l ∧ n = l.length ∧ NCj a n c ∧ R = stbF (orC 1 now) n l ∧ n = R.length ∧ 0 < n) := by
    have hb : Below W.heap.size W X := by rw [hX]; (repeat' (first | (with_reducible exact Below.refl _ _) | (with_reducible assumption) | (with_reducible refine Below.setCell ?_ ?_ _) | (with_reducible refine Below.alloc ?_ ?_ _) | (with_reducible refine below_drewN ?_ _) | (with_reducible refine Below.drew ?_) | (with_reducible exact Nat.le_refl _) | omega | (simp; done) | (simp; omega)))
    refine ⟨hb, by rw [hX]; exact heap_alloc_new _ _, by rw [hnn]; exact hs.below hb, hnn, by rw [hnn]; exact hnc, hR, hRl, by rw [hnn]; exact hpos⟩
  have hn9 : n ≤ 39 := by rw [hnn]; exact hn
  rw [← hnn, ← hR]
  clear hnn hR hRl hs hnc hpos hn
  go_enter Try.func40, Try.ntmps40
  go_wp2_with (fail)
  rw [← hX]
  clear hX
  refine (impl_ro 1 now (by omega) X).mono ?_
  rintro e w1 ⟨k, he, hk, hb1⟩
  rw [show ROv 1 k = .func (Fn.func 39) #[] #[] from rfl] at he
  subst he
  have HW1 : Hid (Below W.heap.size W w1 ∧ w1.heap[W.heap.size]? = some (.cells #[.int .i64 0, .int .i64 0, .int .i64 0, .int .i64 0, .int .i64 0, .int .i64 0, .int .i64 0] 51) ∧ RG 7 jbC w1 (.slice a n c) l) :=
    ⟨HX.out.1.trans (hb1.mono HX.out.1.size), (hb1.block _ (ltOfQ HX.out.2.1)).trans HX.out.2.1, HX.out.2.2.1.below hb1⟩
  obtain ⟨Y, hY⟩ : ∃ Y, Y = w1.alloc (.cells #[.func (Fn.func 39) #[] #[], .func (Fn.func 57) #[] #[]] 60) := ⟨_, rfl⟩
  have HY : Hid (Below W.heap.size W Y ∧ Y.heap[W.heap.size]? = some (.cells #[.int .i64 0, .int .i64 0, .int .i64 0, .int .i64 0, .int .i64 0, .int .i64 0, .int .i64 0] 51) ∧ RG 7 jbC Y (.slice a n c) l ∧ Y.cell? ⟨w1.heap.size, 0, none⟩ = some (.func (Fn.func 39) #[] #[]) ∧ Y.cell? ⟨w1.heap.size, 1, none⟩ = some (.func (Fn.func 57) #[] #[]) ∧ w1.heap.size < Y.heap.size) := by
    have hb : Below w1.heap.size w1 Y := by rw [hY]; (repeat' (first | (with_reducible exact Below.refl _ _) | (with_reducible assumption) | (with_reducible refine Below.setCell ?_ ?_ _) | (with_reducible refine Below.alloc ?_ ?_ _) | (with_reducible refine below_drewN ?_ _) | (with_reducible refine Below.drew ?_) | (with_reducible exact Nat.le_refl _) | omega | (simp; done) | (simp; omega)))
    refine ⟨HW1.out.1.trans (hb.mono HW1.out.1.size), (hb.block _ (ltOfQ HW1.out.2.1)).trans HW1.out.2.1, HW1.out.2.2.below hb, by rw [hY]; exact cellOfQ (heap_alloc_new _ _) 0 rfl, by rw [hY]; exact cellOfQ (heap_alloc_new _ _) 1 rfl, by rw [hY]; simp⟩
  have HSB : Hid (Calls Try.prog 55 #[.slice a n c, .slice (some ⟨w1.heap.size, 0, none⟩) 2 2] Y fun e w' => ∃ v, e = .returned v ∧ OG 51 7 jbC w' Y.heap.size v R ∧ Below Y.heap.size Y w') := by
    have hn2 := HX.out.2.2.2.1
    have := sb_run (c := orC 1 now) (q := w1.heap.size) (k := 2) (l := l) (a := a) (cc := c) (W := Y) (by rw [← hn2]; exact hn9) (by rw [← hn2]; exact HX.out.2.2.2.2.1) (by rw [← hn2]; exact HY.out.2.2.1) (fun X2 p lo h1 h2 h3 h4 h5 => by
      have e1 : orC 1 now = lexC coC idC := rfl
      rw [e1]
      exact clo_co_id h1 h2 (Nat.lt_of_lt_of_le HY.out.2.2.2.2.2 h4) ((h3.cell (p := ⟨w1.heap.size, 0, none⟩) HY.out.2.2.2.2.2).trans HY.out.2.2.2.1) ((h3.cell (p := ⟨w1.heap.size, 1, none⟩) HY.out.2.2.2.2.2).trans HY.out.2.2.2.2.1) h5)
    rw [← hn2] at this
    rw [← HX.out.2.2.2.2.2.1] at this
    exact this
  clear hk hb1 HW1
  go_wp2_with (fail)
  rw [← hY]
  clear hY
  refine HSB.out.mono ?_
  rintro e w2 ⟨v, rfl, ho, hb2⟩
  obtain ⟨va, vc, hvv⟩ := ho.fm
  rw [← HX.out.2.2.2.2.2.2.1] at hvv
  subst hvv
  have HB : Hid (Below W.heap.size W w2 ∧ w2.heap[W.heap.size]? = some (.cells #[.int .i64 0, .int .i64 0, .int .i64 0, .int .i64 0, .int .i64 0, .int .i64 0, .int .i64 0] 51) ∧ RG 7 jbC w2 (.slice va n vc) R) := ⟨HY.out.1.trans (hb2.mono HY.out.1.size), (hb2.block _ (ltOfQ HY.out.2.1)).trans HY.out.2.1, OG.rg jbC_len ho⟩
  have hRp : 0 < R.length := by rw [← HX.out.2.2.2.2.2.2.1]; exact HX.out.2.2.2.2.2.2.2
  have hnp : 0 < n := HX.out.2.2.2.2.2.2.2
  obtain ⟨g, o, c9, he, hg, hj⟩ := HB.out.2.2.pos (by omega)
  simp only [Value.slice.injEq] at he
  obtain ⟨rfl, hx1, hx2⟩ := he
  clear hx1 hx2
  obtain ⟨c0, c1, c2, c3, c4, c5, c6⟩ := jbC_at (hj 0 hRp)
  simp only [Nat.zero_mul, Nat.add_zero] at c0 c1 c2 c3 c4 c5 c6
  obtain ⟨j, hj2⟩ : ∃ j, j = R[0] := ⟨_, rfl⟩
  rw [← hj2] at c0 c1 c2 c3 c4 c5 c6
  have HJ : Hid (j = jA R 0) := by unfold Hid; rw [hj2, jA_at hRp]
  obtain ⟨z0, z1, z2, z3, z4, z5, z6, zl⟩ := jb_cells (j := default) HB.out.2.1
  have f0 := frozOfQ HB.out.2.1 0
  have f1 := frozOfQ HB.out.2.1 1
  have f2 := frozOfQ HB.out.2.1 2
  have f3 := frozOfQ HB.out.2.1 3
  have f4 := frozOfQ HB.out.2.1 4
  have f5 := frozOfQ HB.out.2.1 5
  have f6 := frozOfQ HB.out.2.1 6
  have HBB : Hid (Below W.heap.size W w2) := HB.out.1
  have b0 : (0 : Int) < (n : Int) := by omega
  clear hj hj2 ho hb2 HB HX HY HSB
  go_wp2
  try simp only [Exit.inBlock, Exit.then]
  refine bodyPost_ret (by simp [results, Try.results40, go_sem, z0, z1, z2, z3, z4, z5, z6, zl, f0, f1, f2, f3, f4, f5, f6]; try rfl) rfl ⟨j, HJ.out, by rfl, ?_⟩
  have hb := HBB.out
  (repeat' (first | (with_reducible exact Below.refl _ _) | (with_reducible assumption) | (with_reducible refine Below.setCell ?_ ?_ _) | (with_reducible refine Below.alloc ?_ ?_ _) | (with_reducible refine below_drewN ?_ _) | (with_reducible refine Below.drew ?_) | (with_reducible exact Nat.le_refl _) | omega | (simp; done) | (simp; omega)))

set_option maxRecDepth 10000 in
set_option maxHeartbeats 6400000 in
theorem pick_2 (now : Int) {W : World} {a : Option Addr} {c : Nat} {l : List Jb} (hn : l.length ≤ 39) (hpos : 0 < l.length) (hnc : NCj a l.length c) (hs : RG 7 jbC W (.slice a l.length c) l) :
    Calls Try.prog 40 #[.slice a l.length c, .int .i64 2, .int .i64 now] W fun e w' => ∃ j : Jb, j = jA (stbF (orC 2 now) l.length l) 0 ∧ e = .returned (.agg #[.int .i64 j.id, .int .i64 j.co, .int .i64 j.ti, .int .i64 j.se, .int .i64 j.du, .int .i64 j.we, .int .i64 j.ki]) ∧ Below W.heap.size W w' := by
  obtain ⟨X, hX⟩ : ∃ X, X = W.alloc (.cells #[.int .i64 0, .int .i64 0, .int .i64 0, .int .i64 0, .int .i64 0, .int .i64 0, .int .i64 0] 51) := ⟨_, rfl⟩
  obtain ⟨n, hnn⟩ : ∃ n, n = l.length := ⟨_, rfl⟩
  obtain ⟨R, hR⟩ : ∃ R, R = stbF (orC 2 now) n l := ⟨_, rfl⟩
  have hRl : n = R.length := by rw [hR, hnn]; exact (stbF_len _ l).symm
  have HX : Hid (Below W.heap.size W X ∧ X.heap[W.heap.size]? = some (.cells #[.int .i64 0, .int .i64 0, .int .i64 0, .int .i64 0, .int .i64 0, .int .i64 0, .int .i64 0] 51) ∧ RG 7 jbC X (.slice a n c) l ∧ n = l.length ∧ NCj a n c ∧ R = stbF (orC 2 now) n l ∧ n = R.length ∧ 0 < n) := by
    have hb : Below W.heap.size W X := by rw [hX]; (repeat' (first | (with_reducible exact Below.refl _ _) | (with_reducible assumption) | (with_reducible refine Below.setCell ?_ ?_ _) | (with_reducible refine Below.alloc ?_ ?_ _) | (with_reducible refine below_drewN ?_ _) | (with_reducible refine Below.drew ?_) | (with_reducible exact Nat.le_refl _) | omega | (simp; done) | (simp; omega)))
    refine ⟨hb, by rw [hX]; exact heap_alloc_new _ _, by rw [hnn]; exact hs.below hb, hnn, by rw [hnn]; exact hnc, hR, hRl, by rw [hnn]; exact hpos⟩
  have hn9 : n ≤ 39 := by rw [hnn]; exact hn
  rw [← hnn, ← hR]
  clear hnn hR hRl hs hnc hpos hn
  go_enter Try.func40, Try.ntmps40
  go_wp2_with (fail)
  rw [← hX]
  clear hX
  refine (impl_ro 2 now (by omega) X).mono ?_
  rintro e w1 ⟨k, he, hk, hb1⟩
  rw [show ROv 2 k = .func (Fn.func 87) #[] #[] from rfl] at he
  subst he
  have HW1 : Hid (Below W.heap.size W w1 ∧ w1.heap[W.heap.size]? = some (.cells #[.int .i64 0, .int .i64 0, .int .i64 0, .int .i64 0, .int .i64 0, .int .i64 0, .int .i64 0] 51) ∧ RG 7 jbC w1 (.slice a n c) l) :=
    ⟨HX.out.1.trans (hb1.mono HX.out.1.size), (hb1.block _ (ltOfQ HX.out.2.1)).trans HX.out.2.1, HX.out.2.2.1.below hb1⟩
  obtain ⟨Y, hY⟩ : ∃ Y, Y = w1.alloc (.cells #[.func (Fn.func 87) #[] #[], .func (Fn.func 57) #[] #[]] 60) := ⟨_, rfl⟩
  have HY : Hid (Below W.heap.size W Y ∧ Y.heap[W.heap.size]? = some (.cells #[.int .i64 0, .int .i64 0, .int .i64 0, .int .i64 0, .int .i64 0, .int .i64 0, .int .i64 0] 51) ∧ RG 7 jbC Y (.slice a n c) l ∧ Y.cell? ⟨w1.heap.size, 0, none⟩ = some (.func (Fn.func 87) #[] #[]) ∧ Y.cell? ⟨w1.heap.size, 1, none⟩ = some (.func (Fn.func 57) #[] #[]) ∧ w1.heap.size < Y.heap.size) := by
    have hb : Below w1.heap.size w1 Y := by rw [hY]; (repeat' (first | (with_reducible exact Below.refl _ _) | (with_reducible assumption) | (with_reducible refine Below.setCell ?_ ?_ _) | (with_reducible refine Below.alloc ?_ ?_ _) | (with_reducible refine below_drewN ?_ _) | (with_reducible refine Below.drew ?_) | (with_reducible exact Nat.le_refl _) | omega | (simp; done) | (simp; omega)))
    refine ⟨HW1.out.1.trans (hb.mono HW1.out.1.size), (hb.block _ (ltOfQ HW1.out.2.1)).trans HW1.out.2.1, HW1.out.2.2.below hb, by rw [hY]; exact cellOfQ (heap_alloc_new _ _) 0 rfl, by rw [hY]; exact cellOfQ (heap_alloc_new _ _) 1 rfl, by rw [hY]; simp⟩
  have HSB : Hid (Calls Try.prog 55 #[.slice a n c, .slice (some ⟨w1.heap.size, 0, none⟩) 2 2] Y fun e w' => ∃ v, e = .returned v ∧ OG 51 7 jbC w' Y.heap.size v R ∧ Below Y.heap.size Y w') := by
    have hn2 := HX.out.2.2.2.1
    have := sb_run (c := orC 2 now) (q := w1.heap.size) (k := 2) (l := l) (a := a) (cc := c) (W := Y) (by rw [← hn2]; exact hn9) (by rw [← hn2]; exact HX.out.2.2.2.2.1) (by rw [← hn2]; exact HY.out.2.2.1) (fun X2 p lo h1 h2 h3 h4 h5 => by
      have e1 : orC 2 now = lexC duC idC := rfl
      rw [e1]
      exact clo_du_id h1 h2 (Nat.lt_of_lt_of_le HY.out.2.2.2.2.2 h4) ((h3.cell (p := ⟨w1.heap.size, 0, none⟩) HY.out.2.2.2.2.2).trans HY.out.2.2.2.1) ((h3.cell (p := ⟨w1.heap.size, 1, none⟩) HY.out.2.2.2.2.2).trans HY.out.2.2.2.2.1) h5)
    rw [← hn2] at this
    rw [← HX.out.2.2.2.2.2.1] at this
    exact this
  clear hk hb1 HW1
  go_wp2_with (fail)
  rw [← hY]
  clear hY
  refine HSB.out.mono ?_
  rintro e w2 ⟨v, rfl, ho, hb2⟩
  obtain ⟨va, vc, hvv⟩ := ho.fm
  rw [← HX.out.2.2.2.2.2.2.1] at hvv
  subst hvv
  have HB : Hid (Below W.heap.size W w2 ∧ w2.heap[W.heap.size]? = some (.cells #[.int .i64 0, .int .i64 0, .int .i64 0, .int .i64 0, .int .i64 0, .int .i64 0, .int .i64 0] 51) ∧ RG 7 jbC w2 (.slice va n vc) R) := ⟨HY.out.1.trans (hb2.mono HY.out.1.size), (hb2.block _ (ltOfQ HY.out.2.1)).trans HY.out.2.1, OG.rg jbC_len ho⟩
  have hRp : 0 < R.length := by rw [← HX.out.2.2.2.2.2.2.1]; exact HX.out.2.2.2.2.2.2.2
  have hnp : 0 < n := HX.out.2.2.2.2.2.2.2
  obtain ⟨g, o, c9, he, hg, hj⟩ := HB.out.2.2.pos (by omega)
  simp only [Value.slice.injEq] at he
  obtain ⟨rfl, hx1, hx2⟩ := he
  clear hx1 hx2
  obtain ⟨c0, c1, c2, c3, c4, c5, c6⟩ := jbC_at (hj 0 hRp)
  simp only [Nat.zero_mul, Nat.add_zero] at c0 c1 c2 c3 c4 c5 c6
  obtain ⟨j, hj2⟩ : ∃ j, j = R[0] := ⟨_, rfl⟩
  rw [← hj2] at c0 c1 c2 c3 c4 c5 c6
  have HJ : Hid (j = jA R 0) := by unfold Hid; rw [hj2, jA_at hRp]
  obtain ⟨z0, z1, z2, z3, z4, z5, z6, zl⟩ := jb_cells (j := default) HB.out.2.1
  have f0 := frozOfQ HB.out.2.1 0
  have f1 := frozOfQ HB.out.2.1 1
  have f2 := frozOfQ HB.out.2.1 2
  have f3 := frozOfQ HB.out.2.1 3
  have f4 := frozOfQ HB.out.2.1 4
  have f5 := frozOfQ HB.out.2.1 5
  have f6 := frozOfQ HB.out.2.1 6
  have HBB : Hid (Below W.heap.size W w2) := HB.out.1
  have b0 : (0 : Int) < (n : Int) := by omega
  clear hj hj2 ho hb2 HB HX HY HSB
  go_wp2
  try simp only [Exit.inBlock, Exit.then]
  refine bodyPost_ret (by simp [results, Try.results40, go_sem, z0, z1, z2, z3, z4, z5, z6, zl, f0, f1, f2, f3, f4, f5, f6]; try rfl) rfl ⟨j, HJ.out, by rfl, ?_⟩
  have hb := HBB.out
  (repeat' (first | (with_reducible exact Below.refl _ _) | (with_reducible assumption) | (with_reducible refine Below.setCell ?_ ?_ _) | (with_reducible refine Below.alloc ?_ ?_ _) | (with_reducible refine below_drewN ?_ _) | (with_reducible refine Below.drew ?_) | (with_reducible exact Nat.le_refl _) | omega | (simp; done) | (simp; omega)))

set_option maxRecDepth 10000 in
set_option maxHeartbeats 6400000 in
theorem pick_3 (now : Int) {W : World} {a : Option Addr} {c : Nat} {l : List Jb} (hn : l.length ≤ 39) (hpos : 0 < l.length) (hnc : NCj a l.length c) (hs : RG 7 jbC W (.slice a l.length c) l) :
    Calls Try.prog 40 #[.slice a l.length c, .int .i64 3, .int .i64 now] W fun e w' => ∃ j : Jb, j = jA (stbF (orC 3 now) l.length l) 0 ∧ e = .returned (.agg #[.int .i64 j.id, .int .i64 j.co, .int .i64 j.ti, .int .i64 j.se, .int .i64 j.du, .int .i64 j.we, .int .i64 j.ki]) ∧ Below W.heap.size W w' := by
  obtain ⟨X, hX⟩ : ∃ X, X = W.alloc (.cells #[.int .i64 0, .int .i64 0, .int .i64 0, .int .i64 0, .int .i64 0, .int .i64 0, .int .i64 0] 51) := ⟨_, rfl⟩
  obtain ⟨n, hnn⟩ : ∃ n, n = l.length := ⟨_, rfl⟩
  obtain ⟨R, hR⟩ : ∃ R, R = stbF (orC 3 now) n l := ⟨_, rfl⟩
  have hRl : n = R.length := by rw [hR, hnn]; exact (stbF_len _ l).symm
  have HX : Hid (Below W.heap.size W X ∧ X.heap[W.heap.size]? = some (.cells #[.int .i64 0, .int .i64 0, .int .i64 0, .int .i64 0, .int .i64 0, .int .i64 0, .int .i64 0] 51) ∧ RG 7 jbC X (.slice a n c) l ∧ n = l.length ∧ NCj a n c ∧ R = stbF (orC 3 now) n l ∧ n = R.length ∧ 0 < n) := by
    have hb : Below W.heap.size W X := by rw [hX]; (repeat' (first | (with_reducible exact Below.refl _ _) | (with_reducible assumption) | (with_reducible refine Below.setCell ?_ ?_ _) | (with_reducible refine Below.alloc ?_ ?_ _) | (with_reducible refine below_drewN ?_ _) | (with_reducible refine Below.drew ?_) | (with_reducible exact Nat.le_refl _) | omega | (simp; done) | (simp; omega)))
    refine ⟨hb, by rw [hX]; exact heap_alloc_new _ _, by rw [hnn]; exact hs.below hb, hnn, by rw [hnn]; exact hnc, hR, hRl, by rw [hnn]; exact hpos⟩
  have hn9 : n ≤ 39 := by rw [hnn]; exact hn
  rw [← hnn, ← hR]
  clear hnn hR hRl hs hnc hpos hn
  go_enter Try.func40, Try.ntmps40
  go_wp2_with (fail)
  rw [← hX]
  clear hX
  refine (impl_ro 3 now (by omega) X).mono ?_
  rintro e w1 ⟨k, he, hk, hb1⟩
  rw [show ROv 3 k = .func (Fn.func 56) #[] #[] from rfl] at he
  subst he
  have HW1 : Hid (Below W.heap.size W w1 ∧ w1.heap[W.heap.size]? = some (.cells #[.int .i64 0, .int .i64 0, .int .i64 0, .int .i64 0, .int .i64 0, .int .i64 0, .int .i64 0] 51) ∧ RG 7 jbC w1 (.slice a n c) l) :=
    ⟨HX.out.1.trans (hb1.mono HX.out.1.size), (hb1.block _ (ltOfQ HX.out.2.1)).trans HX.out.2.1, HX.out.2.2.1.below hb1⟩
  obtain ⟨Y, hY⟩ : ∃ Y, Y = w1.alloc (.cells #[.func (Fn.func 56) #[] #[], .func (Fn.func 57) #[] #[]] 60) := ⟨_, rfl⟩
  have HY : Hid (Below W.heap.size W Y ∧ Y.heap[W.heap.size]? = some (.cells #[.int .i64 0, .int .i64 0, .int .i64 0, .int .i64 0, .int .i64 0, .int .i64 0, .int .i64 0] 51) ∧ RG 7 jbC Y (.slice a n c) l ∧ Y.cell? ⟨w1.heap.size, 0, none⟩ = some (.func (Fn.func 56) #[] #[]) ∧ Y.cell? ⟨w1.heap.size, 1, none⟩ = some (.func (Fn.func 57) #[] #[]) ∧ w1.heap.size < Y.heap.size) := by
    have hb : Below w1.heap.size w1 Y := by rw [hY]; (repeat' (first | (with_reducible exact Below.refl _ _) | (with_reducible assumption) | (with_reducible refine Below.setCell ?_ ?_ _) | (with_reducible refine Below.alloc ?_ ?_ _) | (with_reducible refine below_drewN ?_ _) | (with_reducible refine Below.drew ?_) | (with_reducible exact Nat.le_refl _) | omega | (simp; done) | (simp; omega)))
    refine ⟨HW1.out.1.trans (hb.mono HW1.out.1.size), (hb.block _ (ltOfQ HW1.out.2.1)).trans HW1.out.2.1, HW1.out.2.2.below hb, by rw [hY]; exact cellOfQ (heap_alloc_new _ _) 0 rfl, by rw [hY]; exact cellOfQ (heap_alloc_new _ _) 1 rfl, by rw [hY]; simp⟩
  have HSB : Hid (Calls Try.prog 55 #[.slice a n c, .slice (some ⟨w1.heap.size, 0, none⟩) 2 2] Y fun e w' => ∃ v, e = .returned v ∧ OG 51 7 jbC w' Y.heap.size v R ∧ Below Y.heap.size Y w') := by
    have hn2 := HX.out.2.2.2.1
    have := sb_run (c := orC 3 now) (q := w1.heap.size) (k := 2) (l := l) (a := a) (cc := c) (W := Y) (by rw [← hn2]; exact hn9) (by rw [← hn2]; exact HX.out.2.2.2.2.1) (by rw [← hn2]; exact HY.out.2.2.1) (fun X2 p lo h1 h2 h3 h4 h5 => by
      have e1 : orC 3 now = lexC tiC idC := rfl
      rw [e1]
      exact clo_ti_id h1 h2 (Nat.lt_of_lt_of_le HY.out.2.2.2.2.2 h4) ((h3.cell (p := ⟨w1.heap.size, 0, none⟩) HY.out.2.2.2.2.2).trans HY.out.2.2.2.1) ((h3.cell (p := ⟨w1.heap.size, 1, none⟩) HY.out.2.2.2.2.2).trans HY.out.2.2.2.2.1) h5)
    rw [← hn2] at this
    rw [← HX.out.2.2.2.2.2.1] at this
    exact this
  clear hk hb1 HW1
  go_wp2_with (fail)
  rw [← hY]
  clear hY
  refine HSB.out.mono ?_
  rintro e w2 ⟨v, rfl, ho, hb2⟩
  obtain ⟨va, vc, hvv⟩ := ho.fm
  rw [← HX.out.2.2.2.2.2.2.1] at hvv
  subst hvv
  have HB : Hid (Below W.heap.size W w2 ∧ w2.heap[W.heap.size]? = some (.cells #[.int .i64 0, .int .i64 0, .int .i64 0, .int .i64 0, .int .i64 0, .int .i64 0, .int .i64 0] 51) ∧ RG 7 jbC w2 (.slice va n vc) R) := ⟨HY.out.1.trans (hb2.mono HY.out.1.size), (hb2.block _ (ltOfQ HY.out.2.1)).trans HY.out.2.1, OG.rg jbC_len ho⟩
  have hRp : 0 < R.length := by rw [← HX.out.2.2.2.2.2.2.1]; exact HX.out.2.2.2.2.2.2.2
  have hnp : 0 < n := HX.out.2.2.2.2.2.2.2
  obtain ⟨g, o, c9, he, hg, hj⟩ := HB.out.2.2.pos (by omega)
  simp only [Value.slice.injEq] at he
  obtain ⟨rfl, hx1, hx2⟩ := he
  clear hx1 hx2
  obtain ⟨c0, c1, c2, c3, c4, c5, c6⟩ := jbC_at (hj 0 hRp)
  simp only [Nat.zero_mul, Nat.add_zero] at c0 c1 c2 c3 c4 c5 c6
  obtain ⟨j, hj2⟩ : ∃ j, j = R[0] := ⟨_, rfl⟩
  rw [← hj2] at c0 c1 c2 c3 c4 c5 c6
  have HJ : Hid (j = jA R 0) := by unfold Hid; rw [hj2, jA_at hRp]
  obtain ⟨z0, z1, z2, z3, z4, z5, z6, zl⟩ := jb_cells (j := default) HB.out.2.1
  have f0 := frozOfQ HB.out.2.1 0
  have f1 := frozOfQ HB.out.2.1 1
  have f2 := frozOfQ HB.out.2.1 2
  have f3 := frozOfQ HB.out.2.1 3
  have f4 := frozOfQ HB.out.2.1 4
  have f5 := frozOfQ HB.out.2.1 5
  have f6 := frozOfQ HB.out.2.1 6
  have HBB : Hid (Below W.heap.size W w2) := HB.out.1
  have b0 : (0 : Int) < (n : Int) := by omega
  clear hj hj2 ho hb2 HB HX HY HSB
  go_wp2
  try simp only [Exit.inBlock, Exit.then]
  refine bodyPost_ret (by simp [results, Try.results40, go_sem, z0, z1, z2, z3, z4, z5, z6, zl, f0, f1, f2, f3, f4, f5, f6]; try rfl) rfl ⟨j, HJ.out, by rfl, ?_⟩
  have hb := HBB.out
  (repeat' (first | (with_reducible exact Below.refl _ _) | (with_reducible assumption) | (with_reducible refine Below.setCell ?_ ?_ _) | (with_reducible refine Below.alloc ?_ ?_ _) | (with_reducible refine below_drewN ?_ _) | (with_reducible refine Below.drew ?_) | (with_reducible exact Nat.le_refl _) | omega | (simp; done) | (simp; omega)))

set_option maxRecDepth 10000 in
set_option maxHeartbeats 6400000 in
theorem pick_4 (now : Int) {W : World} {a : Option Addr} {c : Nat} {l : List Jb} (hn : l.length ≤ 39) (hpos : 0 < l.length) (hnc : NCj a l.length c) (hs : RG 7 jbC W (.slice a l.length c) l) :
    Calls Try.prog 40 #[.slice a l.length c, .int .i64 4, .int .i64 now] W fun e w' => ∃ j : Jb, j = jA (stbF (orC 4 now) l.length l) 0 ∧ e = .returned (.agg #[.int .i64 j.id, .int .i64 j.co, .int .i64 j.ti, .int .i64 j.se, .int .i64 j.du, .int .i64 j.we, .int .i64 j.ki]) ∧ Below W.heap.size W w' := by
  obtain ⟨X, hX⟩ : ∃ X, X = W.alloc (.cells #[.int .i64 0, .int .i64 0, .int .i64 0, .int .i64 0, .int .i64 0, .int .i64 0, .int .i64 0] 51) := ⟨_, rfl⟩
  obtain ⟨n, hnn⟩ : ∃ n, n = l.length := ⟨_, rfl⟩
  obtain ⟨R, hR⟩ : ∃ R, R = stbF (orC 4 now) n l := ⟨_, rfl⟩
  have hRl : n = R.length := by rw [hR, hnn]; exact (stbF_len _ l).symm
  have HX : Hid (Below W.heap.size W X ∧ X.heap[W.heap.size]? = some (.cells #[.int .i64 0, .int .i64 0, .int .i64 0, .int .i64 0, .int .i64 0, .int .i64 0, .int .i64 0] 51) ∧ RG 7 jbC X (.slice a n c) l ∧ n = l.length ∧ NCj a n c ∧ R = stbF (orC 4 now) n l ∧ n = R.length ∧ 0 < n) := by
    have hb : Below W.heap.size W X := by rw [hX]; (repeat' (first | (with_reducible exact Below.refl _ _) | (with_reducible assumption) | (with_reducible refine Below.setCell ?_ ?_ _) | (with_reducible refine Below.alloc ?_ ?_ _) | (with_reducible refine below_drewN ?_ _) | (with_reducible refine Below.drew ?_) | (with_reducible exact Nat.le_refl _) | omega | (simp; done) | (simp; omega)))
    refine ⟨hb, by rw [hX]; exact heap_alloc_new _ _, by rw [hnn]; exact hs.below hb, hnn, by rw [hnn]; exact hnc, hR, hRl, by rw [hnn]; exact hpos⟩
  have hn9 : n ≤ 39 := by rw [hnn]; exact hn
  rw [← hnn, ← hR]
  clear hnn hR hRl hs hnc hpos hn
  go_enter Try.func40, Try.ntmps40
  go_wp2_with (fail)
  rw [← hX]
  clear hX
  refine (impl_ro 4 now (by omega) X).mono ?_
  rintro e w1 ⟨k, he, hk, hb1⟩
  rw [show ROv 4 k = .func (Fn.func 92) #[] #[.pointer (some ⟨k, 0, none⟩)] from rfl] at he
  subst he
  have HW1 : Hid (Below W.heap.size W w1 ∧ w1.heap[W.heap.size]? = some (.cells #[.int .i64 0, .int .i64 0, .int .i64 0, .int .i64 0, .int .i64 0, .int .i64 0, .int .i64 0] 51) ∧ RG 7 jbC w1 (.slice a n c) l ∧ w1.cell? ⟨k, 0, none⟩ = some (.int .i64 now) ∧ k < w1.heap.size) :=
    ⟨HX.out.1.trans (hb1.mono HX.out.1.size), (hb1.block _ (ltOfQ HX.out.2.1)).trans HX.out.2.1, HX.out.2.2.1.below hb1, (hk rfl).1, (hk rfl).2⟩
  obtain ⟨Y, hY⟩ : ∃ Y, Y = w1.alloc (.cells #[.func (Fn.func 92) #[] #[.pointer (some ⟨k, 0, none⟩)], .func (Fn.func 57) #[] #[]] 60) := ⟨_, rfl⟩
  have HY : Hid (Below W.heap.size W Y ∧ Y.heap[W.heap.size]? = some (.cells #[.int .i64 0, .int .i64 0, .int .i64 0, .int .i64 0, .int .i64 0, .int .i64 0, .int .i64 0] 51) ∧ RG 7 jbC Y (.slice a n c) l ∧ Y.cell? ⟨w1.heap.size, 0, none⟩ = some (.func (Fn.func 92) #[] #[.pointer (some ⟨k, 0, none⟩)]) ∧ Y.cell? ⟨w1.heap.size, 1, none⟩ = some (.func (Fn.func 57) #[] #[]) ∧ w1.heap.size < Y.heap.size ∧ Y.cell? ⟨k, 0, none⟩ = some (.int .i64 now) ∧ k < Y.heap.size) := by
    have hb : Below w1.heap.size w1 Y := by rw [hY]; (repeat' (first | (with_reducible exact Below.refl _ _) | (with_reducible assumption) | (with_reducible refine Below.setCell ?_ ?_ _) | (with_reducible refine Below.alloc ?_ ?_ _) | (with_reducible refine below_drewN ?_ _) | (with_reducible refine Below.drew ?_) | (with_reducible exact Nat.le_refl _) | omega | (simp; done) | (simp; omega)))
    refine ⟨HW1.out.1.trans (hb.mono HW1.out.1.size), (hb.block _ (ltOfQ HW1.out.2.1)).trans HW1.out.2.1, HW1.out.2.2.1.below hb, by rw [hY]; exact cellOfQ (heap_alloc_new _ _) 0 rfl, by rw [hY]; exact cellOfQ (heap_alloc_new _ _) 1 rfl, by rw [hY]; simp, (hb.cell (p := ⟨k, 0, none⟩) HW1.out.2.2.2.2).trans HW1.out.2.2.2.1, Nat.lt_of_lt_of_le HW1.out.2.2.2.2 hb.size⟩
  have HSB : Hid (Calls Try.prog 55 #[.slice a n c, .slice (some ⟨w1.heap.size, 0, none⟩) 2 2] Y fun e w' => ∃ v, e = .returned v ∧ OG 51 7 jbC w' Y.heap.size v R ∧ Below Y.heap.size Y w') := by
    have hn2 := HX.out.2.2.2.1
    have := sb_run (c := orC 4 now) (q := w1.heap.size) (k := 2) (l := l) (a := a) (cc := c) (W := Y) (by rw [← hn2]; exact hn9) (by rw [← hn2]; exact HX.out.2.2.2.2.1) (by rw [← hn2]; exact HY.out.2.2.1) (fun X2 p lo h1 h2 h3 h4 h5 => by
      have e1 : orC 4 now = lexC (raC now) idC := rfl
      rw [e1]
      exact clo_ra_id now h1 h2 (Nat.lt_of_lt_of_le HY.out.2.2.2.2.2.1 h4) ((h3.cell (p := ⟨k, 0, none⟩) HY.out.2.2.2.2.2.2.2).trans HY.out.2.2.2.2.2.2.1) (Nat.lt_of_lt_of_le HY.out.2.2.2.2.2.2.2 h4) ((h3.cell (p := ⟨w1.heap.size, 0, none⟩) HY.out.2.2.2.2.2.1).trans HY.out.2.2.2.1) ((h3.cell (p := ⟨w1.heap.size, 1, none⟩) HY.out.2.2.2.2.2.1).trans HY.out.2.2.2.2.1) h5)
    rw [← hn2] at this
    rw [← HX.out.2.2.2.2.2.1] at this
    exact this
  clear hk hb1 HW1
  go_wp2_with (fail)
  rw [← hY]
  clear hY
  refine HSB.out.mono ?_
  rintro e w2 ⟨v, rfl, ho, hb2⟩
  obtain ⟨va, vc, hvv⟩ := ho.fm
  rw [← HX.out.2.2.2.2.2.2.1] at hvv
  subst hvv
  have HB : Hid (Below W.heap.size W w2 ∧ w2.heap[W.heap.size]? = some (.cells #[.int .i64 0, .int .i64 0, .int .i64 0, .int .i64 0, .int .i64 0, .int .i64 0, .int .i64 0] 51) ∧ RG 7 jbC w2 (.slice va n vc) R) := ⟨HY.out.1.trans (hb2.mono HY.out.1.size), (hb2.block _ (ltOfQ HY.out.2.1)).trans HY.out.2.1, OG.rg jbC_len ho⟩
  have hRp : 0 < R.length := by rw [← HX.out.2.2.2.2.2.2.1]; exact HX.out.2.2.2.2.2.2.2
  have hnp : 0 < n := HX.out.2.2.2.2.2.2.2
  obtain ⟨g, o, c9, he, hg, hj⟩ := HB.out.2.2.pos (by omega)
  simp only [Value.slice.injEq] at he
  obtain ⟨rfl, hx1, hx2⟩ := he
  clear hx1 hx2
  obtain ⟨c0, c1, c2, c3, c4, c5, c6⟩ := jbC_at (hj 0 hRp)
  simp only [Nat.zero_mul, Nat.add_zero] at c0 c1 c2 c3 c4 c5 c6
  obtain ⟨j, hj2⟩ : ∃ j, j = R[0] := ⟨_, rfl⟩
  rw [← hj2] at c0 c1 c2 c3 c4 c5 c6
  have HJ : Hid (j = jA R 0) := by unfold Hid; rw [hj2, jA_at hRp]
  obtain ⟨z0, z1, z2, z3, z4, z5, z6, zl⟩ := jb_cells (j := default) HB.out.2.1
  have f0 := frozOfQ HB.out.2.1 0
  have f1 := frozOfQ HB.out.2.1 1
  have f2 := frozOfQ HB.out.2.1 2
  have f3 := frozOfQ HB.out.2.1 3
  have f4 := frozOfQ HB.out.2.1 4
  have f5 := frozOfQ HB.out.2.1 5
  have f6 := frozOfQ HB.out.2.1 6
  have HBB : Hid (Below W.heap.size W w2) := HB.out.1
  have b0 : (0 : Int) < (n : Int) := by omega
  clear hj hj2 ho hb2 HB HX HY HSB
  go_wp2
  try simp only [Exit.inBlock, Exit.then]
  refine bodyPost_ret (by simp [results, Try.results40, go_sem, z0, z1, z2, z3, z4, z5, z6, zl, f0, f1, f2, f3, f4, f5, f6]; try rfl) rfl ⟨j, HJ.out, by rfl, ?_⟩
  have hb := HBB.out
  (repeat' (first | (with_reducible exact Below.refl _ _) | (with_reducible assumption) | (with_reducible refine Below.setCell ?_ ?_ _) | (with_reducible refine Below.alloc ?_ ?_ _) | (with_reducible refine below_drewN ?_ _) | (with_reducible refine Below.drew ?_) | (with_reducible exact Nat.le_refl _) | omega | (simp; done) | (simp; omega)))

end Go.Proofs.Ytjbghflphngnkaa
