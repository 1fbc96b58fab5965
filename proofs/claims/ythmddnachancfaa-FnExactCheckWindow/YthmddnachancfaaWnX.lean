/- Proved here: LargestWindow of the model; windows compared and copied in the laws. -/
import Derived.Test.YthmddnachancfaaWnV
namespace Go.Proofs.Ythmddnachancfaa
open Go.RowKit
set_option linter.unusedVariables false
set_option linter.unusedSimpArgs false

set_option maxRecDepth 10000 in
set_option maxHeartbeats 6400000 in
theorem spec_lw {w : World} {v : Value} {ls : List (List Int)} (hn : SmR ls) (h : RdR w v ls) :
    Calls Try.prog 20 #[v] w fun e w' => e = .returned (.agg #[.int .i64 (lwC ls), .int .i64 (lwW ls).a, .int .i64 (lwW ls).x0, .int .i64 (lwW ls).y0, .int .i64 (lwW ls).x1, .int .i64 (lwW ls).y1]) ∧ Below w.heap.size w w' := by
  obtain ⟨a, c, rfl⟩ := h.form
  obtain ⟨n, hnn⟩ : ∃ n, n = ls.length := ⟨_, rfl⟩
  obtain ⟨C, hC⟩ : ∃ C, C = pmC ls := ⟨_, rfl⟩
  obtain ⟨D, hD⟩ : ∃ C, C = lwC ls := ⟨_, rfl⟩
  obtain ⟨E, hE⟩ : ∃ C, C = lwW ls := ⟨_, rfl⟩
  rw [← hD, ← hE]
  have HDE : Hid (D = (if C = 0 then (if (lwB ls).a = 0 then 4 else 0) else C) ∧ E = if D = 0 then lwB ls else wz) := ⟨by rw [hD, hC]; rfl, by rw [hE, hD]; rfl⟩
  rw [← hnn] at h ⊢
  have HF : Hid (∀ W, Below w.heap.size w W → Calls Try.prog 45 #[.slice a n c] W fun e w' => e = .returned (.int .i64 C) ∧ Below W.heap.size W w') := fun W hW => by rw [hC]; exact spec_pm hn (h.below hW)
  have H : Hid (RdR w (.slice a n c) ls ∧ n = ls.length ∧ C = pmC ls) := ⟨h, hnn, hC⟩
  clear h hn hC hnn hD hE
  go_enter Try.func20, Try.ntmps20
  go_wp2_with (fail)
  refine (HF.out _ (by (repeat' (first | (with_reducible exact Below.refl _ _) | (with_reducible assumption) | (with_reducible refine Below.setCell ?_ ?_ _) | (with_reducible refine Below.alloc ?_ ?_ _) | (with_reducible refine below_drewN ?_ _) | (with_reducible refine Below.drew ?_) | (with_reducible exact Nat.le_refl _) | omega | (simp; done) | (simp; omega))))).mono ?_
  rintro e w1 ⟨rfl, hb1⟩
  have k2 := (hb1.block w.heap.size (by simp)).trans (heap_alloc_new w (.cells #[.int .i64 0, .int .i64 0, .int .i64 0, .int .i64 0, .int .i64 0, .int .i64 0] 36))
  have HB : Hid (Below w.heap.size w w1 ∧ w1.heap[w.heap.size]? = some (.cells #[.int .i64 0, .int .i64 0, .int .i64 0, .int .i64 0, .int .i64 0, .int .i64 0] 36)) := ⟨(show Below w.heap.size w _ from by (repeat' (first | (with_reducible exact Below.refl _ _) | (with_reducible assumption) | (with_reducible refine Below.setCell ?_ ?_ _) | (with_reducible refine Below.alloc ?_ ?_ _) | (with_reducible refine below_drewN ?_ _) | (with_reducible refine Below.drew ?_) | (with_reducible exact Nat.le_refl _) | omega | (simp; done) | (simp; omega)))).trans (hb1.mono (by simp)), k2⟩
  clear HF hb1 k2
  by_cases hA0 : C = 0
  case neg =>
    have HV : Hid (D = C ∧ E = wz) := by
      have := HDE.out; rw [if_neg hA0] at this; refine ⟨this.1, ?_⟩; rw [this.2, if_neg (by rw [this.1]; exact hA0)]
    have hA1 : (C != 0) = true := by simpa using hA0
    obtain ⟨r0, r1, r2, r3, r4, r5, rf, rl⟩ := sixS HB.out.2
    have f0 := rf 0
    have f1 := rf 1
    have f2 := rf 2
    have f3 := rf 3
    have f4 := rf 4
    have f5 := rf 5
    clear rf
    go_wp2
    try simp only [Exit.inBlock, Exit.then]
    refine bodyPost_ret (by simp [results, Try.results20, go_sem, r0, r1, r2, r3, r4, r5, rl]; try rfl) rfl ⟨by rw [HV.out.1, HV.out.2]; rfl, ?_⟩
    have hb := HB.out.1
    (repeat' (first | (with_reducible exact Below.refl _ _) | (with_reducible assumption) | (with_reducible refine Below.setCell ?_ ?_ _) | (with_reducible refine Below.alloc ?_ ?_ _) | (with_reducible refine below_drewN ?_ _) | (with_reducible refine Below.drew ?_) | (with_reducible exact Nat.le_refl _) | omega | (simp; done) | (simp; omega)))
  obtain ⟨b, hb⟩ : ∃ b, b = lwB ls := ⟨_, rfl⟩
  have HBST : Hid (Calls Try.prog 48 #[.slice a n c] w1 fun e w' => e = .returned (.tuple #[.agg #[.int .i64 b.x0, .int .i64 b.y0, .int .i64 b.x1, .int .i64 b.y1], .int .i64 b.a]) ∧ Below w1.heap.size w1 w') := by
    rw [hb]; exact spec_best (pmC_good (H.out.2.2.symm.trans hA0)) (H.out.1.below HB.out.1)
  have HV : Hid (D = (if b.a = 0 then 4 else 0) ∧ E = if D = 0 then b else wz) := by
    have := HDE.out; rw [if_pos hA0] at this; rw [hb]; exact this
  clear HDE hb H
  subst hA0
  go_wp2_with (fail)
  refine HBST.out.mono ?_
  rintro e w2 ⟨rfl, hb2⟩
  have HB2 : Hid (Below w.heap.size w w2 ∧ w2.heap[w.heap.size]? = some (.cells #[.int .i64 0, .int .i64 0, .int .i64 0, .int .i64 0, .int .i64 0, .int .i64 0] 36)) := ⟨HB.out.1.trans (hb2.mono HB.out.1.size), (hb2.block _ (ltOf HB.out.2)).trans HB.out.2⟩
  clear HBST hb2 HB
  obtain ⟨V, hV⟩ : ∃ V, V = w2.alloc (.cells #[.int .i64 b.x0, .int .i64 b.y0, .int .i64 b.x1, .int .i64 b.y1] 34) := ⟨_, rfl⟩
  have HB3 : Hid (Below w.heap.size w V ∧ V.heap[w.heap.size]? = some (.cells #[.int .i64 0, .int .i64 0, .int .i64 0, .int .i64 0, .int .i64 0, .int .i64 0] 36) ∧ V.heap[w2.heap.size]? = some (.cells #[.int .i64 b.x0, .int .i64 b.y0, .int .i64 b.x1, .int .i64 b.y1] 34)) := by
    have hbV : Below w2.heap.size w2 V := by rw [hV]; (repeat' (first | (with_reducible exact Below.refl _ _) | (with_reducible assumption) | (with_reducible refine Below.setCell ?_ ?_ _) | (with_reducible refine Below.alloc ?_ ?_ _) | (with_reducible refine below_drewN ?_ _) | (with_reducible refine Below.drew ?_) | (with_reducible exact Nat.le_refl _) | omega | (simp; done) | (simp; omega)))
    exact ⟨HB2.out.1.trans (hbV.mono HB2.out.1.size), (hbV.block _ (ltOf HB2.out.2)).trans HB2.out.2, by rw [hV]; exact heap_alloc_new w2 _⟩
  obtain ⟨r0, r1, r2, r3, r4, r5, rf, rl⟩ := sixS HB3.out.2.1
  have f0 := rf 0
  have f1 := rf 1
  have f2 := rf 2
  have f3 := rf 3
  have f4 := rf 4
  have f5 := rf 5
  clear rf
  obtain ⟨d0, d1, d2, d3, df0, df1, df2, df3, dl⟩ := box4 HB3.out.2.2
  go_upto_region 5 with fail
  rw [← hV]
  clear hV
  by_cases hz : b.a = 0
  · have HZ : Hid (D = 4 ∧ E = wz) := by
      have := HV.out; rw [if_pos hz] at this; refine ⟨this.1, ?_⟩; rw [this.2, if_neg (by rw [this.1]; decide)]
    have hz1 : (b.a == 0) = true := by simpa using hz
    clear hz
    go_wp2
    try simp only [Exit.inBlock, Exit.then]
    refine bodyPost_ret (by simp [results, Try.results20, go_sem, r0, r1, r2, r3, r4, r5, rl]; try rfl) rfl ⟨by rw [HZ.out.1, HZ.out.2]; rfl, ?_⟩
    have hb := HB3.out.1
    (repeat' (first | (with_reducible exact Below.refl _ _) | (with_reducible assumption) | (with_reducible refine Below.setCell ?_ ?_ _) | (with_reducible refine Below.alloc ?_ ?_ _) | (with_reducible refine below_drewN ?_ _) | (with_reducible refine Below.drew ?_) | (with_reducible exact Nat.le_refl _) | omega | (simp; done) | (simp; omega)))
  · have HZ : Hid (D = 0 ∧ E = b) := by
      have := HV.out; rw [if_neg hz] at this; refine ⟨this.1, ?_⟩; rw [this.2, if_pos this.1]
    have hz1 : (b.a == 0) = false := by simpa using hz
    go_wp2
    try simp only [Exit.inBlock, Exit.then]
    refine bodyPost_ret (by simp [results, Try.results20, go_sem, r0, r1, r2, r3, r4, r5, rl]; try rfl) rfl ⟨by rw [HZ.out.1, HZ.out.2], ?_⟩
    have hb := HB3.out.1
    (repeat' (first | (with_reducible exact Below.refl _ _) | (with_reducible assumption) | (with_reducible refine Below.setCell ?_ ?_ _) | (with_reducible refine Below.alloc ?_ ?_ _) | (with_reducible refine below_drewN ?_ _) | (with_reducible refine Below.drew ?_) | (with_reducible exact Nat.le_refl _) | omega | (simp; done) | (simp; omega)))

end Go.Proofs.Ythmddnachancfaa
