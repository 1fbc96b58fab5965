/- Proved here: a new memory, of the program. -/
import Derived.Test.YtbjdalcbdbphkaaRmI
import Derived.Test.YtbjdalcbdbphkaaUnd
import Derived.Laws.CopyOwn
import Derived.Laws.Tables
namespace Go.Proofs.Ytbjdalcbdbphkaa
open Go.RowKit
set_option linter.unusedVariables false
set_option linter.unusedSimpArgs false

theorem mbL_arr (f : Mf) (m : Nat → Int) : ((mbL f m).map (Value.int .i64)).toArray = #[.int .i64 f.k, .int .i64 (f.c : Int), .int .i64 f.b, .int .i64 f.v, .int .i64 (m 0), .int .i64 (m 1), .int .i64 (m 2), .int .i64 (m 3), .int .i64 (m 4), .int .i64 (m 5), .int .i64 (m 6), .int .i64 (m 7), .int .i64 (m 8), .int .i64 (m 9), .int .i64 (m 10), .int .i64 (m 11)] := by
  simp [mbL, List.range_succ]
theorem CB.of_arr {w : World} {g : Nat} {f : Mf} {m : Nat → Int} (h : w.heap[g]? = some (.cells #[.int .i64 f.k, .int .i64 (f.c : Int), .int .i64 f.b, .int .i64 f.v, .int .i64 (m 0), .int .i64 (m 1), .int .i64 (m 2), .int .i64 (m 3), .int .i64 (m 4), .int .i64 (m 5), .int .i64 (m 6), .int .i64 (m 7), .int .i64 (m 8), .int .i64 (m 9), .int .i64 (m 10), .int .i64 (m 11)] 110)) : CB w g 110 (mbL f m) := by
  unfold CB; rw [mbL_arr]; exact h

set_option maxRecDepth 100000 in
set_option maxHeartbeats 12800000 in
theorem impl_nm (f : Mf) (hc12 : f.c < 12) (W : World) :
    Calls Try.prog 82 #[.agg #[.int .i64 f.k, .int .i64 (f.c : Int), .int .i64 f.b, .int .i64 f.v]] W fun e w' => e = .returned (.agg #[.int .i64 f.k, .int .i64 (f.c : Int), .int .i64 f.b, .int .i64 f.v, .int .i64 (m0M f 0), .int .i64 (m0M f 1), .int .i64 (m0M f 2), .int .i64 (m0M f 3), .int .i64 (m0M f 4), .int .i64 (m0M f 5), .int .i64 (m0M f 6), .int .i64 (m0M f 7), .int .i64 (m0M f 8), .int .i64 (m0M f 9), .int .i64 (m0M f 10), .int .i64 (m0M f 11)]) ∧ Below W.heap.size W w' := by
  obtain ⟨V, hV⟩ : ∃ V, V = ((W.alloc (.cells #[.int .i64 f.k, .int .i64 (f.c : Int), .int .i64 f.b, .int .i64 f.v] 31)).alloc (.cells #[.int .i64 0, .int .i64 0, .int .i64 0, .int .i64 0, .int .i64 0, .int .i64 0, .int .i64 0, .int .i64 0, .int .i64 0, .int .i64 0, .int .i64 0, .int .i64 0, .int .i64 0, .int .i64 0, .int .i64 0, .int .i64 0] 110)).alloc (.cells #[.int .i64 f.k, .int .i64 (f.c : Int), .int .i64 f.b, .int .i64 f.v, .int .i64 0, .int .i64 0, .int .i64 0, .int .i64 0, .int .i64 0, .int .i64 0, .int .i64 0, .int .i64 0, .int .i64 0, .int .i64 0, .int .i64 0, .int .i64 0] 110) := ⟨_, rfl⟩
  have HV : Hid (Below W.heap.size W V ∧ V.heap[W.heap.size]? = some (.cells #[.int .i64 f.k, .int .i64 (f.c : Int), .int .i64 f.b, .int .i64 f.v] 31) ∧ V.heap[W.heap.size + 1]? = some (.cells #[.int .i64 0, .int .i64 0, .int .i64 0, .int .i64 0, .int .i64 0, .int .i64 0, .int .i64 0, .int .i64 0, .int .i64 0, .int .i64 0, .int .i64 0, .int .i64 0, .int .i64 0, .int .i64 0, .int .i64 0, .int .i64 0] 110) ∧ CB V (W.heap.size + 2) 110 (mbL f (fun _ => 0)) ∧ V.heap.size = W.heap.size + 3) := by
    rw [hV]
    refine ⟨by (repeat' (first | (with_reducible exact Below.refl _ _) | (with_reducible assumption) | (with_reducible refine Below.setCell ?_ ?_ _) | (with_reducible refine Below.alloc ?_ ?_ _) | (with_reducible refine below_drewN ?_ _) | (with_reducible refine Below.drew ?_) | (with_reducible exact Nat.le_refl _) | omega | (simp; done) | (simp; omega))), ?_, ?_, ?_, by simp⟩
    · rw [heap_alloc_old _ _ (by simp; omega), heap_alloc_old _ _ (by simp)]; exact heap_alloc_new _ _
    · rw [heap_alloc_old _ _ (by simp)]
      have h9 := heap_alloc_new (W.alloc (.cells #[.int .i64 f.k, .int .i64 (f.c : Int), .int .i64 f.b, .int .i64 f.v] 31)) (.cells #[.int .i64 0, .int .i64 0, .int .i64 0, .int .i64 0, .int .i64 0, .int .i64 0, .int .i64 0, .int .i64 0, .int .i64 0, .int .i64 0, .int .i64 0, .int .i64 0, .int .i64 0, .int .i64 0, .int .i64 0, .int .i64 0] 110)
      simpa using h9
    · refine CB.of_arr (m := fun _ => 0) ?_
      have h9 := heap_alloc_new ((W.alloc (.cells #[.int .i64 f.k, .int .i64 (f.c : Int), .int .i64 f.b, .int .i64 f.v] 31)).alloc (.cells #[.int .i64 0, .int .i64 0, .int .i64 0, .int .i64 0, .int .i64 0, .int .i64 0, .int .i64 0, .int .i64 0, .int .i64 0, .int .i64 0, .int .i64 0, .int .i64 0, .int .i64 0, .int .i64 0, .int .i64 0, .int .i64 0] 110)) (.cells #[.int .i64 f.k, .int .i64 (f.c : Int), .int .i64 f.b, .int .i64 f.v, .int .i64 0, .int .i64 0, .int .i64 0, .int .i64 0, .int .i64 0, .int .i64 0, .int .i64 0, .int .i64 0, .int .i64 0, .int .i64 0, .int .i64 0, .int .i64 0] 110)
      simpa using h9
  have p0 : V.cell? ⟨W.heap.size, 0, none⟩ = some (.int .i64 f.k) := cellOfQ HV.out.2.1 0 rfl
  have p1 : V.cell? ⟨W.heap.size, 1, none⟩ = some (.int .i64 (f.c : Int)) := cellOfQ HV.out.2.1 1 rfl
  have p3 : V.cell? ⟨W.heap.size, 3, none⟩ = some (.int .i64 f.v) := cellOfQ HV.out.2.1 3 rfl
  have pl : W.heap.size < V.heap.size := by rw [HV.out.2.2.2.2]; omega
  have pl2 : W.heap.size + 1 + 1 < V.heap.size := by rw [HV.out.2.2.2.2]; omega
  obtain ⟨n0, n1, _⟩ := HV.out.2.2.2.1.at (mbL_at f (fun _ => 0) hc12)
  have bc : (0 : Int) ≤ (f.c : Int) := by omega
  have bc2 : (f.c : Int) < 12 := by omega
  obtain ⟨M, hM⟩ : ∃ M, M = m0M f := ⟨_, rfl⟩
  have HM : Hid (M = m0M f) := hM
  rw [← hM]
  clear hM
  have HT : Hid (∀ V3 : World, Below W.heap.size W V3 → V3.heap[W.heap.size + 1]? = some (.cells #[.int .i64 0, .int .i64 0, .int .i64 0, .int .i64 0, .int .i64 0, .int .i64 0, .int .i64 0, .int .i64 0, .int .i64 0, .int .i64 0, .int .i64 0, .int .i64 0, .int .i64 0, .int .i64 0, .int .i64 0, .int .i64 0] 110) → CB V3 (W.heap.size + 2) 110 (mbL f M) → True) := fun _ _ _ _ => trivial
  go_enter Try.func82, Try.ntmps82
  go_upto_region 2 with (fail)
  rw [← hV]
  clear hV
  by_cases e1 : f.k = 1
  · obtain ⟨V3, hV3⟩ : ∃ V3, V3 = V.setCell ⟨W.heap.size + 2, 4 + f.c, none⟩ (.int .i64 f.v) := ⟨_, rfl⟩
    have H3 : Hid (Below W.heap.size W V3 ∧ V3.heap[W.heap.size + 1]? = some (.cells #[.int .i64 0, .int .i64 0, .int .i64 0, .int .i64 0, .int .i64 0, .int .i64 0, .int .i64 0, .int .i64 0, .int .i64 0, .int .i64 0, .int .i64 0, .int .i64 0, .int .i64 0, .int .i64 0, .int .i64 0, .int .i64 0] 110) ∧ CB V3 (W.heap.size + 2) 110 (mbL f M)) := by
      rw [hV3]
      refine ⟨HV.out.1.setCell (by simp) _, ?_, ?_⟩
      · rw [heap_setCell_other _ _ _ _ (by simp)]; exact HV.out.2.2.1
      · have h9 := HV.out.2.2.2.1.set (4 + f.c) f.v
        rw [mbL_set] at h9
        rw [HM.out, m0M, if_pos e1]; exact h9
    go_upto_region 4 with (fail)
    rw [show W.heap.size + 1 + 1 = W.heap.size + 2 by omega, ← hV3]
    clear hV3
    as_aux_lemma =>
      have r0 : V3.cell? ⟨W.heap.size + 2, 0, none⟩ = some (.int .i64 f.k) := (H3.out.2.2.at (mbL_f f M).1).1
      have r1 : V3.cell? ⟨W.heap.size + 2, 1, none⟩ = some (.int .i64 (f.c : Int)) := (H3.out.2.2.at (mbL_f f M).2.1).1
      have r2 : V3.cell? ⟨W.heap.size + 2, 2, none⟩ = some (.int .i64 f.b) := (H3.out.2.2.at (mbL_f f M).2.2.1).1
      have r3 : V3.cell? ⟨W.heap.size + 2, 3, none⟩ = some (.int .i64 f.v) := (H3.out.2.2.at (mbL_f f M).2.2.2).1
      have r4 : V3.cell? ⟨W.heap.size + 2, 4, none⟩ = some (.int .i64 (M 0)) := (H3.out.2.2.at (mbL_at f M (show 0 < 12 by omega))).1
      have r5 : V3.cell? ⟨W.heap.size + 2, 5, none⟩ = some (.int .i64 (M 1)) := (H3.out.2.2.at (mbL_at f M (show 1 < 12 by omega))).1
      have r6 : V3.cell? ⟨W.heap.size + 2, 6, none⟩ = some (.int .i64 (M 2)) := (H3.out.2.2.at (mbL_at f M (show 2 < 12 by omega))).1
      have r7 : V3.cell? ⟨W.heap.size + 2, 7, none⟩ = some (.int .i64 (M 3)) := (H3.out.2.2.at (mbL_at f M (show 3 < 12 by omega))).1
      have r8 : V3.cell? ⟨W.heap.size + 2, 8, none⟩ = some (.int .i64 (M 4)) := (H3.out.2.2.at (mbL_at f M (show 4 < 12 by omega))).1
      have r9 : V3.cell? ⟨W.heap.size + 2, 9, none⟩ = some (.int .i64 (M 5)) := (H3.out.2.2.at (mbL_at f M (show 5 < 12 by omega))).1
      have r10 : V3.cell? ⟨W.heap.size + 2, 10, none⟩ = some (.int .i64 (M 6)) := (H3.out.2.2.at (mbL_at f M (show 6 < 12 by omega))).1
      have r11 : V3.cell? ⟨W.heap.size + 2, 11, none⟩ = some (.int .i64 (M 7)) := (H3.out.2.2.at (mbL_at f M (show 7 < 12 by omega))).1
      have r12 : V3.cell? ⟨W.heap.size + 2, 12, none⟩ = some (.int .i64 (M 8)) := (H3.out.2.2.at (mbL_at f M (show 8 < 12 by omega))).1
      have r13 : V3.cell? ⟨W.heap.size + 2, 13, none⟩ = some (.int .i64 (M 9)) := (H3.out.2.2.at (mbL_at f M (show 9 < 12 by omega))).1
      have r14 : V3.cell? ⟨W.heap.size + 2, 14, none⟩ = some (.int .i64 (M 10)) := (H3.out.2.2.at (mbL_at f M (show 10 < 12 by omega))).1
      have r15 : V3.cell? ⟨W.heap.size + 2, 15, none⟩ = some (.int .i64 (M 11)) := (H3.out.2.2.at (mbL_at f M (show 11 < 12 by omega))).1
      have hi16 : (Try.prog.info? 110).map (·.size) = some 16 := by kernel_rfl
      have h116 : (#[.int .i64 f.k, .int .i64 (f.c : Int), .int .i64 f.b, .int .i64 f.v, .int .i64 (M 0), .int .i64 (M 1), .int .i64 (M 2), .int .i64 (M 3), .int .i64 (M 4), .int .i64 (M 5), .int .i64 (M 6), .int .i64 (M 7), .int .i64 (M 8), .int .i64 (M 9), .int .i64 (M 10), .int .i64 (M 11)] : Array Value).all (·.oneCell') = true := by simp [Value.oneCell']
      have H4 : Hid (∀ V4, V4 = V3.setRow (W.heap.size + 1) #[.int .i64 f.k, .int .i64 (f.c : Int), .int .i64 f.b, .int .i64 f.v, .int .i64 (M 0), .int .i64 (M 1), .int .i64 (M 2), .int .i64 (M 3), .int .i64 (M 4), .int .i64 (M 5), .int .i64 (M 6), .int .i64 (M 7), .int .i64 (M 8), .int .i64 (M 9), .int .i64 (M 10), .int .i64 (M 11)] → Below W.heap.size W V4 ∧ V4.heap[W.heap.size + 1]? = some (.cells #[.int .i64 f.k, .int .i64 (f.c : Int), .int .i64 f.b, .int .i64 f.v, .int .i64 (M 0), .int .i64 (M 1), .int .i64 (M 2), .int .i64 (M 3), .int .i64 (M 4), .int .i64 (M 5), .int .i64 (M 6), .int .i64 (M 7), .int .i64 (M 8), .int .i64 (M 9), .int .i64 (M 10), .int .i64 (M 11)] 110)) := by
        rintro V4 rfl
        exact ⟨below_setRow H3.out.1 (by omega) _, setRow_heap V3 _ _ _ _ _ H3.out.2.1⟩
      have HZ : Hid (V3.heap[W.heap.size + 1]? = some (.cells #[.int .i64 0, .int .i64 0, .int .i64 0, .int .i64 0, .int .i64 0, .int .i64 0, .int .i64 0, .int .i64 0, .int .i64 0, .int .i64 0, .int .i64 0, .int .i64 0, .int .i64 0, .int .i64 0, .int .i64 0, .int .i64 0] 110)) := H3.out.2.1
      clear H3 HV HT e1 HM p0 p1 p3 n0 n1
      go_wp2_with (refine wpList_store_row rfl 110 _ _ rfl (W.heap.size + 1) #[.int .i64 f.k, .int .i64 (f.c : Int), .int .i64 f.b, .int .i64 f.v, .int .i64 (M 0), .int .i64 (M 1), .int .i64 (M 2), .int .i64 (M 3), .int .i64 (M 4), .int .i64 (M 5), .int .i64 (M 6), .int .i64 (M 7), .int .i64 (M 8), .int .i64 (M 9), .int .i64 (M 10), .int .i64 (M 11)] rfl rfl 110 #[.int .i64 0, .int .i64 0, .int .i64 0, .int .i64 0, .int .i64 0, .int .i64 0, .int .i64 0, .int .i64 0, .int .i64 0, .int .i64 0, .int .i64 0, .int .i64 0, .int .i64 0, .int .i64 0, .int .i64 0, .int .i64 0] HZ.out hi16 rfl h116 ?_)
      obtain ⟨V4, hV4⟩ : ∃ V4, V4 = V3.setRow (W.heap.size + 1) #[.int .i64 f.k, .int .i64 (f.c : Int), .int .i64 f.b, .int .i64 f.v, .int .i64 (M 0), .int .i64 (M 1), .int .i64 (M 2), .int .i64 (M 3), .int .i64 (M 4), .int .i64 (M 5), .int .i64 (M 6), .int .i64 (M 7), .int .i64 (M 8), .int .i64 (M 9), .int .i64 (M 10), .int .i64 (M 11)] := ⟨_, rfl⟩
      rw [← hV4]
      have H5 : Hid _ := H4.out V4 hV4
      clear hV4
      have q0 : V4.cell? ⟨W.heap.size + 1, 0, none⟩ = some (.int .i64 f.k) := cellOfQ H5.out.2 0 rfl
      have q1 : V4.cell? ⟨W.heap.size + 1, 1, none⟩ = some (.int .i64 (f.c : Int)) := cellOfQ H5.out.2 1 rfl
      have q2 : V4.cell? ⟨W.heap.size + 1, 2, none⟩ = some (.int .i64 f.b) := cellOfQ H5.out.2 2 rfl
      have q3 : V4.cell? ⟨W.heap.size + 1, 3, none⟩ = some (.int .i64 f.v) := cellOfQ H5.out.2 3 rfl
      have q4 : V4.cell? ⟨W.heap.size + 1, 4, none⟩ = some (.int .i64 (M 0)) := cellOfQ H5.out.2 4 rfl
      have q5 : V4.cell? ⟨W.heap.size + 1, 5, none⟩ = some (.int .i64 (M 1)) := cellOfQ H5.out.2 5 rfl
      have q6 : V4.cell? ⟨W.heap.size + 1, 6, none⟩ = some (.int .i64 (M 2)) := cellOfQ H5.out.2 6 rfl
      have q7 : V4.cell? ⟨W.heap.size + 1, 7, none⟩ = some (.int .i64 (M 3)) := cellOfQ H5.out.2 7 rfl
      have q8 : V4.cell? ⟨W.heap.size + 1, 8, none⟩ = some (.int .i64 (M 4)) := cellOfQ H5.out.2 8 rfl
      have q9 : V4.cell? ⟨W.heap.size + 1, 9, none⟩ = some (.int .i64 (M 5)) := cellOfQ H5.out.2 9 rfl
      have q10 : V4.cell? ⟨W.heap.size + 1, 10, none⟩ = some (.int .i64 (M 6)) := cellOfQ H5.out.2 10 rfl
      have q11 : V4.cell? ⟨W.heap.size + 1, 11, none⟩ = some (.int .i64 (M 7)) := cellOfQ H5.out.2 11 rfl
      have q12 : V4.cell? ⟨W.heap.size + 1, 12, none⟩ = some (.int .i64 (M 8)) := cellOfQ H5.out.2 12 rfl
      have q13 : V4.cell? ⟨W.heap.size + 1, 13, none⟩ = some (.int .i64 (M 9)) := cellOfQ H5.out.2 13 rfl
      have q14 : V4.cell? ⟨W.heap.size + 1, 14, none⟩ = some (.int .i64 (M 10)) := cellOfQ H5.out.2 14 rfl
      have q15 : V4.cell? ⟨W.heap.size + 1, 15, none⟩ = some (.int .i64 (M 11)) := cellOfQ H5.out.2 15 rfl
      try simp only [Exit.inBlock, Exit.then]
      exact bodyPost_ret (by simp [results, Try.results82, go_sem, q0, q1, q2, q3, q4, q5, q6, q7, q8, q9, q10, q11, q12, q13, q14, q15]; try rfl) rfl ⟨rfl, H5.out.1⟩
  · obtain ⟨V3, hV3⟩ : ∃ V3, V3 = V := ⟨_, rfl⟩
    have H3 : Hid (Below W.heap.size W V3 ∧ V3.heap[W.heap.size + 1]? = some (.cells #[.int .i64 0, .int .i64 0, .int .i64 0, .int .i64 0, .int .i64 0, .int .i64 0, .int .i64 0, .int .i64 0, .int .i64 0, .int .i64 0, .int .i64 0, .int .i64 0, .int .i64 0, .int .i64 0, .int .i64 0, .int .i64 0] 110) ∧ CB V3 (W.heap.size + 2) 110 (mbL f M)) := by
      rw [hV3]
      refine ⟨HV.out.1, HV.out.2.2.1, ?_⟩
      rw [HM.out, m0M, if_neg e1]; exact HV.out.2.2.2.1
    have e1b : (f.k == 1) = false := by simpa using e1
    go_upto_region 4 with (fail)
    rw [show W.heap.size + 1 + 1 = W.heap.size + 2 by omega, ← hV3]
    clear hV3
    as_aux_lemma =>
      have r0 : V3.cell? ⟨W.heap.size + 2, 0, none⟩ = some (.int .i64 f.k) := (H3.out.2.2.at (mbL_f f M).1).1
      have r1 : V3.cell? ⟨W.heap.size + 2, 1, none⟩ = some (.int .i64 (f.c : Int)) := (H3.out.2.2.at (mbL_f f M).2.1).1
      have r2 : V3.cell? ⟨W.heap.size + 2, 2, none⟩ = some (.int .i64 f.b) := (H3.out.2.2.at (mbL_f f M).2.2.1).1
      have r3 : V3.cell? ⟨W.heap.size + 2, 3, none⟩ = some (.int .i64 f.v) := (H3.out.2.2.at (mbL_f f M).2.2.2).1
      have r4 : V3.cell? ⟨W.heap.size + 2, 4, none⟩ = some (.int .i64 (M 0)) := (H3.out.2.2.at (mbL_at f M (show 0 < 12 by omega))).1
      have r5 : V3.cell? ⟨W.heap.size + 2, 5, none⟩ = some (.int .i64 (M 1)) := (H3.out.2.2.at (mbL_at f M (show 1 < 12 by omega))).1
      have r6 : V3.cell? ⟨W.heap.size + 2, 6, none⟩ = some (.int .i64 (M 2)) := (H3.out.2.2.at (mbL_at f M (show 2 < 12 by omega))).1
      have r7 : V3.cell? ⟨W.heap.size + 2, 7, none⟩ = some (.int .i64 (M 3)) := (H3.out.2.2.at (mbL_at f M (show 3 < 12 by omega))).1
      have r8 : V3.cell? ⟨W.heap.size + 2, 8, none⟩ = some (.int .i64 (M 4)) := (H3.out.2.2.at (mbL_at f M (show 4 < 12 by omega))).1
      have r9 : V3.cell? ⟨W.heap.size + 2, 9, none⟩ = some (.int .i64 (M 5)) := (H3.out.2.2.at (mbL_at f M (show 5 < 12 by omega))).1
      have r10 : V3.cell? ⟨W.heap.size + 2, 10, none⟩ = some (.int .i64 (M 6)) := (H3.out.2.2.at (mbL_at f M (show 6 < 12 by omega))).1
      have r11 : V3.cell? ⟨W.heap.size + 2, 11, none⟩ = some (.int .i64 (M 7)) := (H3.out.2.2.at (mbL_at f M (show 7 < 12 by omega))).1
      have r12 : V3.cell? ⟨W.heap.size + 2, 12, none⟩ = some (.int .i64 (M 8)) := (H3.out.2.2.at (mbL_at f M (show 8 < 12 by omega))).1
      have r13 : V3.cell? ⟨W.heap.size + 2, 13, none⟩ = some (.int .i64 (M 9)) := (H3.out.2.2.at (mbL_at f M (show 9 < 12 by omega))).1
      have r14 : V3.cell? ⟨W.heap.size + 2, 14, none⟩ = some (.int .i64 (M 10)) := (H3.out.2.2.at (mbL_at f M (show 10 < 12 by omega))).1
      have r15 : V3.cell? ⟨W.heap.size + 2, 15, none⟩ = some (.int .i64 (M 11)) := (H3.out.2.2.at (mbL_at f M (show 11 < 12 by omega))).1
      have hi16 : (Try.prog.info? 110).map (·.size) = some 16 := by kernel_rfl
      have h116 : (#[.int .i64 f.k, .int .i64 (f.c : Int), .int .i64 f.b, .int .i64 f.v, .int .i64 (M 0), .int .i64 (M 1), .int .i64 (M 2), .int .i64 (M 3), .int .i64 (M 4), .int .i64 (M 5), .int .i64 (M 6), .int .i64 (M 7), .int .i64 (M 8), .int .i64 (M 9), .int .i64 (M 10), .int .i64 (M 11)] : Array Value).all (·.oneCell') = true := by simp [Value.oneCell']
      have H4 : Hid (∀ V4, V4 = V3.setRow (W.heap.size + 1) #[.int .i64 f.k, .int .i64 (f.c : Int), .int .i64 f.b, .int .i64 f.v, .int .i64 (M 0), .int .i64 (M 1), .int .i64 (M 2), .int .i64 (M 3), .int .i64 (M 4), .int .i64 (M 5), .int .i64 (M 6), .int .i64 (M 7), .int .i64 (M 8), .int .i64 (M 9), .int .i64 (M 10), .int .i64 (M 11)] → Below W.heap.size W V4 ∧ V4.heap[W.heap.size + 1]? = some (.cells #[.int .i64 f.k, .int .i64 (f.c : Int), .int .i64 f.b, .int .i64 f.v, .int .i64 (M 0), .int .i64 (M 1), .int .i64 (M 2), .int .i64 (M 3), .int .i64 (M 4), .int .i64 (M 5), .int .i64 (M 6), .int .i64 (M 7), .int .i64 (M 8), .int .i64 (M 9), .int .i64 (M 10), .int .i64 (M 11)] 110)) := by
        rintro V4 rfl
        exact ⟨below_setRow H3.out.1 (by omega) _, setRow_heap V3 _ _ _ _ _ H3.out.2.1⟩
      have HZ : Hid (V3.heap[W.heap.size + 1]? = some (.cells #[.int .i64 0, .int .i64 0, .int .i64 0, .int .i64 0, .int .i64 0, .int .i64 0, .int .i64 0, .int .i64 0, .int .i64 0, .int .i64 0, .int .i64 0, .int .i64 0, .int .i64 0, .int .i64 0, .int .i64 0, .int .i64 0] 110)) := H3.out.2.1
      clear H3 HV HT e1 HM p0 p1 p3 n0 n1
      go_wp2_with (refine wpList_store_row rfl 110 _ _ rfl (W.heap.size + 1) #[.int .i64 f.k, .int .i64 (f.c : Int), .int .i64 f.b, .int .i64 f.v, .int .i64 (M 0), .int .i64 (M 1), .int .i64 (M 2), .int .i64 (M 3), .int .i64 (M 4), .int .i64 (M 5), .int .i64 (M 6), .int .i64 (M 7), .int .i64 (M 8), .int .i64 (M 9), .int .i64 (M 10), .int .i64 (M 11)] rfl rfl 110 #[.int .i64 0, .int .i64 0, .int .i64 0, .int .i64 0, .int .i64 0, .int .i64 0, .int .i64 0, .int .i64 0, .int .i64 0, .int .i64 0, .int .i64 0, .int .i64 0, .int .i64 0, .int .i64 0, .int .i64 0, .int .i64 0] HZ.out hi16 rfl h116 ?_)
      obtain ⟨V4, hV4⟩ : ∃ V4, V4 = V3.setRow (W.heap.size + 1) #[.int .i64 f.k, .int .i64 (f.c : Int), .int .i64 f.b, .int .i64 f.v, .int .i64 (M 0), .int .i64 (M 1), .int .i64 (M 2), .int .i64 (M 3), .int .i64 (M 4), .int .i64 (M 5), .int .i64 (M 6), .int .i64 (M 7), .int .i64 (M 8), .int .i64 (M 9), .int .i64 (M 10), .int .i64 (M 11)] := ⟨_, rfl⟩
      rw [← hV4]
      have H5 : Hid _ := H4.out V4 hV4
      clear hV4
      have q0 : V4.cell? ⟨W.heap.size + 1, 0, none⟩ = some (.int .i64 f.k) := cellOfQ H5.out.2 0 rfl
      have q1 : V4.cell? ⟨W.heap.size + 1, 1, none⟩ = some (.int .i64 (f.c : Int)) := cellOfQ H5.out.2 1 rfl
      have q2 : V4.cell? ⟨W.heap.size + 1, 2, none⟩ = some (.int .i64 f.b) := cellOfQ H5.out.2 2 rfl
      have q3 : V4.cell? ⟨W.heap.size + 1, 3, none⟩ = some (.int .i64 f.v) := cellOfQ H5.out.2 3 rfl
      have q4 : V4.cell? ⟨W.heap.size + 1, 4, none⟩ = some (.int .i64 (M 0)) := cellOfQ H5.out.2 4 rfl
      have q5 : V4.cell? ⟨W.heap.size + 1, 5, none⟩ = some (.int .i64 (M 1)) := cellOfQ H5.out.2 5 rfl
      have q6 : V4.cell? ⟨W.heap.size + 1, 6, none⟩ = some (.int .i64 (M 2)) := cellOfQ H5.out.2 6 rfl
      have q7 : V4.cell? ⟨W.heap.size + 1, 7, none⟩ = some (.int .i64 (M 3)) := cellOfQ H5.out.2 7 rfl
      have q8 : V4.cell? ⟨W.heap.size + 1, 8, none⟩ = some (.int .i64 (M 4)) := cellOfQ H5.out.2 8 rfl
      have q9 : V4.cell? ⟨W.heap.size + 1, 9, none⟩ = some (.int .i64 (M 5)) := cellOfQ H5.out.2 9 rfl
      have q10 : V4.cell? ⟨W.heap.size + 1, 10, none⟩ = some (.int .i64 (M 6)) := cellOfQ H5.out.2 10 rfl
      have q11 : V4.cell? ⟨W.heap.size + 1, 11, none⟩ = some (.int .i64 (M 7)) := cellOfQ H5.out.2 11 rfl
      have q12 : V4.cell? ⟨W.heap.size + 1, 12, none⟩ = some (.int .i64 (M 8)) := cellOfQ H5.out.2 12 rfl
      have q13 : V4.cell? ⟨W.heap.size + 1, 13, none⟩ = some (.int .i64 (M 9)) := cellOfQ H5.out.2 13 rfl
      have q14 : V4.cell? ⟨W.heap.size + 1, 14, none⟩ = some (.int .i64 (M 10)) := cellOfQ H5.out.2 14 rfl
      have q15 : V4.cell? ⟨W.heap.size + 1, 15, none⟩ = some (.int .i64 (M 11)) := cellOfQ H5.out.2 15 rfl
      try simp only [Exit.inBlock, Exit.then]
      exact bodyPost_ret (by simp [results, Try.results82, go_sem, q0, q1, q2, q3, q4, q5, q6, q7, q8, q9, q10, q11, q12, q13, q14, q15]; try rfl) rfl ⟨rfl, H5.out.1⟩

end Go.Proofs.Ytbjdalcbdbphkaa
