/- Proved here: a recipe loaded, of the program. -/
import Derived.Test.YtkacfjbhkgdpdaaEvM
namespace Go.Proofs.Ytkacfjbhkgdpdaa
open Go.RowKit
set_option linter.unusedVariables false
set_option linter.unusedSimpArgs false

theorem drew_heap (W : World) (q : Nat) : W.drew.heap[q]? = W.heap[q]? := rfl

set_option maxRecDepth 10000 in
set_option maxHeartbeats 3200000 in
theorem mt_load_n (A : Int) (R : ByteArray) (S U L : Int) (Q : Bool) (a : Option Addr) (n c : Nat) (k : Int) (er : ByteArray) (es : Int) (w : World) (s : List Ap) (hn : n ≤ 1048576) (h : RG 2 apC w (.slice a n c) s) (hap : apB s er es = false) :
    Calls Try.prog 87 #[.agg #[.int .i64 A, .string R, .int .i64 S, .int .i64 U, .int .i64 L, .bool Q, .slice a n c], .agg #[.int .i64 k, .string er, .int .i64 es]] w fun e w' => e = .returned (.agg #[.int .i64 4, .int .i64 0, .string ⟨#[]⟩, .int .i64 0, .int .i64 0, .int .i64 0, .bool false, .slice none 0 0]) ∧ Below w.heap.size w w' := by
  have HC : Hid (∀ W, Below w.heap.size w W → Calls Try.prog 59 #[.agg #[.int .i64 A, .string R, .int .i64 S, .int .i64 U, .int .i64 L, .bool Q, .slice a n c], .string er, .int .i64 es] W fun e w' => e = .returned (.bool false) ∧ Below W.heap.size W w') := fun W hb => by
    have h9 := impl_ia A R S U L Q er es (by rw [← h.len]; exact hn) (h.below hb)
    rw [hap] at h9
    exact h9
  clear h hn hap
  have HS : Hid (S3 w (.cells #[.int .i64 A, .string R, .int .i64 S, .int .i64 U, .int .i64 L, .bool Q, .slice a n c] 95) (.cells #[.int .i64 k, .string er, .int .i64 es] 36) (.cells #[.int .i64 0, .int .i64 0, .string ⟨#[]⟩, .int .i64 0, .int .i64 0, .int .i64 0, .bool false, .slice none 0 0] 33) (((w.alloc (.cells #[.int .i64 A, .string R, .int .i64 S, .int .i64 U, .int .i64 L, .bool Q, .slice a n c] 95)).alloc (.cells #[.int .i64 k, .string er, .int .i64 es] 36)).alloc (.cells #[.int .i64 0, .int .i64 0, .string ⟨#[]⟩, .int .i64 0, .int .i64 0, .int .i64 0, .bool false, .slice none 0 0] 33))) := S3.new _ _ _ _
  go_enter Try.func87, Try.ntmps87
  go_upto_region 1 with fail
  obtain ⟨W, hW⟩ : ∃ X9, X9 = ((w.alloc (.cells #[.int .i64 A, .string R, .int .i64 S, .int .i64 U, .int .i64 L, .bool Q, .slice a n c] 95)).alloc (.cells #[.int .i64 k, .string er, .int .i64 es] 36)).alloc (.cells #[.int .i64 0, .int .i64 0, .string ⟨#[]⟩, .int .i64 0, .int .i64 0, .int .i64 0, .bool false, .slice none 0 0] 33) := ⟨_, rfl⟩
  rw [← hW] at HS ⊢
  clear hW
  obtain ⟨p0, p1, p2, p3, p4, p5, p6, pl⟩ := tf_seven HS.out.b0
  have e0 := HS.out.b1
  have e1 := cellOf e0 1 rfl
  have e2 := cellOf e0 2 rfl
  have el := ltOf e0
  clear e0
  go_wp2_with (fail)
  refine (HC.out _ HS.out.bl).mono ?_
  rintro e w1 ⟨rfl, hb1⟩
  have HT : Hid (S3 w (.cells #[.int .i64 A, .string R, .int .i64 S, .int .i64 U, .int .i64 L, .bool Q, .slice a n c] 95) (.cells #[.int .i64 k, .string er, .int .i64 es] 36) (.cells #[.int .i64 0, .int .i64 0, .string ⟨#[]⟩, .int .i64 0, .int .i64 0, .int .i64 0, .bool false, .slice none 0 0] 33) w1) := HS.out.next hb1
  clear hb1 HS HC p0 p1 p2 p3 p4 p5 p6 pl e1 e2 el
  obtain ⟨p0, p1, p2, p3, p4, p5, p6, pl⟩ := tf_seven HT.out.b0
  obtain ⟨e1, e2, el⟩ : w1.cell? ⟨w.heap.size + 1, 1, none⟩ = some (.string er) ∧ w1.cell? ⟨w.heap.size + 1, 2, none⟩ = some (.int .i64 es) ∧ w.heap.size + 1 < w1.heap.size := ⟨cellOf HT.out.b1 1 rfl, cellOf HT.out.b1 2 rfl, ltOf HT.out.b1⟩
  obtain ⟨⟨q0, q1, q2, q3, q4, q5, q6, q7⟩, ⟨qf0, qf1, qf2, qf3, qf4, qf5, qf6, qf7⟩, ql⟩ := tr_eight HT.out.b2
  go_wp2
  try simp only [Exit.inBlock, Exit.then]
  refine bodyPost_ret (by simp [results, Try.results87, go_sem, q0, q1, q2, q3, q4, q5, q6, q7]; try rfl) rfl ⟨rfl, ?_⟩
  have hb := HT.out.bl
  (repeat' (first | (with_reducible exact Below.refl _ _) | (with_reducible assumption) | (with_reducible refine Below.setCell ?_ ?_ _) | (with_reducible refine Below.alloc ?_ ?_ _) | (with_reducible refine below_drewN ?_ _) | (with_reducible refine Below.drew ?_) | (with_reducible exact Nat.le_refl _) | omega | (simp; done) | (simp; omega)))

set_option maxRecDepth 10000 in
set_option maxHeartbeats 3200000 in
theorem mt_load_q (A : Int) (R : ByteArray) (S U L : Int) (Q : Bool) (a : Option Addr) (n c : Nat) (k : Int) (er : ByteArray) (es : Int) (w : World) (s : List Ap) (hn : n ≤ 1048576) (h : RG 2 apC w (.slice a n c) s) (hap : apB s er es = true) (hQ : Q = false) :
    Calls Try.prog 87 #[.agg #[.int .i64 A, .string R, .int .i64 S, .int .i64 U, .int .i64 L, .bool Q, .slice a n c], .agg #[.int .i64 k, .string er, .int .i64 es]] w fun e w' => e = .returned (.agg #[.int .i64 7, .int .i64 0, .string ⟨#[]⟩, .int .i64 0, .int .i64 0, .int .i64 0, .bool false, .slice none 0 0]) ∧ Below w.heap.size w w' := by
  subst hQ
  have HC : Hid (∀ W, Below w.heap.size w W → Calls Try.prog 59 #[.agg #[.int .i64 A, .string R, .int .i64 S, .int .i64 U, .int .i64 L, .bool false, .slice a n c], .string er, .int .i64 es] W fun e w' => e = .returned (.bool true) ∧ Below W.heap.size W w') := fun W hb => by
    have h9 := impl_ia A R S U L false er es (by rw [← h.len]; exact hn) (h.below hb)
    rw [hap] at h9
    exact h9
  clear h hn hap
  have HS : Hid (S3 w (.cells #[.int .i64 A, .string R, .int .i64 S, .int .i64 U, .int .i64 L, .bool false, .slice a n c] 95) (.cells #[.int .i64 k, .string er, .int .i64 es] 36) (.cells #[.int .i64 0, .int .i64 0, .string ⟨#[]⟩, .int .i64 0, .int .i64 0, .int .i64 0, .bool false, .slice none 0 0] 33) (((w.alloc (.cells #[.int .i64 A, .string R, .int .i64 S, .int .i64 U, .int .i64 L, .bool false, .slice a n c] 95)).alloc (.cells #[.int .i64 k, .string er, .int .i64 es] 36)).alloc (.cells #[.int .i64 0, .int .i64 0, .string ⟨#[]⟩, .int .i64 0, .int .i64 0, .int .i64 0, .bool false, .slice none 0 0] 33))) := S3.new _ _ _ _
  go_enter Try.func87, Try.ntmps87
  go_upto_region 1 with fail
  obtain ⟨W, hW⟩ : ∃ X9, X9 = ((w.alloc (.cells #[.int .i64 A, .string R, .int .i64 S, .int .i64 U, .int .i64 L, .bool false, .slice a n c] 95)).alloc (.cells #[.int .i64 k, .string er, .int .i64 es] 36)).alloc (.cells #[.int .i64 0, .int .i64 0, .string ⟨#[]⟩, .int .i64 0, .int .i64 0, .int .i64 0, .bool false, .slice none 0 0] 33) := ⟨_, rfl⟩
  rw [← hW] at HS ⊢
  clear hW
  obtain ⟨p0, p1, p2, p3, p4, p5, p6, pl⟩ := tf_seven HS.out.b0
  have e0 := HS.out.b1
  have e1 := cellOf e0 1 rfl
  have e2 := cellOf e0 2 rfl
  have el := ltOf e0
  clear e0
  go_wp2_with (fail)
  refine (HC.out _ HS.out.bl).mono ?_
  rintro e w1 ⟨rfl, hb1⟩
  have HT : Hid (S3 w (.cells #[.int .i64 A, .string R, .int .i64 S, .int .i64 U, .int .i64 L, .bool false, .slice a n c] 95) (.cells #[.int .i64 k, .string er, .int .i64 es] 36) (.cells #[.int .i64 0, .int .i64 0, .string ⟨#[]⟩, .int .i64 0, .int .i64 0, .int .i64 0, .bool false, .slice none 0 0] 33) w1) := HS.out.next hb1
  clear hb1 HS HC p0 p1 p2 p3 p4 p5 p6 pl e1 e2 el
  obtain ⟨p0, p1, p2, p3, p4, p5, p6, pl⟩ := tf_seven HT.out.b0
  obtain ⟨e1, e2, el⟩ : w1.cell? ⟨w.heap.size + 1, 1, none⟩ = some (.string er) ∧ w1.cell? ⟨w.heap.size + 1, 2, none⟩ = some (.int .i64 es) ∧ w.heap.size + 1 < w1.heap.size := ⟨cellOf HT.out.b1 1 rfl, cellOf HT.out.b1 2 rfl, ltOf HT.out.b1⟩
  obtain ⟨⟨q0, q1, q2, q3, q4, q5, q6, q7⟩, ⟨qf0, qf1, qf2, qf3, qf4, qf5, qf6, qf7⟩, ql⟩ := tr_eight HT.out.b2
  go_wp2
  try simp only [Exit.inBlock, Exit.then]
  refine bodyPost_ret (by simp [results, Try.results87, go_sem, q0, q1, q2, q3, q4, q5, q6, q7]; try rfl) rfl ⟨rfl, ?_⟩
  have hb := HT.out.bl
  (repeat' (first | (with_reducible exact Below.refl _ _) | (with_reducible assumption) | (with_reducible refine Below.setCell ?_ ?_ _) | (with_reducible refine Below.alloc ?_ ?_ _) | (with_reducible refine below_drewN ?_ _) | (with_reducible refine Below.drew ?_) | (with_reducible exact Nat.le_refl _) | omega | (simp; done) | (simp; omega)))

set_option maxRecDepth 10000 in
set_option maxHeartbeats 3200000 in
theorem mt_load_y (A : Int) (R : ByteArray) (S U L : Int) (Q : Bool) (a : Option Addr) (n c : Nat) (k : Int) (er : ByteArray) (es : Int) (w : World) (s : List Ap) (hn : n ≤ 1048576) (h : RG 2 apC w (.slice a n c) s) (hap : apB s er es = true) (hQ : Q = true) :
    Calls Try.prog 87 #[.agg #[.int .i64 A, .string R, .int .i64 S, .int .i64 U, .int .i64 L, .bool Q, .slice a n c], .agg #[.int .i64 k, .string er, .int .i64 es]] w fun e w' => e = .returned (.agg #[.int .i64 0, .int .i64 2, .string er, .int .i64 es, .int .i64 U, .int .i64 L, .bool Q, .slice a n c]) ∧ Below w.heap.size w w' := by
  subst hQ
  have HC : Hid (∀ W, Below w.heap.size w W → Calls Try.prog 59 #[.agg #[.int .i64 A, .string R, .int .i64 S, .int .i64 U, .int .i64 L, .bool true, .slice a n c], .string er, .int .i64 es] W fun e w' => e = .returned (.bool true) ∧ Below W.heap.size W w') := fun W hb => by
    have h9 := impl_ia A R S U L true er es (by rw [← h.len]; exact hn) (h.below hb)
    rw [hap] at h9
    exact h9
  clear h hn hap
  have HS : Hid (S3 w (.cells #[.int .i64 A, .string R, .int .i64 S, .int .i64 U, .int .i64 L, .bool true, .slice a n c] 95) (.cells #[.int .i64 k, .string er, .int .i64 es] 36) (.cells #[.int .i64 0, .int .i64 0, .string ⟨#[]⟩, .int .i64 0, .int .i64 0, .int .i64 0, .bool false, .slice none 0 0] 33) (((w.alloc (.cells #[.int .i64 A, .string R, .int .i64 S, .int .i64 U, .int .i64 L, .bool true, .slice a n c] 95)).alloc (.cells #[.int .i64 k, .string er, .int .i64 es] 36)).alloc (.cells #[.int .i64 0, .int .i64 0, .string ⟨#[]⟩, .int .i64 0, .int .i64 0, .int .i64 0, .bool false, .slice none 0 0] 33))) := S3.new _ _ _ _
  go_enter Try.func87, Try.ntmps87
  go_upto_region 1 with fail
  obtain ⟨W, hW⟩ : ∃ X9, X9 = ((w.alloc (.cells #[.int .i64 A, .string R, .int .i64 S, .int .i64 U, .int .i64 L, .bool true, .slice a n c] 95)).alloc (.cells #[.int .i64 k, .string er, .int .i64 es] 36)).alloc (.cells #[.int .i64 0, .int .i64 0, .string ⟨#[]⟩, .int .i64 0, .int .i64 0, .int .i64 0, .bool false, .slice none 0 0] 33) := ⟨_, rfl⟩
  rw [← hW] at HS ⊢
  clear hW
  obtain ⟨p0, p1, p2, p3, p4, p5, p6, pl⟩ := tf_seven HS.out.b0
  have e0 := HS.out.b1
  have e1 := cellOf e0 1 rfl
  have e2 := cellOf e0 2 rfl
  have el := ltOf e0
  clear e0
  go_wp2_with (fail)
  refine (HC.out _ HS.out.bl).mono ?_
  rintro e w1 ⟨rfl, hb1⟩
  have HT : Hid (S3 w (.cells #[.int .i64 A, .string R, .int .i64 S, .int .i64 U, .int .i64 L, .bool true, .slice a n c] 95) (.cells #[.int .i64 k, .string er, .int .i64 es] 36) (.cells #[.int .i64 0, .int .i64 0, .string ⟨#[]⟩, .int .i64 0, .int .i64 0, .int .i64 0, .bool false, .slice none 0 0] 33) w1) := HS.out.next hb1
  clear hb1 HS HC p0 p1 p2 p3 p4 p5 p6 pl e1 e2 el
  obtain ⟨p0, p1, p2, p3, p4, p5, p6, pl⟩ := tf_seven HT.out.b0
  obtain ⟨e1, e2, el⟩ : w1.cell? ⟨w.heap.size + 1, 1, none⟩ = some (.string er) ∧ w1.cell? ⟨w.heap.size + 1, 2, none⟩ = some (.int .i64 es) ∧ w.heap.size + 1 < w1.heap.size := ⟨cellOf HT.out.b1 1 rfl, cellOf HT.out.b1 2 rfl, ltOf HT.out.b1⟩
  go_upto_region 6 with fail
  obtain ⟨V, hV⟩ : ∃ X9, X9 = w1.alloc (.cells #[.int .i64 A, .string R, .int .i64 S, .int .i64 U, .int .i64 L, .bool true, .slice a n c] 31) := ⟨_, rfl⟩
  obtain ⟨K, hK⟩ : ∃ X9, X9 = w1.heap.size := ⟨_, rfl⟩
  have hbV : Below w1.heap.size w1 V := by rw [hV]; (repeat' (first | (with_reducible exact Below.refl _ _) | (with_reducible assumption) | (with_reducible refine Below.setCell ?_ ?_ _) | (with_reducible refine Below.alloc ?_ ?_ _) | (with_reducible refine below_drewN ?_ _) | (with_reducible refine Below.drew ?_) | (with_reducible exact Nat.le_refl _) | omega | (simp; done) | (simp; omega)))
  have kV : V.heap[K]? = some (.cells #[.int .i64 A, .string R, .int .i64 S, .int .i64 U, .int .i64 L, .bool true, .slice a n c] 31) := by rw [hV, hK]; exact heap_alloc_new _ _
  have HW : Hid (S3 w (.cells #[.int .i64 A, .string R, .int .i64 S, .int .i64 U, .int .i64 L, .bool true, .slice a n c] 95) (.cells #[.int .i64 k, .string er, .int .i64 es] 36) (.cells #[.int .i64 0, .int .i64 0, .string ⟨#[]⟩, .int .i64 0, .int .i64 0, .int .i64 0, .bool false, .slice none 0 0] 33) V ∧ w.heap.size + 2 < K ∧ K < V.heap.size) := ⟨HT.out.next hbV, by rw [hK]; exact ltOf HT.out.b2, by rw [hV, hK]; simp⟩
  rw [← hV, ← hK]
  clear hV hK hbV HT p0 p1 p2 p3 p4 p5 p6 pl e1 e2 el
  obtain ⟨e1, e2, el⟩ : V.cell? ⟨w.heap.size + 1, 1, none⟩ = some (.string er) ∧ V.cell? ⟨w.heap.size + 1, 2, none⟩ = some (.int .i64 es) ∧ w.heap.size + 1 < V.heap.size := ⟨cellOf HW.out.1.b1 1 rfl, cellOf HW.out.1.b1 2 rfl, ltOf HW.out.1.b1⟩
  obtain ⟨k0, k1, k2, k3, k4, k5, k6, kl⟩ := tf_seven kV
  have kf0 := frozOf kV 0
  have kf1 := frozOf kV 1
  have kf2 := frozOf kV 2
  have hk0 : ¬ w.heap.size + 1 = K := by have := HW.out.2.1; omega
  have hk1 : ¬ w.heap.size + 2 = K := by have := HW.out.2.1; omega
  have hk2 : ¬ K = w.heap.size + 2 := by have := HW.out.2.1; omega
  go_region
  have k9 : (((((V.setCell ⟨K, 0, none⟩ (.int .i64 2)).setCell ⟨K, 1, none⟩ (.string er)).setCell ⟨K, 2, none⟩ (.int .i64 es)).drew).heap[K]? = some (.cells #[.int .i64 2, .string er, .int .i64 es, .int .i64 U, .int .i64 L, .bool true, .slice a n c] 31)) := by
    have s0 := heap_setCell_same V _ 0 _ _ (.int .i64 2) kV
    have s1 := heap_setCell_same _ _ 1 _ _ (.string er) s0
    have s2 := heap_setCell_same _ _ 2 _ _ (.int .i64 es) s1
    rw [drew_heap]
    simpa using s2
  have HX : Hid (S3 w (.cells #[.int .i64 A, .string R, .int .i64 S, .int .i64 U, .int .i64 L, .bool true, .slice a n c] 95) (.cells #[.int .i64 k, .string er, .int .i64 es] 36) (.cells #[.int .i64 0, .int .i64 0, .string ⟨#[]⟩, .int .i64 0, .int .i64 0, .int .i64 0, .bool false, .slice none 0 0] 33) ((((V.setCell ⟨K, 0, none⟩ (.int .i64 2)).setCell ⟨K, 1, none⟩ (.string er)).setCell ⟨K, 2, none⟩ (.int .i64 es)).drew)) := by
    have hoff : ∀ q, q ≠ K → ((((V.setCell ⟨K, 0, none⟩ (.int .i64 2)).setCell ⟨K, 1, none⟩ (.string er)).setCell ⟨K, 2, none⟩ (.int .i64 es)).drew).heap[q]? = V.heap[q]? := fun q hq => by
      rw [drew_heap, heap_setCell_other _ _ _ _ (by simpa using hq), heap_setCell_other _ _ _ _ (by simpa using hq), heap_setCell_other _ _ _ _ (by simpa using hq)]
    have hKw : w.heap.size ≤ K := by have := HW.out.2.1; omega
    exact ⟨(below_setCells K hKw [.int .i64 es] 2 _ (below_setCells K hKw [.string er] 1 _ (below_setCells K hKw [.int .i64 2] 0 _ HW.out.1.bl))).drew, (hoff _ (by have := HW.out.2.1; omega)).trans HW.out.1.b0, (hoff _ (by have := HW.out.2.1; omega)).trans HW.out.1.b1, (hoff _ (by have := HW.out.2.1; omega)).trans HW.out.1.b2⟩
  obtain ⟨X, hX⟩ : ∃ X9, X9 = (((V.setCell ⟨K, 0, none⟩ (.int .i64 2)).setCell ⟨K, 1, none⟩ (.string er)).setCell ⟨K, 2, none⟩ (.int .i64 es)).drew := ⟨_, rfl⟩
  rw [← hX] at k9 HX ⊢
  clear hX k0 k1 k2 k3 k4 k5 k6 kl kf0 kf1 kf2 e1 e2 el kV hk0 hk1 hk2
  obtain ⟨k0, k1, k2, k3, k4, k5, k6, kl⟩ := tf_seven k9
  clear k9
  obtain ⟨⟨q0, q1, q2, q3, q4, q5, q6, q7⟩, ⟨qf0, qf1, qf2, qf3, qf4, qf5, qf6, qf7⟩, ql⟩ := tr_eight HX.out.b2
  go_wp2
  try simp only [Exit.inBlock, Exit.then]
  refine bodyPost_ret (by simp [results, Try.results87, go_sem, q0, q1, q2, q3, q4, q5, q6, q7]; try rfl) rfl ⟨rfl, ?_⟩
  have hb := HX.out.bl
  (repeat' (first | (with_reducible exact Below.refl _ _) | (with_reducible assumption) | (with_reducible refine Below.setCell ?_ ?_ _) | (with_reducible refine Below.alloc ?_ ?_ _) | (with_reducible refine below_drewN ?_ _) | (with_reducible refine Below.drew ?_) | (with_reducible exact Nat.le_refl _) | omega | (simp; done) | (simp; omega)))

end Go.Proofs.Ytkacfjbhkgdpdaa
