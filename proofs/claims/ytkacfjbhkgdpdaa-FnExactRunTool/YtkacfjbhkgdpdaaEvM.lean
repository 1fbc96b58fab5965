/- Proved here: the events of tools by their state, of the program. -/
import Derived.Test.YtkacfjbhkgdpdaaTaN
import Derived.Test.YtkacfjbhkgdpdaaReg
import Derived.Deep.Cut
namespace Go.Proofs.Ytkacfjbhkgdpdaa
open Go.RowKit
set_option linter.unusedVariables false
set_option linter.unusedSimpArgs false

structure S3 (w : World) (o p q : Obj) (W : World) : Prop where
  bl : Below w.heap.size w W
  b0 : W.heap[w.heap.size]? = some o
  b1 : W.heap[w.heap.size + 1]? = some p
  b2 : W.heap[w.heap.size + 2]? = some q
theorem S3.next {w : World} {o p q : Obj} {V V' : World} (h : S3 w o p q V) (hb : Below V.heap.size V V') : S3 w o p q V' :=
  ⟨h.bl.trans (hb.mono h.bl.size), (hb.block _ (ltOf h.b0)).trans h.b0, (hb.block _ (ltOf h.b1)).trans h.b1, (hb.block _ (ltOf h.b2)).trans h.b2⟩
theorem S3.new (w : World) (o p q : Obj) : S3 w o p q (((w.alloc o).alloc p).alloc q) :=
  ⟨by (repeat' (first | (with_reducible exact Below.refl _ _) | (with_reducible assumption) | (with_reducible refine Below.setCell ?_ ?_ _) | (with_reducible refine Below.alloc ?_ ?_ _) | (with_reducible refine below_drewN ?_ _) | (with_reducible refine Below.drew ?_) | (with_reducible exact Nat.le_refl _) | omega | (simp; done) | (simp; omega))), (Below.heap_alloc _ _ _ (by simp; omega)).trans ((Below.heap_alloc _ _ _ (by simp)).trans (heap_alloc_new w o)), (Below.heap_alloc _ _ _ (by simp)).trans (tw_at1 w o p), tw_at2 w o p q⟩
/-- All but block G is as it was. -/
def KG (G : Nat) (W w : World) : Prop := ∀ b o, b < W.heap.size → ¬ b = G → w.cell? ⟨b, o, none⟩ = W.cell? ⟨b, o, none⟩
theorem KG.of {G : Nat} {W w : World} (hb : ∀ b, b < W.heap.size → ¬ b = G → w.heap[b]? = W.heap[b]?) : KG G W w := fun b o h hr => World.cell?_of_block (a := ⟨b, o, none⟩) (hb b h hr)

set_option maxRecDepth 10000 in
set_option maxHeartbeats 3200000 in
theorem mt_power (A : Int) (R : ByteArray) (S U L : Int) (Q : Bool) (a : Option Addr) (n c : Nat) (k : Int) (er : ByteArray) (es : Int) (w : World) :
    Calls Try.prog 86 #[.agg #[.int .i64 A, .string R, .int .i64 S, .int .i64 U, .int .i64 L, .bool Q, .slice a n c], .agg #[.int .i64 k, .string er, .int .i64 es]] w fun e w' => e = .returned (.agg #[.int .i64 0, .int .i64 1, .string ⟨#[]⟩, .int .i64 0, .int .i64 U, .int .i64 L, .bool Q, .slice a n c]) ∧ Below w.heap.size w w' := by
  have HC : Hid (∀ W, Calls Try.prog 84 #[.agg #[.int .i64 A, .string R, .int .i64 S, .int .i64 U, .int .i64 L, .bool Q, .slice a n c], .int .i64 1] W fun e w' => e = .returned (.agg #[.int .i64 1, .string ⟨#[]⟩, .int .i64 0, .int .i64 U, .int .i64 L, .bool Q, .slice a n c]) ∧ Below W.heap.size W w') := fun W => impl_rest A R S U L Q 1 a n c W
  have HS : Hid (S3 w (.cells #[.int .i64 A, .string R, .int .i64 S, .int .i64 U, .int .i64 L, .bool Q, .slice a n c] 93) (.cells #[.int .i64 k, .string er, .int .i64 es] 36) (.cells #[.int .i64 0, .int .i64 0, .string ⟨#[]⟩, .int .i64 0, .int .i64 0, .int .i64 0, .bool false, .slice none 0 0] 33) (((w.alloc (.cells #[.int .i64 A, .string R, .int .i64 S, .int .i64 U, .int .i64 L, .bool Q, .slice a n c] 93)).alloc (.cells #[.int .i64 k, .string er, .int .i64 es] 36)).alloc (.cells #[.int .i64 0, .int .i64 0, .string ⟨#[]⟩, .int .i64 0, .int .i64 0, .int .i64 0, .bool false, .slice none 0 0] 33))) := S3.new _ _ _ _
  go_enter Try.func86, Try.ntmps86
  go_upto_region 1 with fail
  obtain ⟨W, hW⟩ : ∃ X9, X9 = ((w.alloc (.cells #[.int .i64 A, .string R, .int .i64 S, .int .i64 U, .int .i64 L, .bool Q, .slice a n c] 93)).alloc (.cells #[.int .i64 k, .string er, .int .i64 es] 36)).alloc (.cells #[.int .i64 0, .int .i64 0, .string ⟨#[]⟩, .int .i64 0, .int .i64 0, .int .i64 0, .bool false, .slice none 0 0] 33) := ⟨_, rfl⟩
  rw [← hW] at HS ⊢
  clear hW
  obtain ⟨p0, p1, p2, p3, p4, p5, p6, pl⟩ := tf_seven HS.out.b0
  go_wp2_with (fail)
  refine (HC.out _).mono ?_
  rintro e w1 ⟨rfl, hb1⟩
  have HT : Hid (S3 w (.cells #[.int .i64 A, .string R, .int .i64 S, .int .i64 U, .int .i64 L, .bool Q, .slice a n c] 93) (.cells #[.int .i64 k, .string er, .int .i64 es] 36) (.cells #[.int .i64 0, .int .i64 0, .string ⟨#[]⟩, .int .i64 0, .int .i64 0, .int .i64 0, .bool false, .slice none 0 0] 33) w1) := HS.out.next hb1
  clear hb1 HS HC p0 p1 p2 p3 p4 p5 p6 pl
  obtain ⟨⟨q0, q1, q2, q3, q4, q5, q6, q7⟩, ⟨qf0, qf1, qf2, qf3, qf4, qf5, qf6, qf7⟩, ql⟩ := tr_eight HT.out.b2
  go_wp2
  try simp only [Exit.inBlock, Exit.then]
  refine bodyPost_ret (by simp [results, Try.results86, go_sem, q0, q1, q2, q3, q4, q5, q6, q7]; try rfl) rfl ⟨rfl, ?_⟩
  have hb := HT.out.bl
  (repeat' (first | (with_reducible exact Below.refl _ _) | (with_reducible assumption) | (with_reducible refine Below.setCell ?_ ?_ _) | (with_reducible refine Below.alloc ?_ ?_ _) | (with_reducible refine below_drewN ?_ _) | (with_reducible refine Below.drew ?_) | (with_reducible exact Nat.le_refl _) | omega | (simp; done) | (simp; omega)))

set_option maxRecDepth 10000 in
set_option maxHeartbeats 3200000 in
theorem mt_end (A : Int) (R : ByteArray) (S U L : Int) (Q : Bool) (a : Option Addr) (n c : Nat) (k : Int) (er : ByteArray) (es : Int) (w : World) :
    Calls Try.prog 90 #[.agg #[.int .i64 A, .string R, .int .i64 S, .int .i64 U, .int .i64 L, .bool Q, .slice a n c], .agg #[.int .i64 k, .string er, .int .i64 es]] w fun e w' => e = .returned (.agg #[.int .i64 0, .int .i64 1, .string ⟨#[]⟩, .int .i64 0, .int .i64 U, .int .i64 L, .bool Q, .slice a n c]) ∧ Below w.heap.size w w' := by
  have HC : Hid (∀ W, Calls Try.prog 84 #[.agg #[.int .i64 A, .string R, .int .i64 S, .int .i64 U, .int .i64 L, .bool Q, .slice a n c], .int .i64 1] W fun e w' => e = .returned (.agg #[.int .i64 1, .string ⟨#[]⟩, .int .i64 0, .int .i64 U, .int .i64 L, .bool Q, .slice a n c]) ∧ Below W.heap.size W w') := fun W => impl_rest A R S U L Q 1 a n c W
  have HS : Hid (S3 w (.cells #[.int .i64 A, .string R, .int .i64 S, .int .i64 U, .int .i64 L, .bool Q, .slice a n c] 99) (.cells #[.int .i64 k, .string er, .int .i64 es] 36) (.cells #[.int .i64 0, .int .i64 0, .string ⟨#[]⟩, .int .i64 0, .int .i64 0, .int .i64 0, .bool false, .slice none 0 0] 33) (((w.alloc (.cells #[.int .i64 A, .string R, .int .i64 S, .int .i64 U, .int .i64 L, .bool Q, .slice a n c] 99)).alloc (.cells #[.int .i64 k, .string er, .int .i64 es] 36)).alloc (.cells #[.int .i64 0, .int .i64 0, .string ⟨#[]⟩, .int .i64 0, .int .i64 0, .int .i64 0, .bool false, .slice none 0 0] 33))) := S3.new _ _ _ _
  go_enter Try.func90, Try.ntmps90
  go_upto_region 1 with fail
  obtain ⟨W, hW⟩ : ∃ X9, X9 = ((w.alloc (.cells #[.int .i64 A, .string R, .int .i64 S, .int .i64 U, .int .i64 L, .bool Q, .slice a n c] 99)).alloc (.cells #[.int .i64 k, .string er, .int .i64 es] 36)).alloc (.cells #[.int .i64 0, .int .i64 0, .string ⟨#[]⟩, .int .i64 0, .int .i64 0, .int .i64 0, .bool false, .slice none 0 0] 33) := ⟨_, rfl⟩
  rw [← hW] at HS ⊢
  clear hW
  obtain ⟨p0, p1, p2, p3, p4, p5, p6, pl⟩ := tf_seven HS.out.b0
  go_wp2_with (fail)
  refine (HC.out _).mono ?_
  rintro e w1 ⟨rfl, hb1⟩
  have HT : Hid (S3 w (.cells #[.int .i64 A, .string R, .int .i64 S, .int .i64 U, .int .i64 L, .bool Q, .slice a n c] 99) (.cells #[.int .i64 k, .string er, .int .i64 es] 36) (.cells #[.int .i64 0, .int .i64 0, .string ⟨#[]⟩, .int .i64 0, .int .i64 0, .int .i64 0, .bool false, .slice none 0 0] 33) w1) := HS.out.next hb1
  clear hb1 HS HC p0 p1 p2 p3 p4 p5 p6 pl
  obtain ⟨⟨q0, q1, q2, q3, q4, q5, q6, q7⟩, ⟨qf0, qf1, qf2, qf3, qf4, qf5, qf6, qf7⟩, ql⟩ := tr_eight HT.out.b2
  go_wp2
  try simp only [Exit.inBlock, Exit.then]
  refine bodyPost_ret (by simp [results, Try.results90, go_sem, q0, q1, q2, q3, q4, q5, q6, q7]; try rfl) rfl ⟨rfl, ?_⟩
  have hb := HT.out.bl
  (repeat' (first | (with_reducible exact Below.refl _ _) | (with_reducible assumption) | (with_reducible refine Below.setCell ?_ ?_ _) | (with_reducible refine Below.alloc ?_ ?_ _) | (with_reducible refine below_drewN ?_ _) | (with_reducible refine Below.drew ?_) | (with_reducible exact Nat.le_refl _) | omega | (simp; done) | (simp; omega)))

set_option maxRecDepth 10000 in
set_option maxHeartbeats 3200000 in
theorem mt_clear (A : Int) (R : ByteArray) (S U L : Int) (Q : Bool) (a : Option Addr) (n c : Nat) (k : Int) (er : ByteArray) (es : Int) (w : World) :
    Calls Try.prog 92 #[.agg #[.int .i64 A, .string R, .int .i64 S, .int .i64 U, .int .i64 L, .bool Q, .slice a n c], .agg #[.int .i64 k, .string er, .int .i64 es]] w fun e w' => e = .returned (.agg #[.int .i64 0, .int .i64 1, .string ⟨#[]⟩, .int .i64 0, .int .i64 U, .int .i64 L, .bool Q, .slice a n c]) ∧ Below w.heap.size w w' := by
  have HC : Hid (∀ W, Calls Try.prog 84 #[.agg #[.int .i64 A, .string R, .int .i64 S, .int .i64 U, .int .i64 L, .bool Q, .slice a n c], .int .i64 1] W fun e w' => e = .returned (.agg #[.int .i64 1, .string ⟨#[]⟩, .int .i64 0, .int .i64 U, .int .i64 L, .bool Q, .slice a n c]) ∧ Below W.heap.size W w') := fun W => impl_rest A R S U L Q 1 a n c W
  have HS : Hid (S3 w (.cells #[.int .i64 A, .string R, .int .i64 S, .int .i64 U, .int .i64 L, .bool Q, .slice a n c] 100) (.cells #[.int .i64 k, .string er, .int .i64 es] 36) (.cells #[.int .i64 0, .int .i64 0, .string ⟨#[]⟩, .int .i64 0, .int .i64 0, .int .i64 0, .bool false, .slice none 0 0] 33) (((w.alloc (.cells #[.int .i64 A, .string R, .int .i64 S, .int .i64 U, .int .i64 L, .bool Q, .slice a n c] 100)).alloc (.cells #[.int .i64 k, .string er, .int .i64 es] 36)).alloc (.cells #[.int .i64 0, .int .i64 0, .string ⟨#[]⟩, .int .i64 0, .int .i64 0, .int .i64 0, .bool false, .slice none 0 0] 33))) := S3.new _ _ _ _
  go_enter Try.func92, Try.ntmps92
  go_upto_region 1 with fail
  obtain ⟨W, hW⟩ : ∃ X9, X9 = ((w.alloc (.cells #[.int .i64 A, .string R, .int .i64 S, .int .i64 U, .int .i64 L, .bool Q, .slice a n c] 100)).alloc (.cells #[.int .i64 k, .string er, .int .i64 es] 36)).alloc (.cells #[.int .i64 0, .int .i64 0, .string ⟨#[]⟩, .int .i64 0, .int .i64 0, .int .i64 0, .bool false, .slice none 0 0] 33) := ⟨_, rfl⟩
  rw [← hW] at HS ⊢
  clear hW
  obtain ⟨p0, p1, p2, p3, p4, p5, p6, pl⟩ := tf_seven HS.out.b0
  go_wp2_with (fail)
  refine (HC.out _).mono ?_
  rintro e w1 ⟨rfl, hb1⟩
  have HT : Hid (S3 w (.cells #[.int .i64 A, .string R, .int .i64 S, .int .i64 U, .int .i64 L, .bool Q, .slice a n c] 100) (.cells #[.int .i64 k, .string er, .int .i64 es] 36) (.cells #[.int .i64 0, .int .i64 0, .string ⟨#[]⟩, .int .i64 0, .int .i64 0, .int .i64 0, .bool false, .slice none 0 0] 33) w1) := HS.out.next hb1
  clear hb1 HS HC p0 p1 p2 p3 p4 p5 p6 pl
  obtain ⟨⟨q0, q1, q2, q3, q4, q5, q6, q7⟩, ⟨qf0, qf1, qf2, qf3, qf4, qf5, qf6, qf7⟩, ql⟩ := tr_eight HT.out.b2
  go_wp2
  try simp only [Exit.inBlock, Exit.then]
  refine bodyPost_ret (by simp [results, Try.results92, go_sem, q0, q1, q2, q3, q4, q5, q6, q7]; try rfl) rfl ⟨rfl, ?_⟩
  have hb := HT.out.bl
  (repeat' (first | (with_reducible exact Below.refl _ _) | (with_reducible assumption) | (with_reducible refine Below.setCell ?_ ?_ _) | (with_reducible refine Below.alloc ?_ ?_ _) | (with_reducible refine below_drewN ?_ _) | (with_reducible refine Below.drew ?_) | (with_reducible exact Nat.le_refl _) | omega | (simp; done) | (simp; omega)))

set_option maxRecDepth 10000 in
set_option maxHeartbeats 3200000 in
theorem mt_trip (A : Int) (R : ByteArray) (S U L : Int) (Q : Bool) (a : Option Addr) (n c : Nat) (k : Int) (er : ByteArray) (es : Int) (w : World) :
    Calls Try.prog 85 #[.agg #[.int .i64 A, .string R, .int .i64 S, .int .i64 U, .int .i64 L, .bool Q, .slice a n c], .agg #[.int .i64 k, .string er, .int .i64 es]] w fun e w' => e = .returned (.agg #[.int .i64 0, .int .i64 4, .string ⟨#[]⟩, .int .i64 0, .int .i64 U, .int .i64 L, .bool Q, .slice a n c]) ∧ Below w.heap.size w w' := by
  have HC : Hid (∀ W, Calls Try.prog 84 #[.agg #[.int .i64 A, .string R, .int .i64 S, .int .i64 U, .int .i64 L, .bool Q, .slice a n c], .int .i64 4] W fun e w' => e = .returned (.agg #[.int .i64 4, .string ⟨#[]⟩, .int .i64 0, .int .i64 U, .int .i64 L, .bool Q, .slice a n c]) ∧ Below W.heap.size W w') := fun W => impl_rest A R S U L Q 4 a n c W
  have HS : Hid (S3 w (.cells #[.int .i64 A, .string R, .int .i64 S, .int .i64 U, .int .i64 L, .bool Q, .slice a n c] 92) (.cells #[.int .i64 k, .string er, .int .i64 es] 36) (.cells #[.int .i64 0, .int .i64 0, .string ⟨#[]⟩, .int .i64 0, .int .i64 0, .int .i64 0, .bool false, .slice none 0 0] 33) (((w.alloc (.cells #[.int .i64 A, .string R, .int .i64 S, .int .i64 U, .int .i64 L, .bool Q, .slice a n c] 92)).alloc (.cells #[.int .i64 k, .string er, .int .i64 es] 36)).alloc (.cells #[.int .i64 0, .int .i64 0, .string ⟨#[]⟩, .int .i64 0, .int .i64 0, .int .i64 0, .bool false, .slice none 0 0] 33))) := S3.new _ _ _ _
  go_enter Try.func85, Try.ntmps85
  go_upto_region 1 with fail
  obtain ⟨W, hW⟩ : ∃ X9, X9 = ((w.alloc (.cells #[.int .i64 A, .string R, .int .i64 S, .int .i64 U, .int .i64 L, .bool Q, .slice a n c] 92)).alloc (.cells #[.int .i64 k, .string er, .int .i64 es] 36)).alloc (.cells #[.int .i64 0, .int .i64 0, .string ⟨#[]⟩, .int .i64 0, .int .i64 0, .int .i64 0, .bool false, .slice none 0 0] 33) := ⟨_, rfl⟩
  rw [← hW] at HS ⊢
  clear hW
  obtain ⟨p0, p1, p2, p3, p4, p5, p6, pl⟩ := tf_seven HS.out.b0
  go_wp2_with (fail)
  refine (HC.out _).mono ?_
  rintro e w1 ⟨rfl, hb1⟩
  have HT : Hid (S3 w (.cells #[.int .i64 A, .string R, .int .i64 S, .int .i64 U, .int .i64 L, .bool Q, .slice a n c] 92) (.cells #[.int .i64 k, .string er, .int .i64 es] 36) (.cells #[.int .i64 0, .int .i64 0, .string ⟨#[]⟩, .int .i64 0, .int .i64 0, .int .i64 0, .bool false, .slice none 0 0] 33) w1) := HS.out.next hb1
  clear hb1 HS HC p0 p1 p2 p3 p4 p5 p6 pl
  obtain ⟨⟨q0, q1, q2, q3, q4, q5, q6, q7⟩, ⟨qf0, qf1, qf2, qf3, qf4, qf5, qf6, qf7⟩, ql⟩ := tr_eight HT.out.b2
  go_wp2
  try simp only [Exit.inBlock, Exit.then]
  refine bodyPost_ret (by simp [results, Try.results85, go_sem, q0, q1, q2, q3, q4, q5, q6, q7]; try rfl) rfl ⟨rfl, ?_⟩
  have hb := HT.out.bl
  (repeat' (first | (with_reducible exact Below.refl _ _) | (with_reducible assumption) | (with_reducible refine Below.setCell ?_ ?_ _) | (with_reducible refine Below.alloc ?_ ?_ _) | (with_reducible refine below_drewN ?_ _) | (with_reducible refine Below.drew ?_) | (with_reducible exact Nat.le_refl _) | omega | (simp; done) | (simp; omega)))

set_option maxRecDepth 10000 in
set_option maxHeartbeats 3200000 in
theorem mt_fail (A : Int) (R : ByteArray) (S U L : Int) (Q : Bool) (a : Option Addr) (n c : Nat) (k : Int) (er : ByteArray) (es : Int) (w : World) :
    Calls Try.prog 82 #[.agg #[.int .i64 A, .string R, .int .i64 S, .int .i64 U, .int .i64 L, .bool Q, .slice a n c], .agg #[.int .i64 k, .string er, .int .i64 es]] w fun e w' => e = .returned (.agg #[.int .i64 0, .int .i64 6, .string ⟨#[]⟩, .int .i64 0, .int .i64 U, .int .i64 L, .bool false, .slice a n c]) ∧ Below w.heap.size w w' := by
  have HC : Hid (∀ W, Calls Try.prog 83 #[.agg #[.int .i64 A, .string R, .int .i64 S, .int .i64 U, .int .i64 L, .bool Q, .slice a n c], .int .i64 6] W fun e w' => e = .returned (.agg #[.int .i64 6, .string ⟨#[]⟩, .int .i64 0, .int .i64 U, .int .i64 L, .bool false, .slice a n c]) ∧ Below W.heap.size W w') := fun W => impl_unq A R S U L Q 6 a n c W
  have HS : Hid (S3 w (.cells #[.int .i64 A, .string R, .int .i64 S, .int .i64 U, .int .i64 L, .bool Q, .slice a n c] 90) (.cells #[.int .i64 k, .string er, .int .i64 es] 36) (.cells #[.int .i64 0, .int .i64 0, .string ⟨#[]⟩, .int .i64 0, .int .i64 0, .int .i64 0, .bool false, .slice none 0 0] 33) (((w.alloc (.cells #[.int .i64 A, .string R, .int .i64 S, .int .i64 U, .int .i64 L, .bool Q, .slice a n c] 90)).alloc (.cells #[.int .i64 k, .string er, .int .i64 es] 36)).alloc (.cells #[.int .i64 0, .int .i64 0, .string ⟨#[]⟩, .int .i64 0, .int .i64 0, .int .i64 0, .bool false, .slice none 0 0] 33))) := S3.new _ _ _ _
  go_enter Try.func82, Try.ntmps82
  go_upto_region 1 with fail
  obtain ⟨W, hW⟩ : ∃ X9, X9 = ((w.alloc (.cells #[.int .i64 A, .string R, .int .i64 S, .int .i64 U, .int .i64 L, .bool Q, .slice a n c] 90)).alloc (.cells #[.int .i64 k, .string er, .int .i64 es] 36)).alloc (.cells #[.int .i64 0, .int .i64 0, .string ⟨#[]⟩, .int .i64 0, .int .i64 0, .int .i64 0, .bool false, .slice none 0 0] 33) := ⟨_, rfl⟩
  rw [← hW] at HS ⊢
  clear hW
  obtain ⟨p0, p1, p2, p3, p4, p5, p6, pl⟩ := tf_seven HS.out.b0
  go_wp2_with (fail)
  refine (HC.out _).mono ?_
  rintro e w1 ⟨rfl, hb1⟩
  have HT : Hid (S3 w (.cells #[.int .i64 A, .string R, .int .i64 S, .int .i64 U, .int .i64 L, .bool Q, .slice a n c] 90) (.cells #[.int .i64 k, .string er, .int .i64 es] 36) (.cells #[.int .i64 0, .int .i64 0, .string ⟨#[]⟩, .int .i64 0, .int .i64 0, .int .i64 0, .bool false, .slice none 0 0] 33) w1) := HS.out.next hb1
  clear hb1 HS HC p0 p1 p2 p3 p4 p5 p6 pl
  obtain ⟨⟨q0, q1, q2, q3, q4, q5, q6, q7⟩, ⟨qf0, qf1, qf2, qf3, qf4, qf5, qf6, qf7⟩, ql⟩ := tr_eight HT.out.b2
  go_wp2
  try simp only [Exit.inBlock, Exit.then]
  refine bodyPost_ret (by simp [results, Try.results82, go_sem, q0, q1, q2, q3, q4, q5, q6, q7]; try rfl) rfl ⟨rfl, ?_⟩
  have hb := HT.out.bl
  (repeat' (first | (with_reducible exact Below.refl _ _) | (with_reducible assumption) | (with_reducible refine Below.setCell ?_ ?_ _) | (with_reducible refine Below.alloc ?_ ?_ _) | (with_reducible refine below_drewN ?_ _) | (with_reducible refine Below.drew ?_) | (with_reducible exact Nat.le_refl _) | omega | (simp; done) | (simp; omega)))

set_option maxRecDepth 10000 in
set_option maxHeartbeats 3200000 in
theorem mt_service_idle (A : Int) (R : ByteArray) (S U L : Int) (Q : Bool) (a : Option Addr) (n c : Nat) (k : Int) (er : ByteArray) (es : Int) (w : World) :
    Calls Try.prog 88 #[.agg #[.int .i64 A, .string R, .int .i64 S, .int .i64 U, .int .i64 L, .bool Q, .slice a n c], .agg #[.int .i64 k, .string er, .int .i64 es]] w fun e w' => e = .returned (.agg #[.int .i64 0, .int .i64 5, .string ⟨#[]⟩, .int .i64 0, .int .i64 U, .int .i64 L, .bool false, .slice a n c]) ∧ Below w.heap.size w w' := by
  have HC : Hid (∀ W, Calls Try.prog 83 #[.agg #[.int .i64 A, .string R, .int .i64 S, .int .i64 U, .int .i64 L, .bool Q, .slice a n c], .int .i64 5] W fun e w' => e = .returned (.agg #[.int .i64 5, .string ⟨#[]⟩, .int .i64 0, .int .i64 U, .int .i64 L, .bool false, .slice a n c]) ∧ Below W.heap.size W w') := fun W => impl_unq A R S U L Q 5 a n c W
  have HS : Hid (S3 w (.cells #[.int .i64 A, .string R, .int .i64 S, .int .i64 U, .int .i64 L, .bool Q, .slice a n c] 97) (.cells #[.int .i64 k, .string er, .int .i64 es] 36) (.cells #[.int .i64 0, .int .i64 0, .string ⟨#[]⟩, .int .i64 0, .int .i64 0, .int .i64 0, .bool false, .slice none 0 0] 33) (((w.alloc (.cells #[.int .i64 A, .string R, .int .i64 S, .int .i64 U, .int .i64 L, .bool Q, .slice a n c] 97)).alloc (.cells #[.int .i64 k, .string er, .int .i64 es] 36)).alloc (.cells #[.int .i64 0, .int .i64 0, .string ⟨#[]⟩, .int .i64 0, .int .i64 0, .int .i64 0, .bool false, .slice none 0 0] 33))) := S3.new _ _ _ _
  go_enter Try.func88, Try.ntmps88
  go_upto_region 1 with fail
  obtain ⟨W, hW⟩ : ∃ X9, X9 = ((w.alloc (.cells #[.int .i64 A, .string R, .int .i64 S, .int .i64 U, .int .i64 L, .bool Q, .slice a n c] 97)).alloc (.cells #[.int .i64 k, .string er, .int .i64 es] 36)).alloc (.cells #[.int .i64 0, .int .i64 0, .string ⟨#[]⟩, .int .i64 0, .int .i64 0, .int .i64 0, .bool false, .slice none 0 0] 33) := ⟨_, rfl⟩
  rw [← hW] at HS ⊢
  clear hW
  obtain ⟨p0, p1, p2, p3, p4, p5, p6, pl⟩ := tf_seven HS.out.b0
  go_wp2_with (fail)
  refine (HC.out _).mono ?_
  rintro e w1 ⟨rfl, hb1⟩
  have HT : Hid (S3 w (.cells #[.int .i64 A, .string R, .int .i64 S, .int .i64 U, .int .i64 L, .bool Q, .slice a n c] 97) (.cells #[.int .i64 k, .string er, .int .i64 es] 36) (.cells #[.int .i64 0, .int .i64 0, .string ⟨#[]⟩, .int .i64 0, .int .i64 0, .int .i64 0, .bool false, .slice none 0 0] 33) w1) := HS.out.next hb1
  clear hb1 HS HC p0 p1 p2 p3 p4 p5 p6 pl
  obtain ⟨⟨q0, q1, q2, q3, q4, q5, q6, q7⟩, ⟨qf0, qf1, qf2, qf3, qf4, qf5, qf6, qf7⟩, ql⟩ := tr_eight HT.out.b2
  go_wp2
  try simp only [Exit.inBlock, Exit.then]
  refine bodyPost_ret (by simp [results, Try.results88, go_sem, q0, q1, q2, q3, q4, q5, q6, q7]; try rfl) rfl ⟨rfl, ?_⟩
  have hb := HT.out.bl
  (repeat' (first | (with_reducible exact Below.refl _ _) | (with_reducible assumption) | (with_reducible refine Below.setCell ?_ ?_ _) | (with_reducible refine Below.alloc ?_ ?_ _) | (with_reducible refine below_drewN ?_ _) | (with_reducible refine Below.drew ?_) | (with_reducible exact Nat.le_refl _) | omega | (simp; done) | (simp; omega)))

set_option maxRecDepth 10000 in
set_option maxHeartbeats 3200000 in
theorem mt_service_alarm (A : Int) (R : ByteArray) (S U L : Int) (Q : Bool) (a : Option Addr) (n c : Nat) (k : Int) (er : ByteArray) (es : Int) (w : World) :
    Calls Try.prog 93 #[.agg #[.int .i64 A, .string R, .int .i64 S, .int .i64 U, .int .i64 L, .bool Q, .slice a n c], .agg #[.int .i64 k, .string er, .int .i64 es]] w fun e w' => e = .returned (.agg #[.int .i64 0, .int .i64 5, .string ⟨#[]⟩, .int .i64 0, .int .i64 U, .int .i64 L, .bool false, .slice a n c]) ∧ Below w.heap.size w w' := by
  have HC : Hid (∀ W, Calls Try.prog 83 #[.agg #[.int .i64 A, .string R, .int .i64 S, .int .i64 U, .int .i64 L, .bool Q, .slice a n c], .int .i64 5] W fun e w' => e = .returned (.agg #[.int .i64 5, .string ⟨#[]⟩, .int .i64 0, .int .i64 U, .int .i64 L, .bool false, .slice a n c]) ∧ Below W.heap.size W w') := fun W => impl_unq A R S U L Q 5 a n c W
  have HS : Hid (S3 w (.cells #[.int .i64 A, .string R, .int .i64 S, .int .i64 U, .int .i64 L, .bool Q, .slice a n c] 100) (.cells #[.int .i64 k, .string er, .int .i64 es] 36) (.cells #[.int .i64 0, .int .i64 0, .string ⟨#[]⟩, .int .i64 0, .int .i64 0, .int .i64 0, .bool false, .slice none 0 0] 33) (((w.alloc (.cells #[.int .i64 A, .string R, .int .i64 S, .int .i64 U, .int .i64 L, .bool Q, .slice a n c] 100)).alloc (.cells #[.int .i64 k, .string er, .int .i64 es] 36)).alloc (.cells #[.int .i64 0, .int .i64 0, .string ⟨#[]⟩, .int .i64 0, .int .i64 0, .int .i64 0, .bool false, .slice none 0 0] 33))) := S3.new _ _ _ _
  go_enter Try.func93, Try.ntmps93
  go_upto_region 1 with fail
  obtain ⟨W, hW⟩ : ∃ X9, X9 = ((w.alloc (.cells #[.int .i64 A, .string R, .int .i64 S, .int .i64 U, .int .i64 L, .bool Q, .slice a n c] 100)).alloc (.cells #[.int .i64 k, .string er, .int .i64 es] 36)).alloc (.cells #[.int .i64 0, .int .i64 0, .string ⟨#[]⟩, .int .i64 0, .int .i64 0, .int .i64 0, .bool false, .slice none 0 0] 33) := ⟨_, rfl⟩
  rw [← hW] at HS ⊢
  clear hW
  obtain ⟨p0, p1, p2, p3, p4, p5, p6, pl⟩ := tf_seven HS.out.b0
  go_wp2_with (fail)
  refine (HC.out _).mono ?_
  rintro e w1 ⟨rfl, hb1⟩
  have HT : Hid (S3 w (.cells #[.int .i64 A, .string R, .int .i64 S, .int .i64 U, .int .i64 L, .bool Q, .slice a n c] 100) (.cells #[.int .i64 k, .string er, .int .i64 es] 36) (.cells #[.int .i64 0, .int .i64 0, .string ⟨#[]⟩, .int .i64 0, .int .i64 0, .int .i64 0, .bool false, .slice none 0 0] 33) w1) := HS.out.next hb1
  clear hb1 HS HC p0 p1 p2 p3 p4 p5 p6 pl
  obtain ⟨⟨q0, q1, q2, q3, q4, q5, q6, q7⟩, ⟨qf0, qf1, qf2, qf3, qf4, qf5, qf6, qf7⟩, ql⟩ := tr_eight HT.out.b2
  go_wp2
  try simp only [Exit.inBlock, Exit.then]
  refine bodyPost_ret (by simp [results, Try.results93, go_sem, q0, q1, q2, q3, q4, q5, q6, q7]; try rfl) rfl ⟨rfl, ?_⟩
  have hb := HT.out.bl
  (repeat' (first | (with_reducible exact Below.refl _ _) | (with_reducible assumption) | (with_reducible refine Below.setCell ?_ ?_ _) | (with_reducible refine Below.alloc ?_ ?_ _) | (with_reducible refine below_drewN ?_ _) | (with_reducible refine Below.drew ?_) | (with_reducible exact Nat.le_refl _) | omega | (simp; done) | (simp; omega)))

set_option maxRecDepth 10000 in
set_option maxHeartbeats 3200000 in
theorem mt_service_safe (A : Int) (R : ByteArray) (S U L : Int) (Q : Bool) (a : Option Addr) (n c : Nat) (k : Int) (er : ByteArray) (es : Int) (w : World) :
    Calls Try.prog 95 #[.agg #[.int .i64 A, .string R, .int .i64 S, .int .i64 U, .int .i64 L, .bool Q, .slice a n c], .agg #[.int .i64 k, .string er, .int .i64 es]] w fun e w' => e = .returned (.agg #[.int .i64 0, .int .i64 5, .string ⟨#[]⟩, .int .i64 0, .int .i64 U, .int .i64 L, .bool false, .slice a n c]) ∧ Below w.heap.size w w' := by
  have HC : Hid (∀ W, Calls Try.prog 83 #[.agg #[.int .i64 A, .string R, .int .i64 S, .int .i64 U, .int .i64 L, .bool Q, .slice a n c], .int .i64 5] W fun e w' => e = .returned (.agg #[.int .i64 5, .string ⟨#[]⟩, .int .i64 0, .int .i64 U, .int .i64 L, .bool false, .slice a n c]) ∧ Below W.heap.size W w') := fun W => impl_unq A R S U L Q 5 a n c W
  have HS : Hid (S3 w (.cells #[.int .i64 A, .string R, .int .i64 S, .int .i64 U, .int .i64 L, .bool Q, .slice a n c] 102) (.cells #[.int .i64 k, .string er, .int .i64 es] 36) (.cells #[.int .i64 0, .int .i64 0, .string ⟨#[]⟩, .int .i64 0, .int .i64 0, .int .i64 0, .bool false, .slice none 0 0] 33) (((w.alloc (.cells #[.int .i64 A, .string R, .int .i64 S, .int .i64 U, .int .i64 L, .bool Q, .slice a n c] 102)).alloc (.cells #[.int .i64 k, .string er, .int .i64 es] 36)).alloc (.cells #[.int .i64 0, .int .i64 0, .string ⟨#[]⟩, .int .i64 0, .int .i64 0, .int .i64 0, .bool false, .slice none 0 0] 33))) := S3.new _ _ _ _
  go_enter Try.func95, Try.ntmps95
  go_upto_region 1 with fail
  obtain ⟨W, hW⟩ : ∃ X9, X9 = ((w.alloc (.cells #[.int .i64 A, .string R, .int .i64 S, .int .i64 U, .int .i64 L, .bool Q, .slice a n c] 102)).alloc (.cells #[.int .i64 k, .string er, .int .i64 es] 36)).alloc (.cells #[.int .i64 0, .int .i64 0, .string ⟨#[]⟩, .int .i64 0, .int .i64 0, .int .i64 0, .bool false, .slice none 0 0] 33) := ⟨_, rfl⟩
  rw [← hW] at HS ⊢
  clear hW
  obtain ⟨p0, p1, p2, p3, p4, p5, p6, pl⟩ := tf_seven HS.out.b0
  go_wp2_with (fail)
  refine (HC.out _).mono ?_
  rintro e w1 ⟨rfl, hb1⟩
  have HT : Hid (S3 w (.cells #[.int .i64 A, .string R, .int .i64 S, .int .i64 U, .int .i64 L, .bool Q, .slice a n c] 102) (.cells #[.int .i64 k, .string er, .int .i64 es] 36) (.cells #[.int .i64 0, .int .i64 0, .string ⟨#[]⟩, .int .i64 0, .int .i64 0, .int .i64 0, .bool false, .slice none 0 0] 33) w1) := HS.out.next hb1
  clear hb1 HS HC p0 p1 p2 p3 p4 p5 p6 pl
  obtain ⟨⟨q0, q1, q2, q3, q4, q5, q6, q7⟩, ⟨qf0, qf1, qf2, qf3, qf4, qf5, qf6, qf7⟩, ql⟩ := tr_eight HT.out.b2
  go_wp2
  try simp only [Exit.inBlock, Exit.then]
  refine bodyPost_ret (by simp [results, Try.results95, go_sem, q0, q1, q2, q3, q4, q5, q6, q7]; try rfl) rfl ⟨rfl, ?_⟩
  have hb := HT.out.bl
  (repeat' (first | (with_reducible exact Below.refl _ _) | (with_reducible assumption) | (with_reducible refine Below.setCell ?_ ?_ _) | (with_reducible refine Below.alloc ?_ ?_ _) | (with_reducible refine below_drewN ?_ _) | (with_reducible refine Below.drew ?_) | (with_reducible exact Nat.le_refl _) | omega | (simp; done) | (simp; omega)))

set_option maxHeartbeats 1600000 in
theorem mt_measured (A : Int) (R : ByteArray) (S U L : Int) (Q : Bool) (a : Option Addr) (n c : Nat) (w : World) (hU : 0 ≤ U ∧ U ≤ 1000) :
    Calls Try.prog 91 #[.agg #[.int .i64 A, .string R, .int .i64 S, .int .i64 U, .int .i64 L, .bool Q, .slice a n c]] w fun e w' => e = .returned (.int .i64 (U + 1)) ∧ Below w.heap.size w w' := by
  go_enter Try.func91, Try.ntmps91
  go_wp2
  go_returns
  exact ⟨rfl, by (repeat' (first | (with_reducible exact Below.refl _ _) | (with_reducible assumption) | (with_reducible refine Below.setCell ?_ ?_ _) | (with_reducible refine Below.alloc ?_ ?_ _) | (with_reducible refine below_drewN ?_ _) | (with_reducible refine Below.drew ?_) | (with_reducible exact Nat.le_refl _) | omega | (simp; done) | (simp; omega)))⟩

set_option maxRecDepth 10000 in
set_option maxHeartbeats 3200000 in
theorem mt_qualify (A : Int) (R : ByteArray) (S U L : Int) (Q : Bool) (a : Option Addr) (n c : Nat) (k : Int) (er : ByteArray) (es : Int) (w : World) :
    Calls Try.prog 94 #[.agg #[.int .i64 A, .string R, .int .i64 S, .int .i64 U, .int .i64 L, .bool Q, .slice a n c], .agg #[.int .i64 k, .string er, .int .i64 es]] w fun e w' => e = .returned (.agg #[.int .i64 0, .int .i64 1, .string ⟨#[]⟩, .int .i64 0, .int .i64 0, .int .i64 L, .bool true, .slice a n c]) ∧ Below w.heap.size w w' := by
  have HC : Hid (∀ W, Calls Try.prog 84 #[.agg #[.int .i64 A, .string R, .int .i64 S, .int .i64 U, .int .i64 L, .bool Q, .slice a n c], .int .i64 1] W fun e w' => e = .returned (.agg #[.int .i64 1, .string ⟨#[]⟩, .int .i64 0, .int .i64 U, .int .i64 L, .bool Q, .slice a n c]) ∧ Below W.heap.size W w') := fun W => impl_rest A R S U L Q 1 a n c W
  have HS : Hid (S3 w (.cells #[.int .i64 A, .string R, .int .i64 S, .int .i64 U, .int .i64 L, .bool Q, .slice a n c] 101) (.cells #[.int .i64 k, .string er, .int .i64 es] 36) (.cells #[.int .i64 0, .int .i64 0, .string ⟨#[]⟩, .int .i64 0, .int .i64 0, .int .i64 0, .bool false, .slice none 0 0] 33) (((w.alloc (.cells #[.int .i64 A, .string R, .int .i64 S, .int .i64 U, .int .i64 L, .bool Q, .slice a n c] 101)).alloc (.cells #[.int .i64 k, .string er, .int .i64 es] 36)).alloc (.cells #[.int .i64 0, .int .i64 0, .string ⟨#[]⟩, .int .i64 0, .int .i64 0, .int .i64 0, .bool false, .slice none 0 0] 33))) := S3.new _ _ _ _
  go_enter Try.func94, Try.ntmps94
  go_upto_region 1 with fail
  obtain ⟨W, hW⟩ : ∃ X9, X9 = ((w.alloc (.cells #[.int .i64 A, .string R, .int .i64 S, .int .i64 U, .int .i64 L, .bool Q, .slice a n c] 101)).alloc (.cells #[.int .i64 k, .string er, .int .i64 es] 36)).alloc (.cells #[.int .i64 0, .int .i64 0, .string ⟨#[]⟩, .int .i64 0, .int .i64 0, .int .i64 0, .bool false, .slice none 0 0] 33) := ⟨_, rfl⟩
  rw [← hW] at HS ⊢
  clear hW
  obtain ⟨p0, p1, p2, p3, p4, p5, p6, pl⟩ := tf_seven HS.out.b0
  go_wp2_with (fail)
  refine (HC.out _).mono ?_
  rintro e w1 ⟨rfl, hb1⟩
  have HT : Hid (S3 w (.cells #[.int .i64 A, .string R, .int .i64 S, .int .i64 U, .int .i64 L, .bool Q, .slice a n c] 101) (.cells #[.int .i64 k, .string er, .int .i64 es] 36) (.cells #[.int .i64 0, .int .i64 0, .string ⟨#[]⟩, .int .i64 0, .int .i64 0, .int .i64 0, .bool false, .slice none 0 0] 33) w1) := HS.out.next hb1
  clear hb1 HS HC p0 p1 p2 p3 p4 p5 p6 pl
  go_upto_region 2 with fail
  obtain ⟨V, hV⟩ : ∃ X9, X9 = w1.alloc (.cells #[.int .i64 1, .string ⟨#[]⟩, .int .i64 0, .int .i64 U, .int .i64 L, .bool Q, .slice a n c] 31) := ⟨_, rfl⟩
  obtain ⟨K, hK⟩ : ∃ X9, X9 = w1.heap.size := ⟨_, rfl⟩
  have hbV : Below w1.heap.size w1 V := by rw [hV]; (repeat' (first | (with_reducible exact Below.refl _ _) | (with_reducible assumption) | (with_reducible refine Below.setCell ?_ ?_ _) | (with_reducible refine Below.alloc ?_ ?_ _) | (with_reducible refine below_drewN ?_ _) | (with_reducible refine Below.drew ?_) | (with_reducible exact Nat.le_refl _) | omega | (simp; done) | (simp; omega)))
  have kV : V.heap[K]? = some (.cells #[.int .i64 1, .string ⟨#[]⟩, .int .i64 0, .int .i64 U, .int .i64 L, .bool Q, .slice a n c] 31) := by rw [hV, hK]; exact heap_alloc_new _ _
  have HW : Hid (S3 w (.cells #[.int .i64 A, .string R, .int .i64 S, .int .i64 U, .int .i64 L, .bool Q, .slice a n c] 101) (.cells #[.int .i64 k, .string er, .int .i64 es] 36) (.cells #[.int .i64 0, .int .i64 0, .string ⟨#[]⟩, .int .i64 0, .int .i64 0, .int .i64 0, .bool false, .slice none 0 0] 33) V ∧ w.heap.size + 2 < K ∧ K < V.heap.size) := ⟨HT.out.next hbV, by rw [hK]; exact ltOf HT.out.b2, by rw [hV, hK]; simp⟩
  rw [← hV, ← hK]
  clear hV hK hbV HT
  obtain ⟨k0, k1, k2, k3, k4, k5, k6, kl⟩ := tf_seven kV
  have kf3 := frozOf kV 3
  have kf5 := frozOf kV 5
  have hk1 : ¬ w.heap.size + 2 = K := by have := HW.out.2.1; omega
  have hk2 : ¬ K = w.heap.size + 2 := by have := HW.out.2.1; omega
  clear kV
  obtain ⟨⟨q0, q1, q2, q3, q4, q5, q6, q7⟩, ⟨qf0, qf1, qf2, qf3, qf4, qf5, qf6, qf7⟩, ql⟩ := tr_eight HW.out.1.b2
  go_wp2
  try simp only [Exit.inBlock, Exit.then]
  refine bodyPost_ret (by simp [results, Try.results94, go_sem, q0, q1, q2, q3, q4, q5, q6, q7]; try rfl) rfl ⟨rfl, ?_⟩
  have hb := HW.out.1.bl
  have hb2 := HW.out.2
  (repeat' (first | (with_reducible exact Below.refl _ _) | (with_reducible assumption) | (with_reducible refine Below.setCell ?_ ?_ _) | (with_reducible refine Below.alloc ?_ ?_ _) | (with_reducible refine below_drewN ?_ _) | (with_reducible refine Below.drew ?_) | (with_reducible exact Nat.le_refl _) | omega | (simp; done) | (simp; omega)))

set_option maxRecDepth 10000 in
set_option maxHeartbeats 3200000 in
theorem mt_start_y (A : Int) (R : ByteArray) (S U L : Int) (Q : Bool) (a : Option Addr) (n c : Nat) (k : Int) (er : ByteArray) (es : Int) (w : World) (hU : ¬ U = L) :
    Calls Try.prog 89 #[.agg #[.int .i64 A, .string R, .int .i64 S, .int .i64 U, .int .i64 L, .bool Q, .slice a n c], .agg #[.int .i64 k, .string er, .int .i64 es]] w fun e w' => e = .returned (.agg #[.int .i64 0, .int .i64 3, .string R, .int .i64 S, .int .i64 U, .int .i64 L, .bool Q, .slice a n c]) ∧ Below w.heap.size w w' := by
  have HS : Hid (S3 w (.cells #[.int .i64 A, .string R, .int .i64 S, .int .i64 U, .int .i64 L, .bool Q, .slice a n c] 98) (.cells #[.int .i64 k, .string er, .int .i64 es] 36) (.cells #[.int .i64 0, .int .i64 0, .string ⟨#[]⟩, .int .i64 0, .int .i64 0, .int .i64 0, .bool false, .slice none 0 0] 33) (((w.alloc (.cells #[.int .i64 A, .string R, .int .i64 S, .int .i64 U, .int .i64 L, .bool Q, .slice a n c] 98)).alloc (.cells #[.int .i64 k, .string er, .int .i64 es] 36)).alloc (.cells #[.int .i64 0, .int .i64 0, .string ⟨#[]⟩, .int .i64 0, .int .i64 0, .int .i64 0, .bool false, .slice none 0 0] 33))) := S3.new _ _ _ _
  go_enter Try.func89, Try.ntmps89
  go_upto_region 1 with fail
  obtain ⟨W, hW⟩ : ∃ X9, X9 = ((w.alloc (.cells #[.int .i64 A, .string R, .int .i64 S, .int .i64 U, .int .i64 L, .bool Q, .slice a n c] 98)).alloc (.cells #[.int .i64 k, .string er, .int .i64 es] 36)).alloc (.cells #[.int .i64 0, .int .i64 0, .string ⟨#[]⟩, .int .i64 0, .int .i64 0, .int .i64 0, .bool false, .slice none 0 0] 33) := ⟨_, rfl⟩
  rw [← hW] at HS ⊢
  clear hW
  obtain ⟨p0, p1, p2, p3, p4, p5, p6, pl⟩ := tf_seven HS.out.b0
  go_upto_region 4 with fail
  obtain ⟨V, hV⟩ : ∃ X9, X9 = W.alloc (.cells #[.int .i64 A, .string R, .int .i64 S, .int .i64 U, .int .i64 L, .bool Q, .slice a n c] 31) := ⟨_, rfl⟩
  obtain ⟨K, hK⟩ : ∃ X9, X9 = W.heap.size := ⟨_, rfl⟩
  have hbV : Below W.heap.size W V := by rw [hV]; (repeat' (first | (with_reducible exact Below.refl _ _) | (with_reducible assumption) | (with_reducible refine Below.setCell ?_ ?_ _) | (with_reducible refine Below.alloc ?_ ?_ _) | (with_reducible refine below_drewN ?_ _) | (with_reducible refine Below.drew ?_) | (with_reducible exact Nat.le_refl _) | omega | (simp; done) | (simp; omega)))
  have kV : V.heap[K]? = some (.cells #[.int .i64 A, .string R, .int .i64 S, .int .i64 U, .int .i64 L, .bool Q, .slice a n c] 31) := by rw [hV, hK]; exact heap_alloc_new _ _
  have HW : Hid (S3 w (.cells #[.int .i64 A, .string R, .int .i64 S, .int .i64 U, .int .i64 L, .bool Q, .slice a n c] 98) (.cells #[.int .i64 k, .string er, .int .i64 es] 36) (.cells #[.int .i64 0, .int .i64 0, .string ⟨#[]⟩, .int .i64 0, .int .i64 0, .int .i64 0, .bool false, .slice none 0 0] 33) V ∧ w.heap.size + 2 < K ∧ K < V.heap.size) := ⟨HS.out.next hbV, by rw [hK]; exact ltOf HS.out.b2, by rw [hV, hK]; simp⟩
  rw [← hV, ← hK]
  clear hV hK hbV HS p0 p1 p2 p3 p4 p5 p6 pl
  obtain ⟨k0, k1, k2, k3, k4, k5, k6, kl⟩ := tf_seven kV
  have kf0 := frozOf kV 0
  have hk1 : ¬ w.heap.size + 2 = K := by have := HW.out.2.1; omega
  have hk2 : ¬ K = w.heap.size + 2 := by have := HW.out.2.1; omega
  clear kV
  obtain ⟨⟨q0, q1, q2, q3, q4, q5, q6, q7⟩, ⟨qf0, qf1, qf2, qf3, qf4, qf5, qf6, qf7⟩, ql⟩ := tr_eight HW.out.1.b2
  go_wp2
  try simp only [Exit.inBlock, Exit.then]
  refine bodyPost_ret (by simp [results, Try.results89, go_sem, q0, q1, q2, q3, q4, q5, q6, q7]; try rfl) rfl ⟨rfl, ?_⟩
  have hb := HW.out.1.bl
  have hb2 := HW.out.2
  (repeat' (first | (with_reducible exact Below.refl _ _) | (with_reducible assumption) | (with_reducible refine Below.setCell ?_ ?_ _) | (with_reducible refine Below.alloc ?_ ?_ _) | (with_reducible refine below_drewN ?_ _) | (with_reducible refine Below.drew ?_) | (with_reducible exact Nat.le_refl _) | omega | (simp; done) | (simp; omega)))

set_option maxRecDepth 10000 in
set_option maxHeartbeats 3200000 in
theorem mt_start_n (A : Int) (R : ByteArray) (S U L : Int) (Q : Bool) (a : Option Addr) (n c : Nat) (k : Int) (er : ByteArray) (es : Int) (w : World) (hU : U = L) :
    Calls Try.prog 89 #[.agg #[.int .i64 A, .string R, .int .i64 S, .int .i64 U, .int .i64 L, .bool Q, .slice a n c], .agg #[.int .i64 k, .string er, .int .i64 es]] w fun e w' => e = .returned (.agg #[.int .i64 2, .int .i64 0, .string ⟨#[]⟩, .int .i64 0, .int .i64 0, .int .i64 0, .bool false, .slice none 0 0]) ∧ Below w.heap.size w w' := by
  subst hU
  have HS : Hid (S3 w (.cells #[.int .i64 A, .string R, .int .i64 S, .int .i64 U, .int .i64 U, .bool Q, .slice a n c] 98) (.cells #[.int .i64 k, .string er, .int .i64 es] 36) (.cells #[.int .i64 0, .int .i64 0, .string ⟨#[]⟩, .int .i64 0, .int .i64 0, .int .i64 0, .bool false, .slice none 0 0] 33) (((w.alloc (.cells #[.int .i64 A, .string R, .int .i64 S, .int .i64 U, .int .i64 U, .bool Q, .slice a n c] 98)).alloc (.cells #[.int .i64 k, .string er, .int .i64 es] 36)).alloc (.cells #[.int .i64 0, .int .i64 0, .string ⟨#[]⟩, .int .i64 0, .int .i64 0, .int .i64 0, .bool false, .slice none 0 0] 33))) := S3.new _ _ _ _
  go_enter Try.func89, Try.ntmps89
  go_upto_region 1 with fail
  obtain ⟨W, hW⟩ : ∃ X9, X9 = ((w.alloc (.cells #[.int .i64 A, .string R, .int .i64 S, .int .i64 U, .int .i64 U, .bool Q, .slice a n c] 98)).alloc (.cells #[.int .i64 k, .string er, .int .i64 es] 36)).alloc (.cells #[.int .i64 0, .int .i64 0, .string ⟨#[]⟩, .int .i64 0, .int .i64 0, .int .i64 0, .bool false, .slice none 0 0] 33) := ⟨_, rfl⟩
  rw [← hW] at HS ⊢
  clear hW
  obtain ⟨p0, p1, p2, p3, p4, p5, p6, pl⟩ := tf_seven HS.out.b0
  obtain ⟨⟨q0, q1, q2, q3, q4, q5, q6, q7⟩, ⟨qf0, qf1, qf2, qf3, qf4, qf5, qf6, qf7⟩, ql⟩ := tr_eight HS.out.b2
  go_wp2
  try simp only [Exit.inBlock, Exit.then]
  refine bodyPost_ret (by simp [results, Try.results89, go_sem, q0, q1, q2, q3, q4, q5, q6, q7]; try rfl) rfl ⟨rfl, ?_⟩
  have hb := HS.out.bl
  (repeat' (first | (with_reducible exact Below.refl _ _) | (with_reducible assumption) | (with_reducible refine Below.setCell ?_ ?_ _) | (with_reducible refine Below.alloc ?_ ?_ _) | (with_reducible refine below_drewN ?_ _) | (with_reducible refine Below.drew ?_) | (with_reducible exact Nat.le_refl _) | omega | (simp; done) | (simp; omega)))

end Go.Proofs.Ytkacfjbhkgdpdaa
