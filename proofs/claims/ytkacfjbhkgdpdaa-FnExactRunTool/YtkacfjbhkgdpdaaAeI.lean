/- Proved here: afterEvent of the program: what an event does not let, and what one makes. -/
import Derived.Test.YtkacfjbhkgdpdaaEvM
import Derived.Test.YtkacfjbhkgdpdaaEvO
namespace Go.Proofs.Ytkacfjbhkgdpdaa
open Go.RowKit
set_option linter.unusedVariables false
set_option linter.unusedSimpArgs false


set_option maxRecDepth 10000 in
set_option maxHeartbeats 3200000 in
theorem ae_no (T : TypeId) (p : Value) (k : Int) (er : ByteArray) (es : Int) (C : Int) (hC : C ≠ 0) (he : ∀ w : World, Calls Try.prog 52 #[.iface T p, .int .i64 k] w fun e w' => e = .returned (.tuple #[.nilFunc, .int .i64 C]) ∧ w' = w) (w : World) :
    Calls Try.prog 34 #[.iface T p, .agg #[.int .i64 k, .string er, .int .i64 es]] w fun e w' => e = .returned (.agg #[.int .i64 C, .int .i64 0, .string ⟨#[]⟩, .int .i64 0, .int .i64 0, .int .i64 0, .bool false, .slice none 0 0]) ∧ Below w.heap.size w w' := by
  have HS : Hid (S2 w (.cells #[.int .i64 k, .string er, .int .i64 es] 36) (.cells #[.int .i64 0, .int .i64 0, .string ⟨#[]⟩, .int .i64 0, .int .i64 0, .int .i64 0, .bool false, .slice none 0 0] 33) ((w.alloc (.cells #[.int .i64 k, .string er, .int .i64 es] 36)).alloc (.cells #[.int .i64 0, .int .i64 0, .string ⟨#[]⟩, .int .i64 0, .int .i64 0, .int .i64 0, .bool false, .slice none 0 0] 33))) := S2.new _ _ _
  have HE : Hid (∀ w : World, Calls Try.prog 52 #[.iface T p, .int .i64 k] w fun e w' => e = .returned (.tuple #[.nilFunc, .int .i64 C]) ∧ w' = w) := he
  have hA1 : (C != 0) = true := by simpa using hC
  clear he
  go_enter Try.func34, Try.ntmps34
  go_upto_region 1 with fail
  obtain ⟨W, hW⟩ : ∃ X9, X9 = (w.alloc (.cells #[.int .i64 k, .string er, .int .i64 es] 36)).alloc (.cells #[.int .i64 0, .int .i64 0, .string ⟨#[]⟩, .int .i64 0, .int .i64 0, .int .i64 0, .bool false, .slice none 0 0] 33) := ⟨_, rfl⟩
  rw [← hW] at HS ⊢
  clear hW
  obtain ⟨e0, e1, e2, ef, el⟩ := tw_three HS.out.b0
  obtain ⟨⟨q0, q1, q2, q3, q4, q5, q6, q7⟩, ⟨qf0, qf1, qf2, qf3, qf4, qf5, qf6, qf7⟩, ql⟩ := tr_eight HS.out.b1
  clear ef
  go_wp2_with (fail)
  refine (HE.out _).mono ?_
  rintro e w1 ⟨rfl, hw1⟩
  obtain rfl : W = w1 := hw1.symm
  clear hw1
  go_wp2
  try simp only [Exit.inBlock, Exit.then]
  refine bodyPost_ret (by simp [results, Try.results34, go_sem, q0, q1, q2, q3, q4, q5, q6, q7]; try rfl) rfl ⟨rfl, ?_⟩
  have hb := HS.out.bl
  (repeat' (first | (with_reducible exact Below.refl _ _) | (with_reducible assumption) | (with_reducible refine Below.setCell ?_ ?_ _) | (with_reducible refine Below.alloc ?_ ?_ _) | (with_reducible refine below_drewN ?_ _) | (with_reducible refine Below.drew ?_) | (with_reducible exact Nat.le_refl _) | omega | (simp; done) | (simp; omega)))

set_option maxRecDepth 10000 in
set_option maxHeartbeats 3200000 in
theorem ae_plain (T : TypeId) (p : Value) (k : Int) (er : ByteArray) (es : Int) (nm : String) (f fm : FuncId) (C A2 : Int) (R2 : ByteArray) (S2' U2 L2 : Int) (Q2 : Bool) (a2 : Option Addr) (n2 c2 : Nat) (UM : Int) (he : ∀ w : World, Calls Try.prog 52 #[.iface T p, .int .i64 k] w fun e w' => e = .returned (.tuple #[.func (.method nm) #[.iface T p] #[], .int .i64 0]) ∧ w' = w) (hm : ∀ w : World, (method 256 T p nm).run Try.prog w = .ok (f, p) w) (hcf : ∀ (args : Array Value) (w : World), (callFunc f args).run Try.prog w = .ok (.enter f args) w) (w : World) (hb : ∀ w1 : World, Below w.heap.size w w1 → Calls Try.prog f #[p, .agg #[.int .i64 k, .string er, .int .i64 es]] w1 fun e w' => e = .returned (.agg #[.int .i64 C, .int .i64 A2, .string R2, .int .i64 S2', .int .i64 U2, .int .i64 L2, .bool Q2, .slice a2 n2 c2]) ∧ Below w1.heap.size w1 w') (ha : ∀ w : World, (Instr.typeAssert (.iface T p) 66 86 true).run Try.prog w = .ok (.tuple #[.nilIface, .bool false]) w) :
    Calls Try.prog 34 #[.iface T p, .agg #[.int .i64 k, .string er, .int .i64 es]] w fun e w' => e = .returned (.agg #[.int .i64 C, .int .i64 A2, .string R2, .int .i64 S2', .int .i64 U2, .int .i64 L2, .bool Q2, .slice a2 n2 c2]) ∧ Below w.heap.size w w' := by
  have HS : Hid (S2 w (.cells #[.int .i64 k, .string er, .int .i64 es] 36) (.cells #[.int .i64 0, .int .i64 0, .string ⟨#[]⟩, .int .i64 0, .int .i64 0, .int .i64 0, .bool false, .slice none 0 0] 33) ((w.alloc (.cells #[.int .i64 k, .string er, .int .i64 es] 36)).alloc (.cells #[.int .i64 0, .int .i64 0, .string ⟨#[]⟩, .int .i64 0, .int .i64 0, .int .i64 0, .bool false, .slice none 0 0] 33))) := S2.new _ _ _
  have HE : Hid (∀ w : World, Calls Try.prog 52 #[.iface T p, .int .i64 k] w fun e w' => e = .returned (.tuple #[.func (.method nm) #[.iface T p] #[], .int .i64 0]) ∧ w' = w) := he
  have HB : Hid (∀ w1 : World, Below w.heap.size w w1 → Calls Try.prog f #[p, .agg #[.int .i64 k, .string er, .int .i64 es]] w1 fun e w' => e = .returned (.agg #[.int .i64 C, .int .i64 A2, .string R2, .int .i64 S2', .int .i64 U2, .int .i64 L2, .bool Q2, .slice a2 n2 c2]) ∧ Below w1.heap.size w1 w') := hb
  clear he hb
  go_enter Try.func34, Try.ntmps34
  go_upto_region 1 with fail
  obtain ⟨W, hW⟩ : ∃ X9, X9 = (w.alloc (.cells #[.int .i64 k, .string er, .int .i64 es] 36)).alloc (.cells #[.int .i64 0, .int .i64 0, .string ⟨#[]⟩, .int .i64 0, .int .i64 0, .int .i64 0, .bool false, .slice none 0 0] 33) := ⟨_, rfl⟩
  rw [← hW] at HS ⊢
  clear hW
  obtain ⟨e0, e1, e2, ef, el⟩ := tw_three HS.out.b0
  obtain ⟨⟨q0, q1, q2, q3, q4, q5, q6, q7⟩, ⟨qf0, qf1, qf2, qf3, qf4, qf5, qf6, qf7⟩, ql⟩ := tr_eight HS.out.b1
  clear ef
  go_wp2_with (fail)
  refine (HE.out _).mono ?_
  rintro e w1 ⟨rfl, hw1⟩
  obtain rfl : W = w1 := hw1.symm
  clear hw1
  go_wp2_with (fail)
  refine (HB.out _ HS.out.bl).mono ?_
  rintro e w1 ⟨rfl, hb1⟩
  have HT : Hid (S2 w (.cells #[.int .i64 k, .string er, .int .i64 es] 36) (.cells #[.int .i64 0, .int .i64 0, .string ⟨#[]⟩, .int .i64 0, .int .i64 0, .int .i64 0, .bool false, .slice none 0 0] 33) w1) := HS.out.next hb1
  clear hb1 HS e0 e1 e2 el q0 q1 q2 q3 q4 q5 q6 q7 qf0 qf1 qf2 qf3 qf4 qf5 qf6 qf7 ql
  obtain ⟨V, hV⟩ : ∃ X9, X9 = w1.alloc (.cells #[.int .i64 C, .int .i64 A2, .string R2, .int .i64 S2', .int .i64 U2, .int .i64 L2, .bool Q2, .slice a2 n2 c2] 33) := ⟨_, rfl⟩
  obtain ⟨K, hK⟩ : ∃ X9, X9 = w1.heap.size := ⟨_, rfl⟩
  have hbV : Below w1.heap.size w1 V := by rw [hV]; (repeat' (first | (with_reducible exact Below.refl _ _) | (with_reducible assumption) | (with_reducible refine Below.setCell ?_ ?_ _) | (with_reducible refine Below.alloc ?_ ?_ _) | (with_reducible refine below_drewN ?_ _) | (with_reducible refine Below.drew ?_) | (with_reducible exact Nat.le_refl _) | omega | (simp; done) | (simp; omega)))
  have kV : V.heap[K]? = some (.cells #[.int .i64 C, .int .i64 A2, .string R2, .int .i64 S2', .int .i64 U2, .int .i64 L2, .bool Q2, .slice a2 n2 c2] 33) := by rw [hV, hK]; exact heap_alloc_new _ _
  have HW : Hid (S2 w (.cells #[.int .i64 k, .string er, .int .i64 es] 36) (.cells #[.int .i64 0, .int .i64 0, .string ⟨#[]⟩, .int .i64 0, .int .i64 0, .int .i64 0, .bool false, .slice none 0 0] 33) V ∧ w.heap.size + 1 < K ∧ K < V.heap.size) := ⟨HT.out.next hbV, by rw [hK]; exact ltOf HT.out.b1, by rw [hV, hK]; simp⟩
  go_upto_region 5 with fail
  rw [← hV, ← hK]
  clear hV hK hbV HT
  have hk1 : ¬ w.heap.size + 1 = K := by have := HW.out.2.1; omega
  have hk2 : ¬ K = w.heap.size + 1 := by have := HW.out.2.1; omega
  obtain ⟨⟨k0, k1, k2, k3, k4, k5, k6, k7⟩, kf, kl⟩ := tr_eight kV
  clear kf kV
  obtain ⟨⟨q0, q1, q2, q3, q4, q5, q6, q7⟩, ⟨qf0, qf1, qf2, qf3, qf4, qf5, qf6, qf7⟩, ql⟩ := tr_eight HW.out.1.b1
  go_wp2
  try simp only [Exit.inBlock, Exit.then]
  refine bodyPost_ret (by simp [results, Try.results34, go_sem, q0, q1, q2, q3, q4, q5, q6, q7]; try rfl) rfl ⟨rfl, ?_⟩
  have hb := HW.out.1.bl
  have hb2 := HW.out.2
  (repeat' (first | (with_reducible exact Below.refl _ _) | (with_reducible assumption) | (with_reducible refine Below.setCell ?_ ?_ _) | (with_reducible refine Below.alloc ?_ ?_ _) | (with_reducible refine below_drewN ?_ _) | (with_reducible refine Below.drew ?_) | (with_reducible exact Nat.le_refl _) | omega | (simp; done) | (simp; omega)))

set_option maxRecDepth 10000 in
set_option maxHeartbeats 3200000 in
theorem ae_meas (T : TypeId) (p : Value) (k : Int) (er : ByteArray) (es : Int) (nm : String) (f fm : FuncId) (C A2 : Int) (R2 : ByteArray) (S2' U2 L2 : Int) (Q2 : Bool) (a2 : Option Addr) (n2 c2 : Nat) (UM : Int) (he : ∀ w : World, Calls Try.prog 52 #[.iface T p, .int .i64 k] w fun e w' => e = .returned (.tuple #[.func (.method nm) #[.iface T p] #[], .int .i64 0]) ∧ w' = w) (hm : ∀ w : World, (method 256 T p nm).run Try.prog w = .ok (f, p) w) (hcf : ∀ (args : Array Value) (w : World), (callFunc f args).run Try.prog w = .ok (.enter f args) w) (w : World) (hb : ∀ w1 : World, Below w.heap.size w w1 → Calls Try.prog f #[p, .agg #[.int .i64 k, .string er, .int .i64 es]] w1 fun e w' => e = .returned (.agg #[.int .i64 C, .int .i64 A2, .string R2, .int .i64 S2', .int .i64 U2, .int .i64 L2, .bool Q2, .slice a2 n2 c2]) ∧ Below w1.heap.size w1 w') (ha : ∀ w : World, (Instr.typeAssert (.iface T p) 66 86 true).run Try.prog w = .ok (.tuple #[.iface T p, .bool true]) w) (hmm : ∀ w : World, (method 256 T p "loop.example/g00057/impl.measured").run Try.prog w = .ok (fm, p) w) (hcm : ∀ (args : Array Value) (w : World), (callFunc fm args).run Try.prog w = .ok (.enter fm args) w) (hmb : ∀ w : World, Calls Try.prog fm #[p] w fun e w' => e = .returned (.int .i64 UM) ∧ Below w.heap.size w w') :
    Calls Try.prog 34 #[.iface T p, .agg #[.int .i64 k, .string er, .int .i64 es]] w fun e w' => e = .returned (.agg #[.int .i64 C, .int .i64 A2, .string R2, .int .i64 S2', .int .i64 UM, .int .i64 L2, .bool Q2, .slice a2 n2 c2]) ∧ Below w.heap.size w w' := by
  have HS : Hid (S2 w (.cells #[.int .i64 k, .string er, .int .i64 es] 36) (.cells #[.int .i64 0, .int .i64 0, .string ⟨#[]⟩, .int .i64 0, .int .i64 0, .int .i64 0, .bool false, .slice none 0 0] 33) ((w.alloc (.cells #[.int .i64 k, .string er, .int .i64 es] 36)).alloc (.cells #[.int .i64 0, .int .i64 0, .string ⟨#[]⟩, .int .i64 0, .int .i64 0, .int .i64 0, .bool false, .slice none 0 0] 33))) := S2.new _ _ _
  have HE : Hid (∀ w : World, Calls Try.prog 52 #[.iface T p, .int .i64 k] w fun e w' => e = .returned (.tuple #[.func (.method nm) #[.iface T p] #[], .int .i64 0]) ∧ w' = w) := he
  have HB : Hid (∀ w1 : World, Below w.heap.size w w1 → Calls Try.prog f #[p, .agg #[.int .i64 k, .string er, .int .i64 es]] w1 fun e w' => e = .returned (.agg #[.int .i64 C, .int .i64 A2, .string R2, .int .i64 S2', .int .i64 U2, .int .i64 L2, .bool Q2, .slice a2 n2 c2]) ∧ Below w1.heap.size w1 w') := hb
  have HMB : Hid (∀ w : World, Calls Try.prog fm #[p] w fun e w' => e = .returned (.int .i64 UM) ∧ Below w.heap.size w w') := hmb
  clear hmb
  clear he hb
  go_enter Try.func34, Try.ntmps34
  go_upto_region 1 with fail
  obtain ⟨W, hW⟩ : ∃ X9, X9 = (w.alloc (.cells #[.int .i64 k, .string er, .int .i64 es] 36)).alloc (.cells #[.int .i64 0, .int .i64 0, .string ⟨#[]⟩, .int .i64 0, .int .i64 0, .int .i64 0, .bool false, .slice none 0 0] 33) := ⟨_, rfl⟩
  rw [← hW] at HS ⊢
  clear hW
  obtain ⟨e0, e1, e2, ef, el⟩ := tw_three HS.out.b0
  obtain ⟨⟨q0, q1, q2, q3, q4, q5, q6, q7⟩, ⟨qf0, qf1, qf2, qf3, qf4, qf5, qf6, qf7⟩, ql⟩ := tr_eight HS.out.b1
  clear ef
  go_wp2_with (fail)
  refine (HE.out _).mono ?_
  rintro e w1 ⟨rfl, hw1⟩
  obtain rfl : W = w1 := hw1.symm
  clear hw1
  go_wp2_with (fail)
  refine (HB.out _ HS.out.bl).mono ?_
  rintro e w1 ⟨rfl, hb1⟩
  have HT : Hid (S2 w (.cells #[.int .i64 k, .string er, .int .i64 es] 36) (.cells #[.int .i64 0, .int .i64 0, .string ⟨#[]⟩, .int .i64 0, .int .i64 0, .int .i64 0, .bool false, .slice none 0 0] 33) w1) := HS.out.next hb1
  clear hb1 HS e0 e1 e2 el q0 q1 q2 q3 q4 q5 q6 q7 qf0 qf1 qf2 qf3 qf4 qf5 qf6 qf7 ql
  obtain ⟨V, hV⟩ : ∃ X9, X9 = w1.alloc (.cells #[.int .i64 C, .int .i64 A2, .string R2, .int .i64 S2', .int .i64 U2, .int .i64 L2, .bool Q2, .slice a2 n2 c2] 33) := ⟨_, rfl⟩
  obtain ⟨K, hK⟩ : ∃ X9, X9 = w1.heap.size := ⟨_, rfl⟩
  have hbV : Below w1.heap.size w1 V := by rw [hV]; (repeat' (first | (with_reducible exact Below.refl _ _) | (with_reducible assumption) | (with_reducible refine Below.setCell ?_ ?_ _) | (with_reducible refine Below.alloc ?_ ?_ _) | (with_reducible refine below_drewN ?_ _) | (with_reducible refine Below.drew ?_) | (with_reducible exact Nat.le_refl _) | omega | (simp; done) | (simp; omega)))
  have kV : V.heap[K]? = some (.cells #[.int .i64 C, .int .i64 A2, .string R2, .int .i64 S2', .int .i64 U2, .int .i64 L2, .bool Q2, .slice a2 n2 c2] 33) := by rw [hV, hK]; exact heap_alloc_new _ _
  have HW : Hid (S2 w (.cells #[.int .i64 k, .string er, .int .i64 es] 36) (.cells #[.int .i64 0, .int .i64 0, .string ⟨#[]⟩, .int .i64 0, .int .i64 0, .int .i64 0, .bool false, .slice none 0 0] 33) V ∧ w.heap.size + 1 < K ∧ K < V.heap.size) := ⟨HT.out.next hbV, by rw [hK]; exact ltOf HT.out.b1, by rw [hV, hK]; simp⟩
  go_upto_region 5 with fail
  rw [← hV, ← hK]
  clear hV hK hbV HT
  have hk1 : ¬ w.heap.size + 1 = K := by have := HW.out.2.1; omega
  have hk2 : ¬ K = w.heap.size + 1 := by have := HW.out.2.1; omega
  go_wp2_with (fail)
  refine (HMB.out _).mono ?_
  rintro e w3 ⟨rfl, hb3⟩
  have k9 := (hb3.block _ (ltOf kV)).trans kV
  have HX : Hid (S2 w (.cells #[.int .i64 k, .string er, .int .i64 es] 36) (.cells #[.int .i64 0, .int .i64 0, .string ⟨#[]⟩, .int .i64 0, .int .i64 0, .int .i64 0, .bool false, .slice none 0 0] 33) w3) := HW.out.1.next hb3
  clear hb3 kV
  obtain ⟨⟨k0, k1, k2, k3, k4, k5, k6, k7⟩, ⟨kf0, kf1, kf2, kf3, kf4, kf5, kf6, kf7⟩, kl⟩ := tr_eight k9
  clear k9
  obtain ⟨⟨q0, q1, q2, q3, q4, q5, q6, q7⟩, ⟨qf0, qf1, qf2, qf3, qf4, qf5, qf6, qf7⟩, ql⟩ := tr_eight HX.out.b1
  go_wp2
  try simp only [Exit.inBlock, Exit.then]
  refine bodyPost_ret (by simp [results, Try.results34, go_sem, q0, q1, q2, q3, q4, q5, q6, q7]; try rfl) rfl ⟨rfl, ?_⟩
  have hb := HX.out.bl
  have hb2 := HW.out.2
  (repeat' (first | (with_reducible exact Below.refl _ _) | (with_reducible assumption) | (with_reducible refine Below.setCell ?_ ?_ _) | (with_reducible refine Below.alloc ?_ ?_ _) | (with_reducible refine below_drewN ?_ _) | (with_reducible refine Below.drew ?_) | (with_reducible exact Nat.le_refl _) | omega | (simp; done) | (simp; omega)))

end Go.Proofs.Ytkacfjbhkgdpdaa
