/- Proved here: ToolAct of the model. -/
import Derived.Test.YtkacfjbhkgdpdaaTaN
import Derived.Test.YtkacfjbhkgdpdaaTgS
import Derived.Test.YtkacfjbhkgdpdaaTiS
import Derived.Test.YtkacfjbhkgdpdaaTfS
import Derived.Test.YtkacfjbhkgdpdaaEvM
namespace Go.Proofs.Ytkacfjbhkgdpdaa
open Go.RowKit
set_option linter.unusedVariables false
set_option linter.unusedSimpArgs false

set_option maxRecDepth 10000 in
set_option maxHeartbeats 6400000 in
theorem spec_may (k A : Int) (hk : 1 ≤ k ∧ k ≤ 9) (hA : 0 ≤ A ∧ A ≤ 6) (w : World) :
    Calls Try.prog 28 #[.int .i64 k, .int .i64 A] w fun e w' => e = .returned (.bool (mayB k A)) ∧ w' = w := by
  have HI : Hid (∀ (w : World), Calls Try.prog 27 #[.int .i64 A, .int .i64 1, .int .i64 3] w fun e w' => e = .returned (.bool (decide (1 ≤ A ∧ A ≤ 3))) ∧ w' = w) := fun w => spec_in10 A 1 3 w
  rcases (by omega : k = 1 ∨ k = 2 ∨ k = 3 ∨ k = 4 ∨ k = 5 ∨ k = 6 ∨ k = 7 ∨ k = 8 ∨ k = 9) with rfl | rfl | rfl | rfl | rfl | rfl | rfl | rfl | rfl
  · clear HI
    rcases (by omega : A = 0 ∨ A = 1 ∨ A = 2 ∨ A = 3 ∨ A = 4 ∨ A = 5 ∨ A = 6) with rfl | rfl | rfl | rfl | rfl | rfl | rfl
    all_goals
      go_enter Try.func28, Try.ntmps28
      go_wp2
      go_returns
      exact ⟨rfl, rfl⟩
  · clear HI
    rcases (by omega : A = 0 ∨ A = 1 ∨ A = 2 ∨ A = 3 ∨ A = 4 ∨ A = 5 ∨ A = 6) with rfl | rfl | rfl | rfl | rfl | rfl | rfl
    all_goals
      go_enter Try.func28, Try.ntmps28
      go_wp2
      go_returns
      exact ⟨rfl, rfl⟩
  · clear HI
    rcases (by omega : A = 0 ∨ A = 1 ∨ A = 2 ∨ A = 3 ∨ A = 4 ∨ A = 5 ∨ A = 6) with rfl | rfl | rfl | rfl | rfl | rfl | rfl
    all_goals
      go_enter Try.func28, Try.ntmps28
      go_wp2
      go_returns
      exact ⟨rfl, rfl⟩
  · clear HI
    rcases (by omega : A = 0 ∨ A = 1 ∨ A = 2 ∨ A = 3 ∨ A = 4 ∨ A = 5 ∨ A = 6) with rfl | rfl | rfl | rfl | rfl | rfl | rfl
    all_goals
      go_enter Try.func28, Try.ntmps28
      go_wp2
      go_returns
      exact ⟨rfl, rfl⟩
  · obtain ⟨q3, hq3⟩ : ∃ b, b = decide (1 ≤ A ∧ A ≤ 3) := ⟨_, rfl⟩
    have HE : Hid (mayB 5 A = q3) := by rw [hq3]; unfold Hid mayB; rw [decide_eq_decide]; omega
    rw [← hq3] at HI
    clear hq3
    go_enter Try.func28, Try.ntmps28
    go_wp2_with (fail)
    refine (HI.out w).mono ?_
    rintro e w1 ⟨rfl, hw⟩
    obtain rfl : w = w1 := hw.symm
    clear hw
    go_wp2
    go_returns
    exact ⟨by rw [HE.out]; rfl, rfl⟩
  · clear HI
    rcases (by omega : A = 0 ∨ A = 1 ∨ A = 2 ∨ A = 3 ∨ A = 4 ∨ A = 5 ∨ A = 6) with rfl | rfl | rfl | rfl | rfl | rfl | rfl
    all_goals
      go_enter Try.func28, Try.ntmps28
      go_wp2
      go_returns
      exact ⟨rfl, rfl⟩
  · clear HI
    rcases (by omega : A = 0 ∨ A = 1 ∨ A = 2 ∨ A = 3 ∨ A = 4 ∨ A = 5 ∨ A = 6) with rfl | rfl | rfl | rfl | rfl | rfl | rfl
    all_goals
      go_enter Try.func28, Try.ntmps28
      go_wp2
      go_returns
      exact ⟨rfl, rfl⟩
  · clear HI
    rcases (by omega : A = 0 ∨ A = 1 ∨ A = 2 ∨ A = 3 ∨ A = 4 ∨ A = 5 ∨ A = 6) with rfl | rfl | rfl | rfl | rfl | rfl | rfl
    all_goals
      go_enter Try.func28, Try.ntmps28
      go_wp2
      go_returns
      exact ⟨rfl, rfl⟩
  · clear HI
    rcases (by omega : A = 0 ∨ A = 1 ∨ A = 2 ∨ A = 3 ∨ A = 4 ∨ A = 5 ∨ A = 6) with rfl | rfl | rfl | rfl | rfl | rfl | rfl
    all_goals
      go_enter Try.func28, Try.ntmps28
      go_wp2
      go_returns
      exact ⟨rfl, rfl⟩

set_option maxRecDepth 10000 in
set_option maxHeartbeats 1600000 in
theorem spec_emy (A : Int) (R : ByteArray) (S U L : Int) (Q : Bool) (st : Int) (a : Option Addr) (n c : Nat) (w : World) (hA : A = 3) (hU : 0 ≤ U ∧ U ≤ 1000) :
    Calls Try.prog 31 #[.agg #[.int .i64 A, .string R, .int .i64 S, .int .i64 U, .int .i64 L, .bool Q, .slice a n c], .int .i64 st] w fun e w' => e = .returned (.agg #[.int .i64 st, .string ⟨#[]⟩, .int .i64 0, .int .i64 (U + 1), .int .i64 L, .bool Q, .slice a n c]) ∧ Below w.heap.size w w' := by
  subst hA
  have HS : Hid (S2 w (.cells #[.int .i64 3, .string R, .int .i64 S, .int .i64 U, .int .i64 L, .bool Q, .slice a n c] 31) (.cells #[.int .i64 0, .string ⟨#[]⟩, .int .i64 0, .int .i64 0, .int .i64 0, .bool false, .slice none 0 0] 31) ((w.alloc (.cells #[.int .i64 3, .string R, .int .i64 S, .int .i64 U, .int .i64 L, .bool Q, .slice a n c] 31)).alloc (.cells #[.int .i64 0, .string ⟨#[]⟩, .int .i64 0, .int .i64 0, .int .i64 0, .bool false, .slice none 0 0] 31))) := S2.new _ _ _
  go_enter Try.func31, Try.ntmps31
  go_upto_region 1 with fail
  obtain ⟨W, hW⟩ : ∃ X9, X9 = (w.alloc (.cells #[.int .i64 3, .string R, .int .i64 S, .int .i64 U, .int .i64 L, .bool Q, .slice a n c] 31)).alloc (.cells #[.int .i64 0, .string ⟨#[]⟩, .int .i64 0, .int .i64 0, .int .i64 0, .bool false, .slice none 0 0] 31) := ⟨_, rfl⟩
  rw [← hW] at HS ⊢
  clear hW
  obtain ⟨p0, p1, p2, p3, p4, p5, p6, pl⟩ := tf_seven HS.out.b0
  obtain ⟨q0, q1, q2, q3, q4, q5, q6, ql⟩ := tf_seven HS.out.b1
  have pf0 := frozOf HS.out.b0 0
  have pf1 := frozOf HS.out.b0 1
  have pf2 := frozOf HS.out.b0 2
  have pf3 := frozOf HS.out.b0 3
  have qf0 := frozOf HS.out.b1 0
  have qf1 := frozOf HS.out.b1 1
  have qf2 := frozOf HS.out.b1 2
  have qf3 := frozOf HS.out.b1 3
  have qf4 := frozOf HS.out.b1 4
  have qf5 := frozOf HS.out.b1 5
  have qf6 := frozOf HS.out.b1 6
  go_wp2
  try simp only [Exit.inBlock, Exit.then]
  refine bodyPost_ret (by simp [results, Try.results31, go_sem, q0, q1, q2, q3, q4, q5, q6]; try rfl) rfl ⟨rfl, ?_⟩
  have hb := HS.out.bl
  (repeat' (first | (with_reducible exact Below.refl _ _) | (with_reducible assumption) | (with_reducible refine Below.setCell ?_ ?_ _) | (with_reducible refine Below.alloc ?_ ?_ _) | (with_reducible refine below_drewN ?_ _) | (with_reducible refine Below.drew ?_) | (with_reducible exact Nat.le_refl _) | omega | (simp; done) | (simp; omega)))

set_option maxRecDepth 10000 in
set_option maxHeartbeats 1600000 in
theorem spec_emn (A : Int) (R : ByteArray) (S U L : Int) (Q : Bool) (st : Int) (a : Option Addr) (n c : Nat) (w : World) (hA : ¬ A = 3) :
    Calls Try.prog 31 #[.agg #[.int .i64 A, .string R, .int .i64 S, .int .i64 U, .int .i64 L, .bool Q, .slice a n c], .int .i64 st] w fun e w' => e = .returned (.agg #[.int .i64 st, .string ⟨#[]⟩, .int .i64 0, .int .i64 U, .int .i64 L, .bool Q, .slice a n c]) ∧ Below w.heap.size w w' := by
  have HS : Hid (S2 w (.cells #[.int .i64 A, .string R, .int .i64 S, .int .i64 U, .int .i64 L, .bool Q, .slice a n c] 31) (.cells #[.int .i64 0, .string ⟨#[]⟩, .int .i64 0, .int .i64 0, .int .i64 0, .bool false, .slice none 0 0] 31) ((w.alloc (.cells #[.int .i64 A, .string R, .int .i64 S, .int .i64 U, .int .i64 L, .bool Q, .slice a n c] 31)).alloc (.cells #[.int .i64 0, .string ⟨#[]⟩, .int .i64 0, .int .i64 0, .int .i64 0, .bool false, .slice none 0 0] 31))) := S2.new _ _ _
  go_enter Try.func31, Try.ntmps31
  go_upto_region 1 with fail
  obtain ⟨W, hW⟩ : ∃ X9, X9 = (w.alloc (.cells #[.int .i64 A, .string R, .int .i64 S, .int .i64 U, .int .i64 L, .bool Q, .slice a n c] 31)).alloc (.cells #[.int .i64 0, .string ⟨#[]⟩, .int .i64 0, .int .i64 0, .int .i64 0, .bool false, .slice none 0 0] 31) := ⟨_, rfl⟩
  rw [← hW] at HS ⊢
  clear hW
  obtain ⟨p0, p1, p2, p3, p4, p5, p6, pl⟩ := tf_seven HS.out.b0
  obtain ⟨q0, q1, q2, q3, q4, q5, q6, ql⟩ := tf_seven HS.out.b1
  have pf0 := frozOf HS.out.b0 0
  have pf1 := frozOf HS.out.b0 1
  have pf2 := frozOf HS.out.b0 2
  have pf3 := frozOf HS.out.b0 3
  have qf0 := frozOf HS.out.b1 0
  have qf1 := frozOf HS.out.b1 1
  have qf2 := frozOf HS.out.b1 2
  have qf3 := frozOf HS.out.b1 3
  have qf4 := frozOf HS.out.b1 4
  have qf5 := frozOf HS.out.b1 5
  have qf6 := frozOf HS.out.b1 6
  go_wp2
  try simp only [Exit.inBlock, Exit.then]
  refine bodyPost_ret (by simp [results, Try.results31, go_sem, q0, q1, q2, q3, q4, q5, q6]; try rfl) rfl ⟨rfl, ?_⟩
  have hb := HS.out.bl
  (repeat' (first | (with_reducible exact Below.refl _ _) | (with_reducible assumption) | (with_reducible refine Below.setCell ?_ ?_ _) | (with_reducible refine Below.alloc ?_ ?_ _) | (with_reducible refine below_drewN ?_ _) | (with_reducible refine Below.drew ?_) | (with_reducible exact Nat.le_refl _) | omega | (simp; done) | (simp; omega)))

set_option maxRecDepth 10000 in
set_option maxHeartbeats 12800000 in
theorem spec_ta2 (A : Int) (R : ByteArray) (S U L : Int) (Q : Bool) (k : Int) (er : ByteArray) (es : Int) {w : World} {g o n c : Nat} {s : List Ap} (hn : n ≤ 1048576) (hz : ∀ j (h : j < s.length), s[j].nm.size ≤ 2000000) (hc : n ≤ c) (h : RG 2 apC w (.slice (some ⟨g, o, none⟩) n c) s) :
    Calls Try.prog 7 #[.agg #[.int .i64 A, .string R, .int .i64 S, .int .i64 U, .int .i64 L, .bool Q, .slice (some ⟨g, o, none⟩) n c], .agg #[.int .i64 k, .string er, .int .i64 es]] w fun e w' => ∃ (v : Value) (_ : Unit), e = .returned (.agg #[.int .i64 (tzC A R S U L Q s k er es), .int .i64 (onI (tzC A R S U L Q s k er es) (taA k)), .string (onS (tzC A R S U L Q s k er es) (taR k R er)), .int .i64 (onI (tzC A R S U L Q s k er es) (taS k S es)), .int .i64 (onI (tzC A R S U L Q s k er es) (taU A U k)), .int .i64 (onI (tzC A R S U L Q s k er es) L), .bool (onB (tzC A R S U L Q s k er es) (taQ k Q)), v]) ∧ OG 72 2 apC w' w.heap.size v (onL (tzC A R S U L Q s k er es) s) ∧ Below w.heap.size w w' ∧ ((tzC A R S U L Q s k er es) = 0 → ∃ g c : Nat, v = .slice (some ⟨g, 0, none⟩) n c) := by
  obtain ⟨x, hx⟩ : ∃ D, D = tlF A R S U L Q s := ⟨_, rfl⟩
  obtain ⟨D, hD⟩ : ∃ D, D = tzC A R S U L Q s k er es := ⟨_, rfl⟩
  have HF : Hid (∀ W, Below w.heap.size w W → Calls Try.prog 26 #[.agg #[.int .i64 A, .string R, .int .i64 S, .int .i64 U, .int .i64 L, .bool Q, .slice (some ⟨g, o, none⟩) n c]] W fun e w' => e = .returned (.int .i64 x) ∧ Below W.heap.size W w') := fun W hb => by rw [hx]; exact spec_tl A R S U L Q hn hz (h.below hb)
  have HCP : Hid (∀ W, Below w.heap.size w W → Calls Try.prog 29 #[.agg #[.int .i64 A, .string R, .int .i64 S, .int .i64 U, .int .i64 L, .bool Q, .slice (some ⟨g, o, none⟩) n c]] W fun e w' => ∃ g' c' : Nat, e = .returned (.agg #[.int .i64 A, .string R, .int .i64 S, .int .i64 U, .int .i64 L, .bool Q, .slice (some ⟨g', 0, none⟩) n c']) ∧ OG 72 2 apC w' W.heap.size (.slice (some ⟨g', 0, none⟩) n c') s ∧ Below W.heap.size W w') := fun W hb => spec_tcp A R S U L Q hn (h.below hb)
  obtain ⟨ap, hap⟩ : ∃ b, b = apB s er es := ⟨_, rfl⟩
  have HAP : Hid (∀ W, Below w.heap.size w W → Calls Try.prog 30 #[.agg #[.int .i64 A, .string R, .int .i64 S, .int .i64 U, .int .i64 L, .bool Q, .slice (some ⟨g, o, none⟩) n c], .string er, .int .i64 es] W fun e w' => e = .returned (.bool ap) ∧ Below W.heap.size W w') := fun W hb => by rw [hap]; exact spec_ia A R S U L Q er es (by rw [← h.len]; exact hn) (h.below hb)
  rw [← hD]
  obtain ⟨xA, hxA⟩ : ∃ Y, Y = onI D (taA k) := ⟨_, rfl⟩
  obtain ⟨xR, hxR⟩ : ∃ Y, Y = onS D (taR k R er) := ⟨_, rfl⟩
  obtain ⟨xS, hxS⟩ : ∃ Y, Y = onI D (taS k S es) := ⟨_, rfl⟩
  obtain ⟨xU, hxU⟩ : ∃ Y, Y = onI D (taU A U k) := ⟨_, rfl⟩
  obtain ⟨xL, hxL⟩ : ∃ Y, Y = onI D L := ⟨_, rfl⟩
  obtain ⟨xQ, hxQ⟩ : ∃ Y, Y = onB D (taQ k Q) := ⟨_, rfl⟩
  obtain ⟨xs, hxs⟩ : ∃ Y, Y = onL D s := ⟨_, rfl⟩
  rw [← hxA, ← hxR, ← hxS, ← hxU, ← hxL, ← hxQ, ← hxs]
  have HV : Hid (x ≠ 0 → D = x ∧ xA = 0 ∧ xR = ⟨#[]⟩ ∧ xS = 0 ∧ xU = 0 ∧ xL = 0 ∧ xQ = false ∧ xs = []) := fun e => by
    have h1 : D = x := by rw [hD, hx]; exact tzC_no (by rw [← hx]; exact e)
    have h2 : D ≠ 0 := by rw [h1]; exact e
    exact ⟨h1, hxA.trans (if_neg h2), hxR.trans (if_neg h2), hxS.trans (if_neg h2), hxU.trans (if_neg h2), hxL.trans (if_neg h2), hxQ.trans (if_neg h2), hxs.trans (if_neg h2)⟩
  have HNO : Hid (D ≠ 0 → xA = 0 ∧ xR = ⟨#[]⟩ ∧ xS = 0 ∧ xU = 0 ∧ xL = 0 ∧ xQ = false ∧ xs = []) := fun h2 => ⟨hxA.trans (if_neg h2), hxR.trans (if_neg h2), hxS.trans (if_neg h2), hxU.trans (if_neg h2), hxL.trans (if_neg h2), hxQ.trans (if_neg h2), hxs.trans (if_neg h2)⟩
  have HYE : Hid (D = 0 → xA = taA k ∧ xR = taR k R er ∧ xS = taS k S es ∧ xU = taU A U k ∧ xL = L ∧ xQ = taQ k Q ∧ xs = s) := fun h2 => ⟨hxA.trans (if_pos h2), hxR.trans (if_pos h2), hxS.trans (if_pos h2), hxU.trans (if_pos h2), hxL.trans (if_pos h2), hxQ.trans (if_pos h2), hxs.trans (if_pos h2)⟩
  have HM : Hid (x = 0 → D = taC A U L Q k ap ∧ (0 ≤ A ∧ A ≤ 6) ∧ (0 ≤ U ∧ U ≤ 1000) ∧ (A ≠ 2 → A ≠ 3 → R = ⟨#[]⟩ ∧ S = 0)) := fun e => by
    rw [hx] at e
    have ho := tl_zero e
    exact ⟨by rw [hD, hap]; exact tzC_yes e, ho.1, ho.2.2.1, fun h2 h3 => fs_rest ho.2.2.2.2 h2 h3⟩
  have HS : Hid (S3 w (.cells #[.int .i64 A, .string R, .int .i64 S, .int .i64 U, .int .i64 L, .bool Q, .slice (some ⟨g, o, none⟩) n c] 31) (.cells #[.int .i64 k, .string er, .int .i64 es] 36) (.cells #[.int .i64 0, .int .i64 0, .string ⟨#[]⟩, .int .i64 0, .int .i64 0, .int .i64 0, .bool false, .slice none 0 0] 33) (((w.alloc (.cells #[.int .i64 A, .string R, .int .i64 S, .int .i64 U, .int .i64 L, .bool Q, .slice (some ⟨g, o, none⟩) n c] 31)).alloc (.cells #[.int .i64 k, .string er, .int .i64 es] 36)).alloc (.cells #[.int .i64 0, .int .i64 0, .string ⟨#[]⟩, .int .i64 0, .int .i64 0, .int .i64 0, .bool false, .slice none 0 0] 33))) := S3.new _ _ _ _
  clear h hn hz hc hx hD hap hxA hxR hxS hxU hxL hxQ hxs
  go_enter Try.func7, Try.ntmps7
  go_wp2_with (fail)
  obtain ⟨U0, hU0⟩ : ∃ X9, X9 = (((w.alloc (.cells #[.int .i64 A, .string R, .int .i64 S, .int .i64 U, .int .i64 L, .bool Q, .slice (some ⟨g, o, none⟩) n c] 31)).alloc (.cells #[.int .i64 k, .string er, .int .i64 es] 36)).alloc (.cells #[.int .i64 0, .int .i64 0, .string ⟨#[]⟩, .int .i64 0, .int .i64 0, .int .i64 0, .bool false, .slice none 0 0] 33)) := ⟨_, rfl⟩
  rw [← hU0] at HS ⊢
  clear hU0
  refine (HF.out _ HS.out.bl).mono ?_
  rintro e w1 ⟨rfl, hb1⟩
  have HT : Hid (S3 w (.cells #[.int .i64 A, .string R, .int .i64 S, .int .i64 U, .int .i64 L, .bool Q, .slice (some ⟨g, o, none⟩) n c] 31) (.cells #[.int .i64 k, .string er, .int .i64 es] 36) (.cells #[.int .i64 0, .int .i64 0, .string ⟨#[]⟩, .int .i64 0, .int .i64 0, .int .i64 0, .bool false, .slice none 0 0] 33) w1) := HS.out.next hb1
  clear hb1 HF HS
  obtain ⟨p0, p1, p2, p3, p4, p5, p6, pl⟩ := tf_seven HT.out.b0
  obtain ⟨e0, e1, e2, el⟩ : w1.cell? ⟨w.heap.size + 1, 0, none⟩ = some (.int .i64 k) ∧ w1.cell? ⟨w.heap.size + 1, 1, none⟩ = some (.string er) ∧ w1.cell? ⟨w.heap.size + 1, 2, none⟩ = some (.int .i64 es) ∧ w.heap.size + 1 < w1.heap.size := ⟨cellOf HT.out.b1 0 rfl, cellOf HT.out.b1 1 rfl, cellOf HT.out.b1 2 rfl, ltOf HT.out.b1⟩
  by_cases hx0 : x = 0
  case neg =>
    have HE : Hid (D = x ∧ xA = 0 ∧ xR = ⟨#[]⟩ ∧ xS = 0 ∧ xU = 0 ∧ xL = 0 ∧ xQ = false ∧ xs = []) := HV.out hx0
    have hA1 : (x != 0) = true := by simpa using hx0
    clear HV HCP HM HNO HYE HAP
    obtain ⟨⟨q0, q1, q2, q3, q4, q5, q6, q7⟩, ⟨qf0, qf1, qf2, qf3, qf4, qf5, qf6, qf7⟩, ql⟩ := tr_eight HT.out.b2
    go_wp2
    try simp only [Exit.inBlock, Exit.then]
    refine bodyPost_ret (by simp [results, Try.results7, go_sem, q0, q1, q2, q3, q4, q5, q6, q7]; try rfl) rfl ⟨.slice none 0 0, (), by rw [HE.out.1, HE.out.2.1, HE.out.2.2.1, HE.out.2.2.2.1, HE.out.2.2.2.2.1, HE.out.2.2.2.2.2.1, HE.out.2.2.2.2.2.2.1], by rw [HE.out.2.2.2.2.2.2.2]; exact ap_none _ _, ?_, fun e9 => absurd (HE.out.1.symm.trans e9) hx0⟩
    have hB := HT.out.bl
    (repeat' (first | (with_reducible exact Below.refl _ _) | (with_reducible assumption) | (with_reducible refine Below.setCell ?_ ?_ _) | (with_reducible refine Below.alloc ?_ ?_ _) | (with_reducible refine below_drewN ?_ _) | (with_reducible refine Below.drew ?_) | (with_reducible exact Nat.le_refl _) | omega | (simp; done) | (simp; omega)))
  have HN : Hid (D = taC A U L Q k ap ∧ (0 ≤ A ∧ A ≤ 6) ∧ (0 ≤ U ∧ U ≤ 1000) ∧ (A ≠ 2 → A ≠ 3 → R = ⟨#[]⟩ ∧ S = 0)) := HM.out hx0
  subst hx0
  clear HM HV
  obtain ⟨inK, hin⟩ : ∃ b, b = decide (1 ≤ k ∧ k ≤ 9) := ⟨_, rfl⟩
  have HIN : Hid (∀ W : World, Calls Try.prog 27 #[.int .i64 k, .int .i64 1, .int .i64 9] W fun e w' => e = .returned (.bool inK) ∧ w' = W) := fun W => by rw [hin]; exact spec_in10 k 1 9 W
  go_wp2_with (fail)
  refine (HIN.out _).mono ?_
  rintro e w2 ⟨rfl, hw2⟩
  obtain rfl : w1 = w2 := hw2.symm
  clear hw2 HIN
  cases inK with
  | false =>
    have hk : ¬ (1 ≤ k ∧ k ≤ 9) := by simpa using hin.symm
    clear HCP HAP hin
    have hD1 : D = 5 := by rw [HN.out.1]; unfold taC; rw [if_pos hk]
    have HE : Hid (D = 5 ∧ xA = 0 ∧ xR = ⟨#[]⟩ ∧ xS = 0 ∧ xU = 0 ∧ xL = 0 ∧ xQ = false ∧ xs = []) := ⟨hD1, HNO.out (by rw [hD1]; decide)⟩
    clear hD1 HNO HYE HN hk
    obtain ⟨⟨q0, q1, q2, q3, q4, q5, q6, q7⟩, ⟨qf0, qf1, qf2, qf3, qf4, qf5, qf6, qf7⟩, ql⟩ := tr_eight HT.out.b2
    go_wp2
    try simp only [Exit.inBlock, Exit.then]
    refine bodyPost_ret (by simp [results, Try.results7, go_sem, q0, q1, q2, q3, q4, q5, q6, q7]; try rfl) rfl ⟨.slice none 0 0, (), by rw [HE.out.1, HE.out.2.1, HE.out.2.2.1, HE.out.2.2.2.1, HE.out.2.2.2.2.1, HE.out.2.2.2.2.2.1, HE.out.2.2.2.2.2.2.1], by rw [HE.out.2.2.2.2.2.2.2]; exact ap_none _ _, ?_, fun e9 => absurd (HE.out.1.symm.trans e9) (by decide)⟩
    have hB := HT.out.bl
    (repeat' (first | (with_reducible exact Below.refl _ _) | (with_reducible assumption) | (with_reducible refine Below.setCell ?_ ?_ _) | (with_reducible refine Below.alloc ?_ ?_ _) | (with_reducible refine below_drewN ?_ _) | (with_reducible refine Below.drew ?_) | (with_reducible exact Nat.le_refl _) | omega | (simp; done) | (simp; omega)))
  | true =>
  have hk : 1 ≤ k ∧ k ≤ 9 := by simpa using hin.symm
  clear hin
  obtain ⟨mb, hmb⟩ : ∃ b, b = mayB k A := ⟨_, rfl⟩
  have HMY : Hid (∀ W : World, Calls Try.prog 28 #[.int .i64 k, .int .i64 A] W fun e w' => e = .returned (.bool mb) ∧ w' = W) := fun W => by rw [hmb]; exact spec_may k A hk HN.out.2.1 W
  go_wp2_with (fail)
  refine (HMY.out _).mono ?_
  rintro e w2 ⟨rfl, hw2⟩
  obtain rfl : w1 = w2 := hw2.symm
  clear hw2 HMY
  cases mb with
  | false =>
    clear HCP HAP
    have hD1 : D = 1 := by rw [HN.out.1]; unfold taC; rw [if_neg (fun e => e hk), if_pos hmb.symm]
    have HE : Hid (D = 1 ∧ xA = 0 ∧ xR = ⟨#[]⟩ ∧ xS = 0 ∧ xU = 0 ∧ xL = 0 ∧ xQ = false ∧ xs = []) := ⟨hD1, HNO.out (by rw [hD1]; decide)⟩
    clear hD1 HNO HYE HN hmb hk
    obtain ⟨⟨q0, q1, q2, q3, q4, q5, q6, q7⟩, ⟨qf0, qf1, qf2, qf3, qf4, qf5, qf6, qf7⟩, ql⟩ := tr_eight HT.out.b2
    go_wp2
    try simp only [Exit.inBlock, Exit.then]
    refine bodyPost_ret (by simp [results, Try.results7, go_sem, q0, q1, q2, q3, q4, q5, q6, q7]; try rfl) rfl ⟨.slice none 0 0, (), by rw [HE.out.1, HE.out.2.1, HE.out.2.2.1, HE.out.2.2.2.1, HE.out.2.2.2.2.1, HE.out.2.2.2.2.2.1, HE.out.2.2.2.2.2.2.1], by rw [HE.out.2.2.2.2.2.2.2]; exact ap_none _ _, ?_, fun e9 => absurd (HE.out.1.symm.trans e9) (by decide)⟩
    have hB := HT.out.bl
    (repeat' (first | (with_reducible exact Below.refl _ _) | (with_reducible assumption) | (with_reducible refine Below.setCell ?_ ?_ _) | (with_reducible refine Below.alloc ?_ ?_ _) | (with_reducible refine below_drewN ?_ _) | (with_reducible refine Below.drew ?_) | (with_reducible exact Nat.le_refl _) | omega | (simp; done) | (simp; omega)))
  | true =>
  have HTC : Hid (D = (if k = 2 then (if ap = false then 4 else if Q = false then 7 else 0) else if k = 3 ∧ U = L then 2 else 0)) := by unfold Hid; rw [HN.out.1]; unfold taC; rw [if_neg (fun e => e hk), if_neg (by rw [← hmb]; decide)]
  have HMB : Hid (mayB k A = true) := hmb.symm
  clear hmb
  go_wp2_with (fail)
  refine (HCP.out _ HT.out.bl).mono ?_
  rintro e w2 ⟨a1, c1, rfl, hO2, hb2⟩
  obtain ⟨V, hV⟩ : ∃ X9, X9 = w2.alloc (.cells #[.int .i64 A, .string R, .int .i64 S, .int .i64 U, .int .i64 L, .bool Q, .slice (some ⟨a1, 0, none⟩) n c1] 31) := ⟨_, rfl⟩
  obtain ⟨K, hK⟩ : ∃ X9, X9 = w2.heap.size := ⟨_, rfl⟩
  have hbV : Below w2.heap.size w2 V := by rw [hV]; (repeat' (first | (with_reducible exact Below.refl _ _) | (with_reducible assumption) | (with_reducible refine Below.setCell ?_ ?_ _) | (with_reducible refine Below.alloc ?_ ?_ _) | (with_reducible refine below_drewN ?_ _) | (with_reducible refine Below.drew ?_) | (with_reducible exact Nat.le_refl _) | omega | (simp; done) | (simp; omega)))
  have hl1 := ltOf HT.out.b2
  have HW : Hid (S3 w (.cells #[.int .i64 A, .string R, .int .i64 S, .int .i64 U, .int .i64 L, .bool Q, .slice (some ⟨g, o, none⟩) n c] 31) (.cells #[.int .i64 k, .string er, .int .i64 es] 36) (.cells #[.int .i64 0, .int .i64 0, .string ⟨#[]⟩, .int .i64 0, .int .i64 0, .int .i64 0, .bool false, .slice none 0 0] 33) V ∧ V.heap[K]? = some (.cells #[.int .i64 A, .string R, .int .i64 S, .int .i64 U, .int .i64 L, .bool Q, .slice (some ⟨a1, 0, none⟩) n c1] 31) ∧ OG 72 2 apC V w1.heap.size (.slice (some ⟨a1, 0, none⟩) n c1) s ∧ w.heap.size + 2 < w1.heap.size ∧ w1.heap.size ≤ K ∧ K < V.heap.size ∧ (∀ q, (Value.slice (some ⟨a1, 0, none⟩) n c1).ownBlock = some q → q < K)) := ⟨(HT.out.next hb2).next hbV, by rw [hV, hK]; exact heap_alloc_new _ _, OG.below hO2 hbV, hl1, by rw [hK]; exact hb2.size, by rw [hV, hK]; simp, fun q hq => by rw [hK]; exact (OG.lt hO2 q hq).2⟩
  clear hbV hl1 hO2 hb2 HT HCP p0 p1 p2 p3 p4 p5 p6 pl e0 e1 e2 el
  go_upto_region 9 with fail
  rw [← hV, ← hK]
  clear hV hK
  obtain ⟨p0, p1, p2, p3, p4, p5, p6, pl⟩ := tf_seven HW.out.1.b0
  obtain ⟨e0, e1, e2, el⟩ : V.cell? ⟨w.heap.size + 1, 0, none⟩ = some (.int .i64 k) ∧ V.cell? ⟨w.heap.size + 1, 1, none⟩ = some (.string er) ∧ V.cell? ⟨w.heap.size + 1, 2, none⟩ = some (.int .i64 es) ∧ w.heap.size + 1 < V.heap.size := ⟨cellOf HW.out.1.b1 0 rfl, cellOf HW.out.1.b1 1 rfl, cellOf HW.out.1.b1 2 rfl, ltOf HW.out.1.b1⟩
  obtain ⟨k0, k1, k2, k3, k4, k5, k6, kl⟩ := tf_seven HW.out.2.1
  have kf0 := frozOf HW.out.2.1 0
  have kf1 := frozOf HW.out.2.1 1
  have kf2 := frozOf HW.out.2.1 2
  have kf3 := frozOf HW.out.2.1 3
  have kf4 := frozOf HW.out.2.1 4
  have kf5 := frozOf HW.out.2.1 5
  have kf6 := frozOf HW.out.2.1 6
  obtain ⟨⟨q0, q1, q2, q3, q4, q5, q6, q7⟩, ⟨qf0, qf1, qf2, qf3, qf4, qf5, qf6, qf7⟩, ql⟩ := tr_eight HW.out.1.b2
  have hk0 : ¬ w.heap.size = K := by have h1 := HW.out.2.2.2.1; have h2 := HW.out.2.2.2.2.1; omega
  have hk1 : ¬ w.heap.size + 1 = K := by have h1 := HW.out.2.2.2.1; have h2 := HW.out.2.2.2.2.1; omega
  have hk2 : ¬ w.heap.size + 2 = K := by have h1 := HW.out.2.2.2.1; have h2 := HW.out.2.2.2.2.1; omega
  have hk3 : ¬ K = w.heap.size + 2 := fun e => hk2 e.symm
  rcases (by omega : k = 1 ∨ k = 2 ∨ k = 3 ∨ k = 4 ∨ k = 5 ∨ k = 6 ∨ k = 7 ∨ k = 8 ∨ k = 9) with rfl | rfl | rfl | rfl | rfl | rfl | rfl | rfl | rfl
  · have hA : A = 0 := by have h9 := HMB.out; unfold mayB at h9; simpa using h9
    have hRS := HN.out.2.2.2 (by omega) (by omega)
    have hD1 : D = 0 := by rw [HTC.out]; rw [if_neg (by decide), if_neg (by simp)]
    have HE : Hid (D = 0 ∧ xA = 1 ∧ xR = R ∧ xS = S ∧ xU = U ∧ xL = L ∧ xQ = Q ∧ xs = s) := by
      obtain ⟨g1, g2, g3, g4, g5, g6, g7⟩ := HYE.out hD1
      refine ⟨hD1, g1.trans ?_, g2.trans ?_, g3.trans ?_, g4.trans ?_, g5, g6.trans ?_, g7⟩
      · rfl
      · exact hRS.1.symm
      · exact hRS.2.symm
      · unfold taU; rw [if_neg (by decide), if_neg (by omega)]
      · rfl
    clear hD1 HNO HYE HN HTC HMB hA hRS HAP
    go_wp2
    try simp only [Exit.inBlock, Exit.then]
    refine bodyPost_ret (by simp [results, Try.results7, go_sem, q0, q1, q2, q3, q4, q5, q6, q7]; try rfl) rfl ⟨.slice (some ⟨a1, 0, none⟩) n c1, (), by rw [HE.out.1, HE.out.2.1, HE.out.2.2.1, HE.out.2.2.2.1, HE.out.2.2.2.2.1, HE.out.2.2.2.2.2.1, HE.out.2.2.2.2.2.2.1], ?_, ?_, fun _ => ⟨a1, c1, rfl⟩⟩
    · rw [HE.out.2.2.2.2.2.2.2]
      refine OG.low (B := w1.heap.size) (ownsRow_keep HW.out.2.2.1 fun q hq => ?_) (by have := HW.out.2.2.2.1; omega)
      have h9 := (OG.lt HW.out.2.2.1 q hq).1
      have h8 := HW.out.2.2.2.1
      have h7 := HW.out.2.2.2.2.2.2 q hq
      repeat rw [heap_setCell_other _ _ _ _ (by simp; omega)]
    · have hb := HW.out.1.bl
      have h8 := HW.out.2.2.2.1
      have h7 := HW.out.2.2.2.2.1
      (repeat' (first | (with_reducible exact Below.refl _ _) | (with_reducible assumption) | (with_reducible refine Below.setCell ?_ ?_ _) | (with_reducible refine Below.alloc ?_ ?_ _) | (with_reducible refine below_drewN ?_ _) | (with_reducible refine Below.drew ?_) | (with_reducible exact Nat.le_refl _) | omega | (simp; done) | (simp; omega)))
  · go_wp2_with (fail)
    refine (HAP.out _ HW.out.1.bl).mono ?_
    rintro e w3 ⟨rfl, hb3⟩
    have HX : Hid (S3 w (.cells #[.int .i64 A, .string R, .int .i64 S, .int .i64 U, .int .i64 L, .bool Q, .slice (some ⟨g, o, none⟩) n c] 31) (.cells #[.int .i64 2, .string er, .int .i64 es] 36) (.cells #[.int .i64 0, .int .i64 0, .string ⟨#[]⟩, .int .i64 0, .int .i64 0, .int .i64 0, .bool false, .slice none 0 0] 33) w3 ∧ w3.heap[K]? = some (.cells #[.int .i64 A, .string R, .int .i64 S, .int .i64 U, .int .i64 L, .bool Q, .slice (some ⟨a1, 0, none⟩) n c1] 31) ∧ OG 72 2 apC w3 w1.heap.size (.slice (some ⟨a1, 0, none⟩) n c1) s) := ⟨HW.out.1.next hb3, (hb3.block _ (ltOf HW.out.2.1)).trans HW.out.2.1, OG.below HW.out.2.2.1 hb3⟩
    clear hb3 HAP p0 p1 p2 p3 p4 p5 p6 pl e0 e1 e2 el k0 k1 k2 k3 k4 k5 k6 kl kf0 kf1 kf2 kf3 kf4 kf5 kf6 q0 q1 q2 q3 q4 q5 q6 q7 qf0 qf1 qf2 qf3 qf4 qf5 qf6 qf7 ql
    obtain ⟨p0, p1, p2, p3, p4, p5, p6, pl⟩ := tf_seven HX.out.1.b0
    obtain ⟨e0, e1, e2, el⟩ : w3.cell? ⟨w.heap.size + 1, 0, none⟩ = some (.int .i64 2) ∧ w3.cell? ⟨w.heap.size + 1, 1, none⟩ = some (.string er) ∧ w3.cell? ⟨w.heap.size + 1, 2, none⟩ = some (.int .i64 es) ∧ w.heap.size + 1 < w3.heap.size := ⟨cellOf HX.out.1.b1 0 rfl, cellOf HX.out.1.b1 1 rfl, cellOf HX.out.1.b1 2 rfl, ltOf HX.out.1.b1⟩
    obtain ⟨k0, k1, k2, k3, k4, k5, k6, kl⟩ := tf_seven HX.out.2.1
    have kf0 := frozOf HX.out.2.1 0
    have kf1 := frozOf HX.out.2.1 1
    have kf2 := frozOf HX.out.2.1 2
    have kf3 := frozOf HX.out.2.1 3
    have kf4 := frozOf HX.out.2.1 4
    have kf5 := frozOf HX.out.2.1 5
    have kf6 := frozOf HX.out.2.1 6
    cases ap with
    | false =>
      have hD1 : D = 4 := by rw [HTC.out]; rfl
      have HE : Hid (D = 4 ∧ xA = 0 ∧ xR = ⟨#[]⟩ ∧ xS = 0 ∧ xU = 0 ∧ xL = 0 ∧ xQ = false ∧ xs = []) := ⟨hD1, HNO.out (by rw [hD1]; decide)⟩
      clear hD1 HNO HYE HN HTC HMB
      obtain ⟨⟨q0, q1, q2, q3, q4, q5, q6, q7⟩, ⟨qf0, qf1, qf2, qf3, qf4, qf5, qf6, qf7⟩, ql⟩ := tr_eight HX.out.1.b2
      go_wp2
      try simp only [Exit.inBlock, Exit.then]
      refine bodyPost_ret (by simp [results, Try.results7, go_sem, q0, q1, q2, q3, q4, q5, q6, q7]; try rfl) rfl ⟨.slice none 0 0, (), by rw [HE.out.1, HE.out.2.1, HE.out.2.2.1, HE.out.2.2.2.1, HE.out.2.2.2.2.1, HE.out.2.2.2.2.2.1, HE.out.2.2.2.2.2.2.1], by rw [HE.out.2.2.2.2.2.2.2]; exact ap_none _ _, ?_, fun e9 => absurd (HE.out.1.symm.trans e9) (by decide)⟩
      have hB := HX.out.1.bl
      have h8 := HW.out.2.2.2.1
      (repeat' (first | (with_reducible exact Below.refl _ _) | (with_reducible assumption) | (with_reducible refine Below.setCell ?_ ?_ _) | (with_reducible refine Below.alloc ?_ ?_ _) | (with_reducible refine below_drewN ?_ _) | (with_reducible refine Below.drew ?_) | (with_reducible exact Nat.le_refl _) | omega | (simp; done) | (simp; omega)))
    | true =>
    cases Q with
    | false =>
      have hD1 : D = 7 := by rw [HTC.out]; rfl
      have HE : Hid (D = 7 ∧ xA = 0 ∧ xR = ⟨#[]⟩ ∧ xS = 0 ∧ xU = 0 ∧ xL = 0 ∧ xQ = false ∧ xs = []) := ⟨hD1, HNO.out (by rw [hD1]; decide)⟩
      clear hD1 HNO HYE HN HTC HMB
      obtain ⟨⟨q0, q1, q2, q3, q4, q5, q6, q7⟩, ⟨qf0, qf1, qf2, qf3, qf4, qf5, qf6, qf7⟩, ql⟩ := tr_eight HX.out.1.b2
      go_wp2
      try simp only [Exit.inBlock, Exit.then]
      refine bodyPost_ret (by simp [results, Try.results7, go_sem, q0, q1, q2, q3, q4, q5, q6, q7]; try rfl) rfl ⟨.slice none 0 0, (), by rw [HE.out.1, HE.out.2.1, HE.out.2.2.1, HE.out.2.2.2.1, HE.out.2.2.2.2.1, HE.out.2.2.2.2.2.1, HE.out.2.2.2.2.2.2.1], by rw [HE.out.2.2.2.2.2.2.2]; exact ap_none _ _, ?_, fun e9 => absurd (HE.out.1.symm.trans e9) (by decide)⟩
      have hB := HX.out.1.bl
      have h8 := HW.out.2.2.2.1
      (repeat' (first | (with_reducible exact Below.refl _ _) | (with_reducible assumption) | (with_reducible refine Below.setCell ?_ ?_ _) | (with_reducible refine Below.alloc ?_ ?_ _) | (with_reducible refine below_drewN ?_ _) | (with_reducible refine Below.drew ?_) | (with_reducible exact Nat.le_refl _) | omega | (simp; done) | (simp; omega)))
    | true =>
      have hD1 : D = 0 := by rw [HTC.out]; rfl
      have HE : Hid (D = 0 ∧ xA = 2 ∧ xR = er ∧ xS = es ∧ xU = U ∧ xL = L ∧ xQ = true ∧ xs = s) := by
        obtain ⟨g1, g2, g3, g4, g5, g6, g7⟩ := HYE.out hD1
        refine ⟨hD1, g1.trans ?_, g2.trans ?_, g3.trans ?_, g4.trans ?_, g5, g6.trans ?_, g7⟩
        · rfl
        · rfl
        · rfl
        · have h9 := HMB.out; unfold mayB at h9; simp at h9; unfold taU; rw [if_neg (by decide), if_neg (by omega)]
        · rfl
      clear hD1 HNO HYE HN HTC HMB
      obtain ⟨⟨q0, q1, q2, q3, q4, q5, q6, q7⟩, ⟨qf0, qf1, qf2, qf3, qf4, qf5, qf6, qf7⟩, ql⟩ := tr_eight HX.out.1.b2
      go_wp2
      try simp only [Exit.inBlock, Exit.then]
      refine bodyPost_ret (by simp [results, Try.results7, go_sem, q0, q1, q2, q3, q4, q5, q6, q7]; try rfl) rfl ⟨.slice (some ⟨a1, 0, none⟩) n c1, (), by rw [HE.out.1, HE.out.2.1, HE.out.2.2.1, HE.out.2.2.2.1, HE.out.2.2.2.2.1, HE.out.2.2.2.2.2.1, HE.out.2.2.2.2.2.2.1], ?_, ?_, fun _ => ⟨a1, c1, rfl⟩⟩
      · rw [HE.out.2.2.2.2.2.2.2]
        refine OG.low (B := w1.heap.size) (ownsRow_keep HX.out.2.2 fun q hq => ?_) (by have := HW.out.2.2.2.1; omega)
        have h9 := (OG.lt HX.out.2.2 q hq).1
        have h8 := HW.out.2.2.2.1
        have h7 := HW.out.2.2.2.2.2.2 q hq
        repeat rw [heap_setCell_other _ _ _ _ (by simp; omega)]
      · have hb := HX.out.1.bl
        have h8 := HW.out.2.2.2.1
        have h7 := HW.out.2.2.2.2.1
        (repeat' (first | (with_reducible exact Below.refl _ _) | (with_reducible assumption) | (with_reducible refine Below.setCell ?_ ?_ _) | (with_reducible refine Below.alloc ?_ ?_ _) | (with_reducible refine below_drewN ?_ _) | (with_reducible refine Below.drew ?_) | (with_reducible exact Nat.le_refl _) | omega | (simp; done) | (simp; omega)))
  · have hA : A = 2 := by have h9 := HMB.out; unfold mayB at h9; simpa using h9
    clear HAP
    by_cases hUL : U = L
    · have hD1 : D = 2 := by rw [HTC.out, if_neg (by decide), if_pos ⟨rfl, hUL⟩]
      have HE : Hid (D = 2 ∧ xA = 0 ∧ xR = ⟨#[]⟩ ∧ xS = 0 ∧ xU = 0 ∧ xL = 0 ∧ xQ = false ∧ xs = []) := ⟨hD1, HNO.out (by rw [hD1]; decide)⟩
      clear hD1 HNO HYE HN HTC HMB hA q0 q1 q2 q3 q4 q5 q6 q7 qf0 qf1 qf2 qf3 qf4 qf5 qf6 qf7 ql
      obtain ⟨⟨q0, q1, q2, q3, q4, q5, q6, q7⟩, ⟨qf0, qf1, qf2, qf3, qf4, qf5, qf6, qf7⟩, ql⟩ := tr_eight HW.out.1.b2
      go_wp2
      try simp only [Exit.inBlock, Exit.then]
      refine bodyPost_ret (by simp [results, Try.results7, go_sem, q0, q1, q2, q3, q4, q5, q6, q7]; try rfl) rfl ⟨.slice none 0 0, (), by rw [HE.out.1, HE.out.2.1, HE.out.2.2.1, HE.out.2.2.2.1, HE.out.2.2.2.2.1, HE.out.2.2.2.2.2.1, HE.out.2.2.2.2.2.2.1], by rw [HE.out.2.2.2.2.2.2.2]; exact ap_none _ _, ?_, fun e9 => absurd (HE.out.1.symm.trans e9) (by decide)⟩
      have hB := HW.out.1.bl
      have h8 := HW.out.2.2.2.1
      (repeat' (first | (with_reducible exact Below.refl _ _) | (with_reducible assumption) | (with_reducible refine Below.setCell ?_ ?_ _) | (with_reducible refine Below.alloc ?_ ?_ _) | (with_reducible refine below_drewN ?_ _) | (with_reducible refine Below.drew ?_) | (with_reducible exact Nat.le_refl _) | omega | (simp; done) | (simp; omega)))
    · have hD1 : D = 0 := by rw [HTC.out]; rw [if_neg (by decide), if_neg (fun e => hUL e.2)]
      have HE : Hid (D = 0 ∧ xA = 3 ∧ xR = R ∧ xS = S ∧ xU = U ∧ xL = L ∧ xQ = Q ∧ xs = s) := by
        obtain ⟨g1, g2, g3, g4, g5, g6, g7⟩ := HYE.out hD1
        refine ⟨hD1, g1.trans ?_, g2.trans ?_, g3.trans ?_, g4.trans ?_, g5, g6.trans ?_, g7⟩
        · rfl
        · rfl
        · rfl
        · unfold taU; rw [if_neg (by decide), if_neg (by omega)]
        · rfl
      clear hD1 HNO HYE HN HTC HMB hA
      go_wp2
      try simp only [Exit.inBlock, Exit.then]
      refine bodyPost_ret (by simp [results, Try.results7, go_sem, q0, q1, q2, q3, q4, q5, q6, q7]; try rfl) rfl ⟨.slice (some ⟨a1, 0, none⟩) n c1, (), by rw [HE.out.1, HE.out.2.1, HE.out.2.2.1, HE.out.2.2.2.1, HE.out.2.2.2.2.1, HE.out.2.2.2.2.2.1, HE.out.2.2.2.2.2.2.1], ?_, ?_, fun _ => ⟨a1, c1, rfl⟩⟩
      · rw [HE.out.2.2.2.2.2.2.2]
        refine OG.low (B := w1.heap.size) (ownsRow_keep HW.out.2.2.1 fun q hq => ?_) (by have := HW.out.2.2.2.1; omega)
        have h9 := (OG.lt HW.out.2.2.1 q hq).1
        have h8 := HW.out.2.2.2.1
        have h7 := HW.out.2.2.2.2.2.2 q hq
        repeat rw [heap_setCell_other _ _ _ _ (by simp; omega)]
      · have hb := HW.out.1.bl
        have h8 := HW.out.2.2.2.1
        have h7 := HW.out.2.2.2.2.1
        (repeat' (first | (with_reducible exact Below.refl _ _) | (with_reducible assumption) | (with_reducible refine Below.setCell ?_ ?_ _) | (with_reducible refine Below.alloc ?_ ?_ _) | (with_reducible refine below_drewN ?_ _) | (with_reducible refine Below.drew ?_) | (with_reducible exact Nat.le_refl _) | omega | (simp; done) | (simp; omega)))
  · clear HAP
    obtain ⟨UU, hUU⟩ : ∃ u, u = taU A U 4 := ⟨_, rfl⟩
    have HEM : Hid (∀ W : World, Calls Try.prog 31 #[.agg #[.int .i64 A, .string R, .int .i64 S, .int .i64 U, .int .i64 L, .bool Q, .slice (some ⟨a1, 0, none⟩) n c1], .int .i64 1] W fun e w' => e = .returned (.agg #[.int .i64 1, .string ⟨#[]⟩, .int .i64 0, .int .i64 UU, .int .i64 L, .bool Q, .slice (some ⟨a1, 0, none⟩) n c1]) ∧ Below W.heap.size W w') := fun W => by
      rw [hUU]
      by_cases hA3 : A = 3
      · have h9 := spec_emy A R S U L Q 1 (some ⟨a1, 0, none⟩) n c1 W hA3 HN.out.2.2.1
        have e9 : taU A U 4 = U + 1 := by unfold taU; rw [if_neg (by decide), if_pos hA3]
        rw [e9]; exact h9
      · have h9 := spec_emn A R S U L Q 1 (some ⟨a1, 0, none⟩) n c1 W hA3
        have e9 : taU A U 4 = U := by unfold taU; rw [if_neg (by decide), if_neg hA3]
        rw [e9]; exact h9
    have hD1 : D = 0 := by rw [HTC.out]; rw [if_neg (by decide), if_neg (by simp)]
    have HE : Hid (D = 0 ∧ xA = 1 ∧ xR = ⟨#[]⟩ ∧ xS = 0 ∧ xU = UU ∧ xL = L ∧ xQ = Q ∧ xs = s) := by
      obtain ⟨g1, g2, g3, g4, g5, g6, g7⟩ := HYE.out hD1
      refine ⟨hD1, g1.trans ?_, g2.trans ?_, g3.trans ?_, g4.trans ?_, g5, g6.trans ?_, g7⟩
      · rfl
      · rfl
      · rfl
      · exact hUU.symm
      · rfl
    clear hD1 HNO HYE HN HTC HMB hUU
    go_wp2_with (fail)
    refine (HEM.out _).mono ?_
    rintro e w3 ⟨rfl, hb3⟩
    have HX : Hid (S3 w (.cells #[.int .i64 A, .string R, .int .i64 S, .int .i64 U, .int .i64 L, .bool Q, .slice (some ⟨g, o, none⟩) n c] 31) (.cells #[.int .i64 4, .string er, .int .i64 es] 36) (.cells #[.int .i64 0, .int .i64 0, .string ⟨#[]⟩, .int .i64 0, .int .i64 0, .int .i64 0, .bool false, .slice none 0 0] 33) w3 ∧ w3.heap[K]? = some (.cells #[.int .i64 A, .string R, .int .i64 S, .int .i64 U, .int .i64 L, .bool Q, .slice (some ⟨a1, 0, none⟩) n c1] 31) ∧ OG 72 2 apC w3 w1.heap.size (.slice (some ⟨a1, 0, none⟩) n c1) s) := ⟨HW.out.1.next hb3, (hb3.block _ (ltOf HW.out.2.1)).trans HW.out.2.1, OG.below HW.out.2.2.1 hb3⟩
    clear hb3 HEM p0 p1 p2 p3 p4 p5 p6 pl e0 e1 e2 el k0 k1 k2 k3 k4 k5 k6 kl kf0 kf1 kf2 kf3 kf4 kf5 kf6 q0 q1 q2 q3 q4 q5 q6 q7 qf0 qf1 qf2 qf3 qf4 qf5 qf6 qf7 ql
    obtain ⟨k0, k1, k2, k3, k4, k5, k6, kl⟩ := tf_seven HX.out.2.1
    have kf0 := frozOf HX.out.2.1 0
    have kf1 := frozOf HX.out.2.1 1
    have kf2 := frozOf HX.out.2.1 2
    have kf3 := frozOf HX.out.2.1 3
    have kf4 := frozOf HX.out.2.1 4
    have kf5 := frozOf HX.out.2.1 5
    have kf6 := frozOf HX.out.2.1 6
    go_upto_region 38 with fail
    obtain ⟨X, hX⟩ : ∃ X9, X9 = (((((((w3.setCell ⟨K, 0, none⟩ (.int .i64 1)).setCell ⟨K, 1, none⟩ (.string ⟨#[]⟩)).setCell ⟨K, 2, none⟩ (.int .i64 0)).setCell ⟨K, 3, none⟩ (.int .i64 UU)).setCell ⟨K, 4, none⟩ (.int .i64 L)).setCell ⟨K, 5, none⟩ (.bool Q)).setCell ⟨K, 6, none⟩ (.slice (some ⟨a1, 0, none⟩) n c1)) := ⟨_, rfl⟩
    have HY : Hid (S3 w (.cells #[.int .i64 A, .string R, .int .i64 S, .int .i64 U, .int .i64 L, .bool Q, .slice (some ⟨g, o, none⟩) n c] 31) (.cells #[.int .i64 4, .string er, .int .i64 es] 36) (.cells #[.int .i64 0, .int .i64 0, .string ⟨#[]⟩, .int .i64 0, .int .i64 0, .int .i64 0, .bool false, .slice none 0 0] 33) X ∧ X.heap[K]? = some (.cells #[.int .i64 1, .string ⟨#[]⟩, .int .i64 0, .int .i64 UU, .int .i64 L, .bool Q, .slice (some ⟨a1, 0, none⟩) n c1] 31) ∧ OG 72 2 apC X w1.heap.size (.slice (some ⟨a1, 0, none⟩) n c1) s) := by
      rw [hX]
      have hoff : ∀ q, q ≠ K → (((((((w3.setCell ⟨K, 0, none⟩ (.int .i64 1)).setCell ⟨K, 1, none⟩ (.string ⟨#[]⟩)).setCell ⟨K, 2, none⟩ (.int .i64 0)).setCell ⟨K, 3, none⟩ (.int .i64 UU)).setCell ⟨K, 4, none⟩ (.int .i64 L)).setCell ⟨K, 5, none⟩ (.bool Q)).setCell ⟨K, 6, none⟩ (.slice (some ⟨a1, 0, none⟩) n c1)).heap[q]? = w3.heap[q]? := fun q hq => by
        rw [heap_setCell_other _ _ _ _ (by simpa using hq), heap_setCell_other _ _ _ _ (by simpa using hq), heap_setCell_other _ _ _ _ (by simpa using hq), heap_setCell_other _ _ _ _ (by simpa using hq), heap_setCell_other _ _ _ _ (by simpa using hq), heap_setCell_other _ _ _ _ (by simpa using hq), heap_setCell_other _ _ _ _ (by simpa using hq)]
      have hwK : w.heap.size ≤ K := by have h1 := HW.out.2.2.2.1; have h2 := HW.out.2.2.2.2.1; omega
      have hbb := HX.out.1.bl
      refine ⟨⟨by (repeat' (first | (with_reducible exact Below.refl _ _) | (with_reducible assumption) | (with_reducible refine Below.setCell ?_ ?_ _) | (with_reducible refine Below.alloc ?_ ?_ _) | (with_reducible refine below_drewN ?_ _) | (with_reducible refine Below.drew ?_) | (with_reducible exact Nat.le_refl _) | omega | (simp; done) | (simp; omega))), (hoff _ hk0).trans HX.out.1.b0, (hoff _ hk1).trans HX.out.1.b1, (hoff _ hk2).trans HX.out.1.b2⟩, ?_, ownsRow_keep HX.out.2.2 fun q hq => hoff q (by have := HW.out.2.2.2.2.2.2 q hq; omega)⟩
      have s0 := heap_setCell_same _ _ 0 _ _ (.int .i64 1) HX.out.2.1
      have s1 := heap_setCell_same _ _ 1 _ _ (.string ⟨#[]⟩) s0
      have s2 := heap_setCell_same _ _ 2 _ _ (.int .i64 0) s1
      have s3 := heap_setCell_same _ _ 3 _ _ (.int .i64 UU) s2
      have s4 := heap_setCell_same _ _ 4 _ _ (.int .i64 L) s3
      have s5 := heap_setCell_same _ _ 5 _ _ (.bool Q) s4
      have s6 := heap_setCell_same _ _ 6 _ _ (.slice (some ⟨a1, 0, none⟩) n c1) s5
      simpa using s6
    rw [← hX]
    clear hX k0 k1 k2 k3 k4 k5 k6 kl kf0 kf1 kf2 kf3 kf4 kf5 kf6 HX
    obtain ⟨k0, k1, k2, k3, k4, k5, k6, kl⟩ := tf_seven HY.out.2.1
    have kf5 := frozOf HY.out.2.1 5
    obtain ⟨⟨q0, q1, q2, q3, q4, q5, q6, q7⟩, ⟨qf0, qf1, qf2, qf3, qf4, qf5, qf6, qf7⟩, ql⟩ := tr_eight HY.out.1.b2
    go_wp2
    try simp only [Exit.inBlock, Exit.then]
    refine bodyPost_ret (by simp [results, Try.results7, go_sem, q0, q1, q2, q3, q4, q5, q6, q7]; try rfl) rfl ⟨.slice (some ⟨a1, 0, none⟩) n c1, (), by rw [HE.out.1, HE.out.2.1, HE.out.2.2.1, HE.out.2.2.2.1, HE.out.2.2.2.2.1, HE.out.2.2.2.2.2.1, HE.out.2.2.2.2.2.2.1], ?_, ?_, fun _ => ⟨a1, c1, rfl⟩⟩
    · rw [HE.out.2.2.2.2.2.2.2]
      refine OG.low (B := w1.heap.size) (ownsRow_keep HY.out.2.2 fun q hq => ?_) (by have := HW.out.2.2.2.1; omega)
      have h9 := (OG.lt HY.out.2.2 q hq).1
      have h8 := HW.out.2.2.2.1
      have h7 := HW.out.2.2.2.2.2.2 q hq
      repeat rw [heap_setCell_other _ _ _ _ (by simp; omega)]
    · have hb := HY.out.1.bl
      have h8 := HW.out.2.2.2.1
      have h7 := HW.out.2.2.2.2.1
      (repeat' (first | (with_reducible exact Below.refl _ _) | (with_reducible assumption) | (with_reducible refine Below.setCell ?_ ?_ _) | (with_reducible refine Below.alloc ?_ ?_ _) | (with_reducible refine below_drewN ?_ _) | (with_reducible refine Below.drew ?_) | (with_reducible exact Nat.le_refl _) | omega | (simp; done) | (simp; omega)))
  · clear HAP
    obtain ⟨UU, hUU⟩ : ∃ u, u = taU A U 5 := ⟨_, rfl⟩
    have HEM : Hid (∀ W : World, Calls Try.prog 31 #[.agg #[.int .i64 A, .string R, .int .i64 S, .int .i64 U, .int .i64 L, .bool Q, .slice (some ⟨a1, 0, none⟩) n c1], .int .i64 4] W fun e w' => e = .returned (.agg #[.int .i64 4, .string ⟨#[]⟩, .int .i64 0, .int .i64 UU, .int .i64 L, .bool Q, .slice (some ⟨a1, 0, none⟩) n c1]) ∧ Below W.heap.size W w') := fun W => by
      rw [hUU]
      by_cases hA3 : A = 3
      · have h9 := spec_emy A R S U L Q 4 (some ⟨a1, 0, none⟩) n c1 W hA3 HN.out.2.2.1
        have e9 : taU A U 5 = U + 1 := by unfold taU; rw [if_neg (by decide), if_pos hA3]
        rw [e9]; exact h9
      · have h9 := spec_emn A R S U L Q 4 (some ⟨a1, 0, none⟩) n c1 W hA3
        have e9 : taU A U 5 = U := by unfold taU; rw [if_neg (by decide), if_neg hA3]
        rw [e9]; exact h9
    have hD1 : D = 0 := by rw [HTC.out]; rw [if_neg (by decide), if_neg (by simp)]
    have HE : Hid (D = 0 ∧ xA = 4 ∧ xR = ⟨#[]⟩ ∧ xS = 0 ∧ xU = UU ∧ xL = L ∧ xQ = Q ∧ xs = s) := by
      obtain ⟨g1, g2, g3, g4, g5, g6, g7⟩ := HYE.out hD1
      refine ⟨hD1, g1.trans ?_, g2.trans ?_, g3.trans ?_, g4.trans ?_, g5, g6.trans ?_, g7⟩
      · rfl
      · rfl
      · rfl
      · exact hUU.symm
      · rfl
    clear hD1 HNO HYE HN HTC HMB hUU
    go_wp2_with (fail)
    refine (HEM.out _).mono ?_
    rintro e w3 ⟨rfl, hb3⟩
    have HX : Hid (S3 w (.cells #[.int .i64 A, .string R, .int .i64 S, .int .i64 U, .int .i64 L, .bool Q, .slice (some ⟨g, o, none⟩) n c] 31) (.cells #[.int .i64 5, .string er, .int .i64 es] 36) (.cells #[.int .i64 0, .int .i64 0, .string ⟨#[]⟩, .int .i64 0, .int .i64 0, .int .i64 0, .bool false, .slice none 0 0] 33) w3 ∧ w3.heap[K]? = some (.cells #[.int .i64 A, .string R, .int .i64 S, .int .i64 U, .int .i64 L, .bool Q, .slice (some ⟨a1, 0, none⟩) n c1] 31) ∧ OG 72 2 apC w3 w1.heap.size (.slice (some ⟨a1, 0, none⟩) n c1) s) := ⟨HW.out.1.next hb3, (hb3.block _ (ltOf HW.out.2.1)).trans HW.out.2.1, OG.below HW.out.2.2.1 hb3⟩
    clear hb3 HEM p0 p1 p2 p3 p4 p5 p6 pl e0 e1 e2 el k0 k1 k2 k3 k4 k5 k6 kl kf0 kf1 kf2 kf3 kf4 kf5 kf6 q0 q1 q2 q3 q4 q5 q6 q7 qf0 qf1 qf2 qf3 qf4 qf5 qf6 qf7 ql
    obtain ⟨k0, k1, k2, k3, k4, k5, k6, kl⟩ := tf_seven HX.out.2.1
    have kf0 := frozOf HX.out.2.1 0
    have kf1 := frozOf HX.out.2.1 1
    have kf2 := frozOf HX.out.2.1 2
    have kf3 := frozOf HX.out.2.1 3
    have kf4 := frozOf HX.out.2.1 4
    have kf5 := frozOf HX.out.2.1 5
    have kf6 := frozOf HX.out.2.1 6
    go_upto_region 38 with fail
    obtain ⟨X, hX⟩ : ∃ X9, X9 = (((((((w3.setCell ⟨K, 0, none⟩ (.int .i64 4)).setCell ⟨K, 1, none⟩ (.string ⟨#[]⟩)).setCell ⟨K, 2, none⟩ (.int .i64 0)).setCell ⟨K, 3, none⟩ (.int .i64 UU)).setCell ⟨K, 4, none⟩ (.int .i64 L)).setCell ⟨K, 5, none⟩ (.bool Q)).setCell ⟨K, 6, none⟩ (.slice (some ⟨a1, 0, none⟩) n c1)) := ⟨_, rfl⟩
    have HY : Hid (S3 w (.cells #[.int .i64 A, .string R, .int .i64 S, .int .i64 U, .int .i64 L, .bool Q, .slice (some ⟨g, o, none⟩) n c] 31) (.cells #[.int .i64 5, .string er, .int .i64 es] 36) (.cells #[.int .i64 0, .int .i64 0, .string ⟨#[]⟩, .int .i64 0, .int .i64 0, .int .i64 0, .bool false, .slice none 0 0] 33) X ∧ X.heap[K]? = some (.cells #[.int .i64 4, .string ⟨#[]⟩, .int .i64 0, .int .i64 UU, .int .i64 L, .bool Q, .slice (some ⟨a1, 0, none⟩) n c1] 31) ∧ OG 72 2 apC X w1.heap.size (.slice (some ⟨a1, 0, none⟩) n c1) s) := by
      rw [hX]
      have hoff : ∀ q, q ≠ K → (((((((w3.setCell ⟨K, 0, none⟩ (.int .i64 4)).setCell ⟨K, 1, none⟩ (.string ⟨#[]⟩)).setCell ⟨K, 2, none⟩ (.int .i64 0)).setCell ⟨K, 3, none⟩ (.int .i64 UU)).setCell ⟨K, 4, none⟩ (.int .i64 L)).setCell ⟨K, 5, none⟩ (.bool Q)).setCell ⟨K, 6, none⟩ (.slice (some ⟨a1, 0, none⟩) n c1)).heap[q]? = w3.heap[q]? := fun q hq => by
        rw [heap_setCell_other _ _ _ _ (by simpa using hq), heap_setCell_other _ _ _ _ (by simpa using hq), heap_setCell_other _ _ _ _ (by simpa using hq), heap_setCell_other _ _ _ _ (by simpa using hq), heap_setCell_other _ _ _ _ (by simpa using hq), heap_setCell_other _ _ _ _ (by simpa using hq), heap_setCell_other _ _ _ _ (by simpa using hq)]
      have hwK : w.heap.size ≤ K := by have h1 := HW.out.2.2.2.1; have h2 := HW.out.2.2.2.2.1; omega
      have hbb := HX.out.1.bl
      refine ⟨⟨by (repeat' (first | (with_reducible exact Below.refl _ _) | (with_reducible assumption) | (with_reducible refine Below.setCell ?_ ?_ _) | (with_reducible refine Below.alloc ?_ ?_ _) | (with_reducible refine below_drewN ?_ _) | (with_reducible refine Below.drew ?_) | (with_reducible exact Nat.le_refl _) | omega | (simp; done) | (simp; omega))), (hoff _ hk0).trans HX.out.1.b0, (hoff _ hk1).trans HX.out.1.b1, (hoff _ hk2).trans HX.out.1.b2⟩, ?_, ownsRow_keep HX.out.2.2 fun q hq => hoff q (by have := HW.out.2.2.2.2.2.2 q hq; omega)⟩
      have s0 := heap_setCell_same _ _ 0 _ _ (.int .i64 4) HX.out.2.1
      have s1 := heap_setCell_same _ _ 1 _ _ (.string ⟨#[]⟩) s0
      have s2 := heap_setCell_same _ _ 2 _ _ (.int .i64 0) s1
      have s3 := heap_setCell_same _ _ 3 _ _ (.int .i64 UU) s2
      have s4 := heap_setCell_same _ _ 4 _ _ (.int .i64 L) s3
      have s5 := heap_setCell_same _ _ 5 _ _ (.bool Q) s4
      have s6 := heap_setCell_same _ _ 6 _ _ (.slice (some ⟨a1, 0, none⟩) n c1) s5
      simpa using s6
    rw [← hX]
    clear hX k0 k1 k2 k3 k4 k5 k6 kl kf0 kf1 kf2 kf3 kf4 kf5 kf6 HX
    obtain ⟨k0, k1, k2, k3, k4, k5, k6, kl⟩ := tf_seven HY.out.2.1
    have kf5 := frozOf HY.out.2.1 5
    obtain ⟨⟨q0, q1, q2, q3, q4, q5, q6, q7⟩, ⟨qf0, qf1, qf2, qf3, qf4, qf5, qf6, qf7⟩, ql⟩ := tr_eight HY.out.1.b2
    go_wp2
    try simp only [Exit.inBlock, Exit.then]
    refine bodyPost_ret (by simp [results, Try.results7, go_sem, q0, q1, q2, q3, q4, q5, q6, q7]; try rfl) rfl ⟨.slice (some ⟨a1, 0, none⟩) n c1, (), by rw [HE.out.1, HE.out.2.1, HE.out.2.2.1, HE.out.2.2.2.1, HE.out.2.2.2.2.1, HE.out.2.2.2.2.2.1, HE.out.2.2.2.2.2.2.1], ?_, ?_, fun _ => ⟨a1, c1, rfl⟩⟩
    · rw [HE.out.2.2.2.2.2.2.2]
      refine OG.low (B := w1.heap.size) (ownsRow_keep HY.out.2.2 fun q hq => ?_) (by have := HW.out.2.2.2.1; omega)
      have h9 := (OG.lt HY.out.2.2 q hq).1
      have h8 := HW.out.2.2.2.1
      have h7 := HW.out.2.2.2.2.2.2 q hq
      repeat rw [heap_setCell_other _ _ _ _ (by simp; omega)]
    · have hb := HY.out.1.bl
      have h8 := HW.out.2.2.2.1
      have h7 := HW.out.2.2.2.2.1
      (repeat' (first | (with_reducible exact Below.refl _ _) | (with_reducible assumption) | (with_reducible refine Below.setCell ?_ ?_ _) | (with_reducible refine Below.alloc ?_ ?_ _) | (with_reducible refine below_drewN ?_ _) | (with_reducible refine Below.drew ?_) | (with_reducible exact Nat.le_refl _) | omega | (simp; done) | (simp; omega)))
  · have hA : A = 4 := by have h9 := HMB.out; unfold mayB at h9; simpa using h9
    have hRS := HN.out.2.2.2 (by omega) (by omega)
    have hD1 : D = 0 := by rw [HTC.out]; rw [if_neg (by decide), if_neg (by simp)]
    have HE : Hid (D = 0 ∧ xA = 1 ∧ xR = R ∧ xS = S ∧ xU = U ∧ xL = L ∧ xQ = Q ∧ xs = s) := by
      obtain ⟨g1, g2, g3, g4, g5, g6, g7⟩ := HYE.out hD1
      refine ⟨hD1, g1.trans ?_, g2.trans ?_, g3.trans ?_, g4.trans ?_, g5, g6.trans ?_, g7⟩
      · rfl
      · exact hRS.1.symm
      · exact hRS.2.symm
      · unfold taU; rw [if_neg (by decide), if_neg (by omega)]
      · rfl
    clear hD1 HNO HYE HN HTC HMB hA hRS HAP
    go_wp2
    try simp only [Exit.inBlock, Exit.then]
    refine bodyPost_ret (by simp [results, Try.results7, go_sem, q0, q1, q2, q3, q4, q5, q6, q7]; try rfl) rfl ⟨.slice (some ⟨a1, 0, none⟩) n c1, (), by rw [HE.out.1, HE.out.2.1, HE.out.2.2.1, HE.out.2.2.2.1, HE.out.2.2.2.2.1, HE.out.2.2.2.2.2.1, HE.out.2.2.2.2.2.2.1], ?_, ?_, fun _ => ⟨a1, c1, rfl⟩⟩
    · rw [HE.out.2.2.2.2.2.2.2]
      refine OG.low (B := w1.heap.size) (ownsRow_keep HW.out.2.2.1 fun q hq => ?_) (by have := HW.out.2.2.2.1; omega)
      have h9 := (OG.lt HW.out.2.2.1 q hq).1
      have h8 := HW.out.2.2.2.1
      have h7 := HW.out.2.2.2.2.2.2 q hq
      repeat rw [heap_setCell_other _ _ _ _ (by simp; omega)]
    · have hb := HW.out.1.bl
      have h8 := HW.out.2.2.2.1
      have h7 := HW.out.2.2.2.2.1
      (repeat' (first | (with_reducible exact Below.refl _ _) | (with_reducible assumption) | (with_reducible refine Below.setCell ?_ ?_ _) | (with_reducible refine Below.alloc ?_ ?_ _) | (with_reducible refine below_drewN ?_ _) | (with_reducible refine Below.drew ?_) | (with_reducible exact Nat.le_refl _) | omega | (simp; done) | (simp; omega)))
  · have hA : A = 1 ∨ A = 4 ∨ A = 6 := by have h9 := HMB.out; unfold mayB at h9; simpa using h9
    have hRS := HN.out.2.2.2 (by omega) (by omega)
    have hD1 : D = 0 := by rw [HTC.out]; rw [if_neg (by decide), if_neg (by simp)]
    have HE : Hid (D = 0 ∧ xA = 5 ∧ xR = R ∧ xS = S ∧ xU = U ∧ xL = L ∧ xQ = false ∧ xs = s) := by
      obtain ⟨g1, g2, g3, g4, g5, g6, g7⟩ := HYE.out hD1
      refine ⟨hD1, g1.trans ?_, g2.trans ?_, g3.trans ?_, g4.trans ?_, g5, g6.trans ?_, g7⟩
      · rfl
      · exact hRS.1.symm
      · exact hRS.2.symm
      · unfold taU; rw [if_neg (by decide), if_neg (by omega)]
      · rfl
    clear hD1 HNO HYE HN HTC HMB hA hRS HAP
    go_wp2
    try simp only [Exit.inBlock, Exit.then]
    refine bodyPost_ret (by simp [results, Try.results7, go_sem, q0, q1, q2, q3, q4, q5, q6, q7]; try rfl) rfl ⟨.slice (some ⟨a1, 0, none⟩) n c1, (), by rw [HE.out.1, HE.out.2.1, HE.out.2.2.1, HE.out.2.2.2.1, HE.out.2.2.2.2.1, HE.out.2.2.2.2.2.1, HE.out.2.2.2.2.2.2.1], ?_, ?_, fun _ => ⟨a1, c1, rfl⟩⟩
    · rw [HE.out.2.2.2.2.2.2.2]
      refine OG.low (B := w1.heap.size) (ownsRow_keep HW.out.2.2.1 fun q hq => ?_) (by have := HW.out.2.2.2.1; omega)
      have h9 := (OG.lt HW.out.2.2.1 q hq).1
      have h8 := HW.out.2.2.2.1
      have h7 := HW.out.2.2.2.2.2.2 q hq
      repeat rw [heap_setCell_other _ _ _ _ (by simp; omega)]
    · have hb := HW.out.1.bl
      have h8 := HW.out.2.2.2.1
      have h7 := HW.out.2.2.2.2.1
      (repeat' (first | (with_reducible exact Below.refl _ _) | (with_reducible assumption) | (with_reducible refine Below.setCell ?_ ?_ _) | (with_reducible refine Below.alloc ?_ ?_ _) | (with_reducible refine below_drewN ?_ _) | (with_reducible refine Below.drew ?_) | (with_reducible exact Nat.le_refl _) | omega | (simp; done) | (simp; omega)))
  · have hA : A = 5 := by have h9 := HMB.out; unfold mayB at h9; simpa using h9
    have hRS := HN.out.2.2.2 (by omega) (by omega)
    have hD1 : D = 0 := by rw [HTC.out]; rw [if_neg (by decide), if_neg (by simp)]
    have HE : Hid (D = 0 ∧ xA = 1 ∧ xR = R ∧ xS = S ∧ xU = 0 ∧ xL = L ∧ xQ = true ∧ xs = s) := by
      obtain ⟨g1, g2, g3, g4, g5, g6, g7⟩ := HYE.out hD1
      refine ⟨hD1, g1.trans ?_, g2.trans ?_, g3.trans ?_, g4.trans ?_, g5, g6.trans ?_, g7⟩
      · rfl
      · exact hRS.1.symm
      · exact hRS.2.symm
      · unfold taU; rfl
      · rfl
    clear hD1 HNO HYE HN HTC HMB hA hRS HAP
    go_wp2
    try simp only [Exit.inBlock, Exit.then]
    refine bodyPost_ret (by simp [results, Try.results7, go_sem, q0, q1, q2, q3, q4, q5, q6, q7]; try rfl) rfl ⟨.slice (some ⟨a1, 0, none⟩) n c1, (), by rw [HE.out.1, HE.out.2.1, HE.out.2.2.1, HE.out.2.2.2.1, HE.out.2.2.2.2.1, HE.out.2.2.2.2.2.1, HE.out.2.2.2.2.2.2.1], ?_, ?_, fun _ => ⟨a1, c1, rfl⟩⟩
    · rw [HE.out.2.2.2.2.2.2.2]
      refine OG.low (B := w1.heap.size) (ownsRow_keep HW.out.2.2.1 fun q hq => ?_) (by have := HW.out.2.2.2.1; omega)
      have h9 := (OG.lt HW.out.2.2.1 q hq).1
      have h8 := HW.out.2.2.2.1
      have h7 := HW.out.2.2.2.2.2.2 q hq
      repeat rw [heap_setCell_other _ _ _ _ (by simp; omega)]
    · have hb := HW.out.1.bl
      have h8 := HW.out.2.2.2.1
      have h7 := HW.out.2.2.2.2.1
      (repeat' (first | (with_reducible exact Below.refl _ _) | (with_reducible assumption) | (with_reducible refine Below.setCell ?_ ?_ _) | (with_reducible refine Below.alloc ?_ ?_ _) | (with_reducible refine below_drewN ?_ _) | (with_reducible refine Below.drew ?_) | (with_reducible exact Nat.le_refl _) | omega | (simp; done) | (simp; omega)))
  · clear HAP
    obtain ⟨UU, hUU⟩ : ∃ u, u = taU A U 9 := ⟨_, rfl⟩
    have HEM : Hid (∀ W : World, Calls Try.prog 31 #[.agg #[.int .i64 A, .string R, .int .i64 S, .int .i64 U, .int .i64 L, .bool Q, .slice (some ⟨a1, 0, none⟩) n c1], .int .i64 6] W fun e w' => e = .returned (.agg #[.int .i64 6, .string ⟨#[]⟩, .int .i64 0, .int .i64 UU, .int .i64 L, .bool Q, .slice (some ⟨a1, 0, none⟩) n c1]) ∧ Below W.heap.size W w') := fun W => by
      rw [hUU]
      by_cases hA3 : A = 3
      · have h9 := spec_emy A R S U L Q 6 (some ⟨a1, 0, none⟩) n c1 W hA3 HN.out.2.2.1
        have e9 : taU A U 9 = U + 1 := by unfold taU; rw [if_neg (by decide), if_pos hA3]
        rw [e9]; exact h9
      · have h9 := spec_emn A R S U L Q 6 (some ⟨a1, 0, none⟩) n c1 W hA3
        have e9 : taU A U 9 = U := by unfold taU; rw [if_neg (by decide), if_neg hA3]
        rw [e9]; exact h9
    have hD1 : D = 0 := by rw [HTC.out]; rw [if_neg (by decide), if_neg (by simp)]
    have HE : Hid (D = 0 ∧ xA = 6 ∧ xR = ⟨#[]⟩ ∧ xS = 0 ∧ xU = UU ∧ xL = L ∧ xQ = false ∧ xs = s) := by
      obtain ⟨g1, g2, g3, g4, g5, g6, g7⟩ := HYE.out hD1
      refine ⟨hD1, g1.trans ?_, g2.trans ?_, g3.trans ?_, g4.trans ?_, g5, g6.trans ?_, g7⟩
      · rfl
      · rfl
      · rfl
      · exact hUU.symm
      · rfl
    clear hD1 HNO HYE HN HTC HMB hUU
    go_wp2_with (fail)
    refine (HEM.out _).mono ?_
    rintro e w3 ⟨rfl, hb3⟩
    have HX : Hid (S3 w (.cells #[.int .i64 A, .string R, .int .i64 S, .int .i64 U, .int .i64 L, .bool Q, .slice (some ⟨g, o, none⟩) n c] 31) (.cells #[.int .i64 9, .string er, .int .i64 es] 36) (.cells #[.int .i64 0, .int .i64 0, .string ⟨#[]⟩, .int .i64 0, .int .i64 0, .int .i64 0, .bool false, .slice none 0 0] 33) w3 ∧ w3.heap[K]? = some (.cells #[.int .i64 A, .string R, .int .i64 S, .int .i64 U, .int .i64 L, .bool Q, .slice (some ⟨a1, 0, none⟩) n c1] 31) ∧ OG 72 2 apC w3 w1.heap.size (.slice (some ⟨a1, 0, none⟩) n c1) s) := ⟨HW.out.1.next hb3, (hb3.block _ (ltOf HW.out.2.1)).trans HW.out.2.1, OG.below HW.out.2.2.1 hb3⟩
    clear hb3 HEM p0 p1 p2 p3 p4 p5 p6 pl e0 e1 e2 el k0 k1 k2 k3 k4 k5 k6 kl kf0 kf1 kf2 kf3 kf4 kf5 kf6 q0 q1 q2 q3 q4 q5 q6 q7 qf0 qf1 qf2 qf3 qf4 qf5 qf6 qf7 ql
    obtain ⟨k0, k1, k2, k3, k4, k5, k6, kl⟩ := tf_seven HX.out.2.1
    have kf0 := frozOf HX.out.2.1 0
    have kf1 := frozOf HX.out.2.1 1
    have kf2 := frozOf HX.out.2.1 2
    have kf3 := frozOf HX.out.2.1 3
    have kf4 := frozOf HX.out.2.1 4
    have kf5 := frozOf HX.out.2.1 5
    have kf6 := frozOf HX.out.2.1 6
    go_upto_region 11 with fail
    obtain ⟨X, hX⟩ : ∃ X9, X9 = (((((((w3.setCell ⟨K, 0, none⟩ (.int .i64 6)).setCell ⟨K, 1, none⟩ (.string ⟨#[]⟩)).setCell ⟨K, 2, none⟩ (.int .i64 0)).setCell ⟨K, 3, none⟩ (.int .i64 UU)).setCell ⟨K, 4, none⟩ (.int .i64 L)).setCell ⟨K, 5, none⟩ (.bool Q)).setCell ⟨K, 6, none⟩ (.slice (some ⟨a1, 0, none⟩) n c1)) := ⟨_, rfl⟩
    have HY : Hid (S3 w (.cells #[.int .i64 A, .string R, .int .i64 S, .int .i64 U, .int .i64 L, .bool Q, .slice (some ⟨g, o, none⟩) n c] 31) (.cells #[.int .i64 9, .string er, .int .i64 es] 36) (.cells #[.int .i64 0, .int .i64 0, .string ⟨#[]⟩, .int .i64 0, .int .i64 0, .int .i64 0, .bool false, .slice none 0 0] 33) X ∧ X.heap[K]? = some (.cells #[.int .i64 6, .string ⟨#[]⟩, .int .i64 0, .int .i64 UU, .int .i64 L, .bool Q, .slice (some ⟨a1, 0, none⟩) n c1] 31) ∧ OG 72 2 apC X w1.heap.size (.slice (some ⟨a1, 0, none⟩) n c1) s) := by
      rw [hX]
      have hoff : ∀ q, q ≠ K → (((((((w3.setCell ⟨K, 0, none⟩ (.int .i64 6)).setCell ⟨K, 1, none⟩ (.string ⟨#[]⟩)).setCell ⟨K, 2, none⟩ (.int .i64 0)).setCell ⟨K, 3, none⟩ (.int .i64 UU)).setCell ⟨K, 4, none⟩ (.int .i64 L)).setCell ⟨K, 5, none⟩ (.bool Q)).setCell ⟨K, 6, none⟩ (.slice (some ⟨a1, 0, none⟩) n c1)).heap[q]? = w3.heap[q]? := fun q hq => by
        rw [heap_setCell_other _ _ _ _ (by simpa using hq), heap_setCell_other _ _ _ _ (by simpa using hq), heap_setCell_other _ _ _ _ (by simpa using hq), heap_setCell_other _ _ _ _ (by simpa using hq), heap_setCell_other _ _ _ _ (by simpa using hq), heap_setCell_other _ _ _ _ (by simpa using hq), heap_setCell_other _ _ _ _ (by simpa using hq)]
      have hwK : w.heap.size ≤ K := by have h1 := HW.out.2.2.2.1; have h2 := HW.out.2.2.2.2.1; omega
      have hbb := HX.out.1.bl
      refine ⟨⟨by (repeat' (first | (with_reducible exact Below.refl _ _) | (with_reducible assumption) | (with_reducible refine Below.setCell ?_ ?_ _) | (with_reducible refine Below.alloc ?_ ?_ _) | (with_reducible refine below_drewN ?_ _) | (with_reducible refine Below.drew ?_) | (with_reducible exact Nat.le_refl _) | omega | (simp; done) | (simp; omega))), (hoff _ hk0).trans HX.out.1.b0, (hoff _ hk1).trans HX.out.1.b1, (hoff _ hk2).trans HX.out.1.b2⟩, ?_, ownsRow_keep HX.out.2.2 fun q hq => hoff q (by have := HW.out.2.2.2.2.2.2 q hq; omega)⟩
      have s0 := heap_setCell_same _ _ 0 _ _ (.int .i64 6) HX.out.2.1
      have s1 := heap_setCell_same _ _ 1 _ _ (.string ⟨#[]⟩) s0
      have s2 := heap_setCell_same _ _ 2 _ _ (.int .i64 0) s1
      have s3 := heap_setCell_same _ _ 3 _ _ (.int .i64 UU) s2
      have s4 := heap_setCell_same _ _ 4 _ _ (.int .i64 L) s3
      have s5 := heap_setCell_same _ _ 5 _ _ (.bool Q) s4
      have s6 := heap_setCell_same _ _ 6 _ _ (.slice (some ⟨a1, 0, none⟩) n c1) s5
      simpa using s6
    rw [← hX]
    clear hX k0 k1 k2 k3 k4 k5 k6 kl kf0 kf1 kf2 kf3 kf4 kf5 kf6 HX
    obtain ⟨k0, k1, k2, k3, k4, k5, k6, kl⟩ := tf_seven HY.out.2.1
    have kf5 := frozOf HY.out.2.1 5
    obtain ⟨⟨q0, q1, q2, q3, q4, q5, q6, q7⟩, ⟨qf0, qf1, qf2, qf3, qf4, qf5, qf6, qf7⟩, ql⟩ := tr_eight HY.out.1.b2
    go_wp2
    try simp only [Exit.inBlock, Exit.then]
    refine bodyPost_ret (by simp [results, Try.results7, go_sem, q0, q1, q2, q3, q4, q5, q6, q7]; try rfl) rfl ⟨.slice (some ⟨a1, 0, none⟩) n c1, (), by rw [HE.out.1, HE.out.2.1, HE.out.2.2.1, HE.out.2.2.2.1, HE.out.2.2.2.2.1, HE.out.2.2.2.2.2.1, HE.out.2.2.2.2.2.2.1], ?_, ?_, fun _ => ⟨a1, c1, rfl⟩⟩
    · rw [HE.out.2.2.2.2.2.2.2]
      refine OG.low (B := w1.heap.size) (ownsRow_keep HY.out.2.2 fun q hq => ?_) (by have := HW.out.2.2.2.1; omega)
      have h9 := (OG.lt HY.out.2.2 q hq).1
      have h8 := HW.out.2.2.2.1
      have h7 := HW.out.2.2.2.2.2.2 q hq
      repeat rw [heap_setCell_other _ _ _ _ (by simp; omega)]
    · have hb := HY.out.1.bl
      have h8 := HW.out.2.2.2.1
      have h7 := HW.out.2.2.2.2.1
      (repeat' (first | (with_reducible exact Below.refl _ _) | (with_reducible assumption) | (with_reducible refine Below.setCell ?_ ?_ _) | (with_reducible refine Below.alloc ?_ ?_ _) | (with_reducible refine below_drewN ?_ _) | (with_reducible refine Below.drew ?_) | (with_reducible exact Nat.le_refl _) | omega | (simp; done) | (simp; omega)))

theorem spec_ta (A : Int) (R : ByteArray) (S U L : Int) (Q : Bool) (k : Int) (er : ByteArray) (es : Int) {w : World} {g o n c : Nat} {s : List Ap} (hn : n ≤ 1048576) (hz : ∀ j (h : j < s.length), s[j].nm.size ≤ 2000000) (hc : n ≤ c) (h : RG 2 apC w (.slice (some ⟨g, o, none⟩) n c) s) :
    Calls Try.prog 7 #[.agg #[.int .i64 A, .string R, .int .i64 S, .int .i64 U, .int .i64 L, .bool Q, .slice (some ⟨g, o, none⟩) n c], .agg #[.int .i64 k, .string er, .int .i64 es]] w fun e w' => ∃ (v : Value) (_ : Unit), e = .returned (.agg #[.int .i64 (tzC A R S U L Q s k er es), .int .i64 (onI (tzC A R S U L Q s k er es) (taA k)), .string (onS (tzC A R S U L Q s k er es) (taR k R er)), .int .i64 (onI (tzC A R S U L Q s k er es) (taS k S es)), .int .i64 (onI (tzC A R S U L Q s k er es) (taU A U k)), .int .i64 (onI (tzC A R S U L Q s k er es) L), .bool (onB (tzC A R S U L Q s k er es) (taQ k Q)), v]) ∧ OG 72 2 apC w' w.heap.size v (onL (tzC A R S U L Q s k er es) s) ∧ Below w.heap.size w w' := by
  refine (spec_ta2 A R S U L Q k er es hn hz hc h).mono ?_
  rintro e w' ⟨v, u, h1, h2, h3, _⟩
  exact ⟨v, u, h1, h2, h3⟩

end Go.Proofs.Ytkacfjbhkgdpdaa
