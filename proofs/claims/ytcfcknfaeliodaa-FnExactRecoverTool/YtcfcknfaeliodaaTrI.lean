/- Proved here: RecoverTool of the program. -/
import Derived.Test.YtcfcknfaeliodaaTrM
import Derived.Test.YtcfcknfaeliodaaTfI
namespace Go.Proofs.Ytcfcknfaeliodaa
open Go.RowKit
set_option linter.unusedVariables false
set_option linter.unusedSimpArgs false

set_option maxRecDepth 10000 in
set_option maxHeartbeats 6400000 in
theorem impl_rt (A : Int) (R : ByteArray) (S U L : Int) (Q : Bool) {w : World} {g o n c : Nat} {s : List Ap} (hn : n ≤ 1048576) (hz : ∀ j (h : j < s.length), s[j].nm.size ≤ 2000000) (hc : n ≤ c) (h : RG 2 apC w (.slice (some ⟨g, o, none⟩) n c) s) :
    Calls Try.prog 13 #[.agg #[.int .i64 A, .string R, .int .i64 S, .int .i64 U, .int .i64 L, .bool Q, .slice (some ⟨g, o, none⟩) n c]] w fun e w' => ∃ (v : Value) (_ : Unit), e = .returned (.agg #[.int .i64 (kpF U L s), .int .i64 (onI (kpF U L s) (rtA A)), .string ⟨#[]⟩, .int .i64 0, .int .i64 (onI (kpF U L s) U), .int .i64 (onI (kpF U L s) L), .bool (onB (kpF U L s) (rtQ A Q)), v]) ∧ OG 72 2 apC w' w.heap.size v (onL (kpF U L s) s) ∧ Below w.heap.size w w' := by
  obtain ⟨x, hx⟩ : ∃ D, D = kpF U L s := ⟨_, rfl⟩
  have HF : Hid (∀ W, Below w.heap.size w W → Calls Try.prog 35 #[.agg #[.int .i64 A, .string R, .int .i64 S, .int .i64 U, .int .i64 L, .bool Q, .slice (some ⟨g, o, none⟩) n c]] W fun e w' => e = .returned (.int .i64 x) ∧ Below W.heap.size W w') := fun W hb => by rw [hx]; exact impl_kp A R S U L Q hn hz hc (h.below hb)
  have HCP : Hid (∀ W, Below w.heap.size w W → Calls Try.prog 39 #[.agg #[.int .i64 A, .string R, .int .i64 S, .int .i64 U, .int .i64 L, .bool Q, .slice (some ⟨g, o, none⟩) n c]] W fun e w' => ∃ a' c', e = .returned (.agg #[.int .i64 A, .string R, .int .i64 S, .int .i64 U, .int .i64 L, .bool Q, .slice a' n c']) ∧ OG 72 2 apC w' W.heap.size (.slice a' n c') s ∧ Below W.heap.size W w') := fun W hb => impl_tcp A R S U L Q hn (h.below hb)
  rw [← hx]
  obtain ⟨xA, hxA⟩ : ∃ D, D = onI x (rtA A) := ⟨_, rfl⟩
  obtain ⟨xU, hxU⟩ : ∃ D, D = onI x U := ⟨_, rfl⟩
  obtain ⟨xL, hxL⟩ : ∃ D, D = onI x L := ⟨_, rfl⟩
  obtain ⟨xQ, hxQ⟩ : ∃ D, D = onB x (rtQ A Q) := ⟨_, rfl⟩
  obtain ⟨xs, hxs⟩ : ∃ D, D = onL x s := ⟨_, rfl⟩
  rw [← hxA, ← hxU, ← hxL, ← hxQ, ← hxs]
  have HV : Hid ((x ≠ 0 → xA = 0 ∧ xU = 0 ∧ xL = 0 ∧ xQ = false ∧ xs = []) ∧ (x = 0 → xA = rtA A ∧ xU = U ∧ xL = L ∧ xQ = rtQ A Q ∧ xs = s)) := by
    rw [hxA, hxU, hxL, hxQ, hxs]
    exact ⟨fun e => ⟨if_neg e, if_neg e, if_neg e, if_neg e, if_neg e⟩, fun e => ⟨if_pos e, if_pos e, if_pos e, if_pos e, if_pos e⟩⟩
  have HS : Hid (S2 w (.cells #[.int .i64 A, .string R, .int .i64 S, .int .i64 U, .int .i64 L, .bool Q, .slice (some ⟨g, o, none⟩) n c] 29) (.cells #[.int .i64 0, .int .i64 0, .string ⟨#[]⟩, .int .i64 0, .int .i64 0, .int .i64 0, .bool false, .slice none 0 0] 34) ((w.alloc (.cells #[.int .i64 A, .string R, .int .i64 S, .int .i64 U, .int .i64 L, .bool Q, .slice (some ⟨g, o, none⟩) n c] 29)).alloc (.cells #[.int .i64 0, .int .i64 0, .string ⟨#[]⟩, .int .i64 0, .int .i64 0, .int .i64 0, .bool false, .slice none 0 0] 34))) := S2.new _ _ _
  clear h hn hz hc hx hxA hxU hxL hxQ hxs
  go_enter Try.func13, Try.ntmps13
  go_wp2_with (fail)
  obtain ⟨U0, hU⟩ : ∃ X9, X9 = (w.alloc (.cells #[.int .i64 A, .string R, .int .i64 S, .int .i64 U, .int .i64 L, .bool Q, .slice (some ⟨g, o, none⟩) n c] 29)).alloc (.cells #[.int .i64 0, .int .i64 0, .string ⟨#[]⟩, .int .i64 0, .int .i64 0, .int .i64 0, .bool false, .slice none 0 0] 34) := ⟨_, rfl⟩
  rw [← hU] at HS ⊢
  clear hU
  refine (HF.out _ HS.out.bl).mono ?_
  rintro e w1 ⟨rfl, hb1⟩
  have HT : Hid (S2 w (.cells #[.int .i64 A, .string R, .int .i64 S, .int .i64 U, .int .i64 L, .bool Q, .slice (some ⟨g, o, none⟩) n c] 29) (.cells #[.int .i64 0, .int .i64 0, .string ⟨#[]⟩, .int .i64 0, .int .i64 0, .int .i64 0, .bool false, .slice none 0 0] 34) w1) := HS.out.next hb1
  clear hb1 HF HS
  obtain ⟨p0, p1, p2, p3, p4, p5, p6, pl⟩ := tf_seven HT.out.b0
  by_cases hx0 : x = 0
  case neg =>
    have HE : Hid (xA = 0 ∧ xU = 0 ∧ xL = 0 ∧ xQ = false ∧ xs = []) := HV.out.1 hx0
    have hA1 : (x != 0) = true := by simpa using hx0
    clear HV HCP
    obtain ⟨⟨q0, q1, q2, q3, q4, q5, q6, q7⟩, ⟨qf0, qf1, qf2, qf3, qf4, qf5, qf6, qf7⟩, ql⟩ := tr_eight HT.out.b1
    go_wp2
    try simp only [Exit.inBlock, Exit.then]
    refine bodyPost_ret (by simp [results, Try.results13, go_sem, q0, q1, q2, q3, q4, q5, q6, q7]; try rfl) rfl ⟨.slice none 0 0, (), by rw [HE.out.1, HE.out.2.1, HE.out.2.2.1, HE.out.2.2.2.1], by rw [HE.out.2.2.2.2]; exact ap_none _ _, ?_⟩
    have hB := HT.out.bl
    (repeat' (first | (with_reducible exact Below.refl _ _) | (with_reducible assumption) | (with_reducible refine Below.setCell ?_ ?_ _) | (with_reducible refine Below.alloc ?_ ?_ _) | (with_reducible refine below_drewN ?_ _) | (with_reducible refine Below.drew ?_) | (with_reducible exact Nat.le_refl _) | omega | (simp; done) | (simp; omega)))
  have HE : Hid (xA = rtA A ∧ xU = U ∧ xL = L ∧ xQ = rtQ A Q ∧ xs = s) := HV.out.2 hx0
  subst hx0
  clear HV
  go_wp2_with (fail)
  refine (HCP.out _ HT.out.bl).mono ?_
  rintro e w2 ⟨a1, c1, rfl, hO2, hb2⟩
  obtain ⟨V, hV⟩ : ∃ X9, X9 = w2.alloc (.cells #[.int .i64 A, .string R, .int .i64 S, .int .i64 U, .int .i64 L, .bool Q, .slice a1 n c1] 29) := ⟨_, rfl⟩
  obtain ⟨K, hK⟩ : ∃ X9, X9 = w2.heap.size := ⟨_, rfl⟩
  have hbV : Below w2.heap.size w2 V := by rw [hV]; (repeat' (first | (with_reducible exact Below.refl _ _) | (with_reducible assumption) | (with_reducible refine Below.setCell ?_ ?_ _) | (with_reducible refine Below.alloc ?_ ?_ _) | (with_reducible refine below_drewN ?_ _) | (with_reducible refine Below.drew ?_) | (with_reducible exact Nat.le_refl _) | omega | (simp; done) | (simp; omega)))
  have hl1 := ltOf HT.out.b1
  have HW : Hid (S2 w (.cells #[.int .i64 A, .string R, .int .i64 S, .int .i64 U, .int .i64 L, .bool Q, .slice (some ⟨g, o, none⟩) n c] 29) (.cells #[.int .i64 0, .int .i64 0, .string ⟨#[]⟩, .int .i64 0, .int .i64 0, .int .i64 0, .bool false, .slice none 0 0] 34) V ∧ V.heap[K]? = some (.cells #[.int .i64 A, .string R, .int .i64 S, .int .i64 U, .int .i64 L, .bool Q, .slice a1 n c1] 29) ∧ OG 72 2 apC V w1.heap.size (.slice a1 n c1) s ∧ w.heap.size + 1 < w1.heap.size ∧ w1.heap.size ≤ K ∧ K < V.heap.size ∧ (∀ q, (Value.slice a1 n c1).ownBlock = some q → q < K)) := ⟨(HT.out.next hb2).next hbV, by rw [hV, hK]; exact heap_alloc_new _ _, OG.below hO2 hbV, hl1, by rw [hK]; exact hb2.size, by rw [hV, hK]; simp, fun q hq => by rw [hK]; exact (OG.lt hO2 q hq).2⟩
  clear hbV hl1 hO2 hb2 HT HCP p0 p1 p2 p3 p4 p5 p6 pl
  go_upto_region 5 with fail
  rw [← hV, ← hK]
  clear hV hK
  obtain ⟨p0, p1, p2, p3, p4, p5, p6, pl⟩ := tf_seven HW.out.1.b0
  obtain ⟨k0, k1, k2, k3, k4, k5, k6, kl⟩ := tf_seven HW.out.2.1
  by_cases hA0 : A = 0
  · subst hA0
    have HQ : Hid (rtA 0 = 0 ∧ rtQ 0 Q = Q) := ⟨rfl, rfl⟩
    have HC : Hid (∀ W, Calls Try.prog 40 #[.agg #[.int .i64 0, .string R, .int .i64 S, .int .i64 U, .int .i64 L, .bool Q, .slice a1 n c1], .int .i64 0] W fun e w' => e = .returned (.agg #[.int .i64 0, .string ⟨#[]⟩, .int .i64 0, .int .i64 U, .int .i64 L, .bool Q, .slice a1 n c1]) ∧ Below W.heap.size W w') := fun W => impl_rest 0 R S U L Q 0 a1 n c1 W
    go_wp2_with (fail)
    refine (HC.out _).mono ?_
    rintro e w3 ⟨rfl, hb3⟩
    have r1 := (hb3.block _ (ltOf HW.out.1.b1)).trans HW.out.1.b1
    have HO : Hid (OG 72 2 apC w3 w1.heap.size (.slice a1 n c1) s ∧ Below w.heap.size w w3) := ⟨OG.below HW.out.2.2.1 hb3, HW.out.1.bl.trans (hb3.mono HW.out.1.bl.size)⟩
    obtain ⟨⟨q0, q1, q2, q3, q4, q5, q6, q7⟩, ⟨qf0, qf1, qf2, qf3, qf4, qf5, qf6, qf7⟩, ql⟩ := tr_eight r1
    clear r1 hb3 p0 p1 p2 p3 p4 p5 p6 pl k0 k1 k2 k3 k4 k5 k6 kl
    go_wp2
    try simp only [Exit.inBlock, Exit.then]
    refine bodyPost_ret (by simp [results, Try.results13, go_sem, q0, q1, q2, q3, q4, q5, q6, q7]; try rfl) rfl ⟨.slice a1 n c1, (), by rw [HE.out.1, HE.out.2.1, HE.out.2.2.1, HE.out.2.2.2.1, HQ.out.1, HQ.out.2], ?_, ?_⟩
    · rw [HE.out.2.2.2.2]
      refine OG.low (B := w1.heap.size) (ownsRow_keep HO.out.1 fun q hq => ?_) (by have := HW.out.2.2.2.1; omega)
      have h9 := (OG.lt HO.out.1 q hq).1
      have h8 := HW.out.2.2.2.1
      have h7 := HW.out.2.2.2.2.2.2 q hq
      repeat rw [heap_setCell_other _ _ _ _ (by simp; omega)]
    · have hb := HO.out.2
      have h8 := HW.out.2.2.2.1
      have h7 := HW.out.2.2.2.2.1
      (repeat' (first | (with_reducible exact Below.refl _ _) | (with_reducible assumption) | (with_reducible refine Below.setCell ?_ ?_ _) | (with_reducible refine Below.alloc ?_ ?_ _) | (with_reducible refine below_drewN ?_ _) | (with_reducible refine Below.drew ?_) | (with_reducible exact Nat.le_refl _) | omega | (simp; done) | (simp; omega)))
  by_cases hA5 : A = 5
  · subst hA5
    have HQ : Hid (rtA 5 = 5 ∧ rtQ 5 Q = false) := ⟨rfl, rfl⟩
    have HC : Hid (∀ W, Calls Try.prog 41 #[.agg #[.int .i64 5, .string R, .int .i64 S, .int .i64 U, .int .i64 L, .bool Q, .slice a1 n c1], .int .i64 5] W fun e w' => e = .returned (.agg #[.int .i64 5, .string ⟨#[]⟩, .int .i64 0, .int .i64 U, .int .i64 L, .bool false, .slice a1 n c1]) ∧ Below W.heap.size W w') := fun W => impl_unq 5 R S U L Q 5 a1 n c1 W
    go_wp2_with (fail)
    refine (HC.out _).mono ?_
    rintro e w3 ⟨rfl, hb3⟩
    have r1 := (hb3.block _ (ltOf HW.out.1.b1)).trans HW.out.1.b1
    have HO : Hid (OG 72 2 apC w3 w1.heap.size (.slice a1 n c1) s ∧ Below w.heap.size w w3) := ⟨OG.below HW.out.2.2.1 hb3, HW.out.1.bl.trans (hb3.mono HW.out.1.bl.size)⟩
    obtain ⟨⟨q0, q1, q2, q3, q4, q5, q6, q7⟩, ⟨qf0, qf1, qf2, qf3, qf4, qf5, qf6, qf7⟩, ql⟩ := tr_eight r1
    clear r1 hb3 p0 p1 p2 p3 p4 p5 p6 pl k0 k1 k2 k3 k4 k5 k6 kl
    go_wp2
    try simp only [Exit.inBlock, Exit.then]
    refine bodyPost_ret (by simp [results, Try.results13, go_sem, q0, q1, q2, q3, q4, q5, q6, q7]; try rfl) rfl ⟨.slice a1 n c1, (), by rw [HE.out.1, HE.out.2.1, HE.out.2.2.1, HE.out.2.2.2.1, HQ.out.1, HQ.out.2], ?_, ?_⟩
    · rw [HE.out.2.2.2.2]
      refine OG.low (B := w1.heap.size) (ownsRow_keep HO.out.1 fun q hq => ?_) (by have := HW.out.2.2.2.1; omega)
      have h9 := (OG.lt HO.out.1 q hq).1
      have h8 := HW.out.2.2.2.1
      have h7 := HW.out.2.2.2.2.2.2 q hq
      repeat rw [heap_setCell_other _ _ _ _ (by simp; omega)]
    · have hb := HO.out.2
      have h8 := HW.out.2.2.2.1
      have h7 := HW.out.2.2.2.2.1
      (repeat' (first | (with_reducible exact Below.refl _ _) | (with_reducible assumption) | (with_reducible refine Below.setCell ?_ ?_ _) | (with_reducible refine Below.alloc ?_ ?_ _) | (with_reducible refine below_drewN ?_ _) | (with_reducible refine Below.drew ?_) | (with_reducible exact Nat.le_refl _) | omega | (simp; done) | (simp; omega)))
  have HQ : Hid (rtA A = 6 ∧ rtQ A Q = false) := ⟨by unfold rtA; rw [if_neg hA0, if_neg hA5], by unfold rtQ; rw [if_neg hA0]⟩
  have HC : Hid (∀ W, Calls Try.prog 41 #[.agg #[.int .i64 A, .string R, .int .i64 S, .int .i64 U, .int .i64 L, .bool Q, .slice a1 n c1], .int .i64 6] W fun e w' => e = .returned (.agg #[.int .i64 6, .string ⟨#[]⟩, .int .i64 0, .int .i64 U, .int .i64 L, .bool false, .slice a1 n c1]) ∧ Below W.heap.size W w') := fun W => impl_unq A R S U L Q 6 a1 n c1 W
  go_wp2_with (fail)
  refine (HC.out _).mono ?_
  rintro e w3 ⟨rfl, hb3⟩
  have r1 := (hb3.block _ (ltOf HW.out.1.b1)).trans HW.out.1.b1
  have HO : Hid (OG 72 2 apC w3 w1.heap.size (.slice a1 n c1) s ∧ Below w.heap.size w w3) := ⟨OG.below HW.out.2.2.1 hb3, HW.out.1.bl.trans (hb3.mono HW.out.1.bl.size)⟩
  obtain ⟨⟨q0, q1, q2, q3, q4, q5, q6, q7⟩, ⟨qf0, qf1, qf2, qf3, qf4, qf5, qf6, qf7⟩, ql⟩ := tr_eight r1
  clear r1 hb3 p0 p1 p2 p3 p4 p5 p6 pl k0 k1 k2 k3 k4 k5 k6 kl
  go_wp2
  try simp only [Exit.inBlock, Exit.then]
  refine bodyPost_ret (by simp [results, Try.results13, go_sem, q0, q1, q2, q3, q4, q5, q6, q7]; try rfl) rfl ⟨.slice a1 n c1, (), by rw [HE.out.1, HE.out.2.1, HE.out.2.2.1, HE.out.2.2.2.1, HQ.out.1, HQ.out.2], ?_, ?_⟩
  · rw [HE.out.2.2.2.2]
    refine OG.low (B := w1.heap.size) (ownsRow_keep HO.out.1 fun q hq => ?_) (by have := HW.out.2.2.2.1; omega)
    have h9 := (OG.lt HO.out.1 q hq).1
    have h8 := HW.out.2.2.2.1
    have h7 := HW.out.2.2.2.2.2.2 q hq
    repeat rw [heap_setCell_other _ _ _ _ (by simp; omega)]
  · have hb := HO.out.2
    have h8 := HW.out.2.2.2.1
    have h7 := HW.out.2.2.2.2.1
    (repeat' (first | (with_reducible exact Below.refl _ _) | (with_reducible assumption) | (with_reducible refine Below.setCell ?_ ?_ _) | (with_reducible refine Below.alloc ?_ ?_ _) | (with_reducible refine below_drewN ?_ _) | (with_reducible refine Below.drew ?_) | (with_reducible exact Nat.le_refl _) | omega | (simp; done) | (simp; omega)))

end Go.Proofs.Ytcfcknfaeliodaa
