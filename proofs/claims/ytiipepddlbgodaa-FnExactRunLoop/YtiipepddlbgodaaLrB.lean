/- Proved here: how the laws' package compares and marks an answer with a code and two lists of numbers. -/
import Derived.Test.YtiipepddlbgodaaLwS
import Derived.Test.YtiipepddlbgodaaMkI
import Derived.Test.YtiipepddlbgodaaNlQ
namespace Go.Proofs.Ytiipepddlbgodaa
open Go.RowKit
set_option linter.unusedVariables false
set_option linter.unusedSimpArgs false

/-- Two lists of numbers of the call's own, in blocks of their own. -/
def OwL (V : World) (B : Nat) (v1 v2 : Value) (L E : List Int) : Prop := IS V B v1 L ∧ IS V B v2 E ∧ ∀ g, v1.ownBlock = some g → v2.ownBlock ≠ some g
def BkL (v1 v2 : Value) (q : Nat) : Prop := v1.ownBlock = some q ∨ v2.ownBlock = some q
theorem OwL.blk {V : World} {B : Nat} {v1 v2 : Value} {L E : List Int} (h : OwL V B v1 v2 L E) {q : Nat} (hq : BkL v1 v2 q) : B ≤ q ∧ q < V.heap.size := by
  rcases hq with hq | hq
  · exact IS.lt h.1 q hq
  · exact IS.lt h.2.1 q hq
theorem OwL.keep {V V' : World} {B : Nat} {v1 v2 : Value} {L E : List Int} (h : OwL V B v1 v2 L E) (hk : ∀ q, BkL v1 v2 q → V'.heap[q]? = V.heap[q]?) : OwL V' B v1 v2 L E :=
  ⟨h.1.kept fun q hq => hk q (Or.inl hq), h.2.1.kept fun q hq => hk q (Or.inr hq), h.2.2⟩
theorem OwL.low {V : World} {A B : Nat} {v1 v2 : Value} {L E : List Int} (h : OwL V B v1 v2 L E) (hab : A ≤ B) : OwL V A v1 v2 L E := ⟨h.1.low hab, h.2.1.low hab, h.2.2⟩
theorem OwL.form1 {V : World} {B : Nat} {v1 v2 : Value} {L E : List Int} (h : OwL V B v1 v2 L E) : ∃ a c, v1 = .slice a L.length c := h.1.form
theorem OwL.form2 {V : World} {B : Nat} {v1 v2 : Value} {L E : List Int} (h : OwL V B v1 v2 L E) : ∃ a c, v2 = .slice a E.length c := h.2.1.form
def RdL (V : World) (v1 v2 : Value) (L E : List Int) : Prop := RdI V v1 L ∧ RdI V v2 E
theorem OwL.rd {V : World} {B : Nat} {v1 v2 : Value} {L E : List Int} (h : OwL V B v1 v2 L E) : RdL V v1 v2 L E := ⟨h.1.rg, h.2.1.rg⟩
def LtL (v1 v2 : Value) (Z : Nat) : Prop := ∀ q, BkL v1 v2 q → q < Z
theorem OwL.lt {V : World} {B : Nat} {v1 v2 : Value} {L E : List Int} (h : OwL V B v1 v2 L E) : LtL v1 v2 V.heap.size := fun q hq => (h.blk hq).2
theorem Ow.rL2 {V : World} {B hi : Nat} {v1 v2 : Value} {L E : List Int} (h : OwL V B v1 v2 L E) (h1 : B ≤ hi) (h2 : hi ≤ V.heap.size) (hh : LtL v1 v2 hi) : Ow B hi (fun V => OwL V B v1 v2 L E) V :=
  Ow.and (Ow.row h.1 h1 h2 fun g hg => hh g (Or.inl hg)) (Ow.and (Ow.row h.2.1 h1 h2 fun g hg => hh g (Or.inr hg)) ⟨h.2.2, fun _ _ => h.2.2, ⟨h1, h2⟩⟩)
theorem Ow.rAllL2 {V V0 : World} {v1 v2 : Value} {L E : List Int} (h : OwL V V0.heap.size v1 v2 L E) (hb : Below V0.heap.size V0 V) : Ow V0.heap.size V.heap.size (fun V => OwL V V0.heap.size v1 v2 L E) V :=
  Ow.rL2 h hb.size (Nat.le_refl _) h.lt
def MkL2 (V : World) (B : Nat) (v1 v2 : Value) (n m : Nat) : Prop := V.ownsRow B 2 1 v1 n (mkV 1 n) ∧ V.ownsRow B 2 1 v2 m (mkV (1 + (n : Int)) m)
theorem Ow.mL2 {V : World} {B hi n m : Nat} {v1 v2 : Value} (h : MkL2 V B v1 v2 n m) (h1 : B ≤ hi) (h2 : hi ≤ V.heap.size) (hh : LtL v1 v2 hi) : Ow B hi (fun V => MkL2 V B v1 v2 n m) V :=
  Ow.and (Ow.row h.1 h1 h2 fun g hg => hh g (Or.inl hg)) (Ow.row h.2 h1 h2 fun g hg => hh g (Or.inr hg))
theorem three_L {w : World} {k : Nat} {a b c : Value} {T : TypeId} (h : w.heap[k]? = some (.cells #[a, b, c] T)) :
    w.cell? ⟨k, 0, none⟩ = some a ∧ w.cell? ⟨k, 1, none⟩ = some b ∧ w.cell? ⟨k, 2, none⟩ = some c ∧ k < w.heap.size := ⟨cellOf h 0 rfl, cellOf h 1 rfl, cellOf h 2 rfl, ltOf h⟩
/-- Marking a list turns nothing but its own block. -/
theorem markI_on {w : World} {B n : Nat} {v : Value} {ys : List Value} (z : Int) (hn : n ≤ 1048576) (hz0 : 0 ≤ z) (hz1 : z ≤ 1000000000000) (h : w.ownsRow B 2 1 v n ys) :
    Calls Try.prog 16 #[v, .int .i64 z] w fun e w' => e = .returned (.int .i64 (z + (n : Int))) ∧ w'.ownsRow B 2 1 v n (mkV z n) ∧ (w' = w ∨ ∃ g, v.ownBlock = some g ∧ Only g w w') := by
  rcases h.2 with ⟨rfl, rfl⟩ | ⟨g, cap, cur, rfl, hB, _⟩
  · refine (markInt64S_zero none 0 z w).mono ?_
    rintro e w' ⟨rfl, rfl⟩
    refine ⟨by simp, ?_, Or.inl rfl⟩
    have e : ys = [] := List.length_eq_zero_iff.1 (by have := h.1; omega)
    rw [e] at h
    simpa [mkV] using h
  · refine (markInt64S_pos g cap n B ys z w hn hz0 hz1 h).mono ?_
    rintro e w' ⟨rfl, h1, h2⟩
    exact ⟨rfl, h1, Or.inr ⟨g, rfl, h2⟩⟩

set_option maxHeartbeats 3200000 in
theorem eqLoopResult_to (C : Int) {ls es : List Int} {v1 v2 u1 u2 : Value} {w : World} (hn : ls.length ≤ 1048576 ∧ es.length ≤ 1048576) (h1 : RdL w v1 u1 ls es) (h2 : RdL w v2 u2 ls es) :
    Calls Try.prog 29 #[.agg #[.int .i64 C, v1, u1], .agg #[.int .i64 C, v2, u2]] w fun e w' => e = .returned (.bool true) ∧ Below w.heap.size w w' := by
  obtain ⟨a1, c1, e1⟩ := h1.1.form
  obtain ⟨a2, c2, e2⟩ := h2.1.form
  obtain ⟨b1, d1, e3⟩ := h1.2.form
  obtain ⟨b2, d2, e4⟩ := h2.2.form
  obtain ⟨m, hm⟩ : ∃ m, m = ls.length := ⟨_, rfl⟩
  obtain ⟨k, hk⟩ : ∃ m, m = es.length := ⟨_, rfl⟩
  rw [← hm] at e1 e2
  rw [← hk] at e3 e4
  subst e1 e2 e3 e4
  have H : Hid (RdL w (.slice a1 m c1) (.slice b1 k d1) ls es ∧ RdL w (.slice a2 m c2) (.slice b2 k d2) ls es ∧ ls.length ≤ 1099511627776 ∧ es.length ≤ 1099511627776) := ⟨h1, h2, by omega, by omega⟩
  clear h1 h2 hm hn hk
  obtain ⟨U, hU⟩ : ∃ U, U = (w.alloc (.cells #[.int .i64 C, .slice a1 m c1, .slice b1 k d1] 48)).alloc (.cells #[.int .i64 C, .slice a2 m c2, .slice b2 k d2] 48) := ⟨_, rfl⟩
  have hbU : Below w.heap.size w U := by rw [hU]; (repeat' (first | (with_reducible exact Below.refl _ _) | (with_reducible assumption) | (with_reducible refine Below.setCell ?_ ?_ _) | (with_reducible refine Below.alloc ?_ ?_ _) | (with_reducible refine below_drewN ?_ _) | (with_reducible refine Below.drew ?_) | (with_reducible exact Nat.le_refl _) | omega | (simp; done) | (simp; omega)))
  have k0 : U.heap[w.heap.size]? = some (.cells #[.int .i64 C, .slice a1 m c1, .slice b1 k d1] 48) := by rw [hU]; exact (Below.heap_alloc _ _ _ (by simp)).trans (heap_alloc_new w _)
  have k1 : U.heap[w.heap.size + 1]? = some (.cells #[.int .i64 C, .slice a2 m c2, .slice b2 k d2] 48) := by rw [hU]; have := heap_alloc_new (w.alloc (.cells #[.int .i64 C, .slice a1 m c1, .slice b1 k d1] 48)) (.cells #[.int .i64 C, .slice a2 m c2, .slice b2 k d2] 48); simpa using this
  have HU : Hid (Below w.heap.size w U ∧ U.heap[w.heap.size]? = some (.cells #[.int .i64 C, .slice a1 m c1, .slice b1 k d1] 48) ∧ U.heap[w.heap.size + 1]? = some (.cells #[.int .i64 C, .slice a2 m c2, .slice b2 k d2] 48)) := ⟨hbU, k0, k1⟩
  clear hbU k0 k1
  go_enter Try.func29, Try.ntmps29
  go_wp2_with (fail)
  rw [← hU]
  clear hU
  refine (eqInt64S_same H.out.2.2.1 (H.out.1.1.below HU.out.1) (H.out.2.1.1.below HU.out.1)).mono ?_
  rintro e w1 ⟨rfl, hb1⟩
  have H1 : Hid (Below w.heap.size w w1) := HU.out.1.trans (hb1.mono HU.out.1.size)
  obtain ⟨p0, p1, p2, pl⟩ := three_L ((hb1.block _ (ltOf HU.out.2.1)).trans HU.out.2.1)
  obtain ⟨q0, q1, q2, ql⟩ := three_L ((hb1.block _ (ltOf HU.out.2.2)).trans HU.out.2.2)
  clear hb1 HU
  go_wp2_with (fail)
  refine (eqInt64S_same H.out.2.2.2 (H.out.1.2.below H1.out) (H.out.2.1.2.below H1.out)).mono ?_
  rintro e w2 ⟨rfl, hb2⟩
  have H2 : Hid (Below w.heap.size w w2) := H1.out.trans (hb2.mono H1.out.size)
  clear hb2 H1 p0 p1 p2 pl q0 q1 q2 ql
  go_wp2
  go_returns
  exact ⟨rfl, H2.out⟩

set_option maxHeartbeats 3200000 in
theorem markLoopResult_to (C : Int) {w : World} {B Z : Nat} {v1 v2 : Value} {ls es : List Int} (hn : ls.length ≤ 1048576 ∧ es.length ≤ 1048576) (h : OwL w B v1 v2 ls es) (hZ : LtL v1 v2 Z) :
    Calls Try.prog 30 #[.agg #[.int .i64 C, v1, v2], .int .i64 1] w fun e w' => e = .returned (.int .i64 (1 + (ls.length : Int) + (es.length : Int))) ∧ MkL2 w' B v1 v2 ls.length es.length ∧ Chg B Z w w' := by
  obtain ⟨a, c, e1⟩ := h.form1
  obtain ⟨b, d, e2⟩ := h.form2
  obtain ⟨m, hm⟩ : ∃ m, m = ls.length := ⟨_, rfl⟩
  obtain ⟨k, hk⟩ : ∃ m, m = es.length := ⟨_, rfl⟩
  rw [← hm] at e1 hn ⊢
  rw [← hk] at e2 hn ⊢
  subst e1 e2
  obtain ⟨T1, hT1⟩ : ∃ T, T = 1 + (m : Int) := ⟨_, rfl⟩
  obtain ⟨T2, hT2⟩ : ∃ T, T = T1 + (k : Int) := ⟨_, rfl⟩
  rw [← hT1, ← hT2]
  have hb1 : 0 ≤ T1 ∧ T1 ≤ 1000000000000 := by omega
  have H : Hid (OwL w B (.slice a m c) (.slice b k d) ls es ∧ LtL (.slice a m c) (.slice b k d) Z ∧ (m ≤ 1048576 ∧ k ≤ 1048576) ∧ T1 = 1 + (m : Int) ∧ T2 = T1 + (k : Int) ∧ m = ls.length ∧ k = es.length) := ⟨h, hZ, hn, hT1, hT2, hm, hk⟩
  clear h hZ hn hT1 hT2 hm hk
  obtain ⟨U, hU⟩ : ∃ U, U = w.alloc (.cells #[.int .i64 C, .slice a m c, .slice b k d] 48) := ⟨_, rfl⟩
  have HU : Hid (Below w.heap.size w U ∧ U.heap[w.heap.size]? = some (.cells #[.int .i64 C, .slice a m c, .slice b k d] 48) ∧ OwL U B (.slice a m c) (.slice b k d) ls es) := by
    have hb : Below w.heap.size w U := by rw [hU]; (repeat' (first | (with_reducible exact Below.refl _ _) | (with_reducible assumption) | (with_reducible refine Below.setCell ?_ ?_ _) | (with_reducible refine Below.alloc ?_ ?_ _) | (with_reducible refine below_drewN ?_ _) | (with_reducible refine Below.drew ?_) | (with_reducible exact Nat.le_refl _) | omega | (simp; done) | (simp; omega)))
    exact ⟨hb, by rw [hU]; exact heap_alloc_new w _, H.out.1.keep fun q hq => hb.block q (H.out.1.blk hq).2⟩
  have HM1 : Hid (Calls Try.prog 16 #[.slice a m c, .int .i64 1] U fun e w' => e = .returned (.int .i64 T1) ∧ w'.ownsRow B 2 1 (.slice a m c) m (mkV 1 m) ∧ (w' = U ∨ ∃ g, (Value.slice a m c).ownBlock = some g ∧ Only g U w')) := by
    have h1 := HU.out.2.2.1
    unfold IS at h1
    rw [← H.out.2.2.2.2.2.1] at h1
    rw [H.out.2.2.2.1]
    exact markI_on 1 H.out.2.2.1.1 (by omega) (by omega) h1
  go_enter Try.func30, Try.ntmps30
  go_wp2_with (fail)
  rw [← hU]
  clear hU
  refine HM1.out.mono ?_
  rintro e w1 ⟨rfl, hm1, hon⟩
  have hoth : ∀ q, (Value.slice a m c).ownBlock ≠ some q → w1.heap[q]? = U.heap[q]? := by
    intro q hq
    rcases hon with rfl | ⟨g, hg, h2⟩
    · rfl
    · exact h2.block q (fun e => hq (by rw [hg, e]))
  have k1 : w1.heap[w.heap.size]? = some (.cells #[.int .i64 C, .slice a m c, .slice b k d] 48) := (hoth _ fun e => by have := (H.out.1.blk (Or.inl e)).2; omega).trans HU.out.2.1
  have hi1 : w1.ownsRow B 2 1 (.slice b k d) k (es.map (Value.int .i64)) := by
    have h1 := (HU.out.2.2.2.1.kept (w' := w1) fun q hq => hoth q fun e => HU.out.2.2.2.2 q e hq)
    unfold IS at h1
    rw [← H.out.2.2.2.2.2.2] at h1
    exact h1
  have hch : Chg B Z w w1 := (Chg.of_below HU.out.1).trans (by
    rcases hon with rfl | ⟨g, hg, h2⟩
    · exact Chg.refl _ _ _
    · exact Chg.only h2 (H.out.1.blk (Or.inl hg)).1 (H.out.2.1 g (Or.inl hg)))
  have HM2 : Hid (Calls Try.prog 16 #[.slice b k d, .int .i64 T1] w1 fun e w' => e = .returned (.int .i64 T2) ∧ MkL2 w' B (.slice a m c) (.slice b k d) m k ∧ Chg B Z w w') := by
    unfold Hid
    rw [H.out.2.2.2.2.1]
    refine (markI_on T1 H.out.2.2.1.2 hb1.1 hb1.2 hi1).mono ?_
    rintro e w' ⟨rfl, h1, h2⟩
    refine ⟨rfl, ⟨?_, by rw [← H.out.2.2.2.1]; exact h1⟩, hch.trans ?_⟩
    · refine ownsRow_keep hm1 fun q hq => ?_
      rcases h2 with rfl | ⟨g, hg, h3⟩
      · rfl
      · exact h3.block q (fun e => H.out.1.2.2 q hq (by rw [hg, e]))
    · rcases h2 with rfl | ⟨g, hg, h3⟩
      · exact Chg.refl _ _ _
      · exact Chg.only h3 (H.out.1.blk (Or.inr hg)).1 (H.out.2.1 g (Or.inr hg))
  obtain ⟨p0, p1, p2, pl⟩ := three_L k1
  clear hm1 hoth k1 hi1 hch HU hon HM1
  go_wp2_with (fail)
  refine HM2.out.mono ?_
  rintro e w2 ⟨rfl, hA, hC⟩
  have HC : Hid (MkL2 w2 B (.slice a m c) (.slice b k d) m k ∧ Chg B Z w w2) := ⟨hA, hC⟩
  clear hA hC HM2 p0 p1 p2 pl
  go_wp2
  go_returns
  exact ⟨rfl, HC.out.1, HC.out.2⟩

theorem own_formL {w : World} {B n : Nat} {v : Value} {ys : List Value} (h : w.ownsRow B 2 1 v n ys) : ∃ a c, v = .slice a n c := by
  rcases h.2 with ⟨rfl, h0⟩ | ⟨g, cap, cur, rfl, _⟩
  · exact ⟨none, 0, by rw [h0]⟩
  · exact ⟨_, _, rfl⟩

set_option maxHeartbeats 3200000 in
theorem heldLoopResult_to (C : Int) {w : World} {B n m : Nat} {v1 v2 : Value} (hn : n ≤ 1048576 ∧ m ≤ 1048576) (h : MkL2 w B v1 v2 n m) :
    Calls Try.prog 31 #[.agg #[.int .i64 C, v1, v2], .int .i64 1] w fun e w' => e = .returned (.int .i64 (1 + (n : Int) + (m : Int))) ∧ Below w.heap.size w w' := by
  obtain ⟨a, c, e1⟩ := own_formL h.1
  obtain ⟨b, d, e2⟩ := own_formL h.2
  subst e1 e2
  obtain ⟨T1, hT1⟩ : ∃ T, T = 1 + (n : Int) := ⟨_, rfl⟩
  obtain ⟨T2, hT2⟩ : ∃ T, T = T1 + (m : Int) := ⟨_, rfl⟩
  rw [← hT1, ← hT2]
  have hb1 : 0 ≤ T1 ∧ T1 ≤ 1000000000000 := by omega
  have hb2 : ¬ T1 < 0 := by omega
  have hb3 : ¬ T2 < 0 := by omega
  have HS : Hid (∀ W : World, Below w.heap.size w W → Calls Try.prog 45 #[.slice a n c, .int .i64 1] W fun e w' => e = .returned (.int .i64 T1) ∧ w' = W) := fun W hW => by
    rw [hT1]; exact heldInt64S_to 1 hn.1 (by omega) (by omega) (ownsRow_keep h.1 fun q hq => hW.block q (World.ownsRow.lt h.1 q hq).2)
  have HI : Hid (∀ W : World, Below w.heap.size w W → Calls Try.prog 45 #[.slice b m d, .int .i64 T1] W fun e w' => e = .returned (.int .i64 T2) ∧ w' = W) := fun W hW => by
    rw [hT2]; exact heldInt64S_to T1 hn.2 hb1.1 hb1.2 (by rw [hT1]; exact ownsRow_keep h.2 fun q hq => hW.block q (World.ownsRow.lt h.2 q hq).2)
  clear h hn hT1 hT2
  obtain ⟨U, hU⟩ : ∃ U, U = w.alloc (.cells #[.int .i64 C, .slice a n c, .slice b m d] 48) := ⟨_, rfl⟩
  have HU : Hid (Below w.heap.size w U ∧ U.heap[w.heap.size]? = some (.cells #[.int .i64 C, .slice a n c, .slice b m d] 48)) := ⟨by rw [hU]; (repeat' (first | (with_reducible exact Below.refl _ _) | (with_reducible assumption) | (with_reducible refine Below.setCell ?_ ?_ _) | (with_reducible refine Below.alloc ?_ ?_ _) | (with_reducible refine below_drewN ?_ _) | (with_reducible refine Below.drew ?_) | (with_reducible exact Nat.le_refl _) | omega | (simp; done) | (simp; omega))), by rw [hU]; exact heap_alloc_new w _⟩
  go_enter Try.func31, Try.ntmps31
  go_wp2_with (fail)
  rw [← hU]
  clear hU
  refine (HS.out _ HU.out.1).mono ?_
  rintro e w1 ⟨rfl, hw⟩
  subst w1
  obtain ⟨p0, p1, p2, pl⟩ := three_L HU.out.2
  have H1 : Hid (Below w.heap.size w U) := HU.out.1
  clear HU HS
  go_wp2_with (fail)
  refine (HI.out _ H1.out).mono ?_
  rintro e w2 ⟨rfl, hw⟩
  subst w2
  go_wp2
  go_returns
  exact ⟨rfl, H1.out⟩

end Go.Proofs.Ytiipepddlbgodaa
