/- Proved here: a row of the call's own whose cells the library has laid anew (putRow, grow): it is the call's own still, with the new cells. No condition on the program. (And ahead of it: Proved here: a list of shots that came in: how it is read. No condition.) (And ahead of it: Proved here: how the laws' package copies a writer. (And ahead of it: Proved here: a writer that came in: how it is read. No condition. (And ahead of it: Proved here: how many cells a box of the laws' package has. No condition.))) (And ahead of it: Proved here: how the laws' package compares and marks an answer with a code, a list of shots and a list of numbers.) -/
import Derived.Test.YtmpbcdolikafpaaEvC
import Derived.Test.YtmpbcdolikafpaaMkSh
import Derived.Test.YtmpbcdolikafpaaMkI
import Derived.OpenShut
import Derived.Lib.SmallJoins
import Derived.Deep.Slices
import Derived.Carry
import Derived.Test.YtmpbcdolikafpaaWtB
import Derived.Test.YtmpbcdolikafpaaBoxF
import Derived.Test.YtmpbcdolikafpaaIntsBase
import Derived.Sort.Row
import Derived.Sort.Grow
namespace Go.Proofs.Ytmpbcdolikafpaa
open Go.RowKit
set_option linter.unusedVariables false
set_option linter.unusedSimpArgs false

/-- Shots and numbers of the call's own, in blocks of their own. -/
def OwD (V : World) (B : Nat) (v1 v2 : Value) (L : List Sh) (E : List Int) : Prop := OG 48 5 shC V B v1 L ∧ IS V B v2 E ∧ ∀ g, v1.ownBlock = some g → v2.ownBlock ≠ some g
def BkD (v1 v2 : Value) (q : Nat) : Prop := v1.ownBlock = some q ∨ v2.ownBlock = some q
theorem OwD.blk {V : World} {B : Nat} {v1 v2 : Value} {L : List Sh} {E : List Int} (h : OwD V B v1 v2 L E) {q : Nat} (hq : BkD v1 v2 q) : B ≤ q ∧ q < V.heap.size := by
  rcases hq with hq | hq
  · exact OG.lt h.1 q hq
  · exact IS.lt h.2.1 q hq
theorem OwD.keep {V V' : World} {B : Nat} {v1 v2 : Value} {L : List Sh} {E : List Int} (h : OwD V B v1 v2 L E) (hk : ∀ q, BkD v1 v2 q → V'.heap[q]? = V.heap[q]?) : OwD V' B v1 v2 L E :=
  ⟨ownsRow_keep h.1 fun q hq => hk q (Or.inl hq), h.2.1.kept fun q hq => hk q (Or.inr hq), h.2.2⟩
theorem OwD.low {V : World} {A B : Nat} {v1 v2 : Value} {L : List Sh} {E : List Int} (h : OwD V B v1 v2 L E) (hab : A ≤ B) : OwD V A v1 v2 L E := ⟨OG.low h.1 hab, h.2.1.low hab, h.2.2⟩
theorem OwD.form1 {V : World} {B : Nat} {v1 v2 : Value} {L : List Sh} {E : List Int} (h : OwD V B v1 v2 L E) : ∃ a c, v1 = .slice a L.length c := (OG.rg shC_len h.1).form
theorem OwD.form2 {V : World} {B : Nat} {v1 v2 : Value} {L : List Sh} {E : List Int} (h : OwD V B v1 v2 L E) : ∃ a c, v2 = .slice a E.length c := h.2.1.form
def RdD (V : World) (v1 v2 : Value) (L : List Sh) (E : List Int) : Prop := RG 5 shC V v1 L ∧ RdI V v2 E
theorem OwD.rd {V : World} {B : Nat} {v1 v2 : Value} {L : List Sh} {E : List Int} (h : OwD V B v1 v2 L E) : RdD V v1 v2 L E := ⟨OG.rg shC_len h.1, h.2.1.rg⟩
def LtD (v1 v2 : Value) (Z : Nat) : Prop := ∀ q, BkD v1 v2 q → q < Z
theorem OwD.lt {V : World} {B : Nat} {v1 v2 : Value} {L : List Sh} {E : List Int} (h : OwD V B v1 v2 L E) : LtD v1 v2 V.heap.size := fun q hq => (h.blk hq).2
theorem Ow.rD2 {V : World} {B hi : Nat} {v1 v2 : Value} {L : List Sh} {E : List Int} (h : OwD V B v1 v2 L E) (h1 : B ≤ hi) (h2 : hi ≤ V.heap.size) (hh : LtD v1 v2 hi) : Ow B hi (fun V => OwD V B v1 v2 L E) V :=
  Ow.and (Ow.row h.1 h1 h2 fun g hg => hh g (Or.inl hg)) (Ow.and (Ow.row h.2.1 h1 h2 fun g hg => hh g (Or.inr hg)) ⟨h.2.2, fun _ _ => h.2.2, ⟨h1, h2⟩⟩)
theorem Ow.rAllD2 {V V0 : World} {v1 v2 : Value} {L : List Sh} {E : List Int} (h : OwD V V0.heap.size v1 v2 L E) (hb : Below V0.heap.size V0 V) : Ow V0.heap.size V.heap.size (fun V => OwD V V0.heap.size v1 v2 L E) V :=
  Ow.rD2 h hb.size (Nat.le_refl _) h.lt
def MkD2 (V : World) (B : Nat) (v1 v2 : Value) (n m : Nat) : Prop := V.ownsRow B 48 5 v1 n (mkV 1 (n * 5)) ∧ V.ownsRow B 2 1 v2 m (mkV (1 + 5 * (n : Int)) m)
theorem Ow.mD2 {V : World} {B hi n m : Nat} {v1 v2 : Value} (h : MkD2 V B v1 v2 n m) (h1 : B ≤ hi) (h2 : hi ≤ V.heap.size) (hh : LtD v1 v2 hi) : Ow B hi (fun V => MkD2 V B v1 v2 n m) V :=
  Ow.and (Ow.row h.1 h1 h2 fun g hg => hh g (Or.inl hg)) (Ow.row h.2 h1 h2 fun g hg => hh g (Or.inr hg))
theorem three_D {w : World} {k : Nat} {a b c : Value} {T : TypeId} (h : w.heap[k]? = some (.cells #[a, b, c] T)) :
    w.cell? ⟨k, 0, none⟩ = some a ∧ w.cell? ⟨k, 1, none⟩ = some b ∧ w.cell? ⟨k, 2, none⟩ = some c ∧ k < w.heap.size := ⟨cellOf h 0 rfl, cellOf h 1 rfl, cellOf h 2 rfl, ltOf h⟩
/-- Marking a list turns nothing but its own block. -/
theorem markI_onD {w : World} {B n : Nat} {v : Value} {ys : List Value} (z : Int) (hn : n ≤ 1048576) (hz0 : 0 ≤ z) (hz1 : z ≤ 1000000000000) (h : w.ownsRow B 2 1 v n ys) :
    Calls Try.prog 26 #[v, .int .i64 z] w fun e w' => e = .returned (.int .i64 (z + (n : Int))) ∧ w'.ownsRow B 2 1 v n (mkV z n) ∧ (w' = w ∨ ∃ g, v.ownBlock = some g ∧ Only g w w') := by
  rcases h.2 with ⟨rfl, rfl⟩ | ⟨g, cap, cur, rfl, hB, _⟩
  · refine (markInt64S_zero none 0 z w).mono ?_
    rintro e w' ⟨rfl, rfl⟩
    refine ⟨by simp, ?_, Or.inl rfl⟩
    have e : ys = [] := List.length_eq_zero_iff.1 (by have := h.1; omega)
    rw [e] at h
    simpa [mkV] using h
  · refine (markInt64S_pos g cap n B ys z w hn hz0 hz1 h).mono ?_
    rintro e w' ⟨rfl, h1, h2⟩
    exact ⟨rfl, h1, Or.inr ⟨g, rfl, h2⟩⟩

theorem markS_onD {w : World} {B n : Nat} {v : Value} {ys : List Value} (z : Int) (hn : n ≤ 1048576) (hz0 : 0 ≤ z) (hz1 : z ≤ 1000000000000) (h : w.ownsRow B 48 5 v n ys) :
    Calls Try.prog 11 #[v, .int .i64 z] w fun e w' => e = .returned (.int .i64 (z + 5 * (n : Int))) ∧ w'.ownsRow B 48 5 v n (mkV z (n * 5)) ∧ (w' = w ∨ ∃ g, v.ownBlock = some g ∧ Only g w w') := by
  rcases h.2 with ⟨rfl, rfl⟩ | ⟨g, cap, cur, rfl, hB, _⟩
  · refine (markShotS_zero none 0 z w).mono ?_
    rintro e w' ⟨rfl, rfl⟩
    refine ⟨by simp, ?_, Or.inl rfl⟩
    have e : ys = [] := List.length_eq_zero_iff.1 (by have := h.1; omega)
    rw [e] at h
    simpa [mkV] using h
  · refine (markShotS_pos g cap n B ys z w hn hz0 hz1 h).mono ?_
    rintro e w' ⟨rfl, h1, h2⟩
    exact ⟨rfl, h1, Or.inr ⟨g, rfl, h2⟩⟩
theorem shots_apart {w : World} {B n m : Nat} {va vb : Value} {ys zs : List Value} (h : w.ownsRow B 48 5 va n ys) (h' : w.ownsRow B 2 1 vb m zs) : ∀ g, va.ownBlock = some g → vb.ownBlock ≠ some g := by
  intro g hg hg'
  rcases h.2 with ⟨rfl, _⟩ | ⟨a, c, cur, rfl, _, ha, _⟩
  · cases hg
  rcases h'.2 with ⟨rfl, _⟩ | ⟨a', c', cur', rfl, _, ha', _⟩
  · cases hg'
  have e1 : a = g := Option.some.inj hg
  have e2 : a' = g := Option.some.inj hg'
  rw [e1] at ha
  rw [e2, ha] at ha'
  injection ha' with h1
  injection h1 with h2 h3
  exact absurd h3 (by decide)
theorem OwD.of {V : World} {B : Nat} {v1 v2 : Value} {L : List Sh} {E : List Int} (h1 : OG 48 5 shC V B v1 L) (h2 : IS V B v2 E) : OwD V B v1 v2 L E := ⟨h1, h2, shots_apart h1 h2⟩

set_option maxHeartbeats 3200000 in
theorem eqDoseResult_to (C : Int) {ls : List Sh} {es : List Int} {v1 v2 u1 u2 : Value} {w : World} (hn : ls.length ≤ 1048576 ∧ es.length ≤ 1048576) (h1 : RdD w v1 u1 ls es) (h2 : RdD w v2 u2 ls es) :
    Calls Try.prog 9 #[.agg #[.int .i64 C, v1, u1], .agg #[.int .i64 C, v2, u2]] w fun e w' => e = .returned (.bool true) ∧ Below w.heap.size w w' := by
  obtain ⟨a1, c1, e1⟩ := h1.1.form
  obtain ⟨a2, c2, e2⟩ := h2.1.form
  obtain ⟨b1, d1, e3⟩ := h1.2.form
  obtain ⟨b2, d2, e4⟩ := h2.2.form
  obtain ⟨m, hm⟩ : ∃ m, m = ls.length := ⟨_, rfl⟩
  obtain ⟨k, hk⟩ : ∃ m, m = es.length := ⟨_, rfl⟩
  rw [← hm] at e1 e2
  rw [← hk] at e3 e4
  subst e1 e2 e3 e4
  have H : Hid (RdD w (.slice a1 m c1) (.slice b1 k d1) ls es ∧ RdD w (.slice a2 m c2) (.slice b2 k d2) ls es ∧ ls.length ≤ 1099511627776 ∧ es.length ≤ 1099511627776) := ⟨h1, h2, by omega, by omega⟩
  clear h1 h2 hm hn hk
  obtain ⟨U, hU⟩ : ∃ U, U = (w.alloc (.cells #[.int .i64 C, .slice a1 m c1, .slice b1 k d1] 31)).alloc (.cells #[.int .i64 C, .slice a2 m c2, .slice b2 k d2] 31) := ⟨_, rfl⟩
  have hbU : Below w.heap.size w U := by rw [hU]; (repeat' (first | (with_reducible exact Below.refl _ _) | (with_reducible assumption) | (with_reducible refine Below.setCell ?_ ?_ _) | (with_reducible refine Below.alloc ?_ ?_ _) | (with_reducible refine below_drewN ?_ _) | (with_reducible refine Below.drew ?_) | (with_reducible exact Nat.le_refl _) | omega | (simp; done) | (simp; omega)))
  have k0 : U.heap[w.heap.size]? = some (.cells #[.int .i64 C, .slice a1 m c1, .slice b1 k d1] 31) := by rw [hU]; exact (Below.heap_alloc _ _ _ (by simp)).trans (heap_alloc_new w _)
  have k1 : U.heap[w.heap.size + 1]? = some (.cells #[.int .i64 C, .slice a2 m c2, .slice b2 k d2] 31) := by rw [hU]; have := heap_alloc_new (w.alloc (.cells #[.int .i64 C, .slice a1 m c1, .slice b1 k d1] 31)) (.cells #[.int .i64 C, .slice a2 m c2, .slice b2 k d2] 31); simpa using this
  have HU : Hid (Below w.heap.size w U ∧ U.heap[w.heap.size]? = some (.cells #[.int .i64 C, .slice a1 m c1, .slice b1 k d1] 31) ∧ U.heap[w.heap.size + 1]? = some (.cells #[.int .i64 C, .slice a2 m c2, .slice b2 k d2] 31)) := ⟨hbU, k0, k1⟩
  clear hbU k0 k1
  go_enter Try.func9, Try.ntmps9
  go_wp2_with (fail)
  rw [← hU]
  clear hU
  refine (eqShotS_same H.out.2.2.1 (RG.below H.out.1.1 HU.out.1) (RG.below H.out.2.1.1 HU.out.1)).mono ?_
  rintro e w1 ⟨rfl, hb1⟩
  have H1 : Hid (Below w.heap.size w w1) := HU.out.1.trans (hb1.mono HU.out.1.size)
  obtain ⟨p0, p1, p2, pl⟩ := three_D ((hb1.block _ (ltOf HU.out.2.1)).trans HU.out.2.1)
  obtain ⟨q0, q1, q2, ql⟩ := three_D ((hb1.block _ (ltOf HU.out.2.2)).trans HU.out.2.2)
  clear hb1 HU
  go_wp2_with (fail)
  refine (eqInt64S_same H.out.2.2.2 (H.out.1.2.below H1.out) (H.out.2.1.2.below H1.out)).mono ?_
  rintro e w2 ⟨rfl, hb2⟩
  have H2 : Hid (Below w.heap.size w w2) := H1.out.trans (hb2.mono H1.out.size)
  clear hb2 H1 p0 p1 p2 pl q0 q1 q2 ql
  go_wp2
  go_returns
  exact ⟨rfl, H2.out⟩

set_option maxHeartbeats 3200000 in
theorem markDoseResult_to (C : Int) {w : World} {B Z : Nat} {v1 v2 : Value} {ls : List Sh} {es : List Int} (hn : ls.length ≤ 1048576 ∧ es.length ≤ 1048576) (h : OwD w B v1 v2 ls es) (hZ : LtD v1 v2 Z) :
    Calls Try.prog 12 #[.agg #[.int .i64 C, v1, v2], .int .i64 1] w fun e w' => e = .returned (.int .i64 (1 + 5 * (ls.length : Int) + (es.length : Int))) ∧ MkD2 w' B v1 v2 ls.length es.length ∧ Chg B Z w w' := by
  obtain ⟨a, c, e1⟩ := h.form1
  obtain ⟨b, d, e2⟩ := h.form2
  obtain ⟨m, hm⟩ : ∃ m, m = ls.length := ⟨_, rfl⟩
  obtain ⟨k, hk⟩ : ∃ m, m = es.length := ⟨_, rfl⟩
  rw [← hm] at e1 hn ⊢
  rw [← hk] at e2 hn ⊢
  subst e1 e2
  obtain ⟨T1, hT1⟩ : ∃ T, T = 1 + 5 * (m : Int) := ⟨_, rfl⟩
  obtain ⟨T2, hT2⟩ : ∃ T, T = T1 + (k : Int) := ⟨_, rfl⟩
  rw [← hT1, ← hT2]
  have hb1 : 0 ≤ T1 ∧ T1 ≤ 1000000000000 := by omega
  have H : Hid (OwD w B (.slice a m c) (.slice b k d) ls es ∧ LtD (.slice a m c) (.slice b k d) Z ∧ (m ≤ 1048576 ∧ k ≤ 1048576) ∧ T1 = 1 + 5 * (m : Int) ∧ T2 = T1 + (k : Int) ∧ m = ls.length ∧ k = es.length) := ⟨h, hZ, hn, hT1, hT2, hm, hk⟩
  clear h hZ hn hT1 hT2 hm hk
  obtain ⟨U, hU⟩ : ∃ U, U = w.alloc (.cells #[.int .i64 C, .slice a m c, .slice b k d] 31) := ⟨_, rfl⟩
  have HU : Hid (Below w.heap.size w U ∧ U.heap[w.heap.size]? = some (.cells #[.int .i64 C, .slice a m c, .slice b k d] 31) ∧ OwD U B (.slice a m c) (.slice b k d) ls es) := by
    have hb : Below w.heap.size w U := by rw [hU]; (repeat' (first | (with_reducible exact Below.refl _ _) | (with_reducible assumption) | (with_reducible refine Below.setCell ?_ ?_ _) | (with_reducible refine Below.alloc ?_ ?_ _) | (with_reducible refine below_drewN ?_ _) | (with_reducible refine Below.drew ?_) | (with_reducible exact Nat.le_refl _) | omega | (simp; done) | (simp; omega)))
    exact ⟨hb, by rw [hU]; exact heap_alloc_new w _, H.out.1.keep fun q hq => hb.block q (H.out.1.blk hq).2⟩
  have HM1 : Hid (Calls Try.prog 11 #[.slice a m c, .int .i64 1] U fun e w' => e = .returned (.int .i64 T1) ∧ w'.ownsRow B 48 5 (.slice a m c) m (mkV 1 (m * 5)) ∧ (w' = U ∨ ∃ g, (Value.slice a m c).ownBlock = some g ∧ Only g U w')) := by
    have h1 := HU.out.2.2.1
    unfold OG at h1
    rw [← H.out.2.2.2.2.2.1] at h1
    rw [H.out.2.2.2.1]
    exact markS_onD 1 H.out.2.2.1.1 (by omega) (by omega) h1
  go_enter Try.func12, Try.ntmps12
  go_wp2_with (fail)
  rw [← hU]
  clear hU
  refine HM1.out.mono ?_
  rintro e w1 ⟨rfl, hm1, hon⟩
  have hoth : ∀ q, (Value.slice a m c).ownBlock ≠ some q → w1.heap[q]? = U.heap[q]? := by
    intro q hq
    rcases hon with rfl | ⟨g, hg, h2⟩
    · rfl
    · exact h2.block q (fun e => hq (by rw [hg, e]))
  have k1 : w1.heap[w.heap.size]? = some (.cells #[.int .i64 C, .slice a m c, .slice b k d] 31) := (hoth _ fun e => by have := (H.out.1.blk (Or.inl e)).2; omega).trans HU.out.2.1
  have hi1 : w1.ownsRow B 2 1 (.slice b k d) k (es.map (Value.int .i64)) := by
    have h1 := (HU.out.2.2.2.1.kept (w' := w1) fun q hq => hoth q fun e => HU.out.2.2.2.2 q e hq)
    unfold IS at h1
    rw [← H.out.2.2.2.2.2.2] at h1
    exact h1
  have hch : Chg B Z w w1 := (Chg.of_below HU.out.1).trans (by
    rcases hon with rfl | ⟨g, hg, h2⟩
    · exact Chg.refl _ _ _
    · exact Chg.only h2 (H.out.1.blk (Or.inl hg)).1 (H.out.2.1 g (Or.inl hg)))
  have HM2 : Hid (Calls Try.prog 26 #[.slice b k d, .int .i64 T1] w1 fun e w' => e = .returned (.int .i64 T2) ∧ MkD2 w' B (.slice a m c) (.slice b k d) m k ∧ Chg B Z w w') := by
    unfold Hid
    rw [H.out.2.2.2.2.1]
    refine (markI_onD T1 H.out.2.2.1.2 hb1.1 hb1.2 hi1).mono ?_
    rintro e w' ⟨rfl, h1, h2⟩
    refine ⟨rfl, ⟨?_, by rw [← H.out.2.2.2.1]; exact h1⟩, hch.trans ?_⟩
    · refine ownsRow_keep hm1 fun q hq => ?_
      rcases h2 with rfl | ⟨g, hg, h3⟩
      · rfl
      · exact h3.block q (fun e => H.out.1.2.2 q hq (by rw [hg, e]))
    · rcases h2 with rfl | ⟨g, hg, h3⟩
      · exact Chg.refl _ _ _
      · exact Chg.only h3 (H.out.1.blk (Or.inr hg)).1 (H.out.2.1 g (Or.inr hg))
  obtain ⟨p0, p1, p2, pl⟩ := three_D k1
  clear hm1 hoth k1 hi1 hch HU hon HM1
  go_wp2_with (fail)
  refine HM2.out.mono ?_
  rintro e w2 ⟨rfl, hA, hC⟩
  have HC : Hid (MkD2 w2 B (.slice a m c) (.slice b k d) m k ∧ Chg B Z w w2) := ⟨hA, hC⟩
  clear hA hC HM2 p0 p1 p2 pl
  go_wp2
  go_returns
  exact ⟨rfl, HC.out.1, HC.out.2⟩

theorem own_formD {w : World} {B n : Nat} {v : Value} {ys : List Value} (h : w.ownsRow B 2 1 v n ys) : ∃ a c, v = .slice a n c := by
  rcases h.2 with ⟨rfl, h0⟩ | ⟨g, cap, cur, rfl, _⟩
  · exact ⟨none, 0, by rw [h0]⟩
  · exact ⟨_, _, rfl⟩

theorem own_formS {w : World} {B n : Nat} {v : Value} {ys : List Value} (h : w.ownsRow B 48 5 v n ys) : ∃ a c, v = .slice a n c := by
  rcases h.2 with ⟨rfl, h0⟩ | ⟨g, cap, cur, rfl, _⟩
  · exact ⟨none, 0, by rw [h0]⟩
  · exact ⟨_, _, rfl⟩

set_option maxHeartbeats 3200000 in
theorem heldDoseResult_to (C : Int) {w : World} {B n m : Nat} {v1 v2 : Value} (hn : n ≤ 1048576 ∧ m ≤ 1048576) (h : MkD2 w B v1 v2 n m) :
    Calls Try.prog 13 #[.agg #[.int .i64 C, v1, v2], .int .i64 1] w fun e w' => e = .returned (.int .i64 (1 + 5 * (n : Int) + (m : Int))) ∧ Below w.heap.size w w' := by
  obtain ⟨a, c, e1⟩ := own_formS h.1
  obtain ⟨b, d, e2⟩ := own_formD h.2
  subst e1 e2
  obtain ⟨T1, hT1⟩ : ∃ T, T = 1 + 5 * (n : Int) := ⟨_, rfl⟩
  obtain ⟨T2, hT2⟩ : ∃ T, T = T1 + (m : Int) := ⟨_, rfl⟩
  rw [← hT1, ← hT2]
  have hb1 : 0 ≤ T1 ∧ T1 ≤ 1000000000000 := by omega
  have hb2 : ¬ T1 < 0 := by omega
  have hb3 : ¬ T2 < 0 := by omega
  have HS : Hid (∀ W : World, Below w.heap.size w W → Calls Try.prog 27 #[.slice a n c, .int .i64 1] W fun e w' => e = .returned (.int .i64 T1) ∧ w' = W) := fun W hW => by
    rw [hT1]; exact heldShotS_to 1 hn.1 (by omega) (by omega) (ownsRow_keep h.1 fun q hq => hW.block q (World.ownsRow.lt h.1 q hq).2)
  have HI : Hid (∀ W : World, Below w.heap.size w W → Calls Try.prog 28 #[.slice b m d, .int .i64 T1] W fun e w' => e = .returned (.int .i64 T2) ∧ w' = W) := fun W hW => by
    rw [hT2]; exact heldInt64S_to T1 hn.2 hb1.1 hb1.2 (by rw [hT1]; exact ownsRow_keep h.2 fun q hq => hW.block q (World.ownsRow.lt h.2 q hq).2)
  clear h hn hT1 hT2
  obtain ⟨U, hU⟩ : ∃ U, U = w.alloc (.cells #[.int .i64 C, .slice a n c, .slice b m d] 31) := ⟨_, rfl⟩
  have HU : Hid (Below w.heap.size w U ∧ U.heap[w.heap.size]? = some (.cells #[.int .i64 C, .slice a n c, .slice b m d] 31)) := ⟨by rw [hU]; (repeat' (first | (with_reducible exact Below.refl _ _) | (with_reducible assumption) | (with_reducible refine Below.setCell ?_ ?_ _) | (with_reducible refine Below.alloc ?_ ?_ _) | (with_reducible refine below_drewN ?_ _) | (with_reducible refine Below.drew ?_) | (with_reducible exact Nat.le_refl _) | omega | (simp; done) | (simp; omega))), by rw [hU]; exact heap_alloc_new w _⟩
  go_enter Try.func13, Try.ntmps13
  go_wp2_with (fail)
  rw [← hU]
  clear hU
  refine (HS.out _ HU.out.1).mono ?_
  rintro e w1 ⟨rfl, hw⟩
  subst w1
  obtain ⟨p0, p1, p2, pl⟩ := three_D HU.out.2
  have H1 : Hid (Below w.heap.size w U) := HU.out.1
  clear HU HS
  go_wp2_with (fail)
  refine (HI.out _ H1.out).mono ?_
  rintro e w2 ⟨rfl, hw⟩
  subst w2
  go_wp2
  go_returns
  exact ⟨rfl, H1.out⟩

end Go.Proofs.Ytmpbcdolikafpaa

namespace Go.Proofs.Ytmpbcdolikafpaa
open Go.ChangeShapes Go.WideShapes Go.ChangeAt Go.RowKit Go.Joins Go.Deep

theorem cells_laws_Box : Try.prog.cellsOf 24 = 4 := by kernel_rfl

end Go.Proofs.Ytmpbcdolikafpaa

namespace Go.Proofs.Ytmpbcdolikafpaa
open Go.ChangeShapes Go.WideShapes Go.ChangeAt Go.RowKit Go.Joins Go.Deep
set_option linter.unusedVariables false
set_option linter.unusedSimpArgs false

set_option maxRecDepth 100000 in
/-- A writer that came in. -/
theorem writer_open {H : Type} {enc : TypeId × Value → H} {W : World} {base : Nat} {v : Value} {d : DataW H} {p : List MemPlace}
    (hv : Value.okWide Try.prog W .any base 26 v) (h : DataW.Trod enc Try.prog W 0 (fun _ => true) true 26 v d p) :
    ∃ x : Wt, v = .agg #[.int .i64 x.f.x0, .int .i64 x.f.y0, .int .i64 x.f.x1, .int .i64 x.f.y1, .int .i64 x.o, .int .i64 x.s, .int .i64 x.r] := by
  obtain ⟨cs, rfl, hsz⟩ := okWide_struct Try.underlying26 hv
  have k6 : Try.prog.cellsOf 26 = 7 := by kernel_rfl
  have k1 : Try.prog.cellsOf 2 = 1 := by kernel_rfl
  rw [k6] at hsz
  obtain ⟨l⟩ := cs
  obtain ⟨c0, c1, c2, c3, c4, c5, c6, rfl⟩ : ∃ c0 c1 c2 c3 c4 c5 c6, l = [c0, c1, c2, c3, c4, c5, c6] := by
    match l, hsz with
    | [c0, c1, c2, c3, c4, c5, c6], _ => exact ⟨c0, c1, c2, c3, c4, c5, c6, rfl⟩
  obtain ⟨fuel, hf⟩ := h
  obtain ⟨y0, y1, y2, y3, n, hx, hl, h0, h1, h2, h3⟩ := trod_struct4 Try.underlying26 hf
  obtain ⟨n4, e4, _, _⟩ := DataW.trod_int Try.underlying2 h1
  obtain ⟨n5, e5, _, _⟩ := DataW.trod_int Try.underlying2 h2
  obtain ⟨n6, e6, _, _⟩ := DataW.trod_int Try.underlying2 h3
  obtain ⟨z0, z1, z2, z3, n2, hx2, hl2, q0, q1, q2, q3⟩ := trod_struct4 Try.underlying24 h0
  obtain ⟨m0, f0, _, _⟩ := DataW.trod_int Try.underlying2 q0
  obtain ⟨m1, f1, _, _⟩ := DataW.trod_int Try.underlying2 q1
  obtain ⟨m2, f2, _, _⟩ := DataW.trod_int Try.underlying2 q2
  obtain ⟨m3, f3, _, _⟩ := DataW.trod_int Try.underlying2 q3
  simp [Value.cells, k1, cells_laws_Box] at e4 e5 e6 f0 f1 f2 f3
  subst e4 e5 e6 f0 f1 f2 f3
  exact ⟨⟨⟨m0, m1, m2, m3⟩, n4, n5, n6⟩, rfl⟩

end Go.Proofs.Ytmpbcdolikafpaa

namespace Go.Proofs.Ytmpbcdolikafpaa
open Go.RowKit
set_option linter.unusedVariables false
set_option linter.unusedSimpArgs false

theorem toWriter_is (a b c d o s r : Int) (w : World) : Calls Try.prog 7 #[.agg #[.int .i64 a, .int .i64 b, .int .i64 c, .int .i64 d, .int .i64 o, .int .i64 s, .int .i64 r]] w fun e w' => e = .returned (.agg #[.int .i64 a, .int .i64 b, .int .i64 c, .int .i64 d, .int .i64 o, .int .i64 s, .int .i64 r]) ∧ Below w.heap.size w w' := toWriter_any ⟨⟨a, b, c, d⟩, o, s, r⟩ w

end Go.Proofs.Ytmpbcdolikafpaa

namespace Go.Proofs.Ytmpbcdolikafpaa
open Go.ChangeShapes Go.WideShapes Go.ChangeAt Go.RowKit Go.Joins Go.Deep
set_option linter.unusedVariables false
set_option linter.unusedSimpArgs false

set_option maxRecDepth 100000 in
theorem shot_cells {H : Type} {enc : TypeId × Value → H} {W : World} {fuel : Nat} {cs : List Value} {x : DataW H × List MemPlace} (h : DataW.trod enc Try.prog W 0 (fun _ => true) true fuel 52 cs = some x) : ∃ a : Sh, cs = shC a ∧ True := by
  obtain ⟨y0, y1, n, hx, hl, h0, h1⟩ := trod_struct2 Try.underlying52 h
  have k6 : Try.prog.cellsOf 52 = 5 := by kernel_rfl
  have k1 : Try.prog.cellsOf 2 = 1 := by kernel_rfl
  rw [k6] at hl
  obtain ⟨c0, c1, c2, c3, c4, rfl⟩ : ∃ c0 c1 c2 c3 c4, cs = [c0, c1, c2, c3, c4] := by
    match cs, hl with
    | [c0, c1, c2, c3, c4], _ => exact ⟨c0, c1, c2, c3, c4, rfl⟩
  obtain ⟨n4, e4, _, _⟩ := DataW.trod_int Try.underlying2 h1
  obtain ⟨z0, z1, z2, z3, n2, hx2, hl2, q0, q1, q2, q3⟩ := trod_struct4 Try.underlying24 h0
  obtain ⟨m0, f0, _, _⟩ := DataW.trod_int Try.underlying2 q0
  obtain ⟨m1, f1, _, _⟩ := DataW.trod_int Try.underlying2 q1
  obtain ⟨m2, f2, _, _⟩ := DataW.trod_int Try.underlying2 q2
  obtain ⟨m3, f3, _, _⟩ := DataW.trod_int Try.underlying2 q3
  simp [k1, cells_laws_Box] at e4 f0 f1 f2 f3
  subst e4 f0 f1 f2 f3
  exact ⟨⟨⟨m0, m1, m2, m3⟩, n4⟩, rfl, trivial⟩

set_option maxRecDepth 100000 in
/-- A list of shots that came in. -/
theorem shots_open {H : Type} {enc : TypeId × Value → H} {W : World} {base : Nat} {v : Value} {d : DataW H} {p : List MemPlace}
    (hv : Value.okWide Try.prog W .any base 22 v) (h : DataW.Trod enc Try.prog W 0 (fun _ => true) true 22 v d p) :
    ∃ (a : Option Addr) (n c : Nat) (s : List Sh), v = .slice a n c ∧ RG 5 shC W (.slice a n c) s ∧ s.length ≤ maxLen := by
  obtain ⟨a0, len0, cap0, rfl⟩ := okWide_slice Try.underlying22 hv
  obtain ⟨fuel, hf⟩ := h
  have : Nonempty Sh := ⟨⟨⟨0, 0, 0, 0⟩, 0⟩⟩
  obtain ⟨a, n, c, s, k, h1, h2, _⟩ := rg_of_trod (Q := fun _ => True) Try.underlying22 (show Try.prog.cellsOf 52 = 5 by kernel_rfl) (by omega) shC_len (fun _ _ _ h => shot_cells h) hf
  simp [Value.cells] at k
  obtain ⟨rfl, rfl, rfl⟩ := k
  exact ⟨_, _, _, s, rfl, h1, h2⟩

end Go.Proofs.Ytmpbcdolikafpaa

namespace Go.Proofs.Ytmpbcdolikafpaa
open Go.RowKit Go.Sort
set_option linter.unusedVariables false
set_option linter.unusedSimpArgs false

theorem put_block (w : World) (m g : Nat) (F : Array Value) (os : Array Obj) (k : Nat) (hk : k < w.heap.size) : (grow (putRow id (Sort.ahead w m) g 0 F) os).heap[k]? = if g = k then (w.heap[k]?).map (onCells (putCells id 0 F)) else w.heap[k]? := by
  show (((w.heap.modify g (onCells (putCells id 0 F)))) ++ os)[k]? = _
  rw [Array.getElem?_append_left (by simpa using hk), Array.getElem?_modify]

theorem put_below (w : World) (m g B : Nat) (F : Array Value) (os : Array Obj) (hB : B ≤ g) (hg : g < w.heap.size) : Below B w (grow (putRow id (Sort.ahead w m) g 0 F) os) := by
  refine ⟨rfl, rfl, rfl, ?_, fun k hk => ?_⟩
  · show w.heap.size ≤ ((w.heap.modify g (onCells (putCells id 0 F))) ++ os).size
    simp
  · rw [put_block w m g F os k (by omega), if_neg (by omega)]

theorem put_owns {w : World} {B T k g n cap : Nat} {cs : List Value} (h : w.ownsRow B T k (.slice (some ⟨g, 0, none⟩) n cap) n cs) (cs' : List Value) (hl : cs'.length = n * k) (m : Nat) (os : Array Obj) :
    (grow (putRow id (Sort.ahead w m) g 0 cs'.toArray) os).ownsRow B T k (.slice (some ⟨g, 0, none⟩) n cap) n cs' := by
  have hlt := (World.ownsRow.lt h g rfl).2
  refine ⟨hl, Or.inr ?_⟩
  rcases h.2 with ⟨e, _⟩ | ⟨g', cap', cur, e, hB, hg, hn, hm, hs, ht⟩
  · cases e
  · simp only [Value.slice.injEq, Option.some.injEq, Addr.mk.injEq, and_true, true_and] at e
    obtain ⟨rfl, rfl⟩ := e
    refine ⟨g, cap, putCells id 0 cs'.toArray cur, rfl, hB, ?_, hn, hm, by simpa [putCells] using hs, ?_⟩
    · rw [put_block w m g _ os g hlt, if_pos rfl, hg]
      rfl
    · apply List.ext_getElem?
      intro t
      rw [List.getElem?_take]
      have hnk : n * k ≤ cap * k := Nat.mul_le_mul_right _ hn
      rcases Nat.lt_or_ge t (n * k) with h1 | h1
      · rw [if_pos h1, Array.getElem?_toList]
        unfold putCells
        rw [Array.getElem?_mapIdx]
        have hc : t < cur.size := by omega
        rw [Array.getElem?_eq_getElem hc]
        have h2 : t < cs'.length := by omega
        simp [h1, h2, hl, List.getElem?_eq_getElem h2]
      · rw [if_neg (by omega), List.getElem?_eq_none (by omega)]

theorem owns_holds {w : World} {B T k g n cap : Nat} {cs : List Value} (h : w.ownsRow B T k (.slice (some ⟨g, 0, none⟩) n cap) n cs) : Holds id w g 0 cs.toArray := by
  intro j hj
  have hj' : j < cs.length := by simpa using hj
  rw [Nat.zero_add]
  refine ⟨?_, World.ownsRow.frozenAt h j⟩
  rw [World.ownsRow.cellAt h j (by have := h.1; omega)]
  simp [hj']

end Go.Proofs.Ytmpbcdolikafpaa
