/- Proved here: answers with a code, a section and a book, in the laws. -/
import Derived.Test.YtceljakmjddgbabFsH
import Derived.Test.YtceljakmjddgbabFsE
import Derived.Test.YtceljakmjddgbabMkI
namespace Go.Proofs.Ytceljakmjddgbab
open Go.ChangeShapes Go.WideShapes Go.ChangeAt Go.RowKit Go.Joins Go.Deep
set_option linter.unusedVariables false
set_option linter.unusedSimpArgs false

/-- A section and a book of the call's own. -/
def RoE (V : World) (B : Nat) (v1 v2 : Value) (L : List (List Flm)) (ES : List Int) (vs : List Value) : Prop := RoF V B v1 L vs ∧ V.ownsRow B 2 1 v2 ES.length (ES.map (Value.int .i64))
def BkE (v1 v2 : Value) (vs : List Value) (n q : Nat) : Prop := v1.ownBlock = some q ∨ (∃ i, i < n ∧ (rat vs i).ownBlock = some q) ∨ v2.ownBlock = some q
theorem RoE.blk {V : World} {B : Nat} {v1 v2 : Value} {L : List (List Flm)} {ES : List Int} {vs : List Value} (h : RoE V B v1 v2 L ES vs) {q : Nat} (hq : BkE v1 v2 vs L.length q) : B ≤ q ∧ q < V.heap.size := by
  rcases hq with hq | ⟨i, hi, hq⟩ | hq
  · exact ⟨(rowBlk h.1.o hq).1, (rowBlk h.1.o hq).2.1⟩
  · exact ⟨(rowBlk (h.1.bx i hi) hq).1, (rowBlk (h.1.bx i hi) hq).2.1⟩
  · exact World.ownsRow.lt h.2 q hq
theorem RoE.keep {V V' : World} {B : Nat} {v1 v2 : Value} {L : List (List Flm)} {ES : List Int} {vs : List Value} (h : RoE V B v1 v2 L ES vs) (hk : ∀ q, BkE v1 v2 vs L.length q → V'.heap[q]? = V.heap[q]?) : RoE V' B v1 v2 L ES vs :=
  ⟨h.1.kept (fun q hq => hk q (Or.inl hq)) fun i hi q hq => hk q (Or.inr (Or.inl ⟨i, hi, hq⟩)), rowKept h.2 fun q hq => hk q (Or.inr (Or.inr hq))⟩
theorem RoE.low {V : World} {A B : Nat} {v1 v2 : Value} {L : List (List Flm)} {ES : List Int} {vs : List Value} (h : RoE V B v1 v2 L ES vs) (hab : A ≤ B) : RoE V A v1 v2 L ES vs := ⟨h.1.low hab, rowLow h.2 hab⟩
theorem RoE.form1 {V : World} {B : Nat} {v1 v2 : Value} {L : List (List Flm)} {ES : List Int} {vs : List Value} (h : RoE V B v1 v2 L ES vs) : ∃ a c, v1 = .slice a L.length c := h.1.form
theorem own_formE {V : World} {B n : Nat} {v : Value} {xs : List Value} (h : V.ownsRow B 2 1 v n xs) : ∃ a c, v = .slice a n c := by
  rcases h.2 with ⟨rfl, h0⟩ | ⟨g, cap, cur, rfl, _⟩
  · exact ⟨none, 0, by rw [h0]⟩
  · exact ⟨_, _, rfl⟩
theorem RoE.form2 {V : World} {B : Nat} {v1 v2 : Value} {L : List (List Flm)} {ES : List Int} {vs : List Value} (h : RoE V B v1 v2 L ES vs) : ∃ a c, v2 = .slice a ES.length c := own_formE h.2
def RsE (V : World) (v1 v2 : Value) (L : List (List Flm)) (ES : List Int) : Prop := RsF V v1 L ∧ RdI V v2 ES
theorem RoE.rd {V : World} {B : Nat} {v1 v2 : Value} {L : List (List Flm)} {ES : List Int} {vs : List Value} (h : RoE V B v1 v2 L ES vs) : RsE V v1 v2 L ES := ⟨h.1.rd, IS.rg (B := B) h.2⟩
def LtE (v1 v2 : Value) (vs : List Value) (n Z : Nat) : Prop := ∀ q, BkE v1 v2 vs n q → q < Z
theorem RoE.lt {V : World} {B : Nat} {v1 v2 : Value} {L : List (List Flm)} {ES : List Int} {vs : List Value} (h : RoE V B v1 v2 L ES vs) : LtE v1 v2 vs L.length V.heap.size := fun q hq => (h.blk hq).2
theorem Ow.rE {V : World} {B hi : Nat} {v1 v2 : Value} {L : List (List Flm)} {ES : List Int} {vs : List Value} (h : RoE V B v1 v2 L ES vs) (h1 : B ≤ hi) (h2 : hi ≤ V.heap.size) (hh : LtE v1 v2 vs L.length hi) : Ow B hi (fun V => RoE V B v1 v2 L ES vs) V :=
  ⟨h, fun V' hq => h.keep fun q hb => hq q (h.blk hb).1 (hh q hb), ⟨h1, h2⟩⟩
theorem Ow.rAllE {V V0 : World} {v1 v2 : Value} {L : List (List Flm)} {ES : List Int} {vs : List Value} (h : RoE V V0.heap.size v1 v2 L ES vs) (hb : Below V0.heap.size V0 V) : Ow V0.heap.size V.heap.size (fun V => RoE V V0.heap.size v1 v2 L ES vs) V :=
  Ow.rE h hb.size (Nat.le_refl _) h.lt
/-- .. marked. -/
def MkE (V : World) (B : Nat) (v1 v2 : Value) (L : List (List Flm)) (n : Nat) (vs : List Value) : Prop := RoF V B v1 (mkGF 1 L L.length) vs ∧ V.ownsRow B 2 1 v2 n (mkV (1 + 2 * (totF L L.length : Int)) n)
theorem Ow.mE {V : World} {B hi n : Nat} {v1 v2 : Value} {L : List (List Flm)} {vs : List Value} (h : MkE V B v1 v2 L n vs) (h1 : B ≤ hi) (h2 : hi ≤ V.heap.size) (hh : LtE v1 v2 vs L.length hi) : Ow B hi (fun V => MkE V B v1 v2 L n vs) V := by
  refine ⟨h, fun V' hq => ⟨h.1.kept (fun q hb => hq q (rowBlk h.1.o hb).1 (hh q (Or.inl hb))) fun i hi' q hb => hq q (rowBlk (h.1.bx i hi') hb).1 (hh q (Or.inr (Or.inl ⟨i, by rw [mkGF_len] at hi'; exact hi', hb⟩))), rowKept h.2 fun q hb => hq q (World.ownsRow.lt h.2 q hb).1 (hh q (Or.inr (Or.inr hb)))⟩, ⟨h1, h2⟩⟩
theorem three_E {w : World} {k : Nat} {a b c : Value} {T : TypeId} (h : w.heap[k]? = some (.cells #[a, b, c] T)) :
    w.cell? ⟨k, 0, none⟩ = some a ∧ w.cell? ⟨k, 1, none⟩ = some b ∧ w.cell? ⟨k, 2, none⟩ = some c ∧ k < w.heap.size :=
  ⟨cellOf h 0 rfl, cellOf h 1 rfl, cellOf h 2 rfl, ltOf h⟩

set_option maxHeartbeats 3200000 in
theorem eqEtchResult_to (C : Int) {ls : List (List Flm)} {es : List Int} {v1 v2 u1 u2 : Value} {w : World} (hn : SmF ls ∧ es.length ≤ 1048576) (h1 : RsE w v1 u1 ls es) (h2 : RsE w v2 u2 ls es) :
    Calls Try.prog 14 #[.agg #[.int .i64 C, v1, u1], .agg #[.int .i64 C, v2, u2]] w fun e w' => e = .returned (.bool true) ∧ Below w.heap.size w w' := by
  obtain ⟨a1, c1, e1⟩ := h1.1.form
  obtain ⟨a2, c2, e2⟩ := h2.1.form
  obtain ⟨b1, d1, e3⟩ := h1.2.form
  obtain ⟨b2, d2, e4⟩ := h2.2.form
  obtain ⟨m, hm⟩ : ∃ m, m = ls.length := ⟨_, rfl⟩
  obtain ⟨k, hk⟩ : ∃ m, m = es.length := ⟨_, rfl⟩
  rw [← hm] at e1 e2
  rw [← hk] at e3 e4
  subst e1 e2 e3 e4
  have H : Hid (RsE w (.slice a1 m c1) (.slice b1 k d1) ls es ∧ RsE w (.slice a2 m c2) (.slice b2 k d2) ls es ∧ SmF ls ∧ es.length ≤ 1099511627776) := ⟨h1, h2, hn.1, by omega⟩
  clear h1 h2 hm hn hk
  obtain ⟨U, hU⟩ : ∃ U, U = (w.alloc (.cells #[.int .i64 C, .slice a1 m c1, .slice b1 k d1] 32)).alloc (.cells #[.int .i64 C, .slice a2 m c2, .slice b2 k d2] 32) := ⟨_, rfl⟩
  have hbU : Below w.heap.size w U := by rw [hU]; (repeat' (first | (with_reducible exact Below.refl _ _) | (with_reducible assumption) | (with_reducible refine Below.setCell ?_ ?_ _) | (with_reducible refine Below.alloc ?_ ?_ _) | (with_reducible refine below_drewN ?_ _) | (with_reducible refine Below.drew ?_) | (with_reducible exact Nat.le_refl _) | omega | (simp; done) | (simp; omega)))
  have k0 : U.heap[w.heap.size]? = some (.cells #[.int .i64 C, .slice a1 m c1, .slice b1 k d1] 32) := by rw [hU]; exact (Below.heap_alloc _ _ _ (by simp)).trans (heap_alloc_new w _)
  have k1 : U.heap[w.heap.size + 1]? = some (.cells #[.int .i64 C, .slice a2 m c2, .slice b2 k d2] 32) := by rw [hU]; have := heap_alloc_new (w.alloc (.cells #[.int .i64 C, .slice a1 m c1, .slice b1 k d1] 32)) (.cells #[.int .i64 C, .slice a2 m c2, .slice b2 k d2] 32); simpa using this
  have HU : Hid (Below w.heap.size w U ∧ U.heap[w.heap.size]? = some (.cells #[.int .i64 C, .slice a1 m c1, .slice b1 k d1] 32) ∧ U.heap[w.heap.size + 1]? = some (.cells #[.int .i64 C, .slice a2 m c2, .slice b2 k d2] 32)) := ⟨hbU, k0, k1⟩
  clear hbU k0 k1
  go_enter Try.func14, Try.ntmps14
  go_wp2_with (fail)
  rw [← hU]
  clear hU
  refine (eqSection_same H.out.2.2.1 (H.out.1.1.below HU.out.1) (H.out.2.1.1.below HU.out.1)).mono ?_
  rintro e w1 ⟨rfl, hb1⟩
  have H1 : Hid (Below w.heap.size w w1) := HU.out.1.trans (hb1.mono HU.out.1.size)
  obtain ⟨p0, p1, p2, pl⟩ := three_E ((hb1.block _ (ltOf HU.out.2.1)).trans HU.out.2.1)
  obtain ⟨q0, q1, q2, ql⟩ := three_E ((hb1.block _ (ltOf HU.out.2.2)).trans HU.out.2.2)
  clear hb1 HU
  go_wp2_with (fail)
  refine (eqInt64S_same H.out.2.2.2 (H.out.1.2.below H1.out) (H.out.2.1.2.below H1.out)).mono ?_
  rintro e w2 ⟨rfl, hb2⟩
  have H2 : Hid (Below w.heap.size w w2) := H1.out.trans (hb2.mono H1.out.size)
  clear hb2 H1 p0 p1 p2 pl q0 q1 q2 ql
  go_wp2
  go_returns
  exact ⟨rfl, H2.out⟩

set_option maxHeartbeats 1600000 in
theorem markSection_on {w : World} {B : Nat} {v : Value} {ls : List (List Flm)} {vs : List Value} (z : Int) (hn : SmF ls) (hz0 : 0 ≤ z) (hz1 : z ≤ 1000000000) (h : RoF w B v ls vs) :
    Calls Try.prog 18 #[.agg #[v], .int .i64 z] w fun e w' => e = .returned (.int .i64 (z + 2 * (totF ls ls.length : Int))) ∧ RoF w' B v (mkGF z ls ls.length) vs ∧ (w'.os = w.os ∧ w'.tape = w.tape ∧ w'.output = w.output ∧ w.heap.size ≤ w'.heap.size) ∧ ∀ q, q < w.heap.size → (∀ i, i < ls.length → (rat vs i).ownBlock ≠ some q) → w'.heap[q]? = w.heap[q]? := by
  obtain ⟨a, c, e1⟩ := h.form
  obtain ⟨m, hm⟩ : ∃ m, m = ls.length := ⟨_, rfl⟩
  rw [← hm] at e1
  subst e1
  have H : Hid (RoF w B (.slice a m c) ls vs ∧ SmF ls) := ⟨h, hn⟩
  clear h hm hn
  go_enter Try.func18, Try.ntmps18
  go_wp2_with (fail)
  refine (markRows_onF z H.out.2 hz0 hz1 (H.out.1.below (by (repeat' (first | (with_reducible exact Below.refl _ _) | (with_reducible assumption) | (with_reducible refine Below.setCell ?_ ?_ _) | (with_reducible refine Below.alloc ?_ ?_ _) | (with_reducible refine below_drewN ?_ _) | (with_reducible refine Below.drew ?_) | (with_reducible exact Nat.le_refl _) | omega | (simp; done) | (simp; omega)))))).mono ?_
  rintro e w1 ⟨rfl, hm1, hon⟩
  have HM : Hid (RoF w1 B (.slice a m c) (mkGF z ls ls.length) vs ∧ (w1.os = w.os ∧ w1.tape = w.tape ∧ w1.output = w.output ∧ w.heap.size ≤ w1.heap.size) ∧ ∀ q, q < w.heap.size → (∀ i, i < ls.length → (rat vs i).ownBlock ≠ some q) → w1.heap[q]? = w.heap[q]?) := by
    refine ⟨hm1, ⟨hon.os, hon.tape, hon.output, by rw [hon.size]; simp⟩, fun q hq hi => ?_⟩
    rw [hon.block q hi]
    exact Below.heap_alloc _ _ _ hq
  clear hm1 hon
  go_wp2
  go_returns
  exact ⟨rfl, HM.out.1, HM.out.2.1, HM.out.2.2⟩

set_option maxHeartbeats 3200000 in
theorem markEtchResult_to (C : Int) {w : World} {B Z : Nat} {v1 v2 : Value} {ls : List (List Flm)} {es : List Int} {vs : List Value} (hn : SmF ls ∧ es.length ≤ 1048576) (h : RoE w B v1 v2 ls es vs) (hZ : LtE v1 v2 vs ls.length Z) :
    Calls Try.prog 21 #[.agg #[.int .i64 C, v1, v2], .int .i64 1] w fun e w' => e = .returned (.int .i64 (1 + 2 * (totF ls ls.length : Int) + (es.length : Int))) ∧ MkE w' B v1 v2 ls es.length vs ∧ Chg B Z w w' := by
  obtain ⟨a, c, e1⟩ := h.form1
  obtain ⟨b, d, e2⟩ := h.form2
  obtain ⟨m, hm⟩ : ∃ m, m = ls.length := ⟨_, rfl⟩
  obtain ⟨k, hk⟩ : ∃ m, m = es.length := ⟨_, rfl⟩
  rw [← hm] at e1
  rw [← hk] at e2
  subst e1 e2
  obtain ⟨T1, hT1⟩ : ∃ T, T = 1 + 2 * (totF ls ls.length : Int) := ⟨_, rfl⟩
  obtain ⟨T2, hT2⟩ : ∃ T, T = T1 + (es.length : Int) := ⟨_, rfl⟩
  rw [← hT1, ← hT2]
  have hb1 : 0 ≤ T1 ∧ T1 ≤ 1000000000000 := by have := hn.1.tot; omega
  have H : Hid (RoE w B (.slice a m c) (.slice b k d) ls es vs ∧ LtE (.slice a m c) (.slice b k d) vs ls.length Z ∧ SmF ls ∧ es.length ≤ 1048576 ∧ T1 = 1 + 2 * (totF ls ls.length : Int) ∧ T2 = T1 + (es.length : Int) ∧ k = es.length) := ⟨h, hZ, hn.1, hn.2, hT1, hT2, hk⟩
  clear h hZ hn hT1 hT2 hm hk
  obtain ⟨U, hU⟩ : ∃ U, U = w.alloc (.cells #[.int .i64 C, .slice a m c, .slice b k d] 32) := ⟨_, rfl⟩
  have HU : Hid (Below w.heap.size w U ∧ U.heap[w.heap.size]? = some (.cells #[.int .i64 C, .slice a m c, .slice b k d] 32) ∧ RoE U B (.slice a m c) (.slice b k d) ls es vs) := by
    have hb : Below w.heap.size w U := by rw [hU]; (repeat' (first | (with_reducible exact Below.refl _ _) | (with_reducible assumption) | (with_reducible refine Below.setCell ?_ ?_ _) | (with_reducible refine Below.alloc ?_ ?_ _) | (with_reducible refine below_drewN ?_ _) | (with_reducible refine Below.drew ?_) | (with_reducible exact Nat.le_refl _) | omega | (simp; done) | (simp; omega)))
    exact ⟨hb, by rw [hU]; exact heap_alloc_new w _, H.out.1.keep fun q hq => hb.block q (H.out.1.blk hq).2⟩
  go_enter Try.func21, Try.ntmps21
  go_wp2_with (fail)
  rw [← hU]
  clear hU
  refine (markSection_on 1 H.out.2.2.1 (by omega) (by omega) HU.out.2.2.1).mono ?_
  rintro e w1 ⟨rfl, hm1, hw, hoth⟩
  rw [← H.out.2.2.2.2.1]
  have k1 : w1.heap[w.heap.size]? = some (.cells #[.int .i64 C, .slice a m c, .slice b k d] 32) := (hoth _ (ltOf HU.out.2.1) fun i hi e => by
    have := (H.out.1.blk (Or.inr (Or.inl ⟨i, hi, e⟩))).2; omega).trans HU.out.2.1
  have hi1 : w1.ownsRow B 2 1 (.slice b k d) es.length (es.map (Value.int .i64)) := rowKept HU.out.2.2.2 fun q hq => hoth q (World.ownsRow.lt HU.out.2.2.2 q hq).2 fun i hi e => by
    obtain ⟨_, _, ds, hd⟩ := rowBlk (HU.out.2.2.1.bx i hi) e
    obtain ⟨_, _, cs, hc⟩ := rowBlk HU.out.2.2.2 hq
    exact kindsR hc hd (by decide)
  have hch : Chg B Z w w1 := (Chg.of_below HU.out.1).trans ⟨hw.1, hw.2.1, hw.2.2.1, hw.2.2.2, fun q hq hb => hoth q hq fun i hi e => by
    have h8 := H.out.1.blk (Or.inr (Or.inl ⟨i, hi, e⟩))
    have h9 := H.out.2.1 q (Or.inr (Or.inl ⟨i, hi, e⟩))
    omega⟩
  have HB : Hid (RoF w1 B (.slice a m c) (mkGF 1 ls ls.length) vs ∧ w1.ownsRow B 2 1 (.slice b k d) es.length (es.map (Value.int .i64)) ∧ Chg B Z w w1) := ⟨hm1, hi1, hch⟩
  obtain ⟨p0, p1, p2, pl⟩ := three_E k1
  clear hm1 hw hoth k1 hi1 hch HU
  go_wp2_with (fail)
  have hmk : Calls Try.prog 19 #[.slice b k d, .int .i64 T1] w1 fun e w' => e = .returned (.int .i64 T2) ∧ MkE w' B (.slice a m c) (.slice b k d) ls es.length vs ∧ Chg B Z w w' := by
    have h0 := HB.out.2.1
    have hk0 := H.out.2.2.2.2.2.2
    rcases h0.2 with ⟨e0, e9⟩ | ⟨g, cap, cur, e0, hBg, hgg, _⟩
    · injection e0 with e1 e2 e3
      subst e1 e2 e3
      refine (markInt64S_zero none 0 T1 w1).mono ?_
      rintro e w' ⟨rfl, rfl⟩
      refine ⟨by rw [H.out.2.2.2.2.2.1, e9]; simp, ⟨HB.out.1, ?_⟩, HB.out.2.2⟩
      rw [e9] at h0 ⊢
      have e8 : es.map (Value.int .i64) = [] := List.length_eq_zero_iff.1 (by rw [List.length_map]; exact e9)
      rw [e8] at h0
      simpa [mkV] using h0
    · injection e0 with e1 e2 e3
      subst e1 e2 e3
      refine (markInt64S_pos g d es.length B _ T1 w1 H.out.2.2.2.1 hb1.1 hb1.2 h0).mono ?_
      rintro e w' ⟨rfl, h1, h2⟩
      have hne : ∀ q, (Value.slice a m c).ownBlock = some q ∨ (∃ i, i < ls.length ∧ (rat vs i).ownBlock = some q) → q ≠ g := by
        intro q hq e
        subst e
        rcases hq with hq | ⟨i, hi, hq⟩
        · obtain ⟨_, _, ds, hd⟩ := rowBlk HB.out.1.o hq
          exact kindsR hgg hd (by decide)
        · obtain ⟨_, _, ds, hd⟩ := rowBlk (HB.out.1.bx i (by rw [mkGF_len]; exact hi)) hq
          exact kindsR hgg hd (by decide)
      refine ⟨by rw [H.out.2.2.2.2.2.1], ⟨HB.out.1.kept (fun q hq => h2.block q (hne q (Or.inl hq))) fun i hi q hq => h2.block q (hne q (Or.inr ⟨i, by rw [mkGF_len] at hi; exact hi, hq⟩)), by rw [← H.out.2.2.2.2.1]; exact h1⟩, HB.out.2.2.trans (Chg.only h2 hBg (H.out.2.1 g (Or.inr (Or.inr rfl))))⟩
  refine hmk.mono ?_
  rintro e w2 ⟨rfl, hA, hC⟩
  have HC : Hid (MkE w2 B (.slice a m c) (.slice b k d) ls es.length vs ∧ Chg B Z w w2) := ⟨hA, hC⟩
  clear hA hC hmk HB p0 p1 p2 pl
  go_wp2
  go_returns
  exact ⟨rfl, HC.out.1, HC.out.2⟩

set_option maxHeartbeats 3200000 in
theorem heldEtchResult_to (C : Int) {w : World} {B n : Nat} {v1 v2 : Value} {ls : List (List Flm)} {vs : List Value} (hn : SmF ls ∧ n ≤ 1048576) (h : MkE w B v1 v2 ls n vs) :
    Calls Try.prog 22 #[.agg #[.int .i64 C, v1, v2], .int .i64 1] w fun e w' => e = .returned (.int .i64 (1 + 2 * (totF ls ls.length : Int) + (n : Int))) ∧ Below w.heap.size w w' := by
  obtain ⟨a, c, e1⟩ := h.1.form
  obtain ⟨b, d, e2⟩ := own_formE h.2
  obtain ⟨m, hm⟩ : ∃ m, m = (mkGF 1 ls ls.length).length := ⟨_, rfl⟩
  rw [← hm] at e1
  subst e1 e2
  obtain ⟨T1, hT1⟩ : ∃ T, T = 1 + 2 * (totF ls ls.length : Int) := ⟨_, rfl⟩
  obtain ⟨T2, hT2⟩ : ∃ T, T = T1 + (n : Int) := ⟨_, rfl⟩
  rw [← hT1, ← hT2]
  have hb1 : 0 ≤ T1 ∧ T1 ≤ 1000000000000 := by have := hn.1.tot; omega
  have hb2 : ¬ T1 < 0 := by omega
  have hb3 : ¬ T2 < 0 := by omega
  have HS : Hid (∀ W : World, Below w.heap.size w W → Calls Try.prog 51 #[.agg #[.slice a m c], .int .i64 1] W fun e w' => e = .returned (.int .i64 T1) ∧ Below W.heap.size W w') := fun W hW => by rw [hT1]; exact heldSection_to 1 hn.1 (by omega) (by omega) (h.1.below hW)
  have HI : Hid (∀ W : World, Below w.heap.size w W → Calls Try.prog 52 #[.slice b n d, .int .i64 T1] W fun e w' => e = .returned (.int .i64 T2) ∧ w' = W) := fun W hW => by
    rw [hT2]; exact heldInt64S_to T1 hn.2 hb1.1 hb1.2 (by rw [hT1]; exact rowKept h.2 fun q hq => hW.block q (World.ownsRow.lt h.2 q hq).2)
  clear h hm hn hT1 hT2
  obtain ⟨U, hU⟩ : ∃ U, U = w.alloc (.cells #[.int .i64 C, .slice a m c, .slice b n d] 32) := ⟨_, rfl⟩
  have HU : Hid (Below w.heap.size w U ∧ U.heap[w.heap.size]? = some (.cells #[.int .i64 C, .slice a m c, .slice b n d] 32)) := ⟨by rw [hU]; (repeat' (first | (with_reducible exact Below.refl _ _) | (with_reducible assumption) | (with_reducible refine Below.setCell ?_ ?_ _) | (with_reducible refine Below.alloc ?_ ?_ _) | (with_reducible refine below_drewN ?_ _) | (with_reducible refine Below.drew ?_) | (with_reducible exact Nat.le_refl _) | omega | (simp; done) | (simp; omega))), by rw [hU]; exact heap_alloc_new w _⟩
  go_enter Try.func22, Try.ntmps22
  go_wp2_with (fail)
  rw [← hU]
  clear hU
  refine (HS.out _ HU.out.1).mono ?_
  rintro e w1 ⟨rfl, hb4⟩
  have H1 : Hid (Below w.heap.size w w1) := HU.out.1.trans (hb4.mono HU.out.1.size)
  obtain ⟨p0, p1, p2, pl⟩ := three_E ((hb4.block _ (ltOf HU.out.2)).trans HU.out.2)
  clear hb4 HU
  go_wp2_with (fail)
  refine (HI.out _ H1.out).mono ?_
  rintro e w2 ⟨rfl, rfl⟩
  go_wp2
  go_returns
  exact ⟨rfl, H1.out⟩

end Go.Proofs.Ytceljakmjddgbab
