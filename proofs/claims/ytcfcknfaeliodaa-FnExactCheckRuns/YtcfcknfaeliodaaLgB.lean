/- Proved here: logs of tools: how the laws' package weighs, copies and compares them; how one that came in is read. -/
import Derived.Test.YtcfcknfaeliodaaTlB
import Derived.Test.YtcfcknfaeliodaaNlI
import Derived.Test.YtcfcknfaeliodaaNlW
import Derived.Test.YtcfcknfaeliodaaNlQ
import Derived.Test.YtcfcknfaeliodaaLwS
import Derived.ChangeMaps5
namespace Go.Proofs.Ytcfcknfaeliodaa
open Go.ChangeShapes Go.WideShapes Go.ChangeAt Go.RowKit Go.Joins
set_option linter.unusedVariables false
set_option linter.unusedSimpArgs false

structure RdG (w : World) (va vb vc : Value) (s : List Ap) (cs : List Int) (rs : List Ap) : Prop where
  ap : RG 2 apC w va s
  ci : RdI w vb cs
  ru : RG 2 apC w vc rs
theorem RdG.below {w w' : World} {va vb vc : Value} {s : List Ap} {cs : List Int} {rs : List Ap} (h : RdG w va vb vc s cs rs) (hb : Below w.heap.size w w') : RdG w' va vb vc s cs rs := ⟨h.ap.below hb, RG.below h.ci hb, h.ru.below hb⟩
def OwG (w : World) (B : Nat) (va vb vc : Value) (s : List Ap) (cs : List Int) (rs : List Ap) : Prop := w.ownsRow B 72 2 va s.length (s.flatMap apC) ∧ w.ownsRow B 2 1 vb cs.length (cs.map (Value.int .i64)) ∧ w.ownsRow B 72 2 vc rs.length (rs.flatMap apC)
theorem OwG.rd {w : World} {B : Nat} {va vb vc : Value} {s : List Ap} {cs : List Int} {rs : List Ap} (h : OwG w B va vb vc s cs rs) : RdG w va vb vc s cs rs :=
  ⟨OG.rg (T := 72) (B := B) apC_len h.1, IS.rg (B := B) h.2.1, OG.rg (T := 72) (B := B) apC_len h.2.2⟩
theorem Ow.rowG {V V0 : World} {va vb vc : Value} {s : List Ap} {cs : List Int} {rs : List Ap} (h : OwG V V0.heap.size va vb vc s cs rs) (hb : Below V0.heap.size V0 V) : Ow V0.heap.size V.heap.size (fun V => OwG V V0.heap.size va vb vc s cs rs) V :=
  Ow.and (Ow.rowAll h.1 hb) (Ow.and (Ow.rowAll h.2.1 hb) (Ow.rowAll h.2.2 hb))
theorem lg_ten {w : World} {k : Nat} {a b c d e f g h i j : Value} {T : TypeId} (H : w.heap[k]? = some (.cells #[a, b, c, d, e, f, g, h, i, j] T)) :
    w.cell? ⟨k, 0, none⟩ = some a ∧ w.cell? ⟨k, 1, none⟩ = some b ∧ w.cell? ⟨k, 2, none⟩ = some c ∧ w.cell? ⟨k, 3, none⟩ = some d ∧ w.cell? ⟨k, 4, none⟩ = some e ∧ w.cell? ⟨k, 5, none⟩ = some f ∧ w.cell? ⟨k, 6, none⟩ = some g ∧ w.cell? ⟨k, 7, none⟩ = some h ∧ w.cell? ⟨k, 8, none⟩ = some i ∧ w.cell? ⟨k, 9, none⟩ = some j ∧ (∀ i, w.frozen? ⟨k, i, none⟩ = false) ∧ k < w.heap.size :=
  ⟨cellOf H 0 rfl, cellOf H 1 rfl, cellOf H 2 rfl, cellOf H 3 rfl, cellOf H 4 rfl, cellOf H 5 rfl, cellOf H 6 rfl, cellOf H 7 rfl, cellOf H 8 rfl, cellOf H 9 rfl, frozOf H, ltOf H⟩
/-- What a log weighs. -/
structure smLg (m : Int) (R : ByteArray) (s : List Ap) (cs : List Int) (rs : List Ap) : Prop where
  tl : smTl m R s
  ci : (cs.length : Int) ≤ m
  ru : (rs.length : Int) ≤ m
structure okLg (R : ByteArray) (s : List Ap) (cs : List Int) (rs : List Ap) : Prop where
  tl : okTl R s
  ci : cs.length ≤ maxLen
  ru : rs.length ≤ maxLen
  rp : ∀ j (h : j < rs.length), okAp rs[j]

set_option maxHeartbeats 3200000 in
theorem szToolLog_gen (C A : Int) (R : ByteArray) (S U L : Int) (Q : Bool) (a : Option Addr) (n c : Nat) (b : Option Addr) (m d : Nat) (f : Option Addr) (k h : Nat) (l : Int) (s : List Ap) (cs : List Int) (rs : List Ap) (w : World) (h0 : 0 ≤ l) (h1 : l ≤ 1048576) (hc : okLg R s cs rs) (hr : RdG w (.slice a n c) (.slice b m d) (.slice f k h) s cs rs) :
    Calls Try.prog 18 #[.agg #[.int .i64 C, .int .i64 A, .string R, .int .i64 S, .int .i64 U, .int .i64 L, .bool Q, .slice a n c, .slice b m d, .slice f k h], .int .i64 l] w fun e w' => ∃ q, e = .returned (.int .i64 q) ∧ (q < 0 ∨ (0 ≤ q ∧ q ≤ l ∧ smLg l R s cs rs)) ∧ Below w.heap.size w w' := by
  have H : Hid (RdG w (.slice a n c) (.slice b m d) (.slice f k h) s cs rs ∧ okLg R s cs rs ∧ m ≤ maxLen ∧ k ≤ maxLen ∧ m = cs.length ∧ k = rs.length) := ⟨hr, hc, by rw [hr.ci.len]; exact hc.ci, by rw [hr.ru.len]; exact hc.ru, hr.ci.len, hr.ru.len⟩
  clear hr hc
  go_enter Try.func18, Try.ntmps18
  go_wp2_with (fail)
  refine (szTool_gen A R S U L Q a n c l s _ h0 h1 H.out.2.1.tl (H.out.1.ap.below (by (repeat' (first | (with_reducible exact Below.refl _ _) | (with_reducible assumption) | (with_reducible refine Below.setCell ?_ ?_ _) | (with_reducible refine Below.alloc ?_ ?_ _) | (with_reducible refine below_drewN ?_ _) | (with_reducible refine Below.drew ?_) | (with_reducible exact Nat.le_refl _) | omega | (simp; done) | (simp; omega)))))).mono ?_
  rintro e w1 ⟨q1, rfl, hq1, hb1⟩
  have k1 := (hb1.block w.heap.size (by simp)).trans (heap_alloc_new w _)
  obtain ⟨p0, p1, p2, p3, p4, p5, p6, p7, p8, p9, pf, pl⟩ := lg_ten k1
  have HB1 : Hid (Below w.heap.size w w1) := (show Below w.heap.size w _ from by (repeat' (first | (with_reducible exact Below.refl _ _) | (with_reducible assumption) | (with_reducible refine Below.setCell ?_ ?_ _) | (with_reducible refine Below.alloc ?_ ?_ _) | (with_reducible refine below_drewN ?_ _) | (with_reducible refine Below.drew ?_) | (with_reducible exact Nat.le_refl _) | omega | (simp; done) | (simp; omega)))).trans (hb1.mono (by simp))
  have HK1 : Hid (w1.heap[w.heap.size]? = some (.cells #[.int .i64 C, .int .i64 A, .string R, .int .i64 S, .int .i64 U, .int .i64 L, .bool Q, .slice a n c, .slice b m d, .slice f k h] 41)) := k1
  clear hb1 k1 pf
  rcases hq1 with hneg | ⟨h3, h4, h5⟩
  · go_wp2
    go_returns
    exact ⟨-1, rfl, Or.inl (by omega), HB1.out⟩
  have HT : Hid (smTl l R s) := h5
  have h6 : ¬ q1 < 0 := by omega
  clear h5
  go_wp2_with (fail)
  refine (szInt64S_gen b m d q1 _ h3 (by omega) H.out.2.2.1).mono ?_
  rintro e w2 ⟨q2, rfl, hq2, hb2⟩
  have k2 := (hb2.block w.heap.size (ltOf HK1.out)).trans HK1.out
  have HB2 : Hid (Below w.heap.size w w2) := HB1.out.trans (hb2.mono HB1.out.size)
  clear hb2 p0 p1 p2 p3 p4 p5 p6 p7 p8 p9 pl HK1
  obtain ⟨p0, p1, p2, p3, p4, p5, p6, p7, p8, p9, pf, pl⟩ := lg_ten k2
  clear k2 pf
  rcases hq2 with hneg | ⟨h7, h8, h9⟩
  · go_wp2
    go_returns
    exact ⟨-1, rfl, Or.inl (by omega), HB2.out⟩
  have h10 : ¬ q2 < 0 := by omega
  go_wp2_with (fail)
  refine (szApprovalS_gen f k h q2 rs _ h7 (by omega) H.out.2.2.2.1 (H.out.1.ru.below HB2.out) H.out.2.1.rp).mono ?_
  rintro e w3 ⟨q3, rfl, hq3, hb3⟩
  have HB3 : Hid (Below w.heap.size w w3) := HB2.out.trans (hb3.mono HB2.out.size)
  clear hb3 p0 p1 p2 p3 p4 p5 p6 p7 p8 p9 pl
  rcases hq3 with hneg | ⟨h11, h12, h13, h14⟩
  · go_wp2
    go_returns
    exact ⟨-1, rfl, Or.inl (by omega), HB3.out⟩
  have h15 : ¬ q3 < 0 := by omega
  have HS : Hid (smLg l R s cs rs) := ⟨HT.out, by rw [← H.out.2.2.2.2.1]; omega, by rw [← H.out.2.2.2.2.2]; omega⟩
  clear h14
  go_wp2
  go_returns
  exact ⟨q3, rfl, Or.inr ⟨h11, by omega, HS.out⟩, HB3.out⟩

set_option maxRecDepth 10000 in
set_option maxHeartbeats 12800000 in
theorem toToolLog_any (C A : Int) (R : ByteArray) (S U L : Int) (Q : Bool) {w : World} {va vb vc : Value} {s : List Ap} {cs : List Int} {rs : List Ap} (hn : s.length ≤ 1048576 ∧ cs.length ≤ 1048576 ∧ rs.length ≤ 1048576) (h : RdG w va vb vc s cs rs) :
    Calls Try.prog 20 #[.agg #[.int .i64 C, .int .i64 A, .string R, .int .i64 S, .int .i64 U, .int .i64 L, .bool Q, va, vb, vc]] w fun e w' => ∃ g : Nat × Nat × Nat, e = .returned (.agg #[.int .i64 C, .int .i64 A, .string R, .int .i64 S, .int .i64 U, .int .i64 L, .bool Q, .slice (some ⟨g.1, 0, none⟩) s.length s.length, .slice (some ⟨g.2.1, 0, none⟩) cs.length cs.length, .slice (some ⟨g.2.2, 0, none⟩) rs.length rs.length]) ∧ OwG w' w.heap.size (.slice (some ⟨g.1, 0, none⟩) s.length s.length) (.slice (some ⟨g.2.1, 0, none⟩) cs.length cs.length) (.slice (some ⟨g.2.2, 0, none⟩) rs.length rs.length) s cs rs ∧ Below w.heap.size w w' := by
  obtain ⟨a, c, rfl⟩ := h.ap.form
  obtain ⟨b, d, rfl⟩ := h.ci.form
  obtain ⟨f, hh, rfl⟩ := h.ru.form
  obtain ⟨n, hnn⟩ : ∃ n, n = s.length := ⟨_, rfl⟩
  obtain ⟨m, hmm⟩ : ∃ n, n = cs.length := ⟨_, rfl⟩
  obtain ⟨k, hkk⟩ : ∃ n, n = rs.length := ⟨_, rfl⟩
  rw [← hnn, ← hmm, ← hkk] at h ⊢
  have H : Hid (RdG w (.slice a n c) (.slice b m d) (.slice f k hh) s cs rs ∧ (s.length ≤ 1048576 ∧ cs.length ≤ 1048576 ∧ rs.length ≤ 1048576) ∧ n = s.length ∧ m = cs.length ∧ k = rs.length) := ⟨h, hn, hnn, hmm, hkk⟩
  clear h hn hnn hmm hkk
  go_enter Try.func20, Try.ntmps20
  go_wp2_with (fail)
  refine (toTool_any A R S U L Q H.out.2.1.1 (H.out.1.ap.below (by (repeat' (first | (with_reducible exact Below.refl _ _) | (with_reducible assumption) | (with_reducible refine Below.setCell ?_ ?_ _) | (with_reducible refine Below.alloc ?_ ?_ _) | (with_reducible refine below_drewN ?_ _) | (with_reducible refine Below.drew ?_) | (with_reducible exact Nat.le_refl _) | omega | (simp; done) | (simp; omega)))))).mono ?_
  rintro e w1 ⟨g1, rfl, hs1, hb1⟩
  have hz1 : w.heap.size + 3 ≤ w1.heap.size := by have := hb1.size; simpa using this
  have k0 : w1.heap[w.heap.size]? = some (.cells #[.int .i64 C, .int .i64 A, .string R, .int .i64 S, .int .i64 U, .int .i64 L, .bool Q, .slice a n c, .slice b m d, .slice f k hh] 41) := by
    rw [hb1.block w.heap.size (by simp; omega)]
    exact (Below.heap_alloc _ _ _ (by simp; omega)).trans ((Below.heap_alloc _ _ _ (by simp)).trans (heap_alloc_new w _))
  have k1 : w1.heap[w.heap.size + 1]? = some (.cells #[.int .i64 0, .int .i64 0, .string ⟨#[]⟩, .int .i64 0, .int .i64 0, .int .i64 0, .bool false, .slice none 0 0, .slice none 0 0, .slice none 0 0] 45) := by
    rw [hb1.block (w.heap.size + 1) (by simp)]
    exact (Below.heap_alloc _ _ _ (by simp)).trans (tl_at1 w _ _)
  have k2 : w1.heap[w.heap.size + 2]? = some (.cells #[.int .i64 C, .int .i64 0, .string ⟨#[]⟩, .int .i64 0, .int .i64 0, .int .i64 0, .bool false, .slice none 0 0, .slice none 0 0, .slice none 0 0] 45) := by
    rw [hb1.block (w.heap.size + 2) (by simp)]
    exact tl_at2 w _ _ _
  have hb : Below w.heap.size w w1 := (show Below w.heap.size w _ from by (repeat' (first | (with_reducible exact Below.refl _ _) | (with_reducible assumption) | (with_reducible refine Below.setCell ?_ ?_ _) | (with_reducible refine Below.alloc ?_ ?_ _) | (with_reducible refine below_drewN ?_ _) | (with_reducible refine Below.drew ?_) | (with_reducible exact Nat.le_refl _) | omega | (simp; done) | (simp; omega)))).trans (hb1.mono (by simp; omega))
  rw [← H.out.2.2.1] at hs1 ⊢
  obtain ⟨W1, hW1⟩ : ∃ W1, W1 = (((((((w1).setCell ⟨w.heap.size + 2, 1, none⟩ (.int .i64 A)).setCell ⟨w.heap.size + 2, 2, none⟩ (.string R)).setCell ⟨w.heap.size + 2, 3, none⟩ (.int .i64 S)).setCell ⟨w.heap.size + 2, 4, none⟩ (.int .i64 U)).setCell ⟨w.heap.size + 2, 5, none⟩ (.int .i64 L)).setCell ⟨w.heap.size + 2, 6, none⟩ (.bool Q)).setCell ⟨w.heap.size + 2, 7, none⟩ (.slice (some ⟨g1, 0, none⟩) n n) := ⟨_, rfl⟩
  have HW1 : Hid (W1 = (((((((w1).setCell ⟨w.heap.size + 2, 1, none⟩ (.int .i64 A)).setCell ⟨w.heap.size + 2, 2, none⟩ (.string R)).setCell ⟨w.heap.size + 2, 3, none⟩ (.int .i64 S)).setCell ⟨w.heap.size + 2, 4, none⟩ (.int .i64 U)).setCell ⟨w.heap.size + 2, 5, none⟩ (.int .i64 L)).setCell ⟨w.heap.size + 2, 6, none⟩ (.bool Q)).setCell ⟨w.heap.size + 2, 7, none⟩ (.slice (some ⟨g1, 0, none⟩) n n)) := hW1
  have HF1 : Hid (OG 72 2 apC W1 (w.heap.size + 3) (.slice (some ⟨g1, 0, none⟩) n n) s ∧ Below w.heap.size w W1 ∧ W1.heap[w.heap.size]? = some (.cells #[.int .i64 C, .int .i64 A, .string R, .int .i64 S, .int .i64 U, .int .i64 L, .bool Q, .slice a n c, .slice b m d, .slice f k hh] 41) ∧ W1.heap[w.heap.size + 1]? = some (.cells #[.int .i64 0, .int .i64 0, .string ⟨#[]⟩, .int .i64 0, .int .i64 0, .int .i64 0, .bool false, .slice none 0 0, .slice none 0 0, .slice none 0 0] 45) ∧ W1.heap[w.heap.size + 2]? = some (.cells #[.int .i64 C, .int .i64 A, .string R, .int .i64 S, .int .i64 U, .int .i64 L, .bool Q, .slice (some ⟨g1, 0, none⟩) n n, .slice none 0 0, .slice none 0 0] 45) ∧ w.heap.size + 3 ≤ W1.heap.size) := by
    refine ⟨?_, ?_, ?_, ?_, ?_, by rw [hW1]; simpa using hz1⟩
    · have e : OG 72 2 apC w1 (w.heap.size + 3) (.slice (some ⟨g1, 0, none⟩) n n) s := by simpa using hs1
      refine ownsRow_keep e fun q hq => ?_
      have := (OG.lt e q hq).1
      rw [hW1, heap_setCell_other _ _ _ _ (by simp; omega), heap_setCell_other _ _ _ _ (by simp; omega), heap_setCell_other _ _ _ _ (by simp; omega), heap_setCell_other _ _ _ _ (by simp; omega), heap_setCell_other _ _ _ _ (by simp; omega), heap_setCell_other _ _ _ _ (by simp; omega), heap_setCell_other _ _ _ _ (by simp; omega)]
    · rw [hW1]; (repeat' (first | (with_reducible exact Below.refl _ _) | (with_reducible assumption) | (with_reducible refine Below.setCell ?_ ?_ _) | (with_reducible refine Below.alloc ?_ ?_ _) | (with_reducible refine below_drewN ?_ _) | (with_reducible refine Below.drew ?_) | (with_reducible exact Nat.le_refl _) | omega | (simp; done) | (simp; omega)))
    · rw [hW1, heap_setCell_other _ _ _ _ (by simp), heap_setCell_other _ _ _ _ (by simp), heap_setCell_other _ _ _ _ (by simp), heap_setCell_other _ _ _ _ (by simp), heap_setCell_other _ _ _ _ (by simp), heap_setCell_other _ _ _ _ (by simp), heap_setCell_other _ _ _ _ (by simp)]; exact k0
    · rw [hW1, heap_setCell_other _ _ _ _ (by simp), heap_setCell_other _ _ _ _ (by simp), heap_setCell_other _ _ _ _ (by simp), heap_setCell_other _ _ _ _ (by simp), heap_setCell_other _ _ _ _ (by simp), heap_setCell_other _ _ _ _ (by simp), heap_setCell_other _ _ _ _ (by simp)]; exact k1
    · rw [hW1]
      have z0 := heap_setCell_same _ _ 1 _ _ (.int .i64 A) k2
      have z1 := heap_setCell_same _ _ 2 _ _ (.string R) z0
      have z2 := heap_setCell_same _ _ 3 _ _ (.int .i64 S) z1
      have z3 := heap_setCell_same _ _ 4 _ _ (.int .i64 U) z2
      have z4 := heap_setCell_same _ _ 5 _ _ (.int .i64 L) z3
      have z5 := heap_setCell_same _ _ 6 _ _ (.bool Q) z4
      have z6 := heap_setCell_same _ _ 7 _ _ (.slice (some ⟨g1, 0, none⟩) n n) z5
      simpa using z6
  obtain ⟨r0, r1, r2, r3, r4, r5, r6, r7, r8, r9, rf, rl⟩ := lg_ten k0
  obtain ⟨q0, q1, q2, q3, q4, q5, q6, q7, q8, q9, qf, ql⟩ := lg_ten k2
  have qf1 := qf 1
  have qf2 := qf 2
  have qf3 := qf 3
  have qf4 := qf 4
  have qf5 := qf 5
  have qf6 := qf 6
  have qf7 := qf 7
  clear hW1 k0 k1 k2 hb hs1 hb1 qf rf
  go_wp2_with (fail)
  rw [← HW1.out]
  clear r0 r1 r2 r3 r4 r5 r6 r7 r8 r9 rl q0 q1 q2 q3 q4 q5 q6 q7 q8 q9 ql qf1 qf2 qf3 qf4 qf5 qf6 qf7 HW1
  refine (toInt64S_any H.out.2.1.2.1 (H.out.1.ci.below HF1.out.2.1)).mono ?_
  rintro e w2 ⟨g2, rfl, hs2, hb2⟩
  rw [← H.out.2.2.2.1] at hs2 ⊢
  have hz2 := HF1.out.2.2.2.2.2
  have k0 := (hb2.block (w.heap.size) (by omega)).trans HF1.out.2.2.1
  have k1 := (hb2.block (w.heap.size + 1) (by omega)).trans HF1.out.2.2.2.1
  have k2 := (hb2.block (w.heap.size + 2) (by omega)).trans HF1.out.2.2.2.2.1
  obtain ⟨W2, hW2⟩ : ∃ W2, W2 = (w2).setCell ⟨w.heap.size + 2, 8, none⟩ (.slice (some ⟨g2, 0, none⟩) m m) := ⟨_, rfl⟩
  have HW2 : Hid (W2 = (w2).setCell ⟨w.heap.size + 2, 8, none⟩ (.slice (some ⟨g2, 0, none⟩) m m)) := hW2
  have HF2 : Hid (OG 72 2 apC W2 (w.heap.size + 3) (.slice (some ⟨g1, 0, none⟩) n n) s ∧ IS W2 (w.heap.size + 3) (.slice (some ⟨g2, 0, none⟩) m m) cs ∧ Below w.heap.size w W2 ∧ W2.heap[w.heap.size]? = some (.cells #[.int .i64 C, .int .i64 A, .string R, .int .i64 S, .int .i64 U, .int .i64 L, .bool Q, .slice a n c, .slice b m d, .slice f k hh] 41) ∧ W2.heap[w.heap.size + 1]? = some (.cells #[.int .i64 0, .int .i64 0, .string ⟨#[]⟩, .int .i64 0, .int .i64 0, .int .i64 0, .bool false, .slice none 0 0, .slice none 0 0, .slice none 0 0] 45) ∧ W2.heap[w.heap.size + 2]? = some (.cells #[.int .i64 C, .int .i64 A, .string R, .int .i64 S, .int .i64 U, .int .i64 L, .bool Q, .slice (some ⟨g1, 0, none⟩) n n, .slice (some ⟨g2, 0, none⟩) m m, .slice none 0 0] 45) ∧ w.heap.size + 3 ≤ W2.heap.size) := by
    have ho : ∀ q, w.heap.size + 3 ≤ q → W2.heap[q]? = w2.heap[q]? := fun q hq => by rw [hW2, heap_setCell_other _ _ _ _ (by simp; omega)]
    have hbb : Below w.heap.size w w2 := HF1.out.2.1.trans (hb2.mono HF1.out.2.1.size)
    refine ⟨?_, ?_, ?_, ?_, ?_, ?_, by rw [hW2]; have := hb2.size; simp; omega⟩
    · have e1 := OG.below HF1.out.1 hb2
      exact ownsRow_keep e1 fun q hq => ho q (OG.lt e1 q hq).1
    · have e1 := hs2.low hz2
      exact e1.kept fun q hq => ho q (IS.lt e1 q hq).1
    · rw [hW2]; (repeat' (first | (with_reducible exact Below.refl _ _) | (with_reducible assumption) | (with_reducible refine Below.setCell ?_ ?_ _) | (with_reducible refine Below.alloc ?_ ?_ _) | (with_reducible refine below_drewN ?_ _) | (with_reducible refine Below.drew ?_) | (with_reducible exact Nat.le_refl _) | omega | (simp; done) | (simp; omega)))
    · rw [hW2, heap_setCell_other _ _ _ _ (by simp)]; exact k0
    · rw [hW2, heap_setCell_other _ _ _ _ (by simp)]; exact k1
    · rw [hW2]
      have := heap_setCell_same _ _ 8 _ _ (.slice (some ⟨g2, 0, none⟩) m m) k2
      simpa using this
  obtain ⟨r0, r1, r2, r3, r4, r5, r6, r7, r8, r9, rf, rl⟩ := lg_ten k0
  obtain ⟨q0, q1, q2, q3, q4, q5, q6, q7, q8, q9, qf, ql⟩ := lg_ten k2
  have qf8 := qf 8
  clear hW2 k0 k1 k2 hs2 hb2 qf rf HF1
  go_wp2_with (fail)
  rw [← HW2.out]
  clear r0 r1 r2 r3 r4 r5 r6 r7 r8 r9 rl q0 q1 q2 q3 q4 q5 q6 q7 q8 q9 ql qf8 HW2 hz1
  refine (toApprovalS_any H.out.2.1.2.2 (H.out.1.ru.below HF2.out.2.2.1)).mono ?_
  rintro e w3 ⟨g3, rfl, hs3, hb3⟩
  rw [← H.out.2.2.2.2] at hs3 ⊢
  have hz3 := HF2.out.2.2.2.2.2.2
  have k1 := (hb3.block (w.heap.size + 1) (by omega)).trans HF2.out.2.2.2.2.1
  have k2 := (hb3.block (w.heap.size + 2) (by omega)).trans HF2.out.2.2.2.2.2.1
  obtain ⟨W3, hW3⟩ : ∃ W3, W3 = (((((((((((w3).setCell ⟨w.heap.size + 2, 9, none⟩ (.slice (some ⟨g3, 0, none⟩) k k)).setCell ⟨w.heap.size + 1, 0, none⟩ (.int .i64 C)).setCell ⟨w.heap.size + 1, 1, none⟩ (.int .i64 A)).setCell ⟨w.heap.size + 1, 2, none⟩ (.string R)).setCell ⟨w.heap.size + 1, 3, none⟩ (.int .i64 S)).setCell ⟨w.heap.size + 1, 4, none⟩ (.int .i64 U)).setCell ⟨w.heap.size + 1, 5, none⟩ (.int .i64 L)).setCell ⟨w.heap.size + 1, 6, none⟩ (.bool Q)).setCell ⟨w.heap.size + 1, 7, none⟩ (.slice (some ⟨g1, 0, none⟩) n n)).setCell ⟨w.heap.size + 1, 8, none⟩ (.slice (some ⟨g2, 0, none⟩) m m)).setCell ⟨w.heap.size + 1, 9, none⟩ (.slice (some ⟨g3, 0, none⟩) k k) := ⟨_, rfl⟩
  have HF3 : Hid (OwG W3 w.heap.size (.slice (some ⟨g1, 0, none⟩) n n) (.slice (some ⟨g2, 0, none⟩) m m) (.slice (some ⟨g3, 0, none⟩) k k) s cs rs ∧ Below w.heap.size w W3) := by
    have ho : ∀ q, w.heap.size + 3 ≤ q → W3.heap[q]? = w3.heap[q]? := fun q hq => by
      rw [hW3, heap_setCell_other _ _ _ _ (by simp; omega), heap_setCell_other _ _ _ _ (by simp; omega), heap_setCell_other _ _ _ _ (by simp; omega), heap_setCell_other _ _ _ _ (by simp; omega), heap_setCell_other _ _ _ _ (by simp; omega), heap_setCell_other _ _ _ _ (by simp; omega), heap_setCell_other _ _ _ _ (by simp; omega), heap_setCell_other _ _ _ _ (by simp; omega), heap_setCell_other _ _ _ _ (by simp; omega), heap_setCell_other _ _ _ _ (by simp; omega), heap_setCell_other _ _ _ _ (by simp; omega)]
    have hbb : Below w.heap.size w w3 := HF2.out.2.2.1.trans (hb3.mono HF2.out.2.2.1.size)
    refine ⟨⟨?_, ?_, ?_⟩, ?_⟩
    · have e1 := OG.below HF2.out.1 hb3
      have e2 : OG 72 2 apC W3 (w.heap.size + 3) (.slice (some ⟨g1, 0, none⟩) n n) s := ownsRow_keep e1 fun q hq => ho q (OG.lt e1 q hq).1
      exact OG.low e2 (by omega)
    · have e1 := HF2.out.2.1.bel hb3
      have e2 : IS W3 (w.heap.size + 3) (.slice (some ⟨g2, 0, none⟩) m m) cs := e1.kept fun q hq => ho q (IS.lt e1 q hq).1
      exact e2.low (by omega)
    · have e1 := OG.low hs3 hz3
      have e2 : OG 72 2 apC W3 (w.heap.size + 3) (.slice (some ⟨g3, 0, none⟩) k k) rs := ownsRow_keep e1 fun q hq => ho q (OG.lt e1 q hq).1
      exact OG.low e2 (by omega)
    · rw [hW3]; (repeat' (first | (with_reducible exact Below.refl _ _) | (with_reducible assumption) | (with_reducible refine Below.setCell ?_ ?_ _) | (with_reducible refine Below.alloc ?_ ?_ _) | (with_reducible refine below_drewN ?_ _) | (with_reducible refine Below.drew ?_) | (with_reducible exact Nat.le_refl _) | omega | (simp; done) | (simp; omega)))
  have e1 : W3.heap[w.heap.size + 1]? = some (.cells #[.int .i64 C, .int .i64 A, .string R, .int .i64 S, .int .i64 U, .int .i64 L, .bool Q, .slice (some ⟨g1, 0, none⟩) n n, .slice (some ⟨g2, 0, none⟩) m m, .slice (some ⟨g3, 0, none⟩) k k] 45) := by
      have k1' : ((w3).setCell ⟨w.heap.size + 2, 9, none⟩ (.slice (some ⟨g3, 0, none⟩) k k)).heap[w.heap.size + 1]? = some (.cells #[.int .i64 0, .int .i64 0, .string ⟨#[]⟩, .int .i64 0, .int .i64 0, .int .i64 0, .bool false, .slice none 0 0, .slice none 0 0, .slice none 0 0] 45) := by rw [heap_setCell_other _ _ _ _ (by simp)]; exact k1
      have z0 := heap_setCell_same _ _ 0 _ _ (.int .i64 C) k1'
      have z1 := heap_setCell_same _ _ 1 _ _ (.int .i64 A) z0
      have z2 := heap_setCell_same _ _ 2 _ _ (.string R) z1
      have z3 := heap_setCell_same _ _ 3 _ _ (.int .i64 S) z2
      have z4 := heap_setCell_same _ _ 4 _ _ (.int .i64 U) z3
      have z5 := heap_setCell_same _ _ 5 _ _ (.int .i64 L) z4
      have z6 := heap_setCell_same _ _ 6 _ _ (.bool Q) z5
      have z7 := heap_setCell_same _ _ 7 _ _ (.slice (some ⟨g1, 0, none⟩) n n) z6
      have z8 := heap_setCell_same _ _ 8 _ _ (.slice (some ⟨g2, 0, none⟩) m m) z7
      have z9 := heap_setCell_same _ _ 9 _ _ (.slice (some ⟨g3, 0, none⟩) k k) z8
      rw [hW3]
      simpa using z9
  obtain ⟨q0, q1, q2, q3, q4, q5, q6, q7, q8, q9, qf, ql⟩ := lg_ten k2
  have qf9 := qf 9
  obtain ⟨p0, p1, p2, p3, p4, p5, p6, p7, p8, p9, pf, pl⟩ := lg_ten k1
  have pf0 := pf 0
  have pf1 := pf 1
  have pf2 := pf 2
  have pf3 := pf 3
  have pf4 := pf 4
  have pf5 := pf 5
  have pf6 := pf 6
  have pf7 := pf 7
  have pf8 := pf 8
  have pf9 := pf 9
  have HW3 : Hid (W3 = (((((((((((w3).setCell ⟨w.heap.size + 2, 9, none⟩ (.slice (some ⟨g3, 0, none⟩) k k)).setCell ⟨w.heap.size + 1, 0, none⟩ (.int .i64 C)).setCell ⟨w.heap.size + 1, 1, none⟩ (.int .i64 A)).setCell ⟨w.heap.size + 1, 2, none⟩ (.string R)).setCell ⟨w.heap.size + 1, 3, none⟩ (.int .i64 S)).setCell ⟨w.heap.size + 1, 4, none⟩ (.int .i64 U)).setCell ⟨w.heap.size + 1, 5, none⟩ (.int .i64 L)).setCell ⟨w.heap.size + 1, 6, none⟩ (.bool Q)).setCell ⟨w.heap.size + 1, 7, none⟩ (.slice (some ⟨g1, 0, none⟩) n n)).setCell ⟨w.heap.size + 1, 8, none⟩ (.slice (some ⟨g2, 0, none⟩) m m)).setCell ⟨w.heap.size + 1, 9, none⟩ (.slice (some ⟨g3, 0, none⟩) k k)) := hW3
  obtain ⟨t0, t1, t2, t3, t4, t5, t6, t7, t8, t9, tf, tl⟩ := lg_ten e1
  clear hW3 k1 k2 hs3 e1 hb3 qf pf tf HF2
  go_wp2
  rw [← HW3.out]
  refine bodyPost_ret (by simp [results, Try.results20, go_sem, t0, t1, t2, t3, t4, t5, t6, t7, t8, t9]) rfl ⟨(g1, g2, g3), rfl, HF3.out⟩

set_option maxHeartbeats 3200000 in
theorem eqToolLog_same (C A : Int) (R : ByteArray) (S U L : Int) (Q : Bool) {w : World} {va vb vc va' vb' vc' : Value} {s : List Ap} {cs : List Int} {rs : List Ap} (hn : s.length ≤ 1048576 ∧ cs.length ≤ 1048576 ∧ rs.length ≤ 1048576) (h1 : RdG w va vb vc s cs rs) (h2 : RdG w va' vb' vc' s cs rs) :
    Calls Try.prog 22 #[.agg #[.int .i64 C, .int .i64 A, .string R, .int .i64 S, .int .i64 U, .int .i64 L, .bool Q, va, vb, vc], .agg #[.int .i64 C, .int .i64 A, .string R, .int .i64 S, .int .i64 U, .int .i64 L, .bool Q, va', vb', vc']] w fun e w' => e = .returned (.bool true) ∧ Below w.heap.size w w' := by
  obtain ⟨a1, c1', rfl⟩ := h1.ap.form
  obtain ⟨a2, c2', rfl⟩ := h2.ap.form
  obtain ⟨b1, d1', rfl⟩ := h1.ci.form
  obtain ⟨b2, d2', rfl⟩ := h2.ci.form
  obtain ⟨f1, x1', rfl⟩ := h1.ru.form
  obtain ⟨f2, x2', rfl⟩ := h2.ru.form
  obtain ⟨n, hnn⟩ : ∃ n, n = s.length := ⟨_, rfl⟩
  obtain ⟨m, hmm⟩ : ∃ n, n = cs.length := ⟨_, rfl⟩
  obtain ⟨k, hkk⟩ : ∃ n, n = rs.length := ⟨_, rfl⟩
  rw [← hnn, ← hmm, ← hkk] at h1 h2 ⊢
  have H : Hid (RdG w (.slice a1 n c1') (.slice b1 m d1') (.slice f1 k x1') s cs rs ∧ RdG w (.slice a2 n c2') (.slice b2 m d2') (.slice f2 k x2') s cs rs ∧ s.length ≤ 1099511627776 ∧ cs.length ≤ 1099511627776 ∧ rs.length ≤ 1099511627776) := ⟨h1, h2, by omega, by omega, by omega⟩
  clear h1 h2 hn hnn hmm hkk
  go_enter Try.func22, Try.ntmps22
  go_wp2_with (fail)
  refine (eqTool_same A R S U L Q H.out.2.2.1 (H.out.1.ap.below (by (repeat' (first | (with_reducible exact Below.refl _ _) | (with_reducible assumption) | (with_reducible refine Below.setCell ?_ ?_ _) | (with_reducible refine Below.alloc ?_ ?_ _) | (with_reducible refine below_drewN ?_ _) | (with_reducible refine Below.drew ?_) | (with_reducible exact Nat.le_refl _) | omega | (simp; done) | (simp; omega))))) (H.out.2.1.ap.below (by (repeat' (first | (with_reducible exact Below.refl _ _) | (with_reducible assumption) | (with_reducible refine Below.setCell ?_ ?_ _) | (with_reducible refine Below.alloc ?_ ?_ _) | (with_reducible refine below_drewN ?_ _) | (with_reducible refine Below.drew ?_) | (with_reducible exact Nat.le_refl _) | omega | (simp; done) | (simp; omega)))))).mono ?_
  rintro e w1 ⟨rfl, hb1⟩
  have g0 := (hb1.block w.heap.size (by simp; omega)).trans ((Below.heap_alloc _ _ _ (by simp)).trans (heap_alloc_new w _))
  have g1 := (hb1.block (w.heap.size + 1) (by simp)).trans (tl_at1 w _ _)
  obtain ⟨p0, p1, p2, p3, p4, p5, p6, p7, p8, p9, pf, pl⟩ := lg_ten g0
  obtain ⟨q0, q1, q2, q3, q4, q5, q6, q7, q8, q9, qf, ql⟩ := lg_ten g1
  have HB1 : Hid (Below w.heap.size w w1) := (show Below w.heap.size w _ from by (repeat' (first | (with_reducible exact Below.refl _ _) | (with_reducible assumption) | (with_reducible refine Below.setCell ?_ ?_ _) | (with_reducible refine Below.alloc ?_ ?_ _) | (with_reducible refine below_drewN ?_ _) | (with_reducible refine Below.drew ?_) | (with_reducible exact Nat.le_refl _) | omega | (simp; done) | (simp; omega)))).trans (hb1.mono (by simp; omega))
  have HK : Hid (w1.heap[w.heap.size]? = _ ∧ w1.heap[w.heap.size + 1]? = _) := ⟨g0, g1⟩
  clear hb1 g0 g1 pf qf
  go_wp2_with (fail)
  refine (eqInt64S_same H.out.2.2.2.1 (H.out.1.ci.below HB1.out) (H.out.2.1.ci.below HB1.out)).mono ?_
  rintro e w2 ⟨rfl, hb2⟩
  have g0 := (hb2.block _ (ltOf HK.out.1)).trans HK.out.1
  have g1 := (hb2.block _ (ltOf HK.out.2)).trans HK.out.2
  clear p0 q0 p1 q1 p2 q2 p3 q3 p4 q4 p5 q5 p6 q6 p7 q7 p8 q8 p9 q9 pl ql
  obtain ⟨p0, p1, p2, p3, p4, p5, p6, p7, p8, p9, pf, pl⟩ := lg_ten g0
  obtain ⟨q0, q1, q2, q3, q4, q5, q6, q7, q8, q9, qf, ql⟩ := lg_ten g1
  have HB2 : Hid (Below w.heap.size w w2) := HB1.out.trans (hb2.mono HB1.out.size)
  clear hb2 g0 g1 pf qf HK
  go_wp2_with (fail)
  refine (eqApprovalS_same H.out.2.2.2.2 (H.out.1.ru.below HB2.out) (H.out.2.1.ru.below HB2.out)).mono ?_
  rintro e w3 ⟨rfl, hb3⟩
  have HB3 : Hid (Below w.heap.size w w3) := HB2.out.trans (hb3.mono HB2.out.size)
  clear hb3
  go_wp2
  go_returns
  exact ⟨rfl, HB3.out⟩

theorem list10g {α : Type} {l : List α} (h : l.length = 10) : ∃ c0 c1 c2 c3 c4 c5 c6 c7 c8 c9, l = [c0, c1, c2, c3, c4, c5, c6, c7, c8, c9] := by
  match l, h with
  | [c0, c1, c2, c3, c4, c5, c6, c7, c8, c9], _ => exact ⟨c0, c1, c2, c3, c4, c5, c6, c7, c8, c9, rfl⟩
set_option maxRecDepth 100000 in
theorem tool_cells {H : Type} {enc : TypeId × Value → H} {W : World} {fuel : Nat} {cs : List Value} {x : DataW H × List MemPlace} (h : DataW.trod enc Try.prog W 0 (fun _ => true) true fuel 24 cs = some x) :
    ∃ (A : Int) (R : ByteArray) (S U L : Int) (Q : Bool) (a : Option Addr) (n c : Nat) (s : List Ap), cs = [.int .i64 A, .string R, .int .i64 S, .int .i64 U, .int .i64 L, .bool Q, .slice a n c] ∧ RG 2 apC W (.slice a n c) s ∧ okTl R s := by
  obtain ⟨n, hl, hf⟩ := trod_fields Try.underlying24 (by kernel_rfl) (by kernel_rfl) h
  obtain ⟨c0, c1, c2, c3, c4, c5, c6, rfl⟩ := list7t hl
  obtain ⟨_, y0, e0, t0⟩ := hf 0 _ rfl
  obtain ⟨_, y1, e1, t1⟩ := hf 1 _ rfl
  obtain ⟨_, y2, e2, t2⟩ := hf 2 _ rfl
  obtain ⟨_, y3, e3, t3⟩ := hf 3 _ rfl
  obtain ⟨_, y4, e4, t4⟩ := hf 4 _ rfl
  obtain ⟨_, y5, e5, t5⟩ := hf 5 _ rfl
  obtain ⟨_, y6, e6, t6⟩ := hf 6 _ rfl
  obtain ⟨n0, k0, _, _⟩ := DataW.trod_int Try.underlying2 t0
  obtain ⟨s1, k1, _, hs⟩ := DataW.trod_string Try.underlying9 t1
  obtain ⟨n2, k2, _, _⟩ := DataW.trod_int Try.underlying2 t2
  obtain ⟨n3, k3, _, _⟩ := DataW.trod_int Try.underlying2 t3
  obtain ⟨n4, k4, _, _⟩ := DataW.trod_int Try.underlying2 t4
  obtain ⟨b5, k5, _⟩ := DataW.trod_bool Try.underlying4 t5
  obtain ⟨a, m, c, s, k6, r1, r2, r3⟩ := aps_cells t6
  simp at e0 e1 e2 e3 e4 e5 e6 k0 k1 k2 k3 k4 k5 k6
  subst e0 e1 e2 e3 e4 e5 e6
  subst k0 k1 k2 k3 k4 k5 k6
  exact ⟨n0, s1, n2, n3, n4, b5, a, m, c, s, rfl, r1, hs, r2, r3⟩
set_option maxRecDepth 100000 in
theorem lints_cells {H : Type} {enc : TypeId × Value → H} {W : World} {fuel : Nat} {cs : List Value} {x : DataW H × List MemPlace} (h : DataW.trod enc Try.prog W 0 (fun _ => true) true fuel 39 cs = some x) :
    ∃ (a : Option Addr) (n c : Nat) (s : List Int), cs = [.slice a n c] ∧ RdI W (.slice a n c) s ∧ s.length ≤ maxLen := by
  obtain ⟨a, n, c, s, hcs, h1, h2, _⟩ := rg_of_trod (Q := fun _ => True) Try.underlying39 (show Try.prog.cellsOf 2 = 1 by kernel_rfl) (by omega) inC_len (fun _ _ _ h => int_cell h) h
  exact ⟨a, n, c, s, hcs, h1, h2⟩
set_option maxRecDepth 100000 in
/-- A log that came in. -/
theorem log_open {H : Type} {enc : TypeId × Value → H} {W : World} {base : Nat} {v : Value} {d : DataW H} {p : List MemPlace}
    (hv : Value.okWide Try.prog W .any base 41 v) (h : DataW.Trod enc Try.prog W 0 (fun _ => true) true 41 v d p) :
    ∃ (C A : Int) (R : ByteArray) (S U L : Int) (Q : Bool) (a : Option Addr) (n c : Nat) (s : List Ap) (b : Option Addr) (m d : Nat) (cs : List Int) (f : Option Addr) (k h : Nat) (rs : List Ap), v = .agg #[.int .i64 C, .int .i64 A, .string R, .int .i64 S, .int .i64 U, .int .i64 L, .bool Q, .slice a n c, .slice b m d, .slice f k h] ∧ RdG W (.slice a n c) (.slice b m d) (.slice f k h) s cs rs ∧ okLg R s cs rs := by
  obtain ⟨cs, rfl, hsz⟩ := okWide_struct Try.underlying41 hv
  have k10 : Try.prog.cellsOf 41 = 10 := by kernel_rfl
  have kk : Try.prog.cellsOf 2 = 1 := by kernel_rfl
  have kt : Try.prog.cellsOf 24 = 7 := by kernel_rfl
  have ks : Try.prog.cellsOf 39 = 1 := by kernel_rfl
  have kr : Try.prog.cellsOf 22 = 1 := by kernel_rfl
  rw [k10] at hsz
  obtain ⟨l⟩ := cs
  obtain ⟨c0, c1, c2, c3, c4, c5, c6, c7, c8, c9, rfl⟩ := list10g (show l.length = 10 from hsz)
  obtain ⟨fuel, hf⟩ := h
  obtain ⟨y0, y1, y2, y3, n, hx, hl, h0, h1, h2, h3⟩ := trod_struct4 Try.underlying41 hf
  obtain ⟨n0, k0, _, _⟩ := DataW.trod_int Try.underlying2 h0
  obtain ⟨A, R, S, U, L, Q, a, m1, c, s, k1, r1, r1'⟩ := tool_cells h1
  obtain ⟨b, m2, d, cs, k2, r2, r2'⟩ := lints_cells h2
  obtain ⟨f, m3, z3, rs, k3, r3, r3', r3''⟩ := aps_cells h3
  simp [Value.cells, kk, kt, ks, kr] at k0 k1 k2 k3
  obtain ⟨x1, x2, x3, x4, x5, x6, x7⟩ := k1
  subst k0 k2 k3
  subst x1 x2 x3 x4 x5 x6 x7
  exact ⟨n0, A, R, S, U, L, Q, a, m1, c, s, b, m2, d, cs, f, m3, z3, rs, rfl, ⟨r1, r2, r3⟩, ⟨r1', r2', r3', r3''⟩⟩

end Go.Proofs.Ytcfcknfaeliodaa
