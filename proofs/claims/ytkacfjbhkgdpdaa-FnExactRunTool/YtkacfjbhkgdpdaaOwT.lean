/- Proved here: what a mark of a list turns is that list's own block alone. No condition on the program. (And ahead of it: Proved here: logs of tools: how the laws' package compares them.) -/
import Derived.Test.YtkacfjbhkgdpdaaTlB
import Derived.Test.YtkacfjbhkgdpdaaNlQ
import Derived.Test.YtkacfjbhkgdpdaaLwS
import Derived.Test.YtkacfjbhkgdpdaaKept
namespace Go.Proofs.Ytkacfjbhkgdpdaa
open Go.ChangeShapes Go.WideShapes Go.ChangeAt Go.RowKit Go.Joins
set_option linter.unusedVariables false
set_option linter.unusedSimpArgs false

structure RdG (w : World) (va vb vc : Value) (s : List Ap) (cs : List Int) (rs : List Ap) : Prop where
  ap : RG 2 apC w va s
  ci : RdI w vb cs
  ru : RG 2 apC w vc rs
theorem RdG.below {w w' : World} {va vb vc : Value} {s : List Ap} {cs : List Int} {rs : List Ap} (h : RdG w va vb vc s cs rs) (hb : Below w.heap.size w w') : RdG w' va vb vc s cs rs := ⟨h.ap.below hb, RG.below h.ci hb, h.ru.below hb⟩
theorem lg_ten {w : World} {k : Nat} {a b c d e f g h i j : Value} {T : TypeId} (H : w.heap[k]? = some (.cells #[a, b, c, d, e, f, g, h, i, j] T)) :
    w.cell? ⟨k, 0, none⟩ = some a ∧ w.cell? ⟨k, 1, none⟩ = some b ∧ w.cell? ⟨k, 2, none⟩ = some c ∧ w.cell? ⟨k, 3, none⟩ = some d ∧ w.cell? ⟨k, 4, none⟩ = some e ∧ w.cell? ⟨k, 5, none⟩ = some f ∧ w.cell? ⟨k, 6, none⟩ = some g ∧ w.cell? ⟨k, 7, none⟩ = some h ∧ w.cell? ⟨k, 8, none⟩ = some i ∧ w.cell? ⟨k, 9, none⟩ = some j ∧ (∀ i, w.frozen? ⟨k, i, none⟩ = false) ∧ k < w.heap.size :=
  ⟨cellOf H 0 rfl, cellOf H 1 rfl, cellOf H 2 rfl, cellOf H 3 rfl, cellOf H 4 rfl, cellOf H 5 rfl, cellOf H 6 rfl, cellOf H 7 rfl, cellOf H 8 rfl, cellOf H 9 rfl, frozOf H, ltOf H⟩
set_option maxHeartbeats 3200000 in
theorem eqToolLog_same (C A : Int) (R : ByteArray) (S U L : Int) (Q : Bool) {w : World} {va vb vc va' vb' vc' : Value} {s : List Ap} {cs : List Int} {rs : List Ap} (hn : s.length ≤ 1048576 ∧ cs.length ≤ 1048576 ∧ rs.length ≤ 1048576) (h1 : RdG w va vb vc s cs rs) (h2 : RdG w va' vb' vc' s cs rs) :
    Calls Try.prog 20 #[.agg #[.int .i64 C, .int .i64 A, .string R, .int .i64 S, .int .i64 U, .int .i64 L, .bool Q, va, vb, vc], .agg #[.int .i64 C, .int .i64 A, .string R, .int .i64 S, .int .i64 U, .int .i64 L, .bool Q, va', vb', vc']] w fun e w' => e = .returned (.bool true) ∧ Below w.heap.size w w' := by
  obtain ⟨a1, c1', rfl⟩ := h1.ap.form
  obtain ⟨a2, c2', rfl⟩ := h2.ap.form
  obtain ⟨b1, d1', rfl⟩ := h1.ci.form
  obtain ⟨b2, d2', rfl⟩ := h2.ci.form
  obtain ⟨f1, x1', rfl⟩ := h1.ru.form
  obtain ⟨f2, x2', rfl⟩ := h2.ru.form
  obtain ⟨n, hnn⟩ : ∃ n, n = s.length := ⟨_, rfl⟩
  obtain ⟨m, hmm⟩ : ∃ n, n = cs.length := ⟨_, rfl⟩
  obtain ⟨k, hkk⟩ : ∃ n, n = rs.length := ⟨_, rfl⟩
  rw [← hnn, ← hmm, ← hkk] at h1 h2 ⊢
  have H : Hid (RdG w (.slice a1 n c1') (.slice b1 m d1') (.slice f1 k x1') s cs rs ∧ RdG w (.slice a2 n c2') (.slice b2 m d2') (.slice f2 k x2') s cs rs ∧ s.length ≤ 1099511627776 ∧ cs.length ≤ 1099511627776 ∧ rs.length ≤ 1099511627776) := ⟨h1, h2, by omega, by omega, by omega⟩
  clear h1 h2 hn hnn hmm hkk
  go_enter Try.func20, Try.ntmps20
  go_wp2_with (fail)
  refine (eqTool_same A R S U L Q H.out.2.2.1 (H.out.1.ap.below (by (repeat' (first | (with_reducible exact Below.refl _ _) | (with_reducible assumption) | (with_reducible refine Below.setCell ?_ ?_ _) | (with_reducible refine Below.alloc ?_ ?_ _) | (with_reducible refine below_drewN ?_ _) | (with_reducible refine Below.drew ?_) | (with_reducible exact Nat.le_refl _) | omega | (simp; done) | (simp; omega))))) (H.out.2.1.ap.below (by (repeat' (first | (with_reducible exact Below.refl _ _) | (with_reducible assumption) | (with_reducible refine Below.setCell ?_ ?_ _) | (with_reducible refine Below.alloc ?_ ?_ _) | (with_reducible refine below_drewN ?_ _) | (with_reducible refine Below.drew ?_) | (with_reducible exact Nat.le_refl _) | omega | (simp; done) | (simp; omega)))))).mono ?_
  rintro e w1 ⟨rfl, hb1⟩
  have g0 := (hb1.block w.heap.size (by simp; omega)).trans ((Below.heap_alloc _ _ _ (by simp)).trans (heap_alloc_new w _))
  have g1 := (hb1.block (w.heap.size + 1) (by simp)).trans (tl_at1 w _ _)
  obtain ⟨p0, p1, p2, p3, p4, p5, p6, p7, p8, p9, pf, pl⟩ := lg_ten g0
  obtain ⟨q0, q1, q2, q3, q4, q5, q6, q7, q8, q9, qf, ql⟩ := lg_ten g1
  have HB1 : Hid (Below w.heap.size w w1) := (show Below w.heap.size w _ from by (repeat' (first | (with_reducible exact Below.refl _ _) | (with_reducible assumption) | (with_reducible refine Below.setCell ?_ ?_ _) | (with_reducible refine Below.alloc ?_ ?_ _) | (with_reducible refine below_drewN ?_ _) | (with_reducible refine Below.drew ?_) | (with_reducible exact Nat.le_refl _) | omega | (simp; done) | (simp; omega)))).trans (hb1.mono (by simp; omega))
  have HK : Hid (w1.heap[w.heap.size]? = _ ∧ w1.heap[w.heap.size + 1]? = _) := ⟨g0, g1⟩
  clear hb1 g0 g1 pf qf
  go_wp2_with (fail)
  refine (eqInt64S_same H.out.2.2.2.1 (H.out.1.ci.below HB1.out) (H.out.2.1.ci.below HB1.out)).mono ?_
  rintro e w2 ⟨rfl, hb2⟩
  have g0 := (hb2.block _ (ltOf HK.out.1)).trans HK.out.1
  have g1 := (hb2.block _ (ltOf HK.out.2)).trans HK.out.2
  clear p0 q0 p1 q1 p2 q2 p3 q3 p4 q4 p5 q5 p6 q6 p7 q7 p8 q8 p9 q9 pl ql
  obtain ⟨p0, p1, p2, p3, p4, p5, p6, p7, p8, p9, pf, pl⟩ := lg_ten g0
  obtain ⟨q0, q1, q2, q3, q4, q5, q6, q7, q8, q9, qf, ql⟩ := lg_ten g1
  have HB2 : Hid (Below w.heap.size w w2) := HB1.out.trans (hb2.mono HB1.out.size)
  clear hb2 g0 g1 pf qf HK
  go_wp2_with (fail)
  refine (eqApprovalS_same H.out.2.2.2.2 (H.out.1.ru.below HB2.out) (H.out.2.1.ru.below HB2.out)).mono ?_
  rintro e w3 ⟨rfl, hb3⟩
  have HB3 : Hid (Below w.heap.size w w3) := HB2.out.trans (hb3.mono HB2.out.size)
  clear hb3
  go_wp2
  go_returns
  exact ⟨rfl, HB3.out⟩

end Go.Proofs.Ytkacfjbhkgdpdaa

namespace Go.Proofs.Ytkacfjbhkgdpdaa
open Go.RowKit
set_option linter.unusedVariables false
set_option linter.unusedSimpArgs false

def bLo (v : Value) : Nat := match v.ownBlock with | some g => g | none => 0
def bHi (v : Value) : Nat := match v.ownBlock with | some g => g + 1 | none => 0
theorem bLo_some {v : Value} {g : Nat} (h : v.ownBlock = some g) : bLo v = g := by unfold bLo; rw [h]
theorem bHi_some {v : Value} {g : Nat} (h : v.ownBlock = some g) : bHi v = g + 1 := by unfold bHi; rw [h]
theorem own_tight {V : World} {B T k n : Nat} {v : Value} {ys : List Value} (h : V.ownsRow B T k v n ys) : V.ownsRow (bLo v) T k v n ys := by
  refine ⟨h.1, ?_⟩
  rcases h.2 with h9 | ⟨g, cap, cur, h10, h11, h12⟩
  · exact Or.inl h9
  · exact Or.inr ⟨g, cap, cur, h10, by rw [bLo_some (g := g) (by rw [h10]; rfl)]; exact Nat.le_refl _, h12⟩
theorem tight_lt (v : Value) : ∀ g, v.ownBlock = some g → g < bHi v := fun g h => by rw [bHi_some h]; exact Nat.lt_succ_self g
theorem own_back {V : World} {A B T k n : Nat} {v : Value} {ys : List Value} (h : V.ownsRow A T k v n ys) (hB : ∀ g, v.ownBlock = some g → B ≤ g) : V.ownsRow B T k v n ys := by
  refine ⟨h.1, ?_⟩
  rcases h.2 with h9 | ⟨g, cap, cur, h10, h11, h12⟩
  · exact Or.inl h9
  · exact Or.inr ⟨g, cap, cur, h10, hB g (by rw [h10]; rfl), h12⟩
theorem Chg.tight {w w' : World} {v : Value} {B Z : Nat} (h : Chg (bLo v) (bHi v) w w') (hB : ∀ g, v.ownBlock = some g → B ≤ g ∧ g < Z) : Chg B Z w w' := by
  refine ⟨h.os, h.tape, h.output, h.size, fun k hk hb => h.block k hk ?_⟩
  cases hv : v.ownBlock with
  | none => right; unfold bHi; rw [hv]; exact Nat.zero_le _
  | some g => rw [bLo_some hv, bHi_some hv]; have := hB g hv; omega
theorem Chg.off {w w' : World} {v : Value} (h : Chg (bLo v) (bHi v) w w') {q : Nat} (hq : q < w.heap.size) (hv : v.ownBlock ≠ some q) : w'.heap[q]? = w.heap[q]? := by
  refine h.block q hq ?_
  cases hv2 : v.ownBlock with
  | none => right; unfold bHi; rw [hv2]; exact Nat.zero_le _
  | some g =>
    rw [bLo_some hv2, bHi_some hv2]
    have : g ≠ q := fun e => hv (by rw [hv2, e])
    omega

end Go.Proofs.Ytkacfjbhkgdpdaa
