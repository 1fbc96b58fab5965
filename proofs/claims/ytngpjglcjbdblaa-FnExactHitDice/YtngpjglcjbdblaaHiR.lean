/- Proved here: what the laws' package's small functions on answers with a code, rows and a number do. -/
import Derived.Test.YtngpjglcjbdblaaGrL
import Derived.Test.YtngpjglcjbdblaaGrQ
namespace Go.Proofs.Ytngpjglcjbdblaa
open Go.RowKit
set_option linter.unusedVariables false
set_option linter.unusedSimpArgs false

theorem hi_al2 {w V : World} {o1 o2 : Obj} (h : V = (w.alloc o1).alloc o2) : V.heap[w.heap.size]? = some o1 ∧ V.heap[w.heap.size + 1]? = some o2 ∧ Below w.heap.size w V ∧ V.heap.size = w.heap.size + 2 := by
  subst h
  refine ⟨(Below.heap_alloc _ _ _ (by simp)).trans (heap_alloc_new w _), ?_, by (repeat' (first | (with_reducible exact Below.refl _ _) | (with_reducible assumption) | (with_reducible refine Below.setCell ?_ ?_ _) | (with_reducible refine Below.alloc ?_ ?_ _) | (with_reducible refine below_drewN ?_ _) | (with_reducible refine Below.drew ?_) | (with_reducible exact Nat.le_refl _) | omega | (simp; done) | (simp; omega))), by simp⟩
  have := heap_alloc_new (w.alloc o1) o2
  simpa using this

theorem hi_three {w : World} {k : Nat} {a b c : Value} {T : TypeId} (h : w.heap[k]? = some (.cells #[a, b, c] T)) :
    w.cell? ⟨k, 0, none⟩ = some a ∧ w.cell? ⟨k, 1, none⟩ = some b ∧ w.cell? ⟨k, 2, none⟩ = some c ∧ w.frozen? ⟨k, 0, none⟩ = false ∧ w.frozen? ⟨k, 1, none⟩ = false ∧ w.frozen? ⟨k, 2, none⟩ = false ∧ k < w.heap.size :=
  ⟨cellOf h 0 rfl, cellOf h 1 rfl, cellOf h 2 rfl, frozOf h 0, frozOf h 1, frozOf h 2, ltOf h⟩
set_option maxHeartbeats 1600000 in
theorem eqHitResult_to (C Q : Int) {ls : List (List Int)} {v1 v2 : Value} {w : World} (hn : SmR ls) (h1 : RdR w v1 ls) (h2 : RdR w v2 ls) :
    Calls Try.prog 16 #[.agg #[.int .i64 C, v1, .int .i64 Q], .agg #[.int .i64 C, v2, .int .i64 Q]] w fun e w' => e = .returned (.bool true) ∧ Below w.heap.size w w' := by
  obtain ⟨a1, c1, e1⟩ := h1.form
  obtain ⟨a2, c2, e2⟩ := h2.form
  obtain ⟨m, hm⟩ : ∃ m, m = ls.length := ⟨_, rfl⟩
  rw [← hm] at e1 e2
  subst e1 e2
  have H : Hid (RdR w (.slice a1 m c1) ls ∧ RdR w (.slice a2 m c2) ls ∧ SmR ls) := ⟨h1, h2, hn⟩
  clear h1 h2 hm hn
  obtain ⟨V, hV⟩ : ∃ V, V = (w.alloc (.cells #[.int .i64 C, .slice a1 m c1, .int .i64 Q] 37)).alloc (.cells #[.int .i64 C, .slice a2 m c2, .int .i64 Q] 37) := ⟨_, rfl⟩
  obtain ⟨k0, k1, hb, hs⟩ := hi_al2 hV
  have HW : Hid (V.heap[w.heap.size]? = some (.cells #[.int .i64 C, .slice a1 m c1, .int .i64 Q] 37) ∧ V.heap[w.heap.size + 1]? = some (.cells #[.int .i64 C, .slice a2 m c2, .int .i64 Q] 37) ∧ Below w.heap.size w V) := ⟨k0, k1, hb⟩
  obtain ⟨p0, p1, p2, _, _, _, pl⟩ := hi_three k0
  obtain ⟨q0, q1, q2, _, _, _, ql⟩ := hi_three k1
  clear k0 k1 hb hs
  go_enter Try.func16, Try.ntmps16
  go_wp2_with (fail)
  rw [← hV]
  clear hV
  refine (eqInt64SS_same H.out.2.2 (H.out.1.below HW.out.2.2) (H.out.2.1.below HW.out.2.2)).mono ?_
  rintro e w' ⟨rfl, hb'⟩
  have HB : Hid (Below w.heap.size w w') := HW.out.2.2.trans (hb'.mono HW.out.2.2.size)
  clear p0 p1 p2 pl q0 q1 q2 ql
  obtain ⟨p0, p1, p2, _, _, _, pl⟩ := hi_three ((hb'.block _ (ltOf HW.out.1)).trans HW.out.1)
  obtain ⟨q0, q1, q2, _, _, _, ql⟩ := hi_three ((hb'.block _ (ltOf HW.out.2.1)).trans HW.out.2.1)
  clear hb' HW
  go_wp2
  go_returns
  exact ⟨rfl, HB.out⟩

set_option maxHeartbeats 1600000 in
theorem markHitResult_to (C Q : Int) {w : World} {B Z : Nat} {v : Value} {ls : List (List Int)} {vs : List Value} (z : Int) (hn : SmR ls) (hz0 : 0 ≤ z) (hz1 : z ≤ 1000000000) (h : RI w B v ls vs) (hZ : LtR v vs ls.length Z) :
    Calls Try.prog 17 #[.agg #[.int .i64 C, v, .int .i64 Q], .int .i64 z] w fun e w' => e = .returned (.int .i64 (z + (totR ls ls.length : Int))) ∧ RI w' B v (mkG z ls ls.length) vs ∧ Chg B Z w w' := by
  obtain ⟨a, c, e1⟩ := h.form
  obtain ⟨m, hm⟩ : ∃ m, m = ls.length := ⟨_, rfl⟩
  rw [← hm] at e1
  subst e1
  have H : Hid (RI w B (.slice a m c) ls vs ∧ SmR ls ∧ LtR (.slice a m c) vs ls.length Z) := ⟨h, hn, hZ⟩
  clear h hm hn hZ
  go_enter Try.func17, Try.ntmps17
  go_wp2_with (fail)
  refine (markInt64SS_to z H.out.2.1 hz0 hz1 (H.out.1.below (by (repeat' (first | (with_reducible exact Below.refl _ _) | (with_reducible assumption) | (with_reducible refine Below.setCell ?_ ?_ _) | (with_reducible refine Below.alloc ?_ ?_ _) | (with_reducible refine below_drewN ?_ _) | (with_reducible refine Below.drew ?_) | (with_reducible exact Nat.le_refl _) | omega | (simp; done) | (simp; omega))))) H.out.2.2).mono ?_
  rintro e w1 ⟨rfl, hm1, hon⟩
  have HM : Hid (RI w1 B (.slice a m c) (mkG z ls ls.length) vs ∧ Chg B Z w w1) := ⟨hm1, Chg.trans (Chg.of_below (by (repeat' (first | (with_reducible exact Below.refl _ _) | (with_reducible assumption) | (with_reducible refine Below.setCell ?_ ?_ _) | (with_reducible refine Below.alloc ?_ ?_ _) | (with_reducible refine below_drewN ?_ _) | (with_reducible refine Below.drew ?_) | (with_reducible exact Nat.le_refl _) | omega | (simp; done) | (simp; omega))))) hon⟩
  clear hm1 hon
  go_wp2
  go_returns
  exact ⟨rfl, HM.out.1, HM.out.2⟩

set_option maxHeartbeats 1600000 in
theorem heldHitResult_to (C Q : Int) {w : World} {B : Nat} {v : Value} {ls : List (List Int)} {vs : List Value} (z : Int) (hn : SmR ls) (hz0 : 0 ≤ z) (hz1 : z ≤ 1000000000) (h : RI w B v (mkG z ls ls.length) vs) :
    Calls Try.prog 18 #[.agg #[.int .i64 C, v, .int .i64 Q], .int .i64 z] w fun e w' => e = .returned (.int .i64 (z + (totR ls ls.length : Int))) ∧ Below w.heap.size w w' := by
  obtain ⟨a, c, e1⟩ := h.form
  rw [mkG_len] at e1
  obtain ⟨m, hm⟩ : ∃ m, m = ls.length := ⟨_, rfl⟩
  rw [← hm] at e1
  subst e1
  obtain ⟨T, hT⟩ : ∃ T : Int, T = z + (totR ls ls.length : Int) := ⟨_, rfl⟩
  have hneg : ¬ T < 0 := by omega
  have HC : Hid (∀ W : World, Below w.heap.size w W → Calls Try.prog 34 #[.slice a m c, .int .i64 z] W fun e w' => e = .returned (.int .i64 T) ∧ w' = W) := fun W hW => by rw [hT]; exact heldRows_is z hn hz0 hz1 (h.below hW)
  rw [← hT]
  clear h hm hn hT
  go_enter Try.func18, Try.ntmps18
  go_wp2_with (fail)
  refine (HC.out _ (by (repeat' (first | (with_reducible exact Below.refl _ _) | (with_reducible assumption) | (with_reducible refine Below.setCell ?_ ?_ _) | (with_reducible refine Below.alloc ?_ ?_ _) | (with_reducible refine below_drewN ?_ _) | (with_reducible refine Below.drew ?_) | (with_reducible exact Nat.le_refl _) | omega | (simp; done) | (simp; omega))))).mono ?_
  rintro e w1 ⟨rfl, rfl⟩
  go_wp2
  go_returns
  exact ⟨rfl, by (repeat' (first | (with_reducible exact Below.refl _ _) | (with_reducible assumption) | (with_reducible refine Below.setCell ?_ ?_ _) | (with_reducible refine Below.alloc ?_ ?_ _) | (with_reducible refine below_drewN ?_ _) | (with_reducible refine Below.drew ?_) | (with_reducible exact Nat.le_refl _) | omega | (simp; done) | (simp; omega)))⟩

end Go.Proofs.Ytngpjglcjbdblaa
