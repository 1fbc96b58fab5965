/- Proved here: how the laws' package marks an answer with a code, a list of lines and a list of numbers. -/
import Derived.Test.YtfjcebgknpccbabMkLn
import Derived.Test.YtfjcebgknpccbabMkI
import Derived.Test.YtfjcebgknpccbabCrB
namespace Go.Proofs.Ytfjcebgknpccbab
open Go.RowKit
set_option linter.unusedVariables false
set_option linter.unusedSimpArgs false

/-- Nothing but a row's own block has turned. -/
def OnV (v : Value) (w w' : World) : Prop := w' = w ∨ ∃ g, v.ownBlock = some g ∧ Only g w w'
theorem OnV.chg {v : Value} {w w' : World} {B Z : Nat} (h : OnV v w w') (hv : ∀ g, v.ownBlock = some g → B ≤ g ∧ g < Z) : Chg B Z w w' := by
  rcases h with rfl | ⟨g, hg, h⟩
  · exact Chg.refl _ _ _
  · exact Chg.only h (hv g hg).1 (hv g hg).2
theorem OnV.block {v : Value} {w w' : World} (h : OnV v w w') {q : Nat} (hq : v.ownBlock ≠ some q) : w'.heap[q]? = w.heap[q]? := by
  rcases h with rfl | ⟨g, hg, h⟩
  · rfl
  · exact h.block q (fun e => hq (by rw [hg, e]))
theorem markLineS_on {w : World} {B n : Nat} {v : Value} {ys : List Value} (z : Int) (hn : n ≤ 1048576) (hz0 : 0 ≤ z) (hz1 : z ≤ 1000000000000) (h : w.ownsRow B 57 2 v n ys) :
    Calls Try.prog 14 #[v, .int .i64 z] w fun e w' => e = .returned (.int .i64 (z + 2 * (n : Int))) ∧ w'.ownsRow B 57 2 v n (mkV z (n * 2)) ∧ OnV v w w' := by
  rcases h.2 with ⟨rfl, rfl⟩ | ⟨g, cap, cur, rfl, hB, _⟩
  · refine (markLineS_zero none 0 z w).mono ?_
    rintro e w' ⟨rfl, rfl⟩
    refine ⟨by simp, ?_, Or.inl rfl⟩
    have e : ys = [] := List.length_eq_zero_iff.1 (by have := h.1; omega)
    rw [e] at h
    simpa [mkV] using h
  · refine (markLineS_pos g cap n B ys z w hn hz0 hz1 h).mono ?_
    rintro e w' ⟨rfl, h1, h2⟩
    exact ⟨rfl, h1, Or.inr ⟨g, rfl, h2⟩⟩
theorem markInt64S_on {w : World} {B n : Nat} {v : Value} {ys : List Value} (z : Int) (hn : n ≤ 1048576) (hz0 : 0 ≤ z) (hz1 : z ≤ 1000000000000) (h : w.ownsRow B 2 1 v n ys) :
    Calls Try.prog 38 #[v, .int .i64 z] w fun e w' => e = .returned (.int .i64 (z + (n : Int))) ∧ w'.ownsRow B 2 1 v n (mkV z n) ∧ OnV v w w' := by
  rcases h.2 with ⟨rfl, rfl⟩ | ⟨g, cap, cur, rfl, hB, _⟩
  · refine (markInt64S_zero none 0 z w).mono ?_
    rintro e w' ⟨rfl, rfl⟩
    refine ⟨by simp, ?_, Or.inl rfl⟩
    have e : ys = [] := List.length_eq_zero_iff.1 (by have := h.1; omega)
    rw [e] at h
    simpa [mkV] using h
  · refine (markInt64S_pos g cap n B ys z w hn hz0 hz1 h).mono ?_
    rintro e w' ⟨rfl, h1, h2⟩
    exact ⟨rfl, h1, Or.inr ⟨g, rfl, h2⟩⟩
/-- Lines and numbers lie in blocks of their own. -/
theorem rows_apart {w : World} {B n m : Nat} {va vb : Value} {ys zs : List Value} (h : w.ownsRow B 57 2 va n ys) (h' : w.ownsRow B 2 1 vb m zs) {g : Nat} (hg : va.ownBlock = some g) : vb.ownBlock ≠ some g := by
  intro hg'
  rcases h.2 with ⟨rfl, _⟩ | ⟨a, c, cur, rfl, _, ha, _⟩
  · cases hg
  rcases h'.2 with ⟨rfl, _⟩ | ⟨a', c', cur', rfl, _, ha', _⟩
  · cases hg'
  have e1 : a = g := Option.some.inj hg
  have e2 : a' = g := Option.some.inj hg'
  rw [e1] at ha
  rw [e2, ha] at ha'
  injection ha' with h1
  injection h1 with h2 h3
  exact absurd h3 (by decide)
theorem OnV.size {v : Value} {w w' : World} (h : OnV v w w') : w'.heap.size = w.heap.size := by
  rcases h with rfl | ⟨g, hg, h⟩
  · rfl
  · exact h.size
def MkCR (V : World) (B : Nat) (va vb : Value) (n m : Nat) (z : Int) : Prop := V.ownsRow B 57 2 va n (mkV z (n * 2)) ∧ V.ownsRow B 2 1 vb m (mkV (z + 2 * (n : Int)) m)

set_option maxHeartbeats 3200000 in
theorem markCorrectResult_to (C : Int) {w : World} {B Z : Nat} {va vb : Value} {s : List Ln} {t : List Int} (z : Int) (hn : s.length ≤ 1048576 ∧ t.length ≤ 1048576) (hz0 : 0 ≤ z) (hz1 : z ≤ 1000000000) (h : OwCR w B va vb s t) (hZ : (∀ g, va.ownBlock = some g → g < Z) ∧ (∀ g, vb.ownBlock = some g → g < Z)) :
    Calls Try.prog 16 #[.agg #[.int .i64 C, va, vb], .int .i64 z] w fun e w' => e = .returned (.int .i64 (z + 2 * (s.length : Int) + (t.length : Int))) ∧ MkCR w' B va vb s.length t.length z ∧ Chg B Z w w' := by
  obtain ⟨a, c, rfl⟩ := (OwCR.rd h).ln.form
  obtain ⟨b, d, rfl⟩ := (OwCR.rd h).er.form
  obtain ⟨n, hnn⟩ : ∃ n, n = s.length := ⟨_, rfl⟩
  obtain ⟨m, hmm⟩ : ∃ n, n = t.length := ⟨_, rfl⟩
  have H : Hid (w.ownsRow B 57 2 (.slice a n c) n (s.flatMap lnC) ∧ w.ownsRow B 2 1 (.slice b m d) m (t.map (Value.int .i64)) ∧ (∀ g, (Value.slice a n c).ownBlock = some g → g < Z) ∧ (∀ g, (Value.slice b m d).ownBlock = some g → g < Z)) := by
    rw [hnn, hmm]
    exact ⟨h.1, h.2, hZ.1, hZ.2⟩
  rw [← hnn, ← hmm] at hn ⊢
  clear h hZ hnn hmm
  obtain ⟨T1, hT1⟩ : ∃ T, T = z + 2 * (n : Int) := ⟨_, rfl⟩
  obtain ⟨T2, hT2⟩ : ∃ T, T = T1 + (m : Int) := ⟨_, rfl⟩
  rw [← hT1, ← hT2]
  have HT : Hid (T1 = z + 2 * (n : Int) ∧ T2 = T1 + (m : Int)) := ⟨hT1, hT2⟩
  have hb1 : 0 ≤ T1 ∧ T1 ≤ 1000000000000 := by omega
  clear hT1 hT2
  obtain ⟨U, hU⟩ : ∃ U, U = w.alloc (.cells #[.int .i64 C, .slice a n c, .slice b m d] 30) := ⟨_, rfl⟩
  have HU : Hid (Below w.heap.size w U ∧ U.heap[w.heap.size]? = some (.cells #[.int .i64 C, .slice a n c, .slice b m d] 30) ∧ U.ownsRow B 57 2 (.slice a n c) n (s.flatMap lnC) ∧ U.ownsRow B 2 1 (.slice b m d) m (t.map (Value.int .i64))) := by
    have hb : Below w.heap.size w U := by rw [hU]; (repeat' (first | (with_reducible exact Below.refl _ _) | (with_reducible assumption) | (with_reducible refine Below.setCell ?_ ?_ _) | (with_reducible refine Below.alloc ?_ ?_ _) | (with_reducible refine below_drewN ?_ _) | (with_reducible refine Below.drew ?_) | (with_reducible exact Nat.le_refl _) | omega | (simp; done) | (simp; omega)))
    exact ⟨hb, by rw [hU]; exact heap_alloc_new w _, ownsRow_keep H.out.1 fun g hg => hb.block g (World.ownsRow.lt H.out.1 g hg).2, ownsRow_keep H.out.2.1 fun g hg => hb.block g (World.ownsRow.lt H.out.2.1 g hg).2⟩
  go_enter Try.func16, Try.ntmps16
  go_wp2_with (fail)
  rw [← hU]
  clear hU
  refine (markLineS_on z hn.1 hz0 (by omega) HU.out.2.2.1).mono ?_
  rintro e w1 ⟨rfl, hi, hc⟩
  rw [← HT.out.1]
  have k1 : w1.heap[w.heap.size]? = some (.cells #[.int .i64 C, .slice a n c, .slice b m d] 30) := (hc.block (fun e => by have := (World.ownsRow.lt H.out.1 _ e).2; omega)).trans HU.out.2.1
  have HB : Hid (w1.ownsRow B 57 2 (.slice a n c) n (mkV z (n * 2)) ∧ w1.ownsRow B 2 1 (.slice b m d) m (t.map (Value.int .i64)) ∧ Chg B Z w w1) := by
    refine ⟨hi, ownsRow_keep HU.out.2.2.2 fun g hg => hc.block (fun e => rows_apart HU.out.2.2.1 HU.out.2.2.2 e hg), (Chg.of_below HU.out.1).trans (hc.chg fun g hg => ⟨(World.ownsRow.lt H.out.1 g hg).1, H.out.2.2.1 g hg⟩)⟩
  obtain ⟨p0, p1, p2, pf, pl⟩ := cr_three k1
  clear hi hc k1 pf HU
  go_wp2_with (fail)
  refine (markInt64S_on T1 hn.2 hb1.1 hb1.2 HB.out.2.1).mono ?_
  rintro e w2 ⟨rfl, hi, hc⟩
  rw [← HT.out.2]
  have HC : Hid (MkCR w2 B (.slice a n c) (.slice b m d) n m z ∧ Chg B Z w w2) := by
    refine ⟨⟨ownsRow_keep HB.out.1 fun g hg => hc.block (rows_apart HB.out.1 HB.out.2.1 hg), ?_⟩, HB.out.2.2.trans (hc.chg fun g hg => ⟨(World.ownsRow.lt H.out.2.1 g hg).1, H.out.2.2.2 g hg⟩)⟩
    rw [← HT.out.1]
    exact hi
  clear hi hc HB p0 p1 p2 pl
  go_wp2
  go_returns
  exact ⟨rfl, HC.out.1, HC.out.2⟩

set_option maxHeartbeats 3200000 in
theorem heldCorrectResult_to (C : Int) {w : World} {B : Nat} {va vb : Value} {n m : Nat} (z : Int) (hn : n ≤ 1048576 ∧ m ≤ 1048576) (hz0 : 0 ≤ z) (hz1 : z ≤ 1000000000) (h : MkCR w B va vb n m z) :
    Calls Try.prog 17 #[.agg #[.int .i64 C, va, vb], .int .i64 z] w fun e w' => e = .returned (.int .i64 (z + 2 * (n : Int) + (m : Int))) ∧ Below w.heap.size w w' := by
  obtain ⟨a, c, rfl⟩ : ∃ a c, va = .slice a n c := by
    rcases h.1.2 with ⟨rfl, rfl⟩ | ⟨g, cap, cur, rfl, _⟩
    · exact ⟨_, _, rfl⟩
    · exact ⟨_, _, rfl⟩
  obtain ⟨b, d, rfl⟩ : ∃ a c, vb = .slice a m c := by
    rcases h.2.2 with ⟨rfl, rfl⟩ | ⟨g, cap, cur, rfl, _⟩
    · exact ⟨_, _, rfl⟩
    · exact ⟨_, _, rfl⟩
  have H : Hid (MkCR w B (.slice a n c) (.slice b m d) n m z) := h
  clear h
  obtain ⟨T1, hT1⟩ : ∃ T, T = z + 2 * (n : Int) := ⟨_, rfl⟩
  obtain ⟨T2, hT2⟩ : ∃ T, T = T1 + (m : Int) := ⟨_, rfl⟩
  rw [← hT1, ← hT2]
  have HT : Hid (T1 = z + 2 * (n : Int) ∧ T2 = T1 + (m : Int)) := ⟨hT1, hT2⟩
  have hb1 : 0 ≤ T1 ∧ T1 ≤ 1000000000000 ∧ ¬ T1 < 0 ∧ ¬ T2 < 0 := by omega
  have hb2 := hb1.2.2.1
  have hb3 := hb1.2.2.2
  clear hT1 hT2
  obtain ⟨U, hU⟩ : ∃ U, U = w.alloc (.cells #[.int .i64 C, .slice a n c, .slice b m d] 30) := ⟨_, rfl⟩
  have HU : Hid (Below w.heap.size w U ∧ U.heap[w.heap.size]? = some (.cells #[.int .i64 C, .slice a n c, .slice b m d] 30) ∧ U.ownsRow B 57 2 (.slice a n c) n (mkV z (n * 2)) ∧ U.ownsRow B 2 1 (.slice b m d) m (mkV T1 m)) := by
    have hb : Below w.heap.size w U := by rw [hU]; (repeat' (first | (with_reducible exact Below.refl _ _) | (with_reducible assumption) | (with_reducible refine Below.setCell ?_ ?_ _) | (with_reducible refine Below.alloc ?_ ?_ _) | (with_reducible refine below_drewN ?_ _) | (with_reducible refine Below.drew ?_) | (with_reducible exact Nat.le_refl _) | omega | (simp; done) | (simp; omega)))
    refine ⟨hb, by rw [hU]; exact heap_alloc_new w _, ownsRow_keep H.out.1 fun g hg => hb.block g (World.ownsRow.lt H.out.1 g hg).2, ?_⟩
    rw [HT.out.1]
    exact ownsRow_keep H.out.2 fun g hg => hb.block g (World.ownsRow.lt H.out.2 g hg).2
  go_enter Try.func17, Try.ntmps17
  go_wp2_with (fail)
  rw [← hU]
  clear hU
  refine (heldLineS_to z hn.1 hz0 (by omega) HU.out.2.2.1).mono ?_
  rintro e w1 ⟨rfl, hw1⟩
  subst w1
  rw [← HT.out.1]
  obtain ⟨p0, p1, p2, pf, pl⟩ := cr_three HU.out.2.1
  clear pf
  go_wp2_with (fail)
  refine (heldInt64S_to T1 hn.2 hb1.1 hb1.2.1 HU.out.2.2.2).mono ?_
  rintro e w2 ⟨rfl, hw2⟩
  subst w2
  rw [← HT.out.2]
  go_wp2
  go_returns
  exact ⟨rfl, HU.out.1⟩

end Go.Proofs.Ytfjcebgknpccbab
