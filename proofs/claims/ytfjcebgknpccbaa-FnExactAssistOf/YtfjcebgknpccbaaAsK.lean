/- Proved here: AssistOf of the program. -/
import Derived.Test.YtfjcebgknpccbaaAsJ
namespace Go.Proofs.Ytfjcebgknpccbaa
open Go.RowKit
set_option linter.unusedVariables false
set_option linter.unusedSimpArgs false

def inGW (gap width : Int) : Prop := (1 ≤ gap ∧ gap ≤ 60) ∧ 1 ≤ width ∧ width ≤ 60
def aoF (ls : List Ln) (len gap width : Int) : Int := if lnF ls len = 0 then (if (1 ≤ gap ∧ gap ≤ 60) ∧ 1 ≤ width ∧ width ≤ 60 then laC (mgK gap width ls ls.length) else 3) else lnF ls len
def aoL (ls : List Ln) (len gap width : Int) : List Ln := if lnF ls len = 0 ∧ (1 ≤ gap ∧ gap ≤ 60) ∧ 1 ≤ width ∧ width ≤ 60 then laL (mgK gap width ls ls.length) else []
theorem aoL_len (ls : List Ln) (len gap width : Int) : (aoL ls len gap width).length ≤ 12 := by
  unfold aoL
  split
  · exact laL_len _
  · simp

set_option maxRecDepth 10000 in
set_option maxHeartbeats 12800000 in
theorem impl_ao (len gap width : Int) {w : World} {v : Value} {ls : List Ln} (hn : ls.length ≤ 1048576) (h : RG 2 lnC w v ls) :
    Calls Try.prog 35 #[v, .int .i64 len, .int .i64 gap, .int .i64 width] w fun e w' => ∃ r, e = .returned (.agg #[.int .i64 (aoF ls len gap width), r]) ∧ OG 60 2 lnC w' w.heap.size r (aoL ls len gap width) ∧ Below w.heap.size w w' := by
  obtain ⟨a, c, rfl⟩ := h.form
  obtain ⟨n, hnn⟩ : ∃ n, n = ls.length := ⟨_, rfl⟩
  rw [← hnn] at h ⊢
  obtain ⟨C, hC⟩ : ∃ C, C = lnF ls len := ⟨_, rfl⟩
  obtain ⟨CC, hCC⟩ : ∃ C, C = aoF ls len gap width := ⟨_, rfl⟩
  obtain ⟨LL, hLL⟩ : ∃ C, C = aoL ls len gap width := ⟨_, rfl⟩
  obtain ⟨p, hp⟩ : ∃ r, r = decide (1 ≤ gap ∧ gap ≤ 60) := ⟨_, rfl⟩
  obtain ⟨q, hq⟩ : ∃ r, r = decide (1 ≤ width ∧ width ≤ 60) := ⟨_, rfl⟩
  rw [← hCC, ← hLL]
  have H : Hid (RG 2 lnC w (.slice a n c) ls ∧ n = ls.length ∧ C = lnF ls len ∧ CC = aoF ls len gap width ∧ LL = aoL ls len gap width ∧ p = decide (1 ≤ gap ∧ gap ≤ 60) ∧ q = decide (1 ≤ width ∧ width ≤ 60)) := ⟨h, hnn, hC, hCC, hLL, hp, hq⟩
  have HL : Hid (∀ W, Below w.heap.size w W → Calls Try.prog 12 #[.slice a n c, .int .i64 len] W fun e w' => e = .returned (.int .i64 C) ∧ Below W.heap.size W w') := fun W hW => by rw [hC]; exact impl_lf len hn (h.below hW)
  have HP : Hid (∀ W, Calls Try.prog 38 #[.int .i64 gap, .int .i64 1, .int .i64 60] W fun e w' => e = .returned (.bool p) ∧ w' = W) := impl_ins gap 1 60 p hp
  have HQ : Hid (∀ W, Calls Try.prog 38 #[.int .i64 width, .int .i64 1, .int .i64 60] W fun e w' => e = .returned (.bool q) ∧ w' = W) := impl_ins width 1 60 q hq
  clear h hn hC hCC hLL hp hq hnn
  go_enter Try.func35, Try.ntmps35
  go_wp2_with (fail)
  refine (HL.out _ (by (repeat' (first | (with_reducible exact Below.refl _ _) | (with_reducible assumption) | (with_reducible refine Below.setCell ?_ ?_ _) | (with_reducible refine Below.alloc ?_ ?_ _) | (with_reducible refine below_drewN ?_ _) | (with_reducible refine Below.drew ?_) | (with_reducible exact Nat.le_refl _) | omega | (simp; done) | (simp; omega))))).mono ?_
  rintro e w1 ⟨rfl, hb1⟩
  have k1 := (hb1.block w.heap.size (by simp)).trans (heap_alloc_new w _)
  have HB : Hid (Below w.heap.size w w1 ∧ w1.heap[w.heap.size]? = some (.cells #[.int .i64 0, .slice none 0 0] 47)) := ⟨(show Below w.heap.size w _ from by (repeat' (first | (with_reducible exact Below.refl _ _) | (with_reducible assumption) | (with_reducible refine Below.setCell ?_ ?_ _) | (with_reducible refine Below.alloc ?_ ?_ _) | (with_reducible refine below_drewN ?_ _) | (with_reducible refine Below.drew ?_) | (with_reducible exact Nat.le_refl _) | omega | (simp; done) | (simp; omega)))).trans (hb1.mono (by simp)), k1⟩
  obtain ⟨q0, q1, qf, ql⟩ := kn_two k1
  have qf0 := qf 0
  have qf1 := qf 1
  clear hb1 k1 qf
  by_cases hC0 : C = 0
  case neg =>
    have hC1 : (C != 0) = true := by simpa using hC0
    have HN : Hid (CC = C ∧ LL = []) := by
      refine ⟨?_, ?_⟩
      · rw [H.out.2.2.2.1, aoF, ← H.out.2.2.1, if_neg hC0]
      · rw [H.out.2.2.2.2.1, aoL, ← H.out.2.2.1, if_neg (fun h => hC0 h.1)]
    go_wp2
    try simp only [Exit.inBlock, Exit.then]
    refine bodyPost_ret (by simp [results, Try.results35, go_sem, q0, q1]; try rfl) rfl ⟨_, by rw [HN.out.1], ?_, ?_⟩
    · rw [HN.out.2]; exact World.ownsRow_nil _ _ _ _
    · have hB := HB.out.1
      (repeat' (first | (with_reducible exact Below.refl _ _) | (with_reducible assumption) | (with_reducible refine Below.setCell ?_ ?_ _) | (with_reducible refine Below.alloc ?_ ?_ _) | (with_reducible refine below_drewN ?_ _) | (with_reducible refine Below.drew ?_) | (with_reducible exact Nat.le_refl _) | omega | (simp; done) | (simp; omega)))
  have HC0 : Hid (lnF ls len = 0) := H.out.2.2.1.symm.trans hC0
  subst hC0
  go_wp2_with (fail)
  refine (HP.out _).mono ?_
  rintro e w2 ⟨rfl, hw2⟩
  subst w2
  cases p with
  | false =>
    have HN : Hid (CC = 3 ∧ LL = []) := by
      have hno : ¬ ((1 ≤ gap ∧ gap ≤ 60) ∧ 1 ≤ width ∧ width ≤ 60) := fun hh => (of_decide_eq_false H.out.2.2.2.2.2.1.symm) hh.1
      refine ⟨?_, ?_⟩
      · rw [H.out.2.2.2.1, aoF, if_pos HC0.out, if_neg hno]
      · rw [H.out.2.2.2.2.1, aoL, if_neg (fun h => hno h.2)]
    go_wp2
    try simp only [Exit.inBlock, Exit.then]
    refine bodyPost_ret (by simp [results, Try.results35, go_sem, q0, q1]; try rfl) rfl ⟨_, by rw [HN.out.1], ?_, ?_⟩
    · rw [HN.out.2]; exact World.ownsRow_nil _ _ _ _
    · have hB := HB.out.1
      (repeat' (first | (with_reducible exact Below.refl _ _) | (with_reducible assumption) | (with_reducible refine Below.setCell ?_ ?_ _) | (with_reducible refine Below.alloc ?_ ?_ _) | (with_reducible refine below_drewN ?_ _) | (with_reducible refine Below.drew ?_) | (with_reducible exact Nat.le_refl _) | omega | (simp; done) | (simp; omega)))
  | true =>
  go_wp2_with (fail)
  refine (HQ.out _).mono ?_
  rintro e w2 ⟨rfl, hw2⟩
  subst w2
  cases q with
  | false =>
    have HN : Hid (CC = 3 ∧ LL = []) := by
      have hno : ¬ ((1 ≤ gap ∧ gap ≤ 60) ∧ 1 ≤ width ∧ width ≤ 60) := fun hh => (of_decide_eq_false H.out.2.2.2.2.2.2.symm) hh.2
      refine ⟨?_, ?_⟩
      · rw [H.out.2.2.2.1, aoF, if_pos HC0.out, if_neg hno]
      · rw [H.out.2.2.2.2.1, aoL, if_neg (fun h => hno h.2)]
    go_wp2
    try simp only [Exit.inBlock, Exit.then]
    refine bodyPost_ret (by simp [results, Try.results35, go_sem, q0, q1]; try rfl) rfl ⟨_, by rw [HN.out.1], ?_, ?_⟩
    · rw [HN.out.2]; exact World.ownsRow_nil _ _ _ _
    · have hB := HB.out.1
      (repeat' (first | (with_reducible exact Below.refl _ _) | (with_reducible assumption) | (with_reducible refine Below.setCell ?_ ?_ _) | (with_reducible refine Below.alloc ?_ ?_ _) | (with_reducible refine below_drewN ?_ _) | (with_reducible refine Below.drew ?_) | (with_reducible exact Nat.le_refl _) | omega | (simp; done) | (simp; omega)))
  | true =>
  have hgw : (1 ≤ gap ∧ gap ≤ 60) ∧ 1 ≤ width ∧ width ≤ 60 := ⟨of_decide_eq_true H.out.2.2.2.2.2.1.symm, of_decide_eq_true H.out.2.2.2.2.2.2.symm⟩
  have hgood := lnF_good HC0.out
  obtain ⟨M, hM⟩ : ∃ M, M = mgK gap width ls ls.length := ⟨_, rfl⟩
  obtain ⟨A, hA⟩ : ∃ A, A = asK gap width ls ls.length := ⟨_, rfl⟩
  have HV : Hid (CC = laC M ∧ LL = laL M ∧ (flL ls ++ flL A).mergeSort (fun x y => decide (x ≤ y)) = flL M ∧ ls.length ≤ 12 ∧ A.length ≤ 12 ∧ M.length ≤ 24) := by
    refine ⟨?_, ?_, ?_, hgood.2.2.1, ?_, ?_⟩
    · rw [H.out.2.2.2.1, aoF, if_pos HC0.out, if_pos hgw, hM]
    · rw [H.out.2.2.2.2.1, aoL, if_pos ⟨HC0.out, hgw⟩, hM]
    · rw [hA, hM]; exact mg_sort hgw.2.1 hgood.2.2.2
    · rw [hA]; have := asK_len gap width ls ls.length; omega
    · rw [hM]; have := mgK_len gap width ls ls.length; omega
  have HE : Hid (∀ W, Below w.heap.size w W → Calls Try.prog 56 #[.slice a n c] W fun e w' => ∃ g n c, e = .returned (.slice (some ⟨g, 0, none⟩) n c) ∧ IS w' W.heap.size (.slice (some ⟨g, 0, none⟩) n c) (flL ls) ∧ Below W.heap.size W w') := fun W hW => impl_eo (by omega) (H.out.1.below hW)
  have HA : Hid (∀ W, Below w.heap.size w W → Calls Try.prog 57 #[.slice a n c, .int .i64 gap, .int .i64 width] W fun e w' => ∃ r, e = .returned r ∧ OG 60 2 lnC w' W.heap.size r A ∧ Below W.heap.size W w') := fun W hW => by
    rw [hA]
    exact impl_as gap width hgw.1 hgw.2 (by omega) (fun l hl => by have := rise_in ls (-1) (by omega) hgood.2.2.2 l hl; omega) (H.out.1.below hW)
  clear hgw hgood hM hA
  go_wp2_with (fail)
  refine (HE.out _ HB.out.1).mono ?_
  rintro e w2 ⟨g0, n0, c0, rfl, hi2, hb2⟩
  have hB2 : Below w.heap.size w w2 := HB.out.1.trans (hb2.mono HB.out.1.size)
  go_wp2_with (fail)
  refine (HA.out _ hB2).mono ?_
  rintro e w3 ⟨r3, rfl, ho3, hb3⟩
  have hB3 : Below w.heap.size w w3 := hB2.trans (hb3.mono hB2.size)
  obtain ⟨ra, rc, hrf⟩ := (OG.rg lnC_len ho3).form
  subst hrf
  go_wp2_with (fail)
  refine (impl_eo (by have := HV.out.2.2.2.2.1; omega) (OG.rg lnC_len ho3)).mono ?_
  rintro e w4 ⟨g1, n1, c1, rfl, hi4, hb4⟩
  have hB4 : Below w.heap.size w w4 := hB3.trans (hb4.mono hB3.size)
  have hi2' : IS w4 w1.heap.size (.slice (some ⟨g0, 0, none⟩) n0 c0) (flL ls) := (hi2.bel hb3).bel hb4
  have hi4' : IS w4 w1.heap.size (.slice (some ⟨g1, 0, none⟩) n1 c1) (flL A) := hi4.low (Nat.le_trans hb2.size hb3.size)
  have hn0 : n0 = (flL ls).length := by obtain ⟨_, _, e⟩ := hi2'.form; injection e
  have hn1 : n1 = (flL A).length := by obtain ⟨_, _, e⟩ := hi4'.form; injection e
  rw [flL_len] at hn0 hn1
  obtain ⟨W5, hW5⟩ : ∃ W, W = w4.alloc (.cells #[.slice (some ⟨g0, 0, none⟩) n0 c0, .slice (some ⟨g1, 0, none⟩) n1 c1] 29) := ⟨_, rfl⟩
  have hb5 : Below w4.heap.size w4 W5 := by rw [hW5]; (repeat' (first | (with_reducible exact Below.refl _ _) | (with_reducible assumption) | (with_reducible refine Below.setCell ?_ ?_ _) | (with_reducible refine Below.alloc ?_ ?_ _) | (with_reducible refine below_drewN ?_ _) | (with_reducible refine Below.drew ?_) | (with_reducible exact Nat.le_refl _) | omega | (simp; done) | (simp; omega)))
  have HO : Hid (Calls Try.prog 55 #[.slice (some ⟨w4.heap.size, 0, none⟩) 2 2] W5 fun e w' => ∃ r, e = .returned r ∧ IS w' W5.heap.size r (flL M) ∧ Below W5.heap.size W5 w') := by
    have hk : W5.heap[w4.heap.size]? = some (.cells #[.slice (some ⟨g0, 0, none⟩) n0 c0, .slice (some ⟨g1, 0, none⟩) n1 c1] 29) := by rw [hW5]; exact heap_alloc_new _ _
    have := impl_ord (kn_two hk).1 (kn_two hk).2.1 (kn_two hk).2.2.2 (hi2'.bel hb5) (hi4'.bel hb5) (by have := HV.out.2.2.2.1; omega) (by have := HV.out.2.2.2.2.1; omega)
    rw [HV.out.2.2.1] at this
    exact this
  have HB5 : Hid (Below w.heap.size w W5 ∧ Below w1.heap.size w1 W5) := ⟨hB4.trans (hb5.mono hB4.size), ((hb2.trans (hb3.mono hb2.size)).trans (hb4.mono (Nat.le_trans hb2.size hb3.size))).trans (hb5.mono (Nat.le_trans hb2.size (Nat.le_trans hb3.size hb4.size)))⟩
  clear hi2 hb2 hB2 ho3 hb3 hB3 hi4 hb4 hB4 hi2' hi4' hn0 hn1 hb5
  go_wp2_with (fail)
  rw [← hW5]
  clear hW5
  refine HO.out.mono ?_
  rintro e w6 ⟨r6, rfl, hi6, hb6⟩
  obtain ⟨sa, sc, hsf⟩ := hi6.form
  obtain ⟨m6, hm6⟩ : ∃ m, m = (flL M).length := ⟨_, rfl⟩
  rw [← hm6] at hsf
  subst hsf
  have HLA : Hid (Calls Try.prog 49 #[.slice sa m6 sc] w6 fun e w' => ∃ r, e = .returned (.agg #[.int .i64 CC, r]) ∧ OG 60 2 lnC w' w6.heap.size r LL ∧ Below w6.heap.size w6 w') := by
    rw [HV.out.1, HV.out.2.1]
    exact impl_la (by have := HV.out.2.2.2.2.2; omega) hi6.rg
  have HB6 : Hid (Below w.heap.size w w6 ∧ Below w1.heap.size w1 w6) := ⟨HB5.out.1.trans (hb6.mono HB5.out.1.size), HB5.out.2.trans (hb6.mono HB5.out.2.size)⟩
  clear hi6 hb6 hm6
  go_wp2_with (fail)
  refine HLA.out.mono ?_
  rintro e w7 ⟨r7, rfl, ho7, hb7⟩
  have hB7 : Below w1.heap.size w1 w7 := HB6.out.2.trans (hb7.mono HB6.out.2.size)
  have k2 := (hB7.block w.heap.size ql).trans HB.out.2
  obtain ⟨va, vc, rfl⟩ := (OG.rg lnC_len ho7).form
  have HR : Hid (OG 60 2 lnC w7 w1.heap.size (.slice va LL.length vc) LL ∧ Below w.heap.size w w7 ∧ w.heap.size < w1.heap.size) := ⟨OG.low ho7 HB6.out.2.size, HB.out.1.trans (hB7.mono HB.out.1.size), ql⟩
  obtain ⟨t0, t1, tf, tl⟩ := kn_two k2
  have tf0 := tf 0
  have tf1 := tf 1
  clear ho7 hb7 hB7 k2 tf q0 q1 qf0 qf1
  go_wp2
  try simp only [Exit.inBlock, Exit.then]
  refine bodyPost_ret (by simp [results, Try.results35, go_sem, t0, t1]; try rfl) rfl ⟨_, rfl, ?_, ?_⟩
  · refine World.ownsRow.kept (row := some w.heap.size) (OG.low HR.out.1 HB.out.1.size) ⟨rfl, rfl, rfl, by simp, fun k hk hne => ?_⟩ (Or.inr fun e => ?_)
    · rw [heap_setCell_other _ _ _ _ (fun e => hne (by rw [e])), heap_setCell_other _ _ _ _ (fun e => hne (by rw [e]))]
    · have := (OG.lt HR.out.1 _ e).1; have := HR.out.2.2; omega
  · have hB := HR.out.2.1
    (repeat' (first | (with_reducible exact Below.refl _ _) | (with_reducible assumption) | (with_reducible refine Below.setCell ?_ ?_ _) | (with_reducible refine Below.alloc ?_ ?_ _) | (with_reducible refine below_drewN ?_ _) | (with_reducible refine Below.drew ?_) | (with_reducible exact Nat.le_refl _) | omega | (simp; done) | (simp; omega)))

end Go.Proofs.Ytfjcebgknpccbaa
