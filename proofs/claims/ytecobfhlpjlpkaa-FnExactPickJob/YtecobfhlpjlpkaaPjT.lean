/- Proved here: l22Rule and PickJob of the model: pjC, pjV. -/
import Derived.Test.YtecobfhlpjlpkaaPjS
namespace Go.Proofs.Ytecobfhlpjlpkaa
open Go.RowKit
set_option linter.unusedVariables false
set_option linter.unusedSimpArgs false


def lrC (s : List Jb) (rule : Int) : Int := if jbF s ≠ 0 then jbF s else if ¬ (1 ≤ rule ∧ rule ≤ 4) then 1 else 0
set_option maxRecDepth 10000 in
set_option maxHeartbeats 3200000 in
theorem spec_lr (rule : Int) {W : World} {a : Option Addr} {c : Nat} {s : List Jb} (hn : s.length ≤ 1048576) (hc : s.length ≤ c) (hs : RG 7 jbC W (.slice a s.length c) s) :
    Calls Try.prog 42 #[.slice a s.length c, .int .i64 rule] W fun e w' => e = .returned (.int .i64 (lrC s rule)) ∧ Below W.heap.size W w' := by
  obtain ⟨J, hJ⟩ : ∃ J, J = jbF s := ⟨_, rfl⟩
  obtain ⟨n, hnn⟩ : ∃ n, n = s.length := ⟨_, rfl⟩
  obtain ⟨q1, hq1⟩ : ∃ q, q = decide (1 ≤ rule ∧ rule ≤ 4) := ⟨_, rfl⟩
  obtain ⟨C, hC⟩ : ∃ C, C = lrC s rule := ⟨_, rfl⟩
  have HC : Hid (C = if J ≠ 0 then J else if q1 = false then 1 else 0) := by
    unfold Hid; rw [hC, lrC, ← hJ, hq1]; simp only [decide_eq_false_iff_not]
  have HJ : Hid (Calls Try.prog 10 #[.slice a n c] W fun e w' => e = .returned (.int .i64 J) ∧ Below W.heap.size W w') := by rw [hJ, hnn]; exact spec_jf hn hc hs
  have HI1 : Hid (∀ X, Calls Try.prog 32 #[.int .i64 rule, .int .i64 1, .int .i64 4] X fun e w' => e = .returned (.bool q1) ∧ w' = X) := fun X => spec_ins rule 1 4 q1 hq1 X
  rw [← hC, ← hnn]
  clear hJ hnn hq1 hC hs hn hc
  go_enter Try.func42, Try.ntmps42
  go_wp2_with (fail)
  refine HJ.out.mono ?_
  rintro e w1 ⟨rfl, hb⟩
  clear HJ
  by_cases hJ0 : J = 0
  case neg =>
    have HE : Hid (C = J) := by unfold Hid; rw [HC.out, if_pos hJ0]
    have h1 : (J != 0) = true := by simpa using hJ0
    clear HC
    go_wp2
    go_returns
    exact ⟨by rw [HE.out]; rfl, hb⟩
  subst hJ0
  go_wp2_with (fail)
  refine (HI1.out _).mono ?_
  rintro e w2 ⟨rfl, hw⟩
  subst w2
  cases q1
  · have HE : Hid (C = 1) := by unfold Hid; rw [HC.out]; rfl
    clear HC
    go_wp2
    go_returns
    exact ⟨by rw [HE.out]; rfl, hb⟩
  have HE : Hid (C = 0) := by unfold Hid; rw [HC.out]; rfl
  clear HC
  go_wp2
  go_returns
  exact ⟨by rw [HE.out]; rfl, hb⟩
set_option maxRecDepth 10000 in
set_option maxHeartbeats 6400000 in
theorem spec_pj (rule now : Int) {W : World} {a : Option Addr} {c : Nat} {s : List Jb} (hn : s.length ≤ 1048576) (hc : s.length ≤ c) (hs : RG 7 jbC W (.slice a s.length c) s) :
    Calls Try.prog 21 #[.slice a s.length c, .int .i64 rule, .int .i64 now] W fun e w' => e = .returned (.agg #[.int .i64 (pjC s rule now), .int .i64 (pjV s rule now)]) ∧ Below W.heap.size W w' := by
  obtain ⟨Z, hZ⟩ : ∃ Z, Z = W.alloc (.cells #[.int .i64 0, .int .i64 0] 31) := ⟨_, rfl⟩
  obtain ⟨n, hnn⟩ : ∃ n, n = s.length := ⟨_, rfl⟩
  have HZ : Hid (Below W.heap.size W Z ∧ Z.heap[W.heap.size]? = some (.cells #[.int .i64 0, .int .i64 0] 31)) := by rw [hZ]; exact ⟨by (repeat' (first | (with_reducible exact Below.refl _ _) | (with_reducible assumption) | (with_reducible refine Below.setCell ?_ ?_ _) | (with_reducible refine Below.alloc ?_ ?_ _) | (with_reducible refine below_drewN ?_ _) | (with_reducible refine Below.drew ?_) | (with_reducible exact Nat.le_refl _) | omega | (simp; done) | (simp; omega))), heap_alloc_new _ _⟩
  obtain ⟨P, hP⟩ : ∃ P, P = lrC s rule := ⟨_, rfl⟩
  obtain ⟨q2, hq2⟩ : ∃ q, q = decide (0 ≤ now ∧ now ≤ 1000000000) := ⟨_, rfl⟩
  obtain ⟨C, hC⟩ : ∃ C, C = pjC s rule now := ⟨_, rfl⟩
  obtain ⟨V, hV⟩ : ∃ V, V = pjV s rule now := ⟨_, rfl⟩
  have HP : Hid (Calls Try.prog 42 #[.slice a n c, .int .i64 rule] Z fun e w' => e = .returned (.int .i64 P) ∧ Below Z.heap.size Z w') := by rw [hP, hnn]; exact spec_lr rule hn hc (hs.below HZ.out.1)
  have HI2 : Hid (∀ X, Calls Try.prog 32 #[.int .i64 now, .int .i64 0, .int .i64 1000000000] X fun e w' => e = .returned (.bool q2) ∧ w' = X) := fun X => spec_ins now 0 1000000000 q2 hq2 X
  have hpf : pfC s rule now = if P ≠ 0 then P else if q2 = false then 3 else 0 := by
    rw [hP, hq2, lrC, pfC]
    simp only [decide_eq_false_iff_not]
    by_cases h1 : jbF s ≠ 0
    · rw [if_pos h1, if_pos h1, if_pos h1]
    · rw [if_neg h1, if_neg h1]
      by_cases h2 : 1 ≤ rule ∧ rule ≤ 4
      · have e : (if ¬ (1 ≤ rule ∧ rule ≤ 4) then (1 : Int) else 0) = 0 := if_neg (fun e => e h2)
        rw [e, if_neg (fun e => e h2), if_neg (show ¬ ((0 : Int) ≠ 0) from fun e => e rfl)]
      · have e : (if ¬ (1 ≤ rule ∧ rule ≤ 4) then (1 : Int) else 0) = 1 := if_pos h2
        rw [e, if_pos h2, if_pos (show (1 : Int) ≠ 0 by decide)]
  have HPZ : Hid (P = 0 → jbF s = 0 ∧ 1 ≤ rule ∧ rule ≤ 4) := fun h => by
    rw [hP, lrC] at h
    by_cases h1 : jbF s = 0
    · rw [if_neg (fun e => e h1)] at h
      by_cases h2 : 1 ≤ rule ∧ rule ≤ 4
      · exact ⟨h1, h2⟩
      · rw [if_pos h2] at h; cases h
    · rw [if_pos h1] at h; exact absurd h h1
  have HS : Hid (RG 7 jbC W (.slice a n c) s ∧ n = s.length ∧ C = pjC s rule now ∧ V = pjV s rule now ∧ pfC s rule now = if P ≠ 0 then P else if q2 = false then 3 else 0) := ⟨by rw [hnn]; exact hs, hnn, hC, hV, hpf⟩
  rw [← hC, ← hV, ← hnn]
  clear hP hC hV hnn hs hn hc hpf hq2
  go_enter Try.func21, Try.ntmps21
  go_wp2_with (fail)
  rw [← hZ]
  clear hZ
  refine HP.out.mono ?_
  rintro e w1 ⟨rfl, hb1⟩
  have HW : Hid (Below W.heap.size W w1 ∧ w1.heap[W.heap.size]? = some (.cells #[.int .i64 0, .int .i64 0] 31)) := ⟨HZ.out.1.trans (hb1.mono HZ.out.1.size), (hb1.block _ (ltOfQ HZ.out.2)).trans HZ.out.2⟩
  clear hb1 HZ HP
  have z0 : w1.cell? ⟨W.heap.size, 0, none⟩ = some (.int .i64 0) := cellOfQ HW.out.2 0 rfl
  have z1 : w1.cell? ⟨W.heap.size, 1, none⟩ = some (.int .i64 0) := cellOfQ HW.out.2 1 rfl
  have zl := ltOfQ HW.out.2
  have f0 := frozOfQ HW.out.2 0
  have f1 := frozOfQ HW.out.2 1
  by_cases hP0 : P = 0
  case neg =>
    have h1 : (P != 0) = true := by simpa using hP0
    have HE : Hid (C = P ∧ V = 0) := by
      have e := HS.out.2.2.2.2
      rw [if_pos hP0] at e
      exact ⟨by rw [HS.out.2.2.1, pjC, e, if_pos hP0], by rw [HS.out.2.2.2.1, pjV, e, if_pos hP0]⟩
    have HB : Hid (Below W.heap.size W w1) := HW.out.1
    clear HS HW HPZ
    go_wp2
    try simp only [Exit.inBlock, Exit.then]
    refine bodyPost_ret (by simp [results, Try.results21, go_sem, z0, z1, zl, f0, f1]; try rfl) rfl ⟨by rw [HE.out.1, HE.out.2], ?_⟩
    have hb := HB.out
    {{(repeat' (first | (with_reducible exact Below.refl _ _) | (with_reducible assumption) | (with_reducible refine Below.setCell ?_ ?_ _) | (with_reducible refine Below.alloc ?_ ?_ _) | (with_reducible refine below_drewN ?_ _) | (with_reducible refine Below.drew ?_) | (with_reducible exact Nat.le_refl _) | omega | (simp; done) | (simp; omega)))}}
  obtain ⟨hj0, hr0⟩ := HPZ.out hP0
  have hok := jbF_ok hj0
  have hn30 : n ≤ 30 := by rw [HS.out.2.1]; exact hok.len
  subst hP0
  clear HPZ
  go_wp2_with (fail)
  refine (HI2.out _).mono ?_
  rintro e w2 ⟨rfl, hw⟩
  subst w2
  clear HI2
  cases q2
  · have HE : Hid (C = 3 ∧ V = 0) := by
      have e := HS.out.2.2.2.2
      rw [if_neg (fun e => e rfl), if_pos rfl] at e
      exact ⟨by rw [HS.out.2.2.1, pjC, e]; rfl, by rw [HS.out.2.2.2.1, pjV, e]; rfl⟩
    have HB : Hid (Below W.heap.size W w1) := HW.out.1
    clear HS HW
    go_wp2
    try simp only [Exit.inBlock, Exit.then]
    refine bodyPost_ret (by simp [results, Try.results21, go_sem, z0, z1, zl, f0, f1]; try rfl) rfl ⟨by rw [HE.out.1, HE.out.2], ?_⟩
    have hb := HB.out
    {{(repeat' (first | (with_reducible exact Below.refl _ _) | (with_reducible assumption) | (with_reducible refine Below.setCell ?_ ?_ _) | (with_reducible refine Below.alloc ?_ ?_ _) | (with_reducible refine below_drewN ?_ _) | (with_reducible refine Below.drew ?_) | (with_reducible exact Nat.le_refl _) | omega | (simp; done) | (simp; omega)))}}
  have HPK : Hid (Calls Try.prog 43 #[.slice a n c, .int .i64 rule, .int .i64 now] w1 fun e w' => e = .returned (.int .i64 (obK (bst (orC rule now) now s s.length))) ∧ Below w1.heap.size w1 w') := spec_pick rule now hr0 (by have := HS.out.2.1; omega) (HS.out.1.below HW.out.1)
  obtain ⟨B, hB⟩ : ∃ B, B = bst (orC rule now) now s s.length := ⟨_, rfl⟩
  rw [← hB] at HPK
  have HE0 : Hid (C = (if B.isSome = true then 0 else 4) ∧ V = obI s B) := by
    have e := HS.out.2.2.2.2
    have e2 : pfC s rule now = 0 := e
    refine ⟨?_, ?_⟩
    · rw [HS.out.2.2.1, pjC, if_neg (fun h => h e2), hB]
    · rw [HS.out.2.2.2.1, pjV, if_neg (fun h => h e2), hB]
  cases B with
  | none =>
    have HE : Hid (C = 4 ∧ V = 0) := HE0.out
    have hob : obK none = -1 := rfl
    rw [hob] at HPK
    clear HE0 HS hB hob
    go_wp2_with (fail)
    refine HPK.out.mono ?_
    rintro e w3 ⟨rfl, hb3⟩
    have HW3 : Hid (Below W.heap.size W w3 ∧ w3.heap[W.heap.size]? = some (.cells #[.int .i64 0, .int .i64 0] 31)) := ⟨HW.out.1.trans (hb3.mono HW.out.1.size), (hb3.block _ (ltOfQ HW.out.2)).trans HW.out.2⟩
    clear HPK HW hb3 z0 z1 zl f0 f1
    have z0 : w3.cell? ⟨W.heap.size, 0, none⟩ = some (.int .i64 0) := cellOfQ HW3.out.2 0 rfl
    have z1 : w3.cell? ⟨W.heap.size, 1, none⟩ = some (.int .i64 0) := cellOfQ HW3.out.2 1 rfl
    have zl := ltOfQ HW3.out.2
    have f0 := frozOfQ HW3.out.2 0
    have f1 := frozOfQ HW3.out.2 1
    have HB : Hid (Below W.heap.size W w3) := HW3.out.1
    clear HW3
    go_wp2
    try simp only [Exit.inBlock, Exit.then]
    refine bodyPost_ret (by simp [results, Try.results21, go_sem, z0, z1, zl, f0, f1]; try rfl) rfl ⟨by rw [HE.out.1, HE.out.2], ?_⟩
    have hb := HB.out
    {{(repeat' (first | (with_reducible exact Below.refl _ _) | (with_reducible assumption) | (with_reducible refine Below.setCell ?_ ?_ _) | (with_reducible refine Below.alloc ?_ ?_ _) | (with_reducible refine below_drewN ?_ _) | (with_reducible refine Below.drew ?_) | (with_reducible exact Nat.le_refl _) | omega | (simp; done) | (simp; omega)))}}
  | some b =>
    have HE : Hid (C = 0 ∧ V = (jA s b).id) := HE0.out
    have hob : obK (some b) = (b : Int) := rfl
    rw [hob] at HPK
    have hbl := (bst_lt _ _ _ _ _ hB.symm).1
    have hbn : b < n := by have := HS.out.2.1; omega
    clear HE0 hB hob
    go_wp2_with (fail)
    refine HPK.out.mono ?_
    rintro e w3 ⟨rfl, hb3⟩
    have HW3 : Hid (Below W.heap.size W w3 ∧ w3.heap[W.heap.size]? = some (.cells #[.int .i64 0, .int .i64 0] 31)) := ⟨HW.out.1.trans (hb3.mono HW.out.1.size), (hb3.block _ (ltOfQ HW.out.2)).trans HW.out.2⟩
    clear HPK HW hb3 z0 z1 zl f0 f1
    obtain ⟨g, o, c9, he, hg, hj⟩ := (HS.out.1.below HW3.out.1).pos (by omega)
    simp only [Value.slice.injEq] at he
    obtain ⟨rfl, hx1, hx2⟩ := he
    clear hx1 hx2
    obtain ⟨c0, c1, c2, c3, c4, c5, c6⟩ := jbC_at (hj b hbl)
    rw [← jA_at hbl] at c0
    obtain ⟨y, hy⟩ : ∃ y, y = (jA s b).id := ⟨_, rfl⟩
    rw [← hy] at c0 HE
    clear c1 c2 c3 c4 c5 c6 hj hy
    have b0 : ¬ (b : Int) < 0 := by omega
    have b1 : (0 : Int) ≤ (b : Int) := by omega
    have b2 : (b : Int) < (n : Int) := by omega
    have hgn : g ≠ W.heap.size ∨ True := Or.inr trivial
    have z0 : w3.cell? ⟨W.heap.size, 0, none⟩ = some (.int .i64 0) := cellOfQ HW3.out.2 0 rfl
    have z1 : w3.cell? ⟨W.heap.size, 1, none⟩ = some (.int .i64 0) := cellOfQ HW3.out.2 1 rfl
    have zl := ltOfQ HW3.out.2
    have f0 := frozOfQ HW3.out.2 0
    have f1 := frozOfQ HW3.out.2 1
    have HB : Hid (Below W.heap.size W w3) := HW3.out.1
    clear HW3 HS
    go_wp2
    try simp only [Exit.inBlock, Exit.then]
    refine bodyPost_ret (by simp [results, Try.results21, go_sem, z0, z1, zl, f0, f1]; try rfl) rfl ⟨by rw [HE.out.1, HE.out.2], ?_⟩
    have hb := HB.out
    {{(repeat' (first | (with_reducible exact Below.refl _ _) | (with_reducible assumption) | (with_reducible refine Below.setCell ?_ ?_ _) | (with_reducible refine Below.alloc ?_ ?_ _) | (with_reducible refine below_drewN ?_ _) | (with_reducible refine Below.drew ?_) | (with_reducible exact Nat.le_refl _) | omega | (simp; done) | (simp; omega)))}}

end Go.Proofs.Ytecobfhlpjlpkaa
