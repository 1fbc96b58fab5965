/- Proved here: l22Find and JobsFault of the model: fdI, jbF. -/
import Derived.Test.YtjbghflphngnkaaIns
import Derived.Test.YtjbghflphngnkaaTkR
import Derived.Test.YtjbghflphngnkaaUnd
import Derived.Test.YtjbghflphngnkaaSoF
import Derived.BigQuiet
namespace Go.Proofs.Ytjbghflphngnkaa
open Go.RowKit
set_option linter.unusedVariables false
set_option linter.unusedSimpArgs false


theorem jbS_cells {w : World} {k : Nat} {j : Jb} (h : w.heap[k]? = some (.cells #[.int .i64 j.id, .int .i64 j.co, .int .i64 j.ti, .int .i64 j.se, .int .i64 j.du, .int .i64 j.we, .int .i64 j.ki] 51)) : w.cell? ⟨k, 0, none⟩ = some (.int .i64 j.id) ∧ w.cell? ⟨k, 1, none⟩ = some (.int .i64 j.co) ∧ w.cell? ⟨k, 2, none⟩ = some (.int .i64 j.ti) ∧ w.cell? ⟨k, 3, none⟩ = some (.int .i64 j.se) ∧ w.cell? ⟨k, 4, none⟩ = some (.int .i64 j.du) ∧ w.cell? ⟨k, 5, none⟩ = some (.int .i64 j.we) ∧ w.cell? ⟨k, 6, none⟩ = some (.int .i64 j.ki) ∧ k < w.heap.size :=
  ⟨cellOfQ h 0 rfl, cellOfQ h 1 rfl, cellOfQ h 2 rfl, cellOfQ h 3 rfl, cellOfQ h 4 rfl, cellOfQ h 5 rfl, cellOfQ h 6 rfl, ltOfQ h⟩
set_option maxRecDepth 10000 in
set_option maxHeartbeats 3200000 in
theorem spec_jfd (s : List Jb) (id : Int) {W : World} {n c : Nat} {a : Option Addr} (hn : n ≤ 2000000) (hs : RG 7 jbC W (.slice a n c) s) :
    Calls Try.prog 73 #[.slice a n c, .int .i64 id] W fun e w' => e = .returned (.int .i64 (fdI (jdA s) id n)) ∧ w' = W := by
  have hml : n = s.length := hs.len
  obtain ⟨G, hG⟩ : ∃ G, G = fdI (jdA s) id n := ⟨_, rfl⟩
  rw [← hG]
  have H : Hid (RG 7 jbC W (.slice a n c) s ∧ n = s.length ∧ G = fdI (jdA s) id n) := ⟨hs, hml, hG⟩
  clear hs hml hG
  go_enter Try.func73, Try.ntmps73
  go_wp2
  go_loopw [5] (fun i wr => ∃ t : Nat, t ≤ n ∧ i = .int .i64 t ∧ Hid (∀ i, i < t → jdA s i ≠ id) ∧ wr = W) (fun i _ => n - (intOf i).toNat)
  case atStart => exact ⟨0, Nat.zero_le _, rfl, fun i hi => by omega, rfl⟩
  case round =>
    obtain ⟨t, ht, rfl, hR, rfl⟩ := hrel
    by_cases hlt : t < n
    · have htl : t < s.length := by rw [← H.out.2.1]; exact hlt
      obtain ⟨g, o, c2, he, hg, hj⟩ := (H.out.1).pos (by omega)
      simp only [Value.slice.injEq] at he
      obtain ⟨rfl, hx1, hx2⟩ := he
      clear hx1 hx2
      obtain ⟨c0, c1, c2, c3, c4, c5, c6⟩ := jbC_at (hj t htl)
      clear c1 c2 c3 c4 c5 c6
      obtain ⟨x, hx⟩ : ∃ x, x = s[t].id := ⟨_, rfl⟩
      rw [← hx] at c0
      have b0 : (0 : Int) ≤ (t : Int) := by omega
      have b1 : (t : Int) < (n : Int) := by omega
      clear hj
      by_cases h1 : x = id
      · have HG : Hid (G = (t : Int)) := by unfold Hid; rw [H.out.2.2]; exact fdI_is hlt (by rw [jdA_at htl, ← hx]; exact h1) hR.out
        subst h1
        clear hx
        go_wp2
        go_returns
        exact ⟨by rw [HG.out]; rfl, rfl⟩
      · have HG : Hid (∀ i, i < t + 1 → jdA s i ≠ id) := fun i hit => by
          rcases (by omega : i < t ∨ i = t) with h | h
          · exact hR.out i h
          · rw [h, jdA_at htl, ← hx]; exact h1
        have h2 : (x == id) = false := beq_eq_false_iff_ne.2 h1
        clear hx hR
        go_wp2
        go_roundw
        case rel => exact ⟨t + 1, by omega, by go_num, HG.out, trivial⟩
        case measure => simp [intOf]; omega
    · have HM : Hid (G = -1) := by
        unfold Hid; rw [H.out.2.2]
        exact fdI_no (fun i hi => hR.out i (by omega))
      go_wp2
      go_returns
      exact ⟨by rw [HM.out]; rfl, rfl⟩

set_option maxRecDepth 10000 in
set_option maxHeartbeats 6400000 in
theorem spec_jf {W : World} {a : Option Addr} {c : Nat} {s : List Jb} (hn : s.length ≤ 1048576) (hc : s.length ≤ c) (hs : RG 7 jbC W (.slice a s.length c) s) :
    Calls Try.prog 50 #[.slice a s.length c] W fun e w' => e = .returned (.int .i64 (jbF s)) ∧ Below W.heap.size W w' := by
  obtain ⟨n, hnn⟩ : ∃ n, n = s.length := ⟨_, rfl⟩
  obtain ⟨D, hD⟩ : ∃ D, D = jbF s := ⟨_, rfl⟩
  rw [← hnn] at hn hs hc ⊢
  rw [← hD]
  by_cases hl : 30 < n
  · have HR : Hid (D = 2) := by unfold Hid; rw [hD, jbF, if_pos (by rw [← hnn]; exact hl)]
    have h1 : (30 : Int) < (n : Int) := by omega
    clear hnn hs hD
    go_enter Try.func50, Try.ntmps50
    go_wp2
    go_returns
    exact ⟨by rw [HR.out]; rfl, Below.refl _ _⟩
  have h1 : ¬ (30 : Int) < (n : Int) := by omega
  have HF : Hid (D = frm (jbK s) 0 (n - 0)) := by unfold Hid; rw [hD, jbF, if_neg (by rw [← hnn]; exact hl), ← hnn]
  have H : Hid (RG 7 jbC W (.slice a n c) s ∧ n = s.length) := ⟨hs, hnn⟩
  have HI : Hid (∀ (x lo hi : Int) (p : Bool), p = decide (lo ≤ x ∧ x ≤ hi) → ∀ X, Calls Try.prog 60 #[.int .i64 x, .int .i64 lo, .int .i64 hi] X fun e w' => e = .returned (.bool p) ∧ w' = X) := fun x lo hi p hp X => spec_ins x lo hi p hp X
  clear hs hnn hD
  go_enter Try.func50, Try.ntmps50
  go_wp2
  go_loopw [3] (fun i wr => ∃ k : Nat, k ≤ n ∧ i = .int .i64 k ∧ Hid (Below W.heap.size W wr ∧ frm (jbK s) k (n - k) = D)) (fun i _ => n - (intOf i).toNat)
  case atStart => exact ⟨0, Nat.zero_le _, rfl, Below.refl _ _, HF.out.symm⟩
  case round =>
    obtain ⟨k, hk, rfl, hR⟩ := hrel
    by_cases hlt : k < n
    · have hkl : k < s.length := by rw [← H.out.2]; exact hlt
      obtain ⟨g, o, c2, he, hg, hj⟩ := (H.out.1.below hR.out.1).pos (by omega)
      simp only [Value.slice.injEq] at he
      obtain ⟨rfl, hx1, hx2⟩ := he
      clear hx1 hx2
      obtain ⟨c0, c1, c2, c3, c4, c5, c6⟩ := jbC_at (hj k hkl)
      have HS : Hid (RG 7 jbC W (.slice (some ⟨g, o, none⟩) k c) (s.take k)) := rg_take H.out.1 hk
      obtain ⟨j, hj2⟩ : ∃ j, j = s[k] := ⟨_, rfl⟩
      rw [← hj2] at c0 c1 c2 c3 c4 c5 c6
      obtain ⟨r, hr⟩ : ∃ r, r = jbK s k := ⟨_, rfl⟩
      obtain ⟨G, hG⟩ : ∃ G, G = fdI (jdA s) j.id k := ⟨_, rfl⟩
      have HFT : Hid (∀ X, Below W.heap.size W X → Calls Try.prog 73 #[.slice (some ⟨g, o, none⟩) k c, .int .i64 j.id] X fun e w' => e = .returned (.int .i64 G) ∧ w' = X) := fun X hb => by
        rw [hG, fdI_congr (fun i hi => (jdA_take hi (by omega)).symm)]
        exact spec_jfd (s.take k) j.id (by omega) (HS.out.below hb)
      have HR0 : Hid (r = j1C (decide (0 ≤ G)) j) := by unfold Hid; rw [hr, jbK_at hkl, hG, ← hj2]
      have HK : Hid ((r ≠ 0 → r = D) ∧ (r = 0 → frm (jbK s) (k + 1) (n - (k + 1)) = D)) := ⟨fun h => by rw [← hR.out.2]; exact (frm_hit hlt hr.symm h).symm, fun h => by rw [← hR.out.2]; exact (frm_miss hlt (hr.symm.trans h)).symm⟩
      have HB : Hid (Below W.heap.size W wr) := hR.out.1
      have b0 : (0 : Int) ≤ (k : Int) := by omega
      have b1 : (k : Int) < (n : Int) := by omega
      have b2 : (k : Int) ≤ (c : Int) := by omega
      clear hj hj2 hr hR HS hG
      go_wp2_with (fail)
      obtain ⟨X, hX⟩ : ∃ X, X = wr.alloc (.cells #[.int .i64 j.id, .int .i64 j.co, .int .i64 j.ti, .int .i64 j.se, .int .i64 j.du, .int .i64 j.we, .int .i64 j.ki] 51) := ⟨_, rfl⟩
      have HX : Hid (Below wr.heap.size wr X ∧ X.heap[wr.heap.size]? = some (.cells #[.int .i64 j.id, .int .i64 j.co, .int .i64 j.ti, .int .i64 j.se, .int .i64 j.du, .int .i64 j.we, .int .i64 j.ki] 51) ∧ Below W.heap.size W X) := by rw [hX]; exact ⟨by (repeat' (first | (with_reducible exact Below.refl _ _) | (with_reducible assumption) | (with_reducible refine Below.setCell ?_ ?_ _) | (with_reducible refine Below.alloc ?_ ?_ _) | (with_reducible refine below_drewN ?_ _) | (with_reducible refine Below.drew ?_) | (with_reducible exact Nat.le_refl _) | omega | (simp; done) | (simp; omega))), heap_alloc_new _ _, HB.out.trans (Below.alloc (Below.refl _ _) HB.out.size _)⟩
      rw [← hX]
      clear hX
      have p0 := (jbS_cells HX.out.2.1).1
      have pl := ltOfQ HX.out.2.1
      have HFU : Hid (∀ Y : Und X.heap.size X, Calls Try.prog 73 #[.slice (some ⟨g, o, none⟩) k c, .int .i64 j.id] Y.W fun e w' => e = .returned (.int .i64 G) ∧ w' = Y.W) := fun Y => HFT.out _ (HX.out.2.2.trans (Y.below.mono HX.out.2.2.size))
      clear HFT
      by_cases hi : j.id < 1
      · have HR : Hid (1 = D) := by have := HK.out.1; have e := HR0.out; rw [j1C, if_pos (Or.inl hi)] at e; rw [e] at this; exact this (by decide)
        have hid : decide (j.id < 1) = true := decide_eq_true hi
        clear HK HR0
        (refine wp_region_und (by kernel_rfl) (by kernel_rfl) (fun hund => ?_); (repeat (go_big_quiet_step (fail))); with_reducible refine wpQuiet_nil ?_; clear hund; intro W1 hb1; obtain ⟨hc1, hf1⟩ := undcell hb1)
        have HB2 : Hid (Below W.heap.size W W1) := HX.out.2.2.trans (hb1.mono HX.out.2.2.size)
        clear hb1 hc1 hf1
        go_wp2
        go_returns
        exact ⟨by rw [← HR.out]; rfl, HB2.out⟩
      have hid : decide (j.id < 1) = false := decide_eq_false hi
      (refine wp_region_und (by kernel_rfl) (by kernel_rfl) (fun hund => ?_); (repeat (go_big_quiet_step (first | (go_at_call 73; with_reducible refine und_call_same (HFU.out _))))); with_reducible refine wpQuiet_nil ?_; clear hund; intro W1 hb1; obtain ⟨hc1, hf1⟩ := undcell hb1)
      have HX2 : Hid (W1.heap[wr.heap.size]? = some (.cells #[.int .i64 j.id, .int .i64 j.co, .int .i64 j.ti, .int .i64 j.se, .int .i64 j.du, .int .i64 j.we, .int .i64 j.ki] 51) ∧ Below W.heap.size W W1) := ⟨(hb1.block _ (ltOfQ HX.out.2.1)).trans HX.out.2.1, HX.out.2.2.trans (hb1.mono HX.out.2.2.size)⟩
      clear hb1 hc1 hf1 HFU HX p0 pl HB c0 c1 c2 c3 c4 c5 c6 hg hid
      by_cases hG0 : 0 ≤ G
      · have HR : Hid (1 = D) := by have := HK.out.1; have e := HR0.out; rw [j1C, if_pos (Or.inr (decide_eq_true hG0))] at e; rw [e] at this; exact this (by decide)
        have hg2 : G ≥ 0 := hG0
        clear HK HR0
        go_wp2
        go_returns
        exact ⟨by rw [← HR.out]; rfl, HX2.out.2⟩
      have hg2 : ¬ (G ≥ 0) := hG0
      have HRJ : Hid (r = if rgJ j then 0 else 3) := by unfold Hid; rw [HR0.out, j1C, if_neg (fun e => by rcases e with e | e; omega; rw [decide_eq_false hG0] at e; cases e)]
      clear HR0
      obtain ⟨p0, p1, p2, p3, p4, p5, p6, pl⟩ := jbS_cells HX2.out.1
      go_wp2_with (fail)
      obtain ⟨q0, hq0⟩ : ∃ q, q = decide (0 ≤ j.co ∧ j.co ≤ 1000000) := ⟨_, rfl⟩
      refine (HI.out j.co 0 1000000 q0 hq0 _).mono ?_
      rintro e w2 ⟨rfl, hw2⟩
      subst w2
      cases q0
      case false =>
        have HR : Hid (3 = D) := by
          have e : r = 3 := by rw [HRJ.out, if_neg (fun e => (of_decide_eq_false hq0.symm) e.1.1)]
          rw [e] at HK; exact HK.out.1 (by decide)
        clear HRJ hq0 HK
        go_wp2
        go_returns
        exact ⟨by rw [← HR.out]; rfl, HX2.out.2⟩
      have z0 : Hid (0 ≤ j.co ∧ j.co ≤ 1000000) := by unfold Hid; exact of_decide_eq_true hq0.symm
      clear hq0
      go_wp2_with (fail)
      obtain ⟨q1, hq1⟩ : ∃ q, q = decide (0 ≤ j.se ∧ j.se ≤ 1000000) := ⟨_, rfl⟩
      refine (HI.out j.se 0 1000000 q1 hq1 _).mono ?_
      rintro e w2 ⟨rfl, hw2⟩
      subst w2
      cases q1
      case false =>
        have HR : Hid (3 = D) := by
          have e : r = 3 := by rw [HRJ.out, if_neg (fun e => (of_decide_eq_false hq1.symm) e.1.2.1)]
          rw [e] at HK; exact HK.out.1 (by decide)
        clear HRJ hq1 HK
        go_wp2
        go_returns
        exact ⟨by rw [← HR.out]; rfl, HX2.out.2⟩
      have z1 : Hid (0 ≤ j.se ∧ j.se ≤ 1000000) := by unfold Hid; exact of_decide_eq_true hq1.symm
      clear hq1
      go_wp2_with (fail)
      obtain ⟨q2, hq2⟩ : ∃ q, q = decide (0 ≤ j.du ∧ j.du ≤ 1000000) := ⟨_, rfl⟩
      refine (HI.out j.du 0 1000000 q2 hq2 _).mono ?_
      rintro e w2 ⟨rfl, hw2⟩
      subst w2
      cases q2
      case false =>
        have HR : Hid (3 = D) := by
          have e : r = 3 := by rw [HRJ.out, if_neg (fun e => (of_decide_eq_false hq2.symm) e.1.2.2)]
          rw [e] at HK; exact HK.out.1 (by decide)
        clear HRJ hq2 HK
        go_wp2
        go_returns
        exact ⟨by rw [← HR.out]; rfl, HX2.out.2⟩
      have z2 : Hid (0 ≤ j.du ∧ j.du ≤ 1000000) := by unfold Hid; exact of_decide_eq_true hq2.symm
      clear hq2
      go_wp2_with (fail)
      obtain ⟨q3, hq3⟩ : ∃ q, q = decide (1 ≤ j.ti ∧ j.ti ≤ 1000000) := ⟨_, rfl⟩
      refine (HI.out j.ti 1 1000000 q3 hq3 _).mono ?_
      rintro e w2 ⟨rfl, hw2⟩
      subst w2
      cases q3
      case false =>
        have HR : Hid (3 = D) := by
          have e : r = 3 := by rw [HRJ.out, if_neg (fun e => (of_decide_eq_false hq3.symm) e.2.1)]
          rw [e] at HK; exact HK.out.1 (by decide)
        clear HRJ hq3 HK
        go_wp2
        go_returns
        exact ⟨by rw [← HR.out]; rfl, HX2.out.2⟩
      have z3 : Hid (1 ≤ j.ti ∧ j.ti ≤ 1000000) := by unfold Hid; exact of_decide_eq_true hq3.symm
      clear hq3
      go_wp2_with (fail)
      obtain ⟨q4, hq4⟩ : ∃ q, q = decide (0 ≤ j.we ∧ j.we ≤ 100) := ⟨_, rfl⟩
      refine (HI.out j.we 0 100 q4 hq4 _).mono ?_
      rintro e w2 ⟨rfl, hw2⟩
      subst w2
      cases q4
      case false =>
        have HR : Hid (3 = D) := by
          have e : r = 3 := by rw [HRJ.out, if_neg (fun e => (of_decide_eq_false hq4.symm) e.2.2.1)]
          rw [e] at HK; exact HK.out.1 (by decide)
        clear HRJ hq4 HK
        go_wp2
        go_returns
        exact ⟨by rw [← HR.out]; rfl, HX2.out.2⟩
      have z4 : Hid (0 ≤ j.we ∧ j.we ≤ 100) := by unfold Hid; exact of_decide_eq_true hq4.symm
      clear hq4
      go_wp2_with (fail)
      obtain ⟨q5, hq5⟩ : ∃ q, q = decide (0 ≤ j.ki ∧ j.ki ≤ 9) := ⟨_, rfl⟩
      refine (HI.out j.ki 0 9 q5 hq5 _).mono ?_
      rintro e w2 ⟨rfl, hw2⟩
      subst w2
      cases q5
      case false =>
        have HR : Hid (3 = D) := by
          have e : r = 3 := by rw [HRJ.out, if_neg (fun e => (of_decide_eq_false hq5.symm) e.2.2.2)]
          rw [e] at HK; exact HK.out.1 (by decide)
        clear HRJ hq5 HK
        go_wp2
        go_returns
        exact ⟨by rw [← HR.out]; rfl, HX2.out.2⟩
      have z5 : Hid (0 ≤ j.ki ∧ j.ki ≤ 9) := by unfold Hid; exact of_decide_eq_true hq5.symm
      clear hq5
      have HR : Hid (frm (jbK s) (k + 1) (n - (k + 1)) = D) := HK.out.2 (by rw [HRJ.out, if_pos ⟨⟨z0.out, z1.out, z2.out⟩, z3.out, z4.out, z5.out⟩])
      clear HRJ HK
      go_wp2
      go_roundw
      case rel => exact ⟨k + 1, by omega, by go_num, HX2.out.2, HR.out⟩
      case measure => simp [intOf]; omega
    · obtain rfl : k = n := by omega
      have HN : Hid (0 = D) := by rw [← hR.out.2]; exact (frm_end _ _).symm
      have HB : Hid (Below W.heap.size W wr) := hR.out.1
      clear hR
      go_wp2
      go_returns
      exact ⟨by rw [← HN.out]; rfl, HB.out⟩

end Go.Proofs.Ytjbghflphngnkaa
