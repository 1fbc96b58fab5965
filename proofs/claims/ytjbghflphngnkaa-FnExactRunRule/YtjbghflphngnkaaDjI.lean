/- Proved here: JobsFault of the program: jbF. -/
import Derived.Test.YtjbghflphngnkaaTkR
import Derived.Test.YtjbghflphngnkaaUnd
import Derived.Test.YtjbghflphngnkaaSoF
import Derived.BigQuiet
namespace Go.Proofs.Ytjbghflphngnkaa
open Go.RowKit
set_option linter.unusedVariables false
set_option linter.unusedSimpArgs false


theorem jb_cells {w : World} {k : Nat} {j : Jb} (h : w.heap[k]? = some (.cells #[.int .i64 j.id, .int .i64 j.co, .int .i64 j.ti, .int .i64 j.se, .int .i64 j.du, .int .i64 j.we, .int .i64 j.ki] 51)) : w.cell? ⟨k, 0, none⟩ = some (.int .i64 j.id) ∧ w.cell? ⟨k, 1, none⟩ = some (.int .i64 j.co) ∧ w.cell? ⟨k, 2, none⟩ = some (.int .i64 j.ti) ∧ w.cell? ⟨k, 3, none⟩ = some (.int .i64 j.se) ∧ w.cell? ⟨k, 4, none⟩ = some (.int .i64 j.du) ∧ w.cell? ⟨k, 5, none⟩ = some (.int .i64 j.we) ∧ w.cell? ⟨k, 6, none⟩ = some (.int .i64 j.ki) ∧ k < w.heap.size :=
  ⟨cellOfQ h 0 rfl, cellOfQ h 1 rfl, cellOfQ h 2 rfl, cellOfQ h 3 rfl, cellOfQ h 4 rfl, cellOfQ h 5 rfl, cellOfQ h 6 rfl, ltOfQ h⟩

set_option maxHeartbeats 1600000 in
theorem impl_jis (x y : Jb) (W : World) :
    Calls Try.prog 43 #[.agg #[.int .i64 x.id, .int .i64 x.co, .int .i64 x.ti, .int .i64 x.se, .int .i64 x.du, .int .i64 x.we, .int .i64 x.ki], .agg #[.int .i64 y.id, .int .i64 y.co, .int .i64 y.ti, .int .i64 y.se, .int .i64 y.du, .int .i64 y.we, .int .i64 y.ki]] W fun e w' => e = .returned (.bool (decide (x.id = y.id))) ∧ Below W.heap.size W w' := by
  go_enter Try.func43, Try.ntmps43
  by_cases h : x.id = y.id
  · have h2 : (x.id == y.id) = true := beq_iff_eq.2 h
    rw [decide_eq_true h]
    go_wp2
    go_returns
    exact ⟨rfl, by (repeat' (first | (with_reducible exact Below.refl _ _) | (with_reducible assumption) | (with_reducible refine Below.setCell ?_ ?_ _) | (with_reducible refine Below.alloc ?_ ?_ _) | (with_reducible refine below_drewN ?_ _) | (with_reducible refine Below.drew ?_) | (with_reducible exact Nat.le_refl _) | omega | (simp; done) | (simp; omega)))⟩
  · have h2 : (x.id == y.id) = false := beq_eq_false_iff_ne.2 h
    rw [decide_eq_false h]
    go_wp2
    go_returns
    exact ⟨rfl, by (repeat' (first | (with_reducible exact Below.refl _ _) | (with_reducible assumption) | (with_reducible refine Below.setCell ?_ ?_ _) | (with_reducible refine Below.alloc ?_ ?_ _) | (with_reducible refine below_drewN ?_ _) | (with_reducible refine Below.drew ?_) | (with_reducible exact Nat.le_refl _) | omega | (simp; done) | (simp; omega)))⟩

set_option maxRecDepth 10000 in
set_option maxHeartbeats 3200000 in
theorem impl_jix (s : List Jb) (z : Jb) {W : World} {n c : Nat} {a : Option Addr} (hn : n ≤ 2000000) (hs : RG 7 jbC W (.slice a n c) s) :
    Calls Try.prog 77 #[.slice a n c, .func (Fn.func 43) #[.agg #[.int .i64 z.id, .int .i64 z.co, .int .i64 z.ti, .int .i64 z.se, .int .i64 z.du, .int .i64 z.we, .int .i64 z.ki]] #[]] W fun e w' => e = .returned (.int .i64 (fdI (jdA s) z.id n)) ∧ Below W.heap.size W w' := by
  have hml : n = s.length := hs.len
  obtain ⟨G, hG⟩ : ∃ G, G = fdI (jdA s) z.id n := ⟨_, rfl⟩
  rw [← hG]
  have H : Hid (RG 7 jbC W (.slice a n c) s ∧ n = s.length ∧ G = fdI (jdA s) z.id n) := ⟨hs, hml, hG⟩
  have HC : Hid (∀ x : Jb, ∀ X, Calls Try.prog 43 #[.agg #[.int .i64 z.id, .int .i64 z.co, .int .i64 z.ti, .int .i64 z.se, .int .i64 z.du, .int .i64 z.we, .int .i64 z.ki], .agg #[.int .i64 x.id, .int .i64 x.co, .int .i64 x.ti, .int .i64 x.se, .int .i64 x.du, .int .i64 x.we, .int .i64 x.ki]] X fun e w' => e = .returned (.bool (decide (z.id = x.id))) ∧ Below X.heap.size X w') := fun x X => impl_jis z x X
  clear hs hml hG
  go_enter Try.func77, Try.ntmps77
  go_wp2
  go_loopw [8] (fun i wr => ∃ t : Nat, t ≤ n ∧ i = .int .i64 t ∧ Hid ((∀ i, i < t → jdA s i ≠ z.id) ∧ Below W.heap.size W wr)) (fun i _ => n - (intOf i).toNat)
  case atStart => exact ⟨0, Nat.zero_le _, rfl, fun i hi => by omega, Below.refl _ _⟩
  case round =>
    obtain ⟨t, ht, rfl, hR⟩ := hrel
    by_cases hlt : t < n
    · have htl : t < s.length := by rw [← H.out.2.1]; exact hlt
      obtain ⟨g, o, c2, he, hg, hj⟩ := (H.out.1.below hR.out.2).pos (by omega)
      simp only [Value.slice.injEq] at he
      obtain ⟨rfl, hx1, hx2⟩ := he
      clear hx1 hx2
      obtain ⟨c0, c1, c2, c3, c4, c5, c6⟩ := jbC_at (hj t htl)
      obtain ⟨x, hx⟩ : ∃ x, x = s[t] := ⟨_, rfl⟩
      rw [← hx] at c0 c1 c2 c3 c4 c5 c6
      obtain ⟨q, hq⟩ : ∃ q, q = decide (z.id = x.id) := ⟨_, rfl⟩
      have HQ : Hid ((q = true → G = (t : Int)) ∧ (q = false → ∀ i, i < t + 1 → jdA s i ≠ z.id)) := by
        refine ⟨fun e => ?_, fun e i hit => ?_⟩
        · rw [hq, decide_eq_true_eq] at e
          rw [H.out.2.2]
          exact fdI_is hlt (by rw [jdA_at htl, ← hx]; exact e.symm) hR.out.1
        · rw [hq, decide_eq_false_iff_not] at e
          rcases (by omega : i < t ∨ i = t) with h | h
          · exact hR.out.1 i h
          · rw [h, jdA_at htl, ← hx]; exact fun e2 => e e2.symm
      have HC2 : Hid (Calls Try.prog 43 #[.agg #[.int .i64 z.id, .int .i64 z.co, .int .i64 z.ti, .int .i64 z.se, .int .i64 z.du, .int .i64 z.we, .int .i64 z.ki], .agg #[.int .i64 x.id, .int .i64 x.co, .int .i64 x.ti, .int .i64 x.se, .int .i64 x.du, .int .i64 x.we, .int .i64 x.ki]] wr fun e w' => e = .returned (.bool q) ∧ Below wr.heap.size wr w') := by rw [hq]; exact HC.out x wr
      clear hj hx hq
      have b0 : (0 : Int) ≤ (t : Int) := by omega
      have b1 : (t : Int) < (n : Int) := by omega
      go_wp2_with (fail)
      refine HC2.out.mono ?_
      rintro e w5 ⟨rfl, hb5⟩
      have HB : Hid (Below W.heap.size W w5) := hR.out.2.trans (hb5.mono hR.out.2.size)
      clear HC2 hb5 hR c0 c1 c2 c3 c4 c5 c6 hg
      cases q with
      | true =>
        have HG : Hid (G = (t : Int)) := HQ.out.1 rfl
        clear HQ
        go_wp2
        go_returns
        exact ⟨by rw [HG.out]; rfl, HB.out⟩
      | false =>
        have HG : Hid (∀ i, i < t + 1 → jdA s i ≠ z.id) := HQ.out.2 rfl
        clear HQ
        go_wp2
        go_roundw
        case rel => exact ⟨t + 1, by omega, by go_num, HG.out, HB.out⟩
        case measure => simp [intOf]; omega
    · have HM : Hid (G = -1) := by
        unfold Hid; rw [H.out.2.2]
        exact fdI_no (fun i hi => hR.out.1 i (by omega))
      go_wp2
      go_returns
      exact ⟨by rw [HM.out]; rfl, hR.out.2⟩

set_option maxHeartbeats 1600000 in
theorem impl_jcf (s : List Jb) (z : Jb) {W : World} {n c : Nat} {a : Option Addr} (hn : n ≤ 2000000) (hs : RG 7 jbC W (.slice a n c) s) (r : Bool) (hr : r = decide (0 ≤ fdI (jdA s) z.id n)) :
    Calls Try.prog 89 #[.slice a n c, .func (Fn.func 43) #[.agg #[.int .i64 z.id, .int .i64 z.co, .int .i64 z.ti, .int .i64 z.se, .int .i64 z.du, .int .i64 z.we, .int .i64 z.ki]] #[]] W fun e w' => e = .returned (.bool r) ∧ Below W.heap.size W w' := by
  obtain ⟨G, hG⟩ : ∃ G, G = fdI (jdA s) z.id n := ⟨_, rfl⟩
  have HC : Hid (Calls Try.prog 77 #[.slice a n c, .func (Fn.func 43) #[.agg #[.int .i64 z.id, .int .i64 z.co, .int .i64 z.ti, .int .i64 z.se, .int .i64 z.du, .int .i64 z.we, .int .i64 z.ki]] #[]] W fun e w' => e = .returned (.int .i64 G) ∧ Below W.heap.size W w') := by rw [hG]; exact impl_jix s z hn hs
  rw [← hG] at hr
  clear hG hs
  go_enter Try.func89, Try.ntmps89
  go_wp2_with (fail)
  refine HC.out.mono ?_
  rintro e w5 ⟨rfl, hb⟩
  go_wp2
  go_returns
  exact ⟨by rw [hr]; rfl, hb⟩

set_option maxRecDepth 10000 in
set_option maxHeartbeats 6400000 in
theorem impl_jft (s : List Jb) (j : Jb) {W : World} {n c : Nat} {a : Option Addr} (hn : n ≤ 2000000) (hs : RG 7 jbC W (.slice a n c) s) (r : Int) (hr : r = j1C (decide (0 ≤ fdI (jdA s) j.id n)) j) :
    Calls Try.prog 78 #[.agg #[.int .i64 j.id, .int .i64 j.co, .int .i64 j.ti, .int .i64 j.se, .int .i64 j.du, .int .i64 j.we, .int .i64 j.ki], .slice a n c] W fun e w' => e = .returned (.int .i64 r) ∧ Below W.heap.size W w' := by
  obtain ⟨q, hq⟩ : ∃ q, q = decide (0 ≤ fdI (jdA s) j.id n) := ⟨_, rfl⟩
  have HC : Hid (∀ X, Below W.heap.size W X → Calls Try.prog 89 #[.slice a n c, .func (Fn.func 43) #[.agg #[.int .i64 j.id, .int .i64 j.co, .int .i64 j.ti, .int .i64 j.se, .int .i64 j.du, .int .i64 j.we, .int .i64 j.ki]] #[]] X fun e w' => e = .returned (.bool q) ∧ Below X.heap.size X w') := fun X hb => impl_jcf s j hn (hs.below hb) q hq
  rw [← hq] at hr
  clear hq hs
  obtain ⟨V, hV⟩ : ∃ V, V = W.alloc (.cells #[.int .i64 j.id, .int .i64 j.co, .int .i64 j.ti, .int .i64 j.se, .int .i64 j.du, .int .i64 j.we, .int .i64 j.ki] 51) := ⟨_, rfl⟩
  have HV : Hid (Below W.heap.size W V ∧ V.heap[W.heap.size]? = some (.cells #[.int .i64 j.id, .int .i64 j.co, .int .i64 j.ti, .int .i64 j.se, .int .i64 j.du, .int .i64 j.we, .int .i64 j.ki] 51)) := by rw [hV]; exact ⟨by (repeat' (first | (with_reducible exact Below.refl _ _) | (with_reducible assumption) | (with_reducible refine Below.setCell ?_ ?_ _) | (with_reducible refine Below.alloc ?_ ?_ _) | (with_reducible refine below_drewN ?_ _) | (with_reducible refine Below.drew ?_) | (with_reducible exact Nat.le_refl _) | omega | (simp; done) | (simp; omega))), heap_alloc_new _ _⟩
  have HI : Hid (∀ (x lo hi : Int) (p : Bool), p = decide (lo ≤ x ∧ x ≤ hi) → ∀ X, Calls Try.prog 61 #[.int .i64 x, .int .i64 lo, .int .i64 hi] X fun e w' => e = .returned (.bool p) ∧ w' = X) := fun x lo hi p hp X => impl_insC x lo hi p hp X
  by_cases h1 : j.id < 1
  · have HR : Hid (r = 1) := by unfold Hid; rw [hr, j1C, if_pos (Or.inl h1)]
    clear hr
    go_enter Try.func78, Try.ntmps78
    go_wp2
    go_returns
    exact ⟨by rw [HR.out]; rfl, by rw [← hV]; exact HV.out.1⟩
  go_enter Try.func78, Try.ntmps78
  go_wp2_with (fail)
  rw [← hV]
  refine (HC.out V HV.out.1).mono ?_
  rintro e w1 ⟨rfl, hb⟩
  clear HC
  have HW : Hid (Below W.heap.size W w1 ∧ w1.heap[W.heap.size]? = some (.cells #[.int .i64 j.id, .int .i64 j.co, .int .i64 j.ti, .int .i64 j.se, .int .i64 j.du, .int .i64 j.we, .int .i64 j.ki] 51)) := ⟨HV.out.1.trans (hb.mono HV.out.1.size), by rw [hb.block _ (by have := ltOfQ HV.out.2; exact this)]; exact HV.out.2⟩
  clear hb HV hV
  obtain ⟨p0, p1, p2, p3, p4, p5, p6, pl⟩ := jb_cells HW.out.2
  cases q
  case true =>
    have HR : Hid (r = 1) := by unfold Hid; rw [hr, j1C, if_pos (Or.inr rfl)]
    clear hr
    go_wp2
    go_returns
    exact ⟨by rw [HR.out]; rfl, HW.out.1⟩
  have HR0 : Hid (r = if rgJ j then 0 else 3) := by unfold Hid; rw [hr, j1C, if_neg (fun e => by rcases e with e | e; omega; cases e)]
  clear hr
  obtain ⟨X, hX⟩ : ∃ X, X = w1.alloc (.cells #[.int .i64 j.co, .int .i64 j.se, .int .i64 j.du] 2) := ⟨_, rfl⟩
  have HX : Hid (Below W.heap.size W X ∧ X.heap[W.heap.size]? = some (.cells #[.int .i64 j.id, .int .i64 j.co, .int .i64 j.ti, .int .i64 j.se, .int .i64 j.du, .int .i64 j.we, .int .i64 j.ki] 51) ∧ X.heap[w1.heap.size]? = some (.cells #[.int .i64 j.co, .int .i64 j.se, .int .i64 j.du] 2)) := by
    rw [hX]; exact ⟨HW.out.1.trans (Below.alloc (Below.refl _ _) HW.out.1.size _), by rw [heap_alloc_old _ _ pl]; exact HW.out.2, heap_alloc_new _ _⟩
  have HRJ : Hid (r = if rgJ j then 0 else 3) := HR0
  obtain ⟨m, hm⟩ : ∃ m, m = w1.heap.size := ⟨_, rfl⟩
  rw [← hm] at HX
  go_wp2
  rw [← hX, ← hm]
  have HXl : Hid (Below W.heap.size W X) := HX.out.1
  obtain ⟨p0, p1, p2, p3, p4, p5, p6, pl⟩ := jb_cells HX.out.2.1
  have u0 := cellOfQ HX.out.2.2 0 rfl
  have u1 := cellOfQ HX.out.2.2 1 rfl
  have u2 := cellOfQ HX.out.2.2 2 rfl
  have ul := ltOfQ HX.out.2.2
  clear HX HW hX hm HR0
  refine wp_loop_rounds 4 ?_
  rw [rounds_succ]
  go_wp2_with (fail)
  obtain ⟨q0, hq0⟩ : ∃ q, q = decide (0 ≤ j.co ∧ j.co ≤ 1000000) := ⟨_, rfl⟩
  refine (HI.out j.co 0 1000000 q0 hq0 _).mono ?_
  rintro e w2 ⟨rfl, hw2⟩
  subst w2
  cases q0
  case false =>
    have HR : Hid (r = 3) := by unfold Hid; rw [HRJ.out, if_neg (fun e => (of_decide_eq_false hq0.symm) e.1.1)]
    clear HRJ hq0
    go_wp2
    go_returns
    exact ⟨by rw [HR.out]; rfl, HXl.out⟩
  have z0 : Hid (0 ≤ j.co ∧ j.co ≤ 1000000) := by unfold Hid; exact of_decide_eq_true hq0.symm
  clear hq0
  go_wp2
  rw [rounds_succ]
  go_wp2_with (fail)
  obtain ⟨q1, hq1⟩ : ∃ q, q = decide (0 ≤ j.se ∧ j.se ≤ 1000000) := ⟨_, rfl⟩
  refine (HI.out j.se 0 1000000 q1 hq1 _).mono ?_
  rintro e w2 ⟨rfl, hw2⟩
  subst w2
  cases q1
  case false =>
    have HR : Hid (r = 3) := by unfold Hid; rw [HRJ.out, if_neg (fun e => (of_decide_eq_false hq1.symm) e.1.2.1)]
    clear HRJ hq1
    go_wp2
    go_returns
    exact ⟨by rw [HR.out]; rfl, HXl.out⟩
  have z1 : Hid (0 ≤ j.se ∧ j.se ≤ 1000000) := by unfold Hid; exact of_decide_eq_true hq1.symm
  clear hq1
  go_wp2
  rw [rounds_succ]
  go_wp2_with (fail)
  obtain ⟨q2, hq2⟩ : ∃ q, q = decide (0 ≤ j.du ∧ j.du ≤ 1000000) := ⟨_, rfl⟩
  refine (HI.out j.du 0 1000000 q2 hq2 _).mono ?_
  rintro e w2 ⟨rfl, hw2⟩
  subst w2
  cases q2
  case false =>
    have HR : Hid (r = 3) := by unfold Hid; rw [HRJ.out, if_neg (fun e => (of_decide_eq_false hq2.symm) e.1.2.2)]
    clear HRJ hq2
    go_wp2
    go_returns
    exact ⟨by rw [HR.out]; rfl, HXl.out⟩
  have z2 : Hid (0 ≤ j.du ∧ j.du ≤ 1000000) := by unfold Hid; exact of_decide_eq_true hq2.symm
  clear hq2
  go_wp2
  rw [rounds_succ]
  go_wp2_with (fail)
  obtain ⟨q3, hq3⟩ : ∃ q, q = decide (1 ≤ j.ti ∧ j.ti ≤ 1000000) := ⟨_, rfl⟩
  refine (HI.out j.ti 1 1000000 q3 hq3 _).mono ?_
  rintro e w2 ⟨rfl, hw2⟩
  subst w2
  cases q3
  case false =>
    have HR : Hid (r = 3) := by unfold Hid; rw [HRJ.out, if_neg (fun e => (of_decide_eq_false hq3.symm) e.2.1)]
    clear HRJ hq3
    go_wp2
    go_returns
    exact ⟨by rw [HR.out]; rfl, HXl.out⟩
  have z3 : Hid (1 ≤ j.ti ∧ j.ti ≤ 1000000) := by unfold Hid; exact of_decide_eq_true hq3.symm
  clear hq3
  go_wp2_with (fail)
  obtain ⟨q4, hq4⟩ : ∃ q, q = decide (0 ≤ j.we ∧ j.we ≤ 100) := ⟨_, rfl⟩
  refine (HI.out j.we 0 100 q4 hq4 _).mono ?_
  rintro e w2 ⟨rfl, hw2⟩
  subst w2
  cases q4
  case false =>
    have HR : Hid (r = 3) := by unfold Hid; rw [HRJ.out, if_neg (fun e => (of_decide_eq_false hq4.symm) e.2.2.1)]
    clear HRJ hq4
    go_wp2
    go_returns
    exact ⟨by rw [HR.out]; rfl, HXl.out⟩
  have z4 : Hid (0 ≤ j.we ∧ j.we ≤ 100) := by unfold Hid; exact of_decide_eq_true hq4.symm
  clear hq4
  go_wp2_with (fail)
  obtain ⟨q5, hq5⟩ : ∃ q, q = decide (0 ≤ j.ki ∧ j.ki ≤ 9) := ⟨_, rfl⟩
  refine (HI.out j.ki 0 9 q5 hq5 _).mono ?_
  rintro e w2 ⟨rfl, hw2⟩
  subst w2
  cases q5
  case false =>
    have HR : Hid (r = 3) := by unfold Hid; rw [HRJ.out, if_neg (fun e => (of_decide_eq_false hq5.symm) e.2.2.2)]
    clear HRJ hq5
    go_wp2
    go_returns
    exact ⟨by rw [HR.out]; rfl, HXl.out⟩
  have z5 : Hid (0 ≤ j.ki ∧ j.ki ≤ 9) := by unfold Hid; exact of_decide_eq_true hq5.symm
  clear hq5
  have HR : Hid (r = 0) := by unfold Hid; rw [HRJ.out, if_pos ⟨⟨z0.out, z1.out, z2.out⟩, z3.out, z4.out, z5.out⟩]
  clear HRJ
  go_wp2
  go_returns
  exact ⟨by rw [HR.out]; rfl, HXl.out⟩

set_option maxRecDepth 10000 in
set_option maxHeartbeats 6400000 in
theorem impl_jf {W : World} {a : Option Addr} {c : Nat} {s : List Jb} (hn : s.length ≤ 1048576) (hc : s.length ≤ c) (hs : RG 7 jbC W (.slice a s.length c) s) :
    Calls Try.prog 53 #[.slice a s.length c] W fun e w' => e = .returned (.int .i64 (jbF s)) ∧ Below W.heap.size W w' := by
  obtain ⟨n, hnn⟩ : ∃ n, n = s.length := ⟨_, rfl⟩
  obtain ⟨D, hD⟩ : ∃ D, D = jbF s := ⟨_, rfl⟩
  rw [← hnn] at hn hs hc ⊢
  rw [← hD]
  by_cases hl : 30 < n
  · have HR : Hid (D = 2) := by unfold Hid; rw [hD, jbF, if_pos (by rw [← hnn]; exact hl)]
    have h1 : (30 : Int) < (n : Int) := by omega
    clear hnn hs hD
    go_enter Try.func53, Try.ntmps53
    go_wp2
    go_returns
    exact ⟨by rw [HR.out]; rfl, Below.refl _ _⟩
  have h1 : ¬ (30 : Int) < (n : Int) := by omega
  have HF : Hid (D = frm (jbK s) 0 (n - 0)) := by unfold Hid; rw [hD, jbF, if_neg (by rw [← hnn]; exact hl), ← hnn]
  have H : Hid (RG 7 jbC W (.slice a n c) s ∧ n = s.length) := ⟨hs, hnn⟩
  clear hs hnn hD
  go_enter Try.func53, Try.ntmps53
  go_wp2
  go_loopw [11] (fun i wr => ∃ k : Nat, k ≤ n ∧ i = .int .i64 k ∧ Hid (Below W.heap.size W wr ∧ frm (jbK s) k (n - k) = D)) (fun i _ => n - (intOf i).toNat)
  case atStart => exact ⟨0, Nat.zero_le _, rfl, Below.refl _ _, HF.out.symm⟩
  case round =>
    obtain ⟨k, hk, rfl, hR⟩ := hrel
    by_cases hlt : k < n
    · have hkl : k < s.length := by rw [← H.out.2]; exact hlt
      obtain ⟨g, o, c2, he, hg, hj⟩ := (H.out.1.below hR.out.1).pos (by omega)
      simp only [Value.slice.injEq] at he
      obtain ⟨rfl, hx1, hx2⟩ := he
      clear hx1 hx2
      obtain ⟨c0, c1, c2, c3, c4, c5, c6⟩ := jbC_at (hj k hkl)
      have HS : Hid (RG 7 jbC W (.slice (some ⟨g, o, none⟩) k c) (s.take k)) := rg_take H.out.1 hk
      obtain ⟨j, hj2⟩ : ∃ j, j = s[k] := ⟨_, rfl⟩
      rw [← hj2] at c0 c1 c2 c3 c4 c5 c6
      obtain ⟨r, hr⟩ : ∃ r, r = jbK s k := ⟨_, rfl⟩
      have HFT : Hid (∀ X, Below W.heap.size W X → Calls Try.prog 78 #[.agg #[.int .i64 j.id, .int .i64 j.co, .int .i64 j.ti, .int .i64 j.se, .int .i64 j.du, .int .i64 j.we, .int .i64 j.ki], .slice (some ⟨g, o, none⟩) k c] X fun e w' => e = .returned (.int .i64 r) ∧ Below X.heap.size X w') := fun X hb =>
        impl_jft (s.take k) j (by omega) (HS.out.below hb) r (by
          rw [hr, jbK_at hkl, ← hj2, fdI_congr (fun i hi => (jdA_take hi (by omega)).symm)])
      have HK : Hid ((r ≠ 0 → r = D) ∧ (r = 0 → frm (jbK s) (k + 1) (n - (k + 1)) = D)) := ⟨fun h => by rw [← hR.out.2]; exact (frm_hit hlt hr.symm h).symm, fun h => by rw [← hR.out.2]; exact (frm_miss hlt (hr.symm.trans h)).symm⟩
      have HB : Hid (Below W.heap.size W wr) := hR.out.1
      have b0 : (0 : Int) ≤ (k : Int) := by omega
      have b1 : (k : Int) < (n : Int) := by omega
      have b2 : (k : Int) ≤ (c : Int) := by omega
      clear hj hj2 hr hR HS
      go_wp2_with (fail)
      obtain ⟨X, hX⟩ : ∃ X, X = wr.alloc (.cells #[.int .i64 j.id, .int .i64 j.co, .int .i64 j.ti, .int .i64 j.se, .int .i64 j.du, .int .i64 j.we, .int .i64 j.ki] 51) := ⟨_, rfl⟩
      have HX : Hid (Below wr.heap.size wr X ∧ X.heap[wr.heap.size]? = some (.cells #[.int .i64 j.id, .int .i64 j.co, .int .i64 j.ti, .int .i64 j.se, .int .i64 j.du, .int .i64 j.we, .int .i64 j.ki] 51) ∧ Below W.heap.size W X) := by rw [hX]; exact ⟨by (repeat' (first | (with_reducible exact Below.refl _ _) | (with_reducible assumption) | (with_reducible refine Below.setCell ?_ ?_ _) | (with_reducible refine Below.alloc ?_ ?_ _) | (with_reducible refine below_drewN ?_ _) | (with_reducible refine Below.drew ?_) | (with_reducible exact Nat.le_refl _) | omega | (simp; done) | (simp; omega))), heap_alloc_new _ _, HB.out.trans (Below.alloc (Below.refl _ _) HB.out.size _)⟩
      rw [← hX]
      obtain ⟨p0, p1, p2, p3, p4, p5, p6, pl⟩ := jb_cells HX.out.2.1
      have HFU : Hid (∀ Y : Und X.heap.size X, Calls Try.prog 78 #[.agg #[.int .i64 j.id, .int .i64 j.co, .int .i64 j.ti, .int .i64 j.se, .int .i64 j.du, .int .i64 j.we, .int .i64 j.ki], .slice (some ⟨g, o, none⟩) k c] Y.W fun e w' => e = .returned (.int .i64 r) ∧ Below Y.W.heap.size Y.W w') := fun Y => HFT.out _ (HX.out.2.2.trans (Y.below.mono HX.out.2.2.size))
      clear hX HFT
      (refine wp_region_und (by kernel_rfl) (by kernel_rfl) (fun hund => ?_); (repeat (go_big_quiet_step (first | (go_at_call 78; with_reducible refine und_call ?_ (HFU.out _); exact Nat.le_refl _)))); with_reducible refine wpQuiet_nil ?_; clear hund; intro W1 hb1; obtain ⟨hc1, hf1⟩ := undcell hb1)
      have HB2 : Hid (Below W.heap.size W W1) := HX.out.2.2.trans (hb1.mono HX.out.2.2.size)
      clear hb1 hc1 hf1 HFU HX p0 p1 p2 p3 p4 p5 p6 pl HB c0 c1 c2 c3 c4 c5 c6 hg
      by_cases hr0 : r = 0
      · have HN : Hid (frm (jbK s) (k + 1) (n - (k + 1)) = D) := HK.out.2 hr0
        have hr1 : (r != 0) = false := by rw [hr0]; rfl
        clear HK hr0
        go_wp2
        go_roundw
        case rel => exact ⟨k + 1, by omega, by go_num, HB2.out, HN.out⟩
        case measure => simp [intOf]; omega
      · have HN : Hid (r = D) := HK.out.1 hr0
        have hr1 : (r != 0) = true := by simpa using hr0
        clear HK hr0
        go_wp2
        go_returns
        exact ⟨by rw [← HN.out]; rfl, HB2.out⟩
    · obtain rfl : k = n := by omega
      have HN : Hid (0 = D) := by rw [← hR.out.2]; exact (frm_end _ _).symm
      have HB : Hid (Below W.heap.size W wr) := hR.out.1
      clear hR
      go_wp2
      go_returns
      exact ⟨by rw [← HN.out]; rfl, HB.out⟩

end Go.Proofs.Ytjbghflphngnkaa
