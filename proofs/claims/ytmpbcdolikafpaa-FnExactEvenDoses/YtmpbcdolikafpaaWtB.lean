/- Proved here: how the laws' package copies writers. (And ahead of it: Proved here: the faults of a list of shots, of both: shF.) -/
import Derived.Test.YtmpbcdolikafpaaBoxF
namespace Go.Proofs.Ytmpbcdolikafpaa
open Go.RowKit
set_option linter.unusedVariables false
set_option linter.unusedSimpArgs false

def shotF (x : Sh) : Int := if bfK x.b = 0 then (if 0 ≤ x.d ∧ x.d ≤ 1000 then 0 else 3) else bfK x.b
def firstH : List Sh → Int
  | [] => 0
  | v :: t => if shotF v = 0 then firstH t else shotF v
def shF (s : List Sh) : Int := if 40 < s.length then 2 else firstH s
theorem dropH {α : Type} {s : List α} {k : Nat} (hk : k < s.length) : s.drop k = s[k] :: s.drop (k + 1) := List.drop_eq_getElem_cons hk
theorem firstH_hit {s : List Sh} {k : Nat} (hk : k < s.length) (h : ¬ shotF s[k] = 0) (hp : firstH (s.drop k) = firstH s) : firstH s = shotF s[k] := by
  rw [← hp, dropH hk, firstH, if_neg h]
theorem firstH_miss {s : List Sh} {k : Nat} (hk : k < s.length) (h : shotF s[k] = 0) (hp : firstH (s.drop k) = firstH s) : firstH (s.drop (k + 1)) = firstH s := by
  rw [← hp, dropH hk, firstH, if_pos h]
theorem firstH_good {s : List Sh} (h : firstH s = 0) : ∀ x ∈ s, shotF x = 0 := by
  induction s with
  | nil => intro x hx; cases hx
  | cons a t ih =>
    rw [firstH] at h
    by_cases ha : shotF a = 0
    · rw [if_pos ha] at h
      intro x hx
      rcases List.mem_cons.1 hx with rfl | hx
      · exact ha
      · exact ih h x hx
    · rw [if_neg ha] at h; exact absurd h ha
theorem shotF_good {x : Sh} (h : shotF x = 0) : bfK x.b = 0 ∧ 0 ≤ x.d ∧ x.d ≤ 1000 := by
  unfold shotF at h
  by_cases hb : bfK x.b = 0
  · rw [if_pos hb] at h
    by_cases hd : 0 ≤ x.d ∧ x.d ≤ 1000
    · exact ⟨hb, hd.1, hd.2⟩
    · rw [if_neg hd] at h; cases h
  · rw [if_neg hb] at h; exact absurd h hb
theorem shF_good {s : List Sh} (h : shF s = 0) : s.length ≤ 40 ∧ ∀ x ∈ s, bfK x.b = 0 ∧ 0 ≤ x.d ∧ x.d ≤ 1000 := by
  unfold shF at h
  by_cases hl : 40 < s.length
  · rw [if_pos hl] at h; cases h
  · rw [if_neg hl] at h
    exact ⟨by omega, fun x hx => shotF_good (firstH_good h x hx)⟩

set_option maxRecDepth 10000 in
set_option maxHeartbeats 3200000 in
theorem impl_shots {w : World} {v : Value} {s : List Sh} (hn : s.length ≤ 1048576) (h : RG 5 shC w v s) :
    Calls Try.prog 46 #[v] w fun e w' => e = .returned (.int .i64 (shF s)) ∧ Below w.heap.size w w' := by
  obtain ⟨a, c, rfl⟩ := h.form
  obtain ⟨n, hnn⟩ : ∃ n, n = s.length := ⟨_, rfl⟩
  obtain ⟨C, hC⟩ : ∃ C, C = shF s := ⟨_, rfl⟩
  rw [← hnn] at hn h ⊢
  rw [← hC]
  have H : Hid (RG 5 shC w (.slice a n c) s ∧ n = s.length ∧ C = shF s) := ⟨h, hnn, hC⟩
  clear h hnn hC
  by_cases h8 : (40 : Int) < (n : Int)
  · have HC : Hid (C = 2) := by unfold Hid; rw [H.out.2.2, shF, if_pos (by rw [← H.out.2.1]; omega)]
    go_enter Try.func46, Try.ntmps46
    go_wp2
    go_returns
    exact ⟨by rw [HC.out]; rfl, by (repeat' (first | (with_reducible exact Below.refl _ _) | (with_reducible assumption) | (with_reducible refine Below.setCell ?_ ?_ _) | (with_reducible refine Below.alloc ?_ ?_ _) | (with_reducible refine below_drewN ?_ _) | (with_reducible refine Below.drew ?_) | (with_reducible exact Nat.le_refl _) | omega | (simp; done) | (simp; omega)))⟩
  have HC : Hid (C = firstH s) := by unfold Hid; rw [H.out.2.2, shF, if_neg (by rw [← H.out.2.1]; omega)]
  go_enter Try.func46, Try.ntmps46
  go_wp2
  go_loopw [11] (fun i wr => ∃ k : Nat, k ≤ n ∧ i = .int .i64 k ∧ Hid (firstH (s.drop k) = firstH s ∧ Below w.heap.size w wr)) (fun i _ => n - (intOf i).toNat)
  case atStart => exact ⟨0, Nat.zero_le _, rfl, rfl, Below.refl _ _⟩
  case round =>
    obtain ⟨k, hk, rfl, hR⟩ := hrel
    by_cases hlt : k < n
    · have hkl : k < s.length := by rw [← H.out.2.1]; exact hlt
      obtain ⟨g, o, c2, he, hg, hj⟩ := (H.out.1.below hR.out.2).pos (by omega)
      simp only [Value.slice.injEq] at he
      obtain ⟨rfl, hx1, hx2⟩ := he
      clear hx1 hx2
      obtain ⟨c0, c1, c2, c3, c4⟩ := shC_at (hj k hkl)
      obtain ⟨x, hx⟩ : ∃ x, x = s[k] := ⟨_, rfl⟩
      rw [← hx] at c0 c1 c2 c3 c4
      obtain ⟨y, hy⟩ : ∃ y, y = bfK x.b := ⟨_, rfl⟩
      obtain ⟨r, hr⟩ : ∃ r, r = decide (0 ≤ x.d ∧ x.d ≤ 1000) := ⟨_, rfl⟩
      have HX : Hid (x = s[k] ∧ y = bfK x.b ∧ r = decide (0 ≤ x.d ∧ x.d ≤ 1000)) := ⟨hx, hy, hr⟩
      have HCL : Hid (∀ W, Calls Try.prog 59 #[.agg #[.int .i64 x.b.x0, .int .i64 x.b.y0, .int .i64 x.b.x1, .int .i64 x.b.y1]] W fun e w' => e = .returned (.int .i64 y) ∧ Below W.heap.size W w') := fun W => by rw [hy]; exact impl_box x.b W
      have HIN : Hid (∀ W, Calls Try.prog 20 #[.int .i64 x.d, .int .i64 0, .int .i64 1000] W fun e w' => e = .returned (.bool r) ∧ w' = W) := impl_ins x.d 0 1000 r hr
      have HR : Hid _ := hR.out
      clear hx hy hr hR hj
      have b0 : (0 : Int) ≤ (k : Int) := by omega
      have b1 : (k : Int) < (n : Int) := by omega
      go_wp2_with (fail)
      refine (HCL.out _).mono ?_
      rintro e w4 ⟨rfl, hb4⟩
      have hb4' : Below wr.heap.size wr w4 := Below.trans (by (repeat' (first | (with_reducible exact Below.refl _ _) | (with_reducible assumption) | (with_reducible refine Below.setCell ?_ ?_ _) | (with_reducible refine Below.alloc ?_ ?_ _) | (with_reducible refine below_drewN ?_ _) | (with_reducible refine Below.drew ?_) | (with_reducible exact Nat.le_refl _) | omega | (simp; done) | (simp; omega)))) (hb4.mono (by simp))
      have kk := (hb4.block wr.heap.size (by simp)).trans (heap_alloc_new wr _)
      obtain ⟨p0, p1, p2, p3, p4, pf, pl⟩ := sh_five kk
      have HB4 : Hid (Below w.heap.size w w4) := HR.out.2.trans (hb4'.mono HR.out.2.size)
      clear hb4 hb4' kk c0 c1 c2 c3 c4 HCL
      by_cases hy0 : y = 0
      case neg =>
        have HE : Hid (C = y) := by
          have e0 : shotF s[k] = y := by rw [← HX.out.1, shotF, ← HX.out.2.1, if_neg hy0]
          unfold Hid; rw [HC.out, ← e0]; exact firstH_hit hkl (by rw [e0]; exact hy0) HR.out.1
        go_wp2
        go_returns
        exact ⟨by rw [HE.out]; rfl, HB4.out⟩
      have HY : Hid (shotF s[k] = if r = true then 0 else 3) := by
        unfold Hid; rw [← HX.out.1, shotF, ← HX.out.2.1, if_pos hy0, HX.out.2.2]
        simp only [decide_eq_true_eq]
      subst hy0
      go_wp2_with (fail)
      refine (HIN.out _).mono ?_
      rintro e w5 ⟨rfl, rfl⟩
      cases r with
      | true =>
        have HM : Hid (firstH (s.drop (k + 1)) = firstH s) := firstH_miss hkl (by rw [HY.out]; rfl) HR.out.1
        go_wp2
        go_roundw
        case rel => exact ⟨k + 1, by omega, by go_num, HM.out, HB4.out⟩
        case measure => simp [intOf]; omega
      | false =>
        have HE : Hid (C = 3) := by
          have e0 : shotF s[k] = 3 := by rw [HY.out]; rfl
          unfold Hid; rw [HC.out, ← e0]; exact firstH_hit hkl (by rw [e0]; omega) HR.out.1
        go_wp2
        go_returns
        exact ⟨by rw [HE.out]; rfl, HB4.out⟩
    · have e : Hid (C = 0) := by
        unfold Hid
        rw [HC.out, ← hR.out.1, List.drop_eq_nil_of_le (by rw [← H.out.2.1]; omega)]
        rfl
      have HB : Hid (Below w.heap.size w wr) := hR.out.2
      clear hR
      go_wp2
      go_returns
      exact ⟨by rw [e.out]; rfl, HB.out⟩

set_option maxRecDepth 10000 in
set_option maxHeartbeats 3200000 in
theorem spec_shots {w : World} {v : Value} {s : List Sh} (hn : s.length ≤ 1048576) (h : RG 5 shC w v s) :
    Calls Try.prog 43 #[v] w fun e w' => e = .returned (.int .i64 (shF s)) ∧ Below w.heap.size w w' := by
  obtain ⟨a, c, rfl⟩ := h.form
  obtain ⟨n, hnn⟩ : ∃ n, n = s.length := ⟨_, rfl⟩
  obtain ⟨C, hC⟩ : ∃ C, C = shF s := ⟨_, rfl⟩
  rw [← hnn] at hn h ⊢
  rw [← hC]
  have H : Hid (RG 5 shC w (.slice a n c) s ∧ n = s.length ∧ C = shF s) := ⟨h, hnn, hC⟩
  clear h hnn hC
  by_cases h8 : (40 : Int) < (n : Int)
  · have HC : Hid (C = 2) := by unfold Hid; rw [H.out.2.2, shF, if_pos (by rw [← H.out.2.1]; omega)]
    go_enter Try.func43, Try.ntmps43
    go_wp2
    go_returns
    exact ⟨by rw [HC.out]; rfl, by (repeat' (first | (with_reducible exact Below.refl _ _) | (with_reducible assumption) | (with_reducible refine Below.setCell ?_ ?_ _) | (with_reducible refine Below.alloc ?_ ?_ _) | (with_reducible refine below_drewN ?_ _) | (with_reducible refine Below.drew ?_) | (with_reducible exact Nat.le_refl _) | omega | (simp; done) | (simp; omega)))⟩
  have HC : Hid (C = firstH s) := by unfold Hid; rw [H.out.2.2, shF, if_neg (by rw [← H.out.2.1]; omega)]
  go_enter Try.func43, Try.ntmps43
  go_wp2
  go_loopw [3] (fun i wr => ∃ k : Nat, k ≤ n ∧ i = .int .i64 k ∧ Hid (firstH (s.drop k) = firstH s ∧ Below w.heap.size w wr)) (fun i _ => n - (intOf i).toNat)
  case atStart => exact ⟨0, Nat.zero_le _, rfl, rfl, Below.refl _ _⟩
  case round =>
    obtain ⟨k, hk, rfl, hR⟩ := hrel
    by_cases hlt : k < n
    · have hkl : k < s.length := by rw [← H.out.2.1]; exact hlt
      obtain ⟨g, o, c2, he, hg, hj⟩ := (H.out.1.below hR.out.2).pos (by omega)
      simp only [Value.slice.injEq] at he
      obtain ⟨rfl, hx1, hx2⟩ := he
      clear hx1 hx2
      obtain ⟨c0, c1, c2, c3, c4⟩ := shC_at (hj k hkl)
      obtain ⟨x, hx⟩ : ∃ x, x = s[k] := ⟨_, rfl⟩
      rw [← hx] at c0 c1 c2 c3 c4
      obtain ⟨y, hy⟩ : ∃ y, y = bfK x.b := ⟨_, rfl⟩
      obtain ⟨r, hr⟩ : ∃ r, r = decide (0 ≤ x.d ∧ x.d ≤ 1000) := ⟨_, rfl⟩
      have HX : Hid (x = s[k] ∧ y = bfK x.b ∧ r = decide (0 ≤ x.d ∧ x.d ≤ 1000)) := ⟨hx, hy, hr⟩
      have HCL : Hid (∀ W, Calls Try.prog 57 #[.agg #[.int .i64 x.b.x0, .int .i64 x.b.y0, .int .i64 x.b.x1, .int .i64 x.b.y1]] W fun e w' => e = .returned (.int .i64 y) ∧ Below W.heap.size W w') := fun W => by rw [hy]; exact spec_box x.b W
      have HIN : Hid (∀ W, Calls Try.prog 15 #[.int .i64 x.d, .int .i64 0, .int .i64 1000] W fun e w' => e = .returned (.bool r) ∧ w' = W) := spec_ins x.d 0 1000 r hr
      have HR : Hid _ := hR.out
      clear hx hy hr hR hj
      have b0 : (0 : Int) ≤ (k : Int) := by omega
      have b1 : (k : Int) < (n : Int) := by omega
      go_wp2_with (fail)
      refine (HCL.out _).mono ?_
      rintro e w4 ⟨rfl, hb4⟩
      have hb4' : Below wr.heap.size wr w4 := Below.trans (by (repeat' (first | (with_reducible exact Below.refl _ _) | (with_reducible assumption) | (with_reducible refine Below.setCell ?_ ?_ _) | (with_reducible refine Below.alloc ?_ ?_ _) | (with_reducible refine below_drewN ?_ _) | (with_reducible refine Below.drew ?_) | (with_reducible exact Nat.le_refl _) | omega | (simp; done) | (simp; omega)))) (hb4.mono (by simp))
      have HB4 : Hid (Below w.heap.size w w4) := HR.out.2.trans (hb4'.mono HR.out.2.size)
      obtain ⟨g', o', c2', he', hg', hj'⟩ := (H.out.1.below HB4.out).pos (by omega)
      simp only [Value.slice.injEq] at he'
      obtain ⟨he1, hx1, hx2⟩ := he'
      injection he1 with he1
      injection he1 with he1 he2
      subst he1 he2
      obtain ⟨p0, p1, p2, p3, p4⟩ := shC_at (hj' k hkl)
      rw [← HX.out.1] at p0 p1 p2 p3 p4
      clear hb4 hb4' hj' c0 c1 c2 c3 c4 HCL hx1 hx2
      by_cases hy0 : y = 0
      case neg =>
        have HE : Hid (C = y) := by
          have e0 : shotF s[k] = y := by rw [← HX.out.1, shotF, ← HX.out.2.1, if_neg hy0]
          unfold Hid; rw [HC.out, ← e0]; exact firstH_hit hkl (by rw [e0]; exact hy0) HR.out.1
        go_wp2
        go_returns
        exact ⟨by rw [HE.out]; rfl, HB4.out⟩
      have HY : Hid (shotF s[k] = if r = true then 0 else 3) := by
        unfold Hid; rw [← HX.out.1, shotF, ← HX.out.2.1, if_pos hy0, HX.out.2.2]
        simp only [decide_eq_true_eq]
      subst hy0
      go_wp2_with (fail)
      refine (HIN.out _).mono ?_
      rintro e w5 ⟨rfl, rfl⟩
      cases r with
      | true =>
        have HM : Hid (firstH (s.drop (k + 1)) = firstH s) := firstH_miss hkl (by rw [HY.out]; rfl) HR.out.1
        go_wp2
        go_roundw
        case rel => exact ⟨k + 1, by omega, by go_num, HM.out, HB4.out⟩
        case measure => simp [intOf]; omega
      | false =>
        have HE : Hid (C = 3) := by
          have e0 : shotF s[k] = 3 := by rw [HY.out]; rfl
          unfold Hid; rw [HC.out, ← e0]; exact firstH_hit hkl (by rw [e0]; omega) HR.out.1
        go_wp2
        go_returns
        exact ⟨by rw [HE.out]; rfl, HB4.out⟩
    · have e : Hid (C = 0) := by
        unfold Hid
        rw [HC.out, ← hR.out.1, List.drop_eq_nil_of_le (by rw [← H.out.2.1]; omega)]
        rfl
      have HB : Hid (Below w.heap.size w wr) := hR.out.2
      clear hR
      go_wp2
      go_returns
      exact ⟨by rw [e.out]; rfl, HB.out⟩

end Go.Proofs.Ytmpbcdolikafpaa

namespace Go.Proofs.Ytmpbcdolikafpaa
open Go.ChangeShapes Go.WideShapes Go.ChangeAt Go.RowKit Go.Joins
set_option linter.unusedVariables false
set_option linter.unusedSimpArgs false

/-- A writer. -/
structure Wt where
  f : Bx
  o : Int
  s : Int
  r : Int
theorem wq_at1 (w : World) (a b : Obj) : ((w.alloc a).alloc b).heap[w.heap.size + 1]? = some b := by have := heap_alloc_new (w.alloc a) b; simpa using this
theorem wq_at2 (w : World) (a b c : Obj) : (((w.alloc a).alloc b).alloc c).heap[w.heap.size + 2]? = some c := by have := heap_alloc_new ((w.alloc a).alloc b) c; simpa using this
theorem wt_seven {w : World} {k : Nat} {a b c d e f g : Value} {T : TypeId} (h : w.heap[k]? = some (.cells #[a, b, c, d, e, f, g] T)) :
    w.cell? ⟨k, 0, none⟩ = some a ∧ w.cell? ⟨k, 1, none⟩ = some b ∧ w.cell? ⟨k, 2, none⟩ = some c ∧ w.cell? ⟨k, 3, none⟩ = some d ∧ w.cell? ⟨k, 4, none⟩ = some e ∧ w.cell? ⟨k, 5, none⟩ = some f ∧ w.cell? ⟨k, 6, none⟩ = some g ∧ (∀ i, w.frozen? ⟨k, i, none⟩ = false) ∧ k < w.heap.size := by
  refine ⟨by simp [World.cell?, h], by simp [World.cell?, h], by simp [World.cell?, h], by simp [World.cell?, h], by simp [World.cell?, h], by simp [World.cell?, h], by simp [World.cell?, h], fun i => by simp [World.frozen?, h], ?_⟩
  rcases Nat.lt_or_ge k w.heap.size with h' | h'
  · exact h'
  · rw [Array.getElem?_eq_none h'] at h; cases h

set_option maxHeartbeats 1600000 in
theorem toWriter_any (x : Wt) (w : World) :
    Calls Try.prog 7 #[.agg #[.int .i64 x.f.x0, .int .i64 x.f.y0, .int .i64 x.f.x1, .int .i64 x.f.y1, .int .i64 x.o, .int .i64 x.s, .int .i64 x.r]] w fun e w' => e = .returned (.agg #[.int .i64 x.f.x0, .int .i64 x.f.y0, .int .i64 x.f.x1, .int .i64 x.f.y1, .int .i64 x.o, .int .i64 x.s, .int .i64 x.r]) ∧ Below w.heap.size w w' := by
  go_enter Try.func7, Try.ntmps7
  go_wp2_with (fail)
  refine (toBox_any x.f _).mono ?_
  rintro e w1 ⟨rfl, hb1⟩
  have g1 := (hb1.block (w.heap.size + 1) (by simp)).trans ((Below.heap_alloc _ _ _ (by simp)).trans (wq_at1 w _ _))
  have g2 := (hb1.block (w.heap.size + 2) (by simp)).trans (wq_at2 w _ _ _)
  have g0 := (hb1.block w.heap.size (by simp; omega)).trans ((Below.heap_alloc _ _ _ (by simp; omega)).trans ((Below.heap_alloc _ _ _ (by simp)).trans (heap_alloc_new w _)))
  have hb : Below w.heap.size w w1 := (show Below w.heap.size w _ from by (repeat' (first | (with_reducible exact Below.refl _ _) | (with_reducible assumption) | (with_reducible refine Below.setCell ?_ ?_ _) | (with_reducible refine Below.alloc ?_ ?_ _) | (with_reducible refine below_drewN ?_ _) | (with_reducible refine Below.drew ?_) | (with_reducible exact Nat.le_refl _) | omega | (simp; done) | (simp; omega)))).trans (hb1.mono (by simp; omega))
  clear hb1
  obtain ⟨r0, r1, r2, r3, r4, r5, r6, rf, rl⟩ := wt_seven g0
  obtain ⟨p0, p1, p2, p3, p4, p5, p6, pf, pl⟩ := wt_seven g1
  obtain ⟨q0, q1, q2, q3, q4, q5, q6, qf, ql⟩ := wt_seven g2
  have pf0 := pf 0
  have pf1 := pf 1
  have pf2 := pf 2
  have pf3 := pf 3
  have pf4 := pf 4
  have pf5 := pf 5
  have pf6 := pf 6
  have qf0 := qf 0
  have qf1 := qf 1
  have qf2 := qf 2
  have qf3 := qf 3
  have qf4 := qf 4
  have qf5 := qf 5
  have qf6 := qf 6
  clear pf qf g1 g2 g0 rf r0 r1 r2 r3
  go_wp21
  refine bodyPost_ret (by simp [results, Try.results7, go_sem, *]) rfl ⟨rfl, by (repeat' (first | (with_reducible exact Below.refl _ _) | (with_reducible assumption) | (with_reducible refine Below.setCell ?_ ?_ _) | (with_reducible refine Below.alloc ?_ ?_ _) | (with_reducible refine below_drewN ?_ _) | (with_reducible refine Below.drew ?_) | (with_reducible exact Nat.le_refl _) | omega | (simp; done) | (simp; omega)))⟩

end Go.Proofs.Ytmpbcdolikafpaa
