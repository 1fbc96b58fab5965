/- Proved here: the faults of a wiring, of both: wrF. -/
import Derived.Test.YtbfieehlekgjeaaWrB
import Derived.Test.YtbfieehlekgjeaaIForm
namespace Go.Proofs.Ytbfieehlekgjeaa
open Go.RowKit
set_option linter.unusedVariables false
set_option linter.unusedSimpArgs false

def firstL : List (List Bx) → Int
  | [] => 0
  | s :: t => if shapeK s = 0 then firstL t else shapeK s
def layF (ls : List (List Bx)) : Int := if 8 < ls.length then 2 else firstL ls
def viF (n : Int) (v : Vi) : Int := if v.l < 0 ∨ n ≤ v.l ∨ v.h < 0 ∨ n ≤ v.h ∨ v.l = v.h then 1 else bfK v.b
def firstV (n : Int) : List Vi → Int
  | [] => 0
  | v :: t => if viF n v = 0 then firstV n t else viF n v
def wrF (ls : List (List Bx)) (vs : List Vi) : Int := if layF ls = 0 then (if 60 < vs.length then 2 else firstV (ls.length : Int) vs) else layF ls
theorem dropg {α : Type} {s : List α} {k : Nat} (hk : k < s.length) : s.drop k = s[k] :: s.drop (k + 1) := List.drop_eq_getElem_cons hk
theorem firstL_hit {s : List (List Bx)} {k : Nat} (hk : k < s.length) (h : ¬ shapeK s[k] = 0) (hp : firstL (s.drop k) = firstL s) : firstL s = shapeK s[k] := by
  rw [← hp, dropg hk, firstL, if_neg h]
theorem firstL_miss {s : List (List Bx)} {k : Nat} (hk : k < s.length) (h : shapeK s[k] = 0) (hp : firstL (s.drop k) = firstL s) : firstL (s.drop (k + 1)) = firstL s := by
  rw [← hp, dropg hk, firstL, if_pos h]
theorem firstV_hit {n : Int} {s : List Vi} {k : Nat} (hk : k < s.length) (h : ¬ viF n s[k] = 0) (hp : firstV n (s.drop k) = firstV n s) : firstV n s = viF n s[k] := by
  rw [← hp, dropg hk, firstV, if_neg h]
theorem firstV_miss {n : Int} {s : List Vi} {k : Nat} (hk : k < s.length) (h : viF n s[k] = 0) (hp : firstV n (s.drop k) = firstV n s) : firstV n (s.drop (k + 1)) = firstV n s := by
  rw [← hp, dropg hk, firstV, if_pos h]

set_option maxRecDepth 10000 in
set_option maxHeartbeats 3200000 in
theorem impl_layers {w : World} {v : Value} {s : List (List Bx)} (hn : s.length ≤ 1048576) (hsm : ∀ j (h : j < s.length), smL 1048576 s[j]) (h : RSC w v s) :
    Calls Try.prog 40 #[v] w fun e w' => e = .returned (.int .i64 (layF s)) ∧ Below w.heap.size w w' := by
  obtain ⟨a, c, rfl⟩ := h.rss.form
  obtain ⟨n, hnn⟩ : ∃ n, n = s.length := ⟨_, rfl⟩
  obtain ⟨C, hC⟩ : ∃ C, C = layF s := ⟨_, rfl⟩
  rw [← hnn] at hn h ⊢
  rw [← hC]
  have H : Hid (RSC w (.slice a n c) s ∧ n = s.length ∧ C = layF s ∧ ∀ j (h : j < s.length), smL 1048576 s[j]) := ⟨h, hnn, hC, hsm⟩
  clear h hnn hC hsm
  by_cases h8 : (8 : Int) < (n : Int)
  · have HC : Hid (C = 2) := by unfold Hid; rw [H.out.2.2.1, layF, if_pos (by rw [← H.out.2.1]; omega)]
    go_enter Try.func40, Try.ntmps40
    go_wp2
    go_returns
    exact ⟨by rw [HC.out]; rfl, by (repeat' (first | (with_reducible exact Below.refl _ _) | (with_reducible assumption) | (with_reducible refine Below.setCell ?_ ?_ _) | (with_reducible refine Below.alloc ?_ ?_ _) | (with_reducible refine below_drewN ?_ _) | (with_reducible refine Below.drew ?_) | (with_reducible exact Nat.le_refl _) | omega | (simp; done) | (simp; omega)))⟩
  have HC : Hid (C = firstL s) := by unfold Hid; rw [H.out.2.2.1, layF, if_neg (by rw [← H.out.2.1]; omega)]
  go_enter Try.func40, Try.ntmps40
  go_wp2
  go_loopw [11] (fun i wr => ∃ k : Nat, k ≤ n ∧ i = .int .i64 k ∧ Hid (firstL (s.drop k) = firstL s ∧ Below w.heap.size w wr)) (fun i _ => n - (intOf i).toNat)
  case atStart => exact ⟨0, Nat.zero_le _, rfl, rfl, Below.refl _ _⟩
  case round =>
    obtain ⟨k, hk, rfl, hR⟩ := hrel
    by_cases hlt : k < n
    · have hkl : k < s.length := by rw [← H.out.2.1]; exact hlt
      obtain ⟨g, o, c2, he, hg, x, hx, hxc, c0⟩ := (H.out.1.below hR.out.2).at hkl
      simp only [Value.slice.injEq] at he
      obtain ⟨rfl, hx1, hx2⟩ := he
      clear hx1 hx2
      obtain ⟨y, hy⟩ : ∃ y, y = shapeK s[k] := ⟨_, rfl⟩
      have HCL : Hid (Calls Try.prog 66 #[.slice x.a x.n x.c] wr fun e w' => e = .returned (.int .i64 y) ∧ Below wr.heap.size wr w') := by
        unfold Hid
        rw [hy]
        exact impl_shape (by have := H.out.2.2.2 k hkl; unfold smL at this; omega) hxc hx
      have HY : Hid (y = shapeK s[k]) := hy
      have HR : Hid _ := hR.out
      clear hx hy hR hxc
      have b0 : (0 : Int) ≤ (k : Int) := by omega
      have b1 : (k : Int) < (n : Int) := by omega
      go_wp2_with (fail)
      refine HCL.out.mono ?_
      rintro e w4 ⟨rfl, hb4⟩
      have HB4 : Hid (Below w.heap.size w w4) := HR.out.2.trans (hb4.mono HR.out.2.size)
      clear hb4 c0
      by_cases hy0 : y = 0
      · have HM : Hid (firstL (s.drop (k + 1)) = firstL s) := firstL_miss hkl (by rw [← HY.out]; exact hy0) HR.out.1
        subst hy0
        go_wp2
        go_roundw
        case rel => exact ⟨k + 1, by omega, by go_num, HM.out, HB4.out⟩
        case measure => simp [intOf]; omega
      · have HE : Hid (C = y) := by unfold Hid; rw [HC.out, HY.out]; exact firstL_hit hkl (by rw [← HY.out]; exact hy0) HR.out.1
        go_wp2
        go_returns
        exact ⟨by rw [HE.out]; rfl, HB4.out⟩
    · have e : Hid (C = 0) := by
        unfold Hid
        rw [HC.out, ← hR.out.1, List.drop_eq_nil_of_le (by rw [← H.out.2.1]; omega)]
        rfl
      have HB : Hid (Below w.heap.size w wr) := hR.out.2
      clear hR
      go_wp2
      go_returns
      exact ⟨by rw [e.out]; rfl, HB.out⟩

set_option maxRecDepth 10000 in
set_option maxHeartbeats 3200000 in
theorem impl_via (n : Int) (v : Vi) (w : World) :
    Calls Try.prog 41 #[.agg #[.int .i64 v.l, .int .i64 v.h, .int .i64 v.b.x0, .int .i64 v.b.y0, .int .i64 v.b.x1, .int .i64 v.b.y1], .int .i64 n] w fun e w' => e = .returned (.int .i64 (viF n v)) ∧ Below w.heap.size w w' := by
  obtain ⟨C, hC⟩ : ∃ C, C = viF n v := ⟨_, rfl⟩
  rw [← hC]
  have HC : Hid (C = viF n v) := hC
  clear hC
  by_cases q0 : v.l < 0
  · have HE : Hid (C = 1) := by unfold Hid; rw [HC.out, viF, if_pos (by omega)]
    go_enter Try.func41, Try.ntmps41
    go_wp2
    go_returns
    exact ⟨by rw [HE.out]; rfl, by (repeat' (first | (with_reducible exact Below.refl _ _) | (with_reducible assumption) | (with_reducible refine Below.setCell ?_ ?_ _) | (with_reducible refine Below.alloc ?_ ?_ _) | (with_reducible refine below_drewN ?_ _) | (with_reducible refine Below.drew ?_) | (with_reducible exact Nat.le_refl _) | omega | (simp; done) | (simp; omega)))⟩
  by_cases q1 : n ≤ v.l
  · have HE : Hid (C = 1) := by unfold Hid; rw [HC.out, viF, if_pos (by omega)]
    go_enter Try.func41, Try.ntmps41
    go_wp2
    go_returns
    exact ⟨by rw [HE.out]; rfl, by (repeat' (first | (with_reducible exact Below.refl _ _) | (with_reducible assumption) | (with_reducible refine Below.setCell ?_ ?_ _) | (with_reducible refine Below.alloc ?_ ?_ _) | (with_reducible refine below_drewN ?_ _) | (with_reducible refine Below.drew ?_) | (with_reducible exact Nat.le_refl _) | omega | (simp; done) | (simp; omega)))⟩
  by_cases q2 : v.h < 0
  · have HE : Hid (C = 1) := by unfold Hid; rw [HC.out, viF, if_pos (by omega)]
    go_enter Try.func41, Try.ntmps41
    go_wp2
    go_returns
    exact ⟨by rw [HE.out]; rfl, by (repeat' (first | (with_reducible exact Below.refl _ _) | (with_reducible assumption) | (with_reducible refine Below.setCell ?_ ?_ _) | (with_reducible refine Below.alloc ?_ ?_ _) | (with_reducible refine below_drewN ?_ _) | (with_reducible refine Below.drew ?_) | (with_reducible exact Nat.le_refl _) | omega | (simp; done) | (simp; omega)))⟩
  by_cases q3 : n ≤ v.h
  · have HE : Hid (C = 1) := by unfold Hid; rw [HC.out, viF, if_pos (by omega)]
    go_enter Try.func41, Try.ntmps41
    go_wp2
    go_returns
    exact ⟨by rw [HE.out]; rfl, by (repeat' (first | (with_reducible exact Below.refl _ _) | (with_reducible assumption) | (with_reducible refine Below.setCell ?_ ?_ _) | (with_reducible refine Below.alloc ?_ ?_ _) | (with_reducible refine below_drewN ?_ _) | (with_reducible refine Below.drew ?_) | (with_reducible exact Nat.le_refl _) | omega | (simp; done) | (simp; omega)))⟩
  by_cases q4 : v.l = v.h
  · have HE : Hid (C = 1) := by unfold Hid; rw [HC.out, viF, if_pos (by omega)]
    go_enter Try.func41, Try.ntmps41
    go_wp2
    go_returns
    exact ⟨by rw [HE.out]; rfl, by (repeat' (first | (with_reducible exact Below.refl _ _) | (with_reducible assumption) | (with_reducible refine Below.setCell ?_ ?_ _) | (with_reducible refine Below.alloc ?_ ?_ _) | (with_reducible refine below_drewN ?_ _) | (with_reducible refine Below.drew ?_) | (with_reducible exact Nat.le_refl _) | omega | (simp; done) | (simp; omega)))⟩
  have HE : Hid (C = bfK v.b) := by unfold Hid; rw [HC.out, viF, if_neg (by omega)]
  go_enter Try.func41, Try.ntmps41
  go_wp2_with (fail)
  refine (impl_box v.b _).mono ?_
  rintro e w1 ⟨rfl, hb1⟩
  have HB : Hid (Below w.heap.size w w1) := (show Below w.heap.size w _ from by (repeat' (first | (with_reducible exact Below.refl _ _) | (with_reducible assumption) | (with_reducible refine Below.setCell ?_ ?_ _) | (with_reducible refine Below.alloc ?_ ?_ _) | (with_reducible refine below_drewN ?_ _) | (with_reducible refine Below.drew ?_) | (with_reducible exact Nat.le_refl _) | omega | (simp; done) | (simp; omega)))).trans (hb1.mono (by simp))
  clear hb1
  rw [← HE.out]
  go_wp2
  go_returns
  exact ⟨rfl, HB.out⟩

set_option maxRecDepth 10000 in
set_option maxHeartbeats 3200000 in
theorem impl_wr {w : World} {v u : Value} {s : List (List Bx)} {t : List Vi} (hn : s.length ≤ 1048576) (ht : t.length ≤ 1048576) (hsm : ∀ j (h : j < s.length), smL 1048576 s[j]) (h : RSC w v s) (h' : RG 6 viC w u t) :
    Calls Try.prog 11 #[.agg #[v, u]] w fun e w' => e = .returned (.int .i64 (wrF s t)) ∧ Below w.heap.size w w' := by
  obtain ⟨a, c, rfl⟩ := h.rss.form
  obtain ⟨b, d, rfl⟩ := h'.form
  obtain ⟨n, hnn⟩ : ∃ n, n = s.length := ⟨_, rfl⟩
  obtain ⟨m, hmm⟩ : ∃ m, m = t.length := ⟨_, rfl⟩
  obtain ⟨C, hC⟩ : ∃ C, C = wrF s t := ⟨_, rfl⟩
  obtain ⟨F, hF⟩ : ∃ F, F = layF s := ⟨_, rfl⟩
  have hcl := fun W (hW : Below w.heap.size w W) => impl_layers hn hsm (h.below hW)
  rw [← hnn] at h hcl ⊢
  rw [← hmm] at h' ht ⊢
  rw [← hC]
  rw [← hF] at hcl
  have H : Hid (RG 6 viC w (.slice b m d) t ∧ (n = s.length ∧ m = t.length) ∧ C = wrF s t ∧ F = layF s) := ⟨h', ⟨hnn, hmm⟩, hC, hF⟩
  have HCL : Hid _ := hcl
  clear h h' hnn hmm hC hF hsm hcl hn
  go_enter Try.func11, Try.ntmps11
  go_wp2_with (fail)
  refine (HCL.out _ (by (repeat' (first | (with_reducible exact Below.refl _ _) | (with_reducible assumption) | (with_reducible refine Below.setCell ?_ ?_ _) | (with_reducible refine Below.alloc ?_ ?_ _) | (with_reducible refine below_drewN ?_ _) | (with_reducible refine Below.drew ?_) | (with_reducible exact Nat.le_refl _) | omega | (simp; done) | (simp; omega))))).mono ?_
  rintro e w1 ⟨rfl, hb1⟩
  have B1 : Hid (Below w.heap.size w w1 ∧ w1.heap[w.heap.size]? = some (.cells #[.slice a n c, .slice b m d] 31)) := ⟨(show Below w.heap.size w _ from by (repeat' (first | (with_reducible exact Below.refl _ _) | (with_reducible assumption) | (with_reducible refine Below.setCell ?_ ?_ _) | (with_reducible refine Below.alloc ?_ ?_ _) | (with_reducible refine below_drewN ?_ _) | (with_reducible refine Below.drew ?_) | (with_reducible exact Nat.le_refl _) | omega | (simp; done) | (simp; omega)))).trans (hb1.mono (by simp)), (hb1.block _ (by simp)).trans (heap_alloc_new w _)⟩
  clear hb1 HCL
  by_cases hF0 : F = 0
  case neg =>
    have HE : Hid (C = F) := by unfold Hid; rw [H.out.2.2.1, wrF, if_neg (by rw [← H.out.2.2.2]; exact hF0), H.out.2.2.2]
    go_wp2
    go_returns
    exact ⟨by rw [HE.out]; rfl, B1.out.1⟩
  have HF0 : Hid (layF s = 0) := by unfold Hid; rw [← H.out.2.2.2]; exact hF0
  subst hF0
  obtain ⟨p0, p1, pf, plt⟩ := two_atW B1.out.2
  by_cases h60 : (60 : Int) < (m : Int)
  · have HE : Hid (C = 2) := by unfold Hid; rw [H.out.2.2.1, wrF, if_pos HF0.out, if_pos (by rw [← H.out.2.1.2]; omega)]
    go_wp2
    go_returns
    exact ⟨by rw [HE.out]; rfl, B1.out.1⟩
  have HC : Hid (C = firstV (n : Int) t) := by unfold Hid; rw [H.out.2.2.1, wrF, if_pos HF0.out, if_neg (by rw [← H.out.2.1.2]; omega), H.out.2.1.1]
  go_wp2
  go_loopw [20] (fun i wr => ∃ k : Nat, k ≤ m ∧ i = .int .i64 k ∧ Hid (firstV (n : Int) (t.drop k) = firstV (n : Int) t ∧ Below w.heap.size w wr ∧ wr.heap[w.heap.size]? = some (.cells #[.slice a n c, .slice b m d] 31))) (fun i _ => m - (intOf i).toNat)
  case atStart => exact ⟨0, Nat.zero_le _, rfl, rfl, B1.out.1, B1.out.2⟩
  case round =>
    clear p0 p1 pf plt
    obtain ⟨k, hk, rfl, hR⟩ := hrel
    by_cases hlt : k < m
    · have hkl : k < t.length := by rw [← H.out.2.1.2]; exact hlt
      obtain ⟨g, o, c2, he, hg, hj⟩ := (H.out.1.below hR.out.2.1).pos (by omega)
      simp only [Value.slice.injEq] at he
      obtain ⟨rfl, hx1, hx2⟩ := he
      clear hx1 hx2
      obtain ⟨c0, c1, c2, c3, c4, c5⟩ := viC_at (hj k hkl)
      obtain ⟨x, hx⟩ : ∃ x, x = t[k] := ⟨_, rfl⟩
      rw [← hx] at c0 c1 c2 c3 c4 c5
      obtain ⟨y, hy⟩ : ∃ y, y = viF (n : Int) x := ⟨_, rfl⟩
      have HY : Hid (y = viF (n : Int) t[k]) := by unfold Hid; rw [hy, hx]
      have HCL : Hid (∀ W, Calls Try.prog 41 #[.agg #[.int .i64 x.l, .int .i64 x.h, .int .i64 x.b.x0, .int .i64 x.b.y0, .int .i64 x.b.x1, .int .i64 x.b.y1], .int .i64 (n : Int)] W fun e w' => e = .returned (.int .i64 y) ∧ Below W.heap.size W w') := fun W => by rw [hy]; exact impl_via (n : Int) x W
      obtain ⟨p0, p1, pf, plt⟩ := two_atW hR.out.2.2
      have HR : Hid _ := hR.out
      clear hx hy hR hj
      have b0 : (0 : Int) ≤ (k : Int) := by omega
      have b1 : (k : Int) < (m : Int) := by omega
      go_wp2_with (fail)
      refine (HCL.out _).mono ?_
      rintro e w4 ⟨rfl, hb4⟩
      have hb4' : Below wr.heap.size wr w4 := Below.trans (by (repeat' (first | (with_reducible exact Below.refl _ _) | (with_reducible assumption) | (with_reducible refine Below.setCell ?_ ?_ _) | (with_reducible refine Below.alloc ?_ ?_ _) | (with_reducible refine below_drewN ?_ _) | (with_reducible refine Below.drew ?_) | (with_reducible exact Nat.le_refl _) | omega | (simp; done) | (simp; omega)))) (hb4.mono (by simp))
      have HB4 : Hid (Below w.heap.size w w4 ∧ w4.heap[w.heap.size]? = some (.cells #[.slice a n c, .slice (some ⟨g, o, none⟩) m d] 31)) := ⟨HR.out.2.1.trans (hb4'.mono HR.out.2.1.size), (hb4'.block _ plt).trans HR.out.2.2⟩
      clear hb4 hb4' c0 c1 c2 c3 c4 c5 p0 p1 pf plt HCL
      by_cases hy0 : y = 0
      · have HM : Hid (firstV (n : Int) (t.drop (k + 1)) = firstV (n : Int) t) := firstV_miss hkl (by rw [← HY.out]; exact hy0) HR.out.1
        subst hy0
        go_wp2
        go_roundw
        case rel => exact ⟨k + 1, by omega, by go_num, HM.out, HB4.out⟩
        case measure => simp [intOf]; omega
      · have HE : Hid (C = y) := by unfold Hid; rw [HC.out, HY.out]; exact firstV_hit hkl (by rw [← HY.out]; exact hy0) HR.out.1
        go_wp2
        go_returns
        exact ⟨by rw [HE.out]; rfl, HB4.out.1⟩
    · have e : Hid (C = 0) := by
        unfold Hid
        rw [HC.out, ← hR.out.1, List.drop_eq_nil_of_le (by rw [← H.out.2.1.2]; omega)]
        rfl
      have HB : Hid (Below w.heap.size w wr) := hR.out.2.1
      clear hR
      go_wp2
      go_returns
      exact ⟨by rw [e.out]; rfl, HB.out⟩

set_option maxRecDepth 10000 in
set_option maxHeartbeats 6400000 in
theorem spec_wr {w : World} {v u : Value} {s : List (List Bx)} {t : List Vi} (hn : s.length ≤ 1048576) (ht : t.length ≤ 1048576) (h : RSS w v s) (h' : RG 6 viC w u t) :
    Calls Try.prog 9 #[.agg #[v, u]] w fun e w' => e = .returned (.int .i64 (wrF s t)) ∧ Below w.heap.size w w' := by
  obtain ⟨a, c, rfl⟩ := h.form
  obtain ⟨b, d, rfl⟩ := h'.form
  obtain ⟨n, hnn⟩ : ∃ n, n = s.length := ⟨_, rfl⟩
  obtain ⟨m, hmm⟩ : ∃ m, m = t.length := ⟨_, rfl⟩
  obtain ⟨C, hC⟩ : ∃ C, C = wrF s t := ⟨_, rfl⟩
  rw [← hnn] at h hn ⊢
  rw [← hmm] at h' ht ⊢
  rw [← hC]
  have H : Hid (RSS w (.slice a n c) s ∧ RG 6 viC w (.slice b m d) t ∧ (n = s.length ∧ m = t.length) ∧ C = wrF s t) := ⟨h, h', ⟨hnn, hmm⟩, hC⟩
  clear h h' hnn hmm hC
  by_cases h8 : (8 : Int) < (n : Int)
  · have HE : Hid (C = 2) := by
      have e : layF s = 2 := by rw [layF, if_pos (by rw [← H.out.2.2.1.1]; omega)]
      unfold Hid; rw [H.out.2.2.2, wrF, if_neg (by rw [e]; omega), e]
    go_enter Try.func9, Try.ntmps9
    go_wp2
    go_returns
    exact ⟨by rw [HE.out]; rfl, by (repeat' (first | (with_reducible exact Below.refl _ _) | (with_reducible assumption) | (with_reducible refine Below.setCell ?_ ?_ _) | (with_reducible refine Below.alloc ?_ ?_ _) | (with_reducible refine below_drewN ?_ _) | (with_reducible refine Below.drew ?_) | (with_reducible exact Nat.le_refl _) | omega | (simp; done) | (simp; omega)))⟩
  have HLF : Hid (layF s = firstL s) := by unfold Hid; rw [layF, if_neg (by rw [← H.out.2.2.1.1]; omega)]
  go_enter Try.func9, Try.ntmps9
  go_wp2
  go_loopw [3] (fun i wr => ∃ k : Nat, k ≤ n ∧ i = .int .i64 k ∧ Hid (firstL (s.drop k) = firstL s ∧ Below w.heap.size w wr ∧ wr.heap[w.heap.size]? = some (.cells #[.slice a n c, .slice b m d] 31))) (fun i _ => n - (intOf i).toNat)
  case atStart => exact ⟨0, Nat.zero_le _, rfl, rfl, by (repeat' (first | (with_reducible exact Below.refl _ _) | (with_reducible assumption) | (with_reducible refine Below.setCell ?_ ?_ _) | (with_reducible refine Below.alloc ?_ ?_ _) | (with_reducible refine below_drewN ?_ _) | (with_reducible refine Below.drew ?_) | (with_reducible exact Nat.le_refl _) | omega | (simp; done) | (simp; omega))), heap_alloc_new w _⟩
  case round =>
    obtain ⟨k, hk, rfl, hR⟩ := hrel
    obtain ⟨p0, p1, pf, plt⟩ := two_atW hR.out.2.2
    by_cases hlt : k < n
    · have hkl : k < s.length := by rw [← H.out.2.2.1.1]; exact hlt
      obtain ⟨g, o, c2, he, hg, x, hx, c0⟩ := (H.out.1.below hR.out.2.1).at hkl
      simp only [Value.slice.injEq] at he
      obtain ⟨rfl, hx1, hx2⟩ := he
      clear hx1 hx2
      obtain ⟨y, hy⟩ : ∃ y, y = shapeK s[k] := ⟨_, rfl⟩
      have HCL : Hid (Calls Try.prog 36 #[.slice x.a x.n x.c] wr fun e w' => e = .returned (.int .i64 y) ∧ Below wr.heap.size wr w') := by
        unfold Hid
        rw [hy]
        exact spec_shape hx
      have HY : Hid (y = shapeK s[k]) := hy
      have HR : Hid _ := hR.out
      clear hx hy hR
      have b0 : (0 : Int) ≤ (k : Int) := by omega
      have b1 : (k : Int) < (n : Int) := by omega
      go_wp2_with (fail)
      refine HCL.out.mono ?_
      rintro e w4 ⟨rfl, hb4⟩
      have HB4 : Hid (Below w.heap.size w w4 ∧ w4.heap[w.heap.size]? = some (.cells #[.slice (some ⟨g, o, none⟩) n c, .slice b m d] 31)) := ⟨HR.out.2.1.trans (hb4.mono HR.out.2.1.size), (hb4.block _ plt).trans HR.out.2.2⟩
      clear hb4 c0 p0 p1 pf plt
      by_cases hy0 : y = 0
      · have HM : Hid (firstL (s.drop (k + 1)) = firstL s) := firstL_miss hkl (by rw [← HY.out]; exact hy0) HR.out.1
        subst hy0
        go_wp2
        go_roundw
        case rel => exact ⟨k + 1, by omega, by go_num, HM.out, HB4.out⟩
        case measure => simp [intOf]; omega
      · have HE : Hid (C = y) := by
          have e : layF s = y := by rw [HLF.out, HY.out]; exact firstL_hit hkl (by rw [← HY.out]; exact hy0) HR.out.1
          unfold Hid; rw [H.out.2.2.2, wrF, if_neg (by rw [e]; exact hy0), e]
        go_wp2
        go_returns
        exact ⟨by rw [HE.out]; rfl, HB4.out.1⟩
    · have HF0 : Hid (layF s = 0) := by
        unfold Hid
        rw [HLF.out, ← hR.out.1, List.drop_eq_nil_of_le (by rw [← H.out.2.2.1.1]; omega)]
        rfl
      have B1 : Hid (Below w.heap.size w wr ∧ wr.heap[w.heap.size]? = some (.cells #[.slice a n c, .slice b m d] 31)) := hR.out.2
      clear hR
      by_cases h60 : (60 : Int) < (m : Int)
      · have HE : Hid (C = 2) := by unfold Hid; rw [H.out.2.2.2, wrF, if_pos HF0.out, if_pos (by rw [← H.out.2.2.1.2]; omega)]
        go_wp2
        go_returns
        exact ⟨by rw [HE.out]; rfl, B1.out.1⟩
      have HC : Hid (C = firstV (n : Int) t) := by unfold Hid; rw [H.out.2.2.2, wrF, if_pos HF0.out, if_neg (by rw [← H.out.2.2.1.2]; omega), H.out.2.2.1.1]
      go_wp2
      go_loopw [6] (fun i wq => ∃ k : Nat, k ≤ m ∧ i = .int .i64 k ∧ Hid (firstV (n : Int) (t.drop k) = firstV (n : Int) t ∧ Below w.heap.size w wq ∧ wq.heap[w.heap.size]? = some (.cells #[.slice a n c, .slice b m d] 31))) (fun i _ => m - (intOf i).toNat)
      case atStart => exact ⟨0, Nat.zero_le _, rfl, rfl, B1.out.1, B1.out.2⟩
      case round =>
        clear p0 p1 pf plt
        obtain ⟨k, hk, rfl, hR⟩ := hrel
        obtain ⟨p0, p1, pf, plt⟩ := two_atW hR.out.2.2
        by_cases hlt : k < m
        · have hkl : k < t.length := by rw [← H.out.2.2.1.2]; exact hlt
          obtain ⟨g, o, c2, he, hg, hj⟩ := (H.out.2.1.below hR.out.2.1).pos (by omega)
          simp only [Value.slice.injEq] at he
          obtain ⟨rfl, hx1, hx2⟩ := he
          clear hx1 hx2
          obtain ⟨c0, c1, c2, c3, c4, c5⟩ := viC_at (hj k hkl)
          obtain ⟨x, hx⟩ : ∃ x, x = t[k] := ⟨_, rfl⟩
          rw [← hx] at c0 c1 c2 c3 c4 c5
          have HX : Hid (x = t[k] ∧ k < t.length) := ⟨hx, hkl⟩
          have HR : Hid (firstV (n : Int) (t.drop k) = firstV (n : Int) t ∧ Below w.heap.size w wr ∧ wr.heap[w.heap.size]? = some (.cells #[.slice a n c, .slice (some ⟨g, o, none⟩) m d] 31)) := hR.out
          clear hx hR hj
          have hBw := HR.out.2.1
          have hBs := hBw.size
          have b0 : (0 : Int) ≤ (k : Int) := by omega
          have b1 : (k : Int) < (m : Int) := by omega
          by_cases q0 : x.l < 0
          · have HE : Hid (C = 1) := by
              have e : viF (n : Int) t[k] = 1 := by rw [← HX.out.1, viF, if_pos (by omega)]
              unfold Hid; rw [HC.out, firstV_hit hkl (by rw [e]; omega) HR.out.1, e]
            go_wp2
            go_returns
            exact ⟨by rw [HE.out]; rfl, by (repeat' (first | (with_reducible exact Below.refl _ _) | (with_reducible assumption) | (with_reducible refine Below.setCell ?_ ?_ _) | (with_reducible refine Below.alloc ?_ ?_ _) | (with_reducible refine below_drewN ?_ _) | (with_reducible refine Below.drew ?_) | (with_reducible exact Nat.le_refl _) | omega | (simp; done) | (simp; omega)))⟩
          by_cases q1 : (n : Int) ≤ x.l
          · have HE : Hid (C = 1) := by
              have e : viF (n : Int) t[k] = 1 := by rw [← HX.out.1, viF, if_pos (by omega)]
              unfold Hid; rw [HC.out, firstV_hit hkl (by rw [e]; omega) HR.out.1, e]
            go_wp2
            go_returns
            exact ⟨by rw [HE.out]; rfl, by (repeat' (first | (with_reducible exact Below.refl _ _) | (with_reducible assumption) | (with_reducible refine Below.setCell ?_ ?_ _) | (with_reducible refine Below.alloc ?_ ?_ _) | (with_reducible refine below_drewN ?_ _) | (with_reducible refine Below.drew ?_) | (with_reducible exact Nat.le_refl _) | omega | (simp; done) | (simp; omega)))⟩
          by_cases q2 : x.h < 0
          · have HE : Hid (C = 1) := by
              have e : viF (n : Int) t[k] = 1 := by rw [← HX.out.1, viF, if_pos (by omega)]
              unfold Hid; rw [HC.out, firstV_hit hkl (by rw [e]; omega) HR.out.1, e]
            go_wp2
            go_returns
            exact ⟨by rw [HE.out]; rfl, by (repeat' (first | (with_reducible exact Below.refl _ _) | (with_reducible assumption) | (with_reducible refine Below.setCell ?_ ?_ _) | (with_reducible refine Below.alloc ?_ ?_ _) | (with_reducible refine below_drewN ?_ _) | (with_reducible refine Below.drew ?_) | (with_reducible exact Nat.le_refl _) | omega | (simp; done) | (simp; omega)))⟩
          by_cases q3 : (n : Int) ≤ x.h
          · have HE : Hid (C = 1) := by
              have e : viF (n : Int) t[k] = 1 := by rw [← HX.out.1, viF, if_pos (by omega)]
              unfold Hid; rw [HC.out, firstV_hit hkl (by rw [e]; omega) HR.out.1, e]
            go_wp2
            go_returns
            exact ⟨by rw [HE.out]; rfl, by (repeat' (first | (with_reducible exact Below.refl _ _) | (with_reducible assumption) | (with_reducible refine Below.setCell ?_ ?_ _) | (with_reducible refine Below.alloc ?_ ?_ _) | (with_reducible refine below_drewN ?_ _) | (with_reducible refine Below.drew ?_) | (with_reducible exact Nat.le_refl _) | omega | (simp; done) | (simp; omega)))⟩
          by_cases q4 : x.l = x.h
          · have HE : Hid (C = 1) := by
              have e : viF (n : Int) t[k] = 1 := by rw [← HX.out.1, viF, if_pos (by omega)]
              unfold Hid; rw [HC.out, firstV_hit hkl (by rw [e]; omega) HR.out.1, e]
            go_wp2
            go_returns
            exact ⟨by rw [HE.out]; rfl, by (repeat' (first | (with_reducible exact Below.refl _ _) | (with_reducible assumption) | (with_reducible refine Below.setCell ?_ ?_ _) | (with_reducible refine Below.alloc ?_ ?_ _) | (with_reducible refine below_drewN ?_ _) | (with_reducible refine Below.drew ?_) | (with_reducible exact Nat.le_refl _) | omega | (simp; done) | (simp; omega)))⟩
          obtain ⟨y, hy⟩ : ∃ y, y = bfK x.b := ⟨_, rfl⟩
          have HY : Hid (y = viF (n : Int) t[k]) := by unfold Hid; rw [← HX.out.1, viF, if_neg (by omega), hy]
          have HCL : Hid (∀ W, Calls Try.prog 37 #[.agg #[.int .i64 x.b.x0, .int .i64 x.b.y0, .int .i64 x.b.x1, .int .i64 x.b.y1]] W fun e w' => e = .returned (.int .i64 y) ∧ Below W.heap.size W w') := fun W => by rw [hy]; exact spec_box x.b W
          clear hy
          go_wp2_with (fail)
          refine (HCL.out _).mono ?_
          rintro e w4 ⟨rfl, hb4⟩
          have hb4' : Below wr.heap.size wr w4 := Below.trans (by (repeat' (first | (with_reducible exact Below.refl _ _) | (with_reducible assumption) | (with_reducible refine Below.setCell ?_ ?_ _) | (with_reducible refine Below.alloc ?_ ?_ _) | (with_reducible refine below_drewN ?_ _) | (with_reducible refine Below.drew ?_) | (with_reducible exact Nat.le_refl _) | omega | (simp; done) | (simp; omega)))) (hb4.mono (by simp))
          have HB4 : Hid (Below w.heap.size w w4 ∧ w4.heap[w.heap.size]? = some (.cells #[.slice a n c, .slice (some ⟨g, o, none⟩) m d] 31)) := ⟨HR.out.2.1.trans (hb4'.mono HR.out.2.1.size), (hb4'.block _ plt).trans HR.out.2.2⟩
          clear hb4 hb4' c0 c1 c2 c3 c4 c5 p0 p1 pf plt HCL hBw hBs
          by_cases hy0 : y = 0
          · have HM : Hid (firstV (n : Int) (t.drop (k + 1)) = firstV (n : Int) t) := firstV_miss hkl (by rw [← HY.out]; exact hy0) HR.out.1
            subst hy0
            go_wp2
            go_roundw
            case rel => exact ⟨k + 1, by omega, by go_num, HM.out, HB4.out⟩
            case measure => simp [intOf]; omega
          · have HE : Hid (C = y) := by unfold Hid; rw [HC.out, HY.out]; exact firstV_hit hkl (by rw [← HY.out]; exact hy0) HR.out.1
            go_wp2
            go_returns
            exact ⟨by rw [HE.out]; rfl, HB4.out.1⟩
        · have e : Hid (C = 0) := by
            unfold Hid
            rw [HC.out, ← hR.out.1, List.drop_eq_nil_of_le (by rw [← H.out.2.2.1.2]; omega)]
            rfl
          have HB : Hid (Below w.heap.size w wr) := hR.out.2.1
          clear hR
          go_wp2
          go_returns
          exact ⟨by rw [e.out]; rfl, HB.out⟩

end Go.Proofs.Ytbfieehlekgjeaa
