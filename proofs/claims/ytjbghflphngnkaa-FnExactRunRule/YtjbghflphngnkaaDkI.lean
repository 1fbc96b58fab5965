/- Proved here: lateness and flowed of the program. (And ahead of it: Proved here: slices.Grow of nothing, and slices.Concat of two lists of jobs: a new list of the call's own. By walking the library's own text.) -/
import Derived.Test.YtjbghflphngnkaaSoH
import Derived.Test.YtjbghflphngnkaaOpN
import Derived.Lib.AppendZeros
import Derived.Laws.AppendOwnNone
import Derived.Test.YtjbghflphngnkaaDkM
import Derived.Test.YtjbghflphngnkaaSoF
import Derived.Test.YtjbghflphngnkaaUnd
import Derived.BigQuiet
namespace Go.Proofs.Ytjbghflphngnkaa
open Go.RowKit
set_option linter.unusedVariables false
set_option linter.unusedSimpArgs false


set_option maxHeartbeats 3200000 in
theorem gro_jb (n : Nat) (hn : n ≤ 1000) (w : World) :
    Calls Try.prog 79 #[.slice none 0 0, .int .i64 n] w fun e w' => ∃ r, e = .returned r ∧ OG 51 7 jbC w' w.heap.size r ([] : List Jb) ∧ Below w.heap.size w w' := by
  obtain ⟨i0, hi, hz0, hz1, hz2⟩ := info_parts info_Job
  rcases Nat.eq_zero_or_pos n with h0 | h0
  · subst h0
    go_enter Try.func79, Try.ntmps79
    go_wp2
    go_returns
    exact ⟨_, rfl, OG.nl _ _ _ _ _, Below.refl _ _⟩
  · have h1 : (0 : Int) < (n : Int) := by omega
    have h2 : ¬ (n : Int) < 0 := by omega
    have h3 : IntKind.i64.wrap (n : Int) = n := by rw [IntKind.wrap_i64]; omega
    obtain ⟨cp, hcp⟩ : ∃ c, c = grownCap w n 0 51 := ⟨_, rfl⟩
    have hge : n ≤ cp := by rw [hcp]; exact grownCap_ge w n 0 _
    have hle : cp ≤ maxLen := by rw [hcp]; exact grownCap_le_maxLen w n 0 _ (by unfold maxLen; omega)
    obtain ⟨kn, hkn⟩ : ∃ kn, Try.prog.underlying 3 = some (.int kn) := ⟨_, Try.underlying3⟩
    have hrun := Lib.run_append_nil_zeros (P := Try.prog) w 28 3 28 51 i0 (.agg #[.int .i64 0, .int .i64 0, .int .i64 0, .int .i64 0, .int .i64 0, .int .i64 0, .int .i64 0]) .i64 kn Try.underlying28 hkn hi hz0 n h0 (by rw [hz1]; decide) (by omega) (by rw [hz2]; omega)
    rw [← hcp] at hrun
    obtain ⟨W, hW⟩ : ∃ W, W = w.drew.alloc (.cells (Builtin.zeroCells (Value.cells (.agg #[.int .i64 0, .int .i64 0, .int .i64 0, .int .i64 0, .int .i64 0, .int .i64 0, .int .i64 0])) n ++ Builtin.zeroCells (Value.cells (.agg #[.int .i64 0, .int .i64 0, .int .i64 0, .int .i64 0, .int .i64 0, .int .i64 0, .int .i64 0])) (cp - n)) 51) := ⟨_, rfl⟩
    rw [← hW] at hrun
    have HW : Hid (OG 51 7 jbC W w.heap.size (.slice (some ⟨w.heap.size, 0, none⟩) 0 cp) ([] : List Jb) ∧ Below w.heap.size w W) := by
      rw [hW]
      refine ⟨⟨by simp, Or.inr ⟨w.heap.size, cp, _, rfl, Nat.le_refl _, heap_alloc_new w.drew _, by simp, hle, ?_, by simp⟩⟩, by (repeat' (first | (with_reducible exact Below.refl _ _) | (with_reducible assumption) | (with_reducible refine Below.setCell ?_ ?_ _) | (with_reducible refine Below.alloc ?_ ?_ _) | (with_reducible refine below_drewN ?_ _) | (with_reducible refine Below.drew ?_) | (with_reducible exact Nat.le_refl _) | omega | (simp; done) | (simp; omega)))⟩
      rw [Array.size_append, size_zeroCells, size_zeroCells]
      show n * 7 + (cp - n) * 7 = cp * 7
      omega
    clear hW hcp
    have hcpi : (0 : Int) ≤ (cp : Int) := by omega
    go_enter Try.func79, Try.ntmps79
    go_wp2_with (at_builtin; refine Lib.wpList_append_run _ rfl _ _ _ _ rfl _ _ rfl rfl _ _ hrun ?_)
    go_wp2
    go_returns
    exact ⟨_, rfl, HW.out.1, HW.out.2⟩
set_option maxRecDepth 10000 in
set_option maxHeartbeats 6400000 in
theorem cat_jb {w : World} {gl n0 c0 n1 c1 : Nat} {a0 a1 : Option Addr} {xs ys : List Jb} (k0 : w.cell? ⟨gl, 0, none⟩ = some (.slice a0 n0 c0)) (k1 : w.cell? ⟨gl, 1, none⟩ = some (.slice a1 n1 c1)) (hgl : gl < w.heap.size)
    (h0 : RG 7 jbC w (.slice a0 n0 c0) xs) (h1 : RG 7 jbC w (.slice a1 n1 c1) ys) (m0 : NCj a0 n0 c0) (m1 : NCj a1 n1 c1) (hn0 : n0 ≤ 100) (hn1 : n1 ≤ 100) :
    Calls Try.prog 54 #[.slice (some ⟨gl, 0, none⟩) 2 2] w fun e w' => ∃ r, e = .returned r ∧ OG 51 7 jbC w' w.heap.size r (xs ++ ys) ∧ Below w.heap.size w w' := by
  have e0 : n0 = xs.length := h0.len
  have e1 : n1 = ys.length := h1.len
  have H : Hid (RG 7 jbC w (.slice a0 n0 c0) xs ∧ RG 7 jbC w (.slice a1 n1 c1) ys ∧ n0 = xs.length ∧ n1 = ys.length ∧ NCj a0 n0 c0 ∧ NCj a1 n1 c1) := ⟨h0, h1, e0, e1, m0, m1⟩
  have HK : Hid (w.cell? ⟨gl, 0, none⟩ = some (.slice a0 n0 c0) ∧ w.cell? ⟨gl, 1, none⟩ = some (.slice a1 n1 c1)) := ⟨k0, k1⟩
  clear h0 h1 e0 e1 m0 m1
  have z0 : ¬ (n0 : Int) < 0 := by omega
  have z1 : ¬ ((n0 : Int) + (n1 : Int)) < 0 := by omega
  obtain ⟨N, hN⟩ : ∃ N : Nat, N = n0 + n1 := ⟨_, rfl⟩
  have HG : Hid (∀ W, Calls Try.prog 79 #[.slice none 0 0, .int .i64 ((n0 : Int) + (n1 : Int))] W fun e w' => ∃ r, e = .returned r ∧ OG 51 7 jbC w' W.heap.size r ([] : List Jb) ∧ Below W.heap.size W w') := fun W => by
    have := gro_jb N (by omega) W
    rw [hN] at this
    simpa using this
  clear hN
  obtain ⟨i0, hi, hz0, hz1, hz2⟩ := info_parts info_Job
  go_enter Try.func54, Try.ntmps54
  go_wp2
  refine wp_loop_rounds 3 ?_
  rw [rounds_succ]
  go_wp2
  rw [rounds_succ]
  go_wp2
  rw [rounds_succ]
  go_wp2_with (fail)
  refine (HG.out _).mono ?_
  rintro e w1 ⟨r1, rfl, hr1, hb1⟩
  obtain ⟨ra, rc, hrf⟩ := hr1.fm
  subst hrf
  have HB1 : Hid (OG 51 7 jbC w1 w.heap.size (.slice ra 0 rc) ([] : List Jb) ∧ Below w.heap.size w w1) := ⟨hr1, hb1⟩
  have q0 : w1.cell? ⟨gl, 0, none⟩ = some (.slice a0 n0 c0) := (hb1.cell (p := ⟨gl, 0, none⟩) hgl).trans HK.out.1
  have q1 : w1.cell? ⟨gl, 1, none⟩ = some (.slice a1 n1 c1) := (hb1.cell (p := ⟨gl, 1, none⟩) hgl).trans HK.out.2
  have ql : gl < w1.heap.size := Nat.lt_of_lt_of_le hgl hb1.size
  clear hr1 hb1 k0 k1
  go_wp2
  refine wp_loop_rounds 3 ?_
  rw [rounds_succ]
  go_wp2_with (at_builtin; (refine appAny rfl _ _ 28 rfl w.heap.size 51 i0 (.agg #[.int .i64 0, .int .i64 0, .int .i64 0, .int .i64 0, .int .i64 0, .int .i64 0, .int .i64 0]) 7 56 Try.underlying28 hi hz0 hz1 hz2 rfl (by decide) (.slice ra 0 rc) 0 [] rfl (show w1.ownsRow w.heap.size 51 7 (.slice ra 0 rc) 0 [] from HB1.out.1) a0 n0 c0 (xs.flatMap jbC) rfl (by rw [fm_length jbC_len, ← H.out.2.2.1]) (fun h => H.out.2.2.2.2.1 h) (fun ad had => newsK jbC_len (by decide) (H.out.1.below HB1.out.2) ad had) (ones_of jbC_one _) (by unfold maxLen; omega) (by omega) (by have := HB1.out.2.size; omega) ?_); intro v6 w6 hown6 hgrow6 _; have HO6 : Hid (OG 51 7 jbC w6 w.heap.size v6 xs ∧ Below w.heap.size w w6) := ⟨by have h := hown6; rw [H.out.2.2.1] at h; unfold OG; simpa using h, HB1.out.2.grown hgrow6 (by have := HB1.out.2.size; omega) (fun k hk => (OG.lt HB1.out.1 k hk).1)⟩; have q1' : w6.cell? ⟨gl, 1, none⟩ = some (.slice a1 n1 c1) := (HO6.out.2.cell (p := ⟨gl, 1, none⟩) hgl).trans HK.out.2; have ql' : gl < w6.heap.size := Nat.lt_of_lt_of_le hgl HO6.out.2.size; clear hown6 hgrow6)
  obtain ⟨va, vc, hvf⟩ := HO6.out.1.fm
  subst hvf
  obtain ⟨m0, hm0⟩ : ∃ m, m = xs.length := ⟨_, rfl⟩
  have HM0 : Hid (m0 = xs.length) := hm0
  have hm1 : m0 ≤ 100 := by have := H.out.2.2.1; omega
  rw [← hm0]
  have HQ6 : Hid (w6.ownsRow w.heap.size 51 7 (.slice va m0 vc) m0 (xs.flatMap jbC)) := by
    have h := HO6.out.1
    unfold OG at h
    rw [← hm0] at h
    exact h
  clear hm0 q0 q1
  rw [rounds_succ]
  go_wp2_with (at_builtin; (refine appAny rfl _ _ 28 rfl w.heap.size 51 i0 (.agg #[.int .i64 0, .int .i64 0, .int .i64 0, .int .i64 0, .int .i64 0, .int .i64 0, .int .i64 0]) 7 56 Try.underlying28 hi hz0 hz1 hz2 rfl (by decide) (.slice va m0 vc) m0 (xs.flatMap jbC) rfl HQ6.out a1 n1 c1 (ys.flatMap jbC) rfl (by rw [fm_length jbC_len, ← H.out.2.2.2.1]) (fun h => H.out.2.2.2.2.2 h) (fun ad had => newsK jbC_len (by decide) (H.out.2.1.below HO6.out.2) ad had) (ones_of jbC_one _) (by unfold maxLen; omega) (by omega) (by have := HO6.out.2.size; omega) ?_); intro v7 w7 hown7 hgrow7 _; (have HO7 : Hid (OG 51 7 jbC w7 w.heap.size v7 (xs ++ ys) ∧ Below w.heap.size w w7) := ⟨by have h := hown7; rw [H.out.2.2.2.1, HM0.out] at h; unfold OG; rw [List.length_append, List.flatMap_append]; exact h, HO6.out.2.grown hgrow7 (by have := HO6.out.2.size; omega) (fun k hk => (World.ownsRow.lt HQ6.out k hk).1)⟩); clear hown7 hgrow7)
  rw [rounds_succ]
  go_wp2
  go_returns
  exact ⟨_, rfl, HO7.out.1, HO7.out.2⟩

end Go.Proofs.Ytjbghflphngnkaa

namespace Go.Proofs.Ytjbghflphngnkaa
open Go.RowKit
set_option linter.unusedVariables false
set_option linter.unusedSimpArgs false


set_option maxRecDepth 10000 in
set_option maxHeartbeats 6400000 in
theorem impl_late {W : World} {v : Value} {l : List Jb} (hn : l.length ≤ 30) (hr : ∀ i (hi : i < l.length), rgJ l[i]) (hs : RG 7 jbC W v l) :
    Calls Try.prog 45 #[v] W fun e w' => e = .returned (.int .i64 (lateV l)) ∧ Below W.heap.size W w' := by
  obtain ⟨a, c, rfl⟩ := hs.form
  obtain ⟨n, hnn⟩ : ∃ n, n = l.length := ⟨_, rfl⟩
  obtain ⟨D, hD⟩ : ∃ D, D = lateV l := ⟨_, rfl⟩
  rw [← hnn] at hn hs ⊢
  rw [← hD]
  have H : Hid (RG 7 jbC W (.slice a n c) l ∧ n = l.length ∧ D = (lat l n).2 ∧ ∀ i (hi : i < l.length), rgJ l[i]) := ⟨hs, hnn, by rw [hD, lateV, ← hnn], hr⟩
  clear hs hnn hD hr
  go_enter Try.func45, Try.ntmps45
  go_wp2
  go_loopw [3, 4, 9] (fun e y i wr => ∃ k : Nat, k ≤ n ∧ i = .int .i64 k ∧ e = .int .i64 (lat l k).1 ∧ y = .int .i64 (lat l k).2 ∧ Hid (Below W.heap.size W wr)) (fun _ _ i _ => n - (intOf i).toNat)
  case atStart => exact ⟨0, Nat.zero_le _, rfl, rfl, rfl, Below.refl _ _⟩
  case round =>
    obtain ⟨k, hk, rfl, rfl, rfl, hR⟩ := hrel
    by_cases hlt : k < n
    · have hkl : k < l.length := by rw [← H.out.2.1]; exact hlt
      obtain ⟨x1, x2, x3, x4⟩ := lat_bnd H.out.2.2.2 k (by omega) (by omega)
      obtain ⟨g, o, c2, he, hg, hj⟩ := (H.out.1.below hR.out).pos (by omega)
      simp only [Value.slice.injEq] at he
      obtain ⟨rfl, hx1, hx2⟩ := he
      clear hx1 hx2
      obtain ⟨c0, c1, c2, c3, c4, c5, c6⟩ := jbC_at (hj k hkl)
      obtain ⟨j, hj2⟩ : ∃ j, j = l[k] := ⟨_, rfl⟩
      rw [← hj2] at c0 c1 c2 c3 c4 c5 c6
      have hrj : rgJ j := by rw [hj2]; exact H.out.2.2.2 k hkl
      obtain ⟨⟨r1, r2, r3⟩, r4, r5, r6⟩ := hrj
      have HE : Hid (l.getD k default = j) := by unfold Hid; rw [hj2]; simp [List.getD, hkl]
      obtain ⟨x, hx⟩ : ∃ x, x = (lat l k).1 := ⟨_, rfl⟩
      obtain ⟨y, hy⟩ : ∃ y, y = (lat l k).2 := ⟨_, rfl⟩
      have HXY : Hid (x = (lat l k).1 ∧ y = (lat l k).2) := ⟨hx, hy⟩
      rw [← hx] at x1 x2 ⊢
      rw [← hy] at x3 x4 ⊢
      have b0 : (0 : Int) ≤ (k : Int) := by omega
      have b1 : (k : Int) < (n : Int) := by omega
      have b9 : (k : Int) ≤ 30 := by omega
      have HB : Hid (Below W.heap.size W (wr.alloc (.cells #[.int .i64 j.id, .int .i64 j.co, .int .i64 j.ti, .int .i64 j.se, .int .i64 j.du, .int .i64 j.we, .int .i64 j.ki] 51))) := by unfold Hid; exact Below.alloc hR.out hR.out.size _
      clear hj hj2 hx hy hR r6
      have hm := mulW (b := max 0 (max x j.co + j.ti - j.du)) r5.1 r5.2 (by omega) (by omega)
      go_wp2
      go_roundw
      case rel => exact ⟨k + 1, by omega, by go_num, by unfold lat; rw [HE.out, ← HXY.out.1]; simp only [mx], by unfold lat; rw [HE.out, ← HXY.out.1, ← HXY.out.2]; simp only [mx, mz]; rw [w64 (x := j.we * _) (by omega), w64 (by omega)], HB.out⟩
      case measure => simp [intOf]; omega
    · obtain rfl : k = n := by omega
      have HN : Hid ((lat l k).2 = D) := H.out.2.2.1.symm
      go_wp2
      go_returns
      exact ⟨by rw [← HN.out]; rfl, hR.out⟩

set_option maxRecDepth 10000 in
set_option maxHeartbeats 6400000 in
theorem impl_flow {W : World} {v : Value} {l : List Jb} (hn : l.length ≤ 30) (hr : ∀ i (hi : i < l.length), rgJ l[i]) (hs : RG 7 jbC W v l) :
    Calls Try.prog 59 #[v] W fun e w' => e = .returned (.int .i64 (floV l)) ∧ Below W.heap.size W w' := by
  obtain ⟨a, c, rfl⟩ := hs.form
  obtain ⟨n, hnn⟩ : ∃ n, n = l.length := ⟨_, rfl⟩
  obtain ⟨D, hD⟩ : ∃ D, D = floV l := ⟨_, rfl⟩
  rw [← hnn] at hn hs ⊢
  rw [← hD]
  have H : Hid (RG 7 jbC W (.slice a n c) l ∧ n = l.length ∧ D = (flo l n).2 ∧ ∀ i (hi : i < l.length), rgJ l[i]) := ⟨hs, hnn, by rw [hD, floV, ← hnn], hr⟩
  clear hs hnn hD hr
  go_enter Try.func59, Try.ntmps59
  go_wp2
  go_loopw [3, 4, 9] (fun e y i wr => ∃ k : Nat, k ≤ n ∧ i = .int .i64 k ∧ e = .int .i64 (flo l k).1 ∧ y = .int .i64 (flo l k).2 ∧ Hid (Below W.heap.size W wr)) (fun _ _ i _ => n - (intOf i).toNat)
  case atStart => exact ⟨0, Nat.zero_le _, rfl, rfl, rfl, Below.refl _ _⟩
  case round =>
    obtain ⟨k, hk, rfl, rfl, rfl, hR⟩ := hrel
    by_cases hlt : k < n
    · have hkl : k < l.length := by rw [← H.out.2.1]; exact hlt
      obtain ⟨x1, x2, x3, x4⟩ := flo_bnd H.out.2.2.2 k (by omega) (by omega)
      obtain ⟨g, o, c2, he, hg, hj⟩ := (H.out.1.below hR.out).pos (by omega)
      simp only [Value.slice.injEq] at he
      obtain ⟨rfl, hx1, hx2⟩ := he
      clear hx1 hx2
      obtain ⟨c0, c1, c2, c3, c4, c5, c6⟩ := jbC_at (hj k hkl)
      obtain ⟨j, hj2⟩ : ∃ j, j = l[k] := ⟨_, rfl⟩
      rw [← hj2] at c0 c1 c2 c3 c4 c5 c6
      have hrj : rgJ j := by rw [hj2]; exact H.out.2.2.2 k hkl
      obtain ⟨⟨r1, r2, r3⟩, r4, r5, r6⟩ := hrj
      have HE : Hid (l.getD k default = j) := by unfold Hid; rw [hj2]; simp [List.getD, hkl]
      obtain ⟨x, hx⟩ : ∃ x, x = (flo l k).1 := ⟨_, rfl⟩
      obtain ⟨y, hy⟩ : ∃ y, y = (flo l k).2 := ⟨_, rfl⟩
      have HXY : Hid (x = (flo l k).1 ∧ y = (flo l k).2) := ⟨hx, hy⟩
      rw [← hx] at x1 x2 ⊢
      rw [← hy] at x3 x4 ⊢
      have b0 : (0 : Int) ≤ (k : Int) := by omega
      have b1 : (k : Int) < (n : Int) := by omega
      have b9 : (k : Int) ≤ 30 := by omega
      have HB : Hid (Below W.heap.size W (wr.alloc (.cells #[.int .i64 j.id, .int .i64 j.co, .int .i64 j.ti, .int .i64 j.se, .int .i64 j.du, .int .i64 j.we, .int .i64 j.ki] 51))) := by unfold Hid; exact Below.alloc hR.out hR.out.size _
      clear hj hj2 hx hy hR r6
      go_wp2
      go_roundw
      case rel => exact ⟨k + 1, by omega, by go_num, by unfold flo; rw [HE.out, ← HXY.out.1], by unfold flo; rw [HE.out, ← HXY.out.1, ← HXY.out.2]; simp only [mx], HB.out⟩
      case measure => simp [intOf]; omega
    · obtain rfl : k = n := by omega
      have HN : Hid ((flo l k).2 = D) := H.out.2.2.1.symm
      go_wp2
      go_returns
      exact ⟨by rw [← HN.out]; rfl, hR.out⟩

end Go.Proofs.Ytjbghflphngnkaa
