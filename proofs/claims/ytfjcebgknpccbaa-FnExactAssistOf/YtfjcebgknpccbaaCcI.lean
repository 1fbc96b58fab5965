/- Proved here: slices.Grow of nothing, and slices.Concat of two lists of numbers: a new list of the call's own. By walking the library's own text. -/
import Derived.Test.YtfjcebgknpccbaaNlJ
import Derived.Lib.AppendZeros
import Derived.Laws.AppendOwnNone
namespace Go.Proofs.Ytfjcebgknpccbaa
open Go.RowKit
set_option linter.unusedVariables false
set_option linter.unusedSimpArgs false

set_option maxHeartbeats 3200000 in
theorem lib_grow (n : Nat) (hn : n ≤ 100000) (w : World) :
    Calls Try.prog 64 #[.slice none 0 0, .int .i64 n] w fun e w' => ∃ r, e = .returned r ∧ IS w' w.heap.size r [] ∧ Below w.heap.size w w' := by
  obtain ⟨i0, hi, hz0, hz1, hz2⟩ := info_parts info_i64
  rcases Nat.eq_zero_or_pos n with h0 | h0
  · subst h0
    go_enter Try.func64, Try.ntmps64
    go_wp2
    go_returns
    exact ⟨_, rfl, World.ownsRow_nil _ _ _ _, Below.refl _ _⟩
  · have h1 : (0 : Int) < (n : Int) := by omega
    have h2 : ¬ (n : Int) < 0 := by omega
    have h3 : IntKind.i64.wrap (n : Int) = n := by rw [IntKind.wrap_i64]; omega
    obtain ⟨cp, hcp⟩ : ∃ c, c = grownCap w n 0 2 := ⟨_, rfl⟩
    have hge : n ≤ cp := by rw [hcp]; exact grownCap_ge w n 0 _
    have hle : cp ≤ maxLen := by rw [hcp]; exact grownCap_le_maxLen w n 0 _ (by unfold maxLen; omega)
    obtain ⟨kn, hkn⟩ : ∃ kn, Try.prog.underlying 3 = some (.int kn) := ⟨_, Try.underlying3⟩
    have hrun := Lib.run_append_nil_zeros (P := Try.prog) w 29 3 29 2 i0 (.int .i64 0) .i64 kn Try.underlying29 hkn hi hz0 n h0 (by rw [hz1]; decide) (by omega) (by rw [hz2]; omega)
    rw [← hcp] at hrun
    obtain ⟨W, hW⟩ : ∃ W, W = w.drew.alloc (.cells (Builtin.zeroCells (Value.cells (.int .i64 0)) n ++ Builtin.zeroCells (Value.cells (.int .i64 0)) (cp - n)) 2) := ⟨_, rfl⟩
    rw [← hW] at hrun
    have HW : Hid (IS W w.heap.size (.slice (some ⟨w.heap.size, 0, none⟩) 0 cp) [] ∧ Below w.heap.size w W) := by
      rw [hW]
      refine ⟨⟨by simp, Or.inr ⟨w.heap.size, cp, _, rfl, Nat.le_refl _, heap_alloc_new w.drew _, by simp, hle, ?_, by simp⟩⟩, by (repeat' (first | (with_reducible exact Below.refl _ _) | (with_reducible assumption) | (with_reducible refine Below.setCell ?_ ?_ _) | (with_reducible refine Below.alloc ?_ ?_ _) | (with_reducible refine below_drewN ?_ _) | (with_reducible refine Below.drew ?_) | (with_reducible exact Nat.le_refl _) | omega | (simp; done) | (simp; omega)))⟩
      rw [Array.size_append, size_zeroCells, size_zeroCells]
      show n * 1 + (cp - n) * 1 = cp * 1
      omega
    clear hW hcp
    have hcpi : (0 : Int) ≤ (cp : Int) := by omega
    go_enter Try.func64, Try.ntmps64
    go_wp2_with (at_builtin; refine Lib.wpList_append_run _ rfl _ _ _ _ rfl _ _ rfl rfl _ _ hrun ?_)
    go_wp2
    go_returns
    exact ⟨_, rfl, HW.out.1, HW.out.2⟩

theorem one_nums (xs : List Int) : ∀ u ∈ xs.map (Value.int .i64), u.oneCell' = true := by
  intro u hu
  obtain ⟨x, _, rfl⟩ := List.mem_map.1 hu
  rfl
theorem IS.app {w : World} {B : Nat} {v : Value} {xs ys : List Int} (h : w.ownsRow B 2 1 v (xs.length + ys.length) (xs.map (Value.int .i64) ++ ys.map (Value.int .i64))) : IS w B v (xs ++ ys) := by
  unfold IS
  rw [List.length_append, List.map_append]
  exact h
theorem IS.newsAt {w : World} {B g n c : Nat} {xs : List Int} (h : IS w B (.slice (some ⟨g, 0, none⟩) n c) xs) : ∀ (j : Nat) (u : Value), (xs.map (Value.int .i64))[j]? = some u → w.cell? ((⟨g, 0, none⟩ : Addr).add j) = some u := by
  intro j u hu
  have hn : n = xs.length := by obtain ⟨_, _, e⟩ := h.form; injection e
  subst hn
  have hj : j < xs.length := by
    rcases Nat.lt_or_ge j xs.length with h' | h'
    · exact h'
    · rw [List.getElem?_eq_none (by simpa using h')] at hu; cases hu
  have := World.ownsRow.cellAt h j (by omega)
  rw [hu] at this
  have e : (⟨g, 0, none⟩ : Addr).add j = ⟨g, j, none⟩ := by
    unfold Addr.add
    split
    · rename_i h0; rw [h0]
    · simp
  rw [e]
  exact this

set_option maxRecDepth 10000 in
set_option maxHeartbeats 6400000 in
theorem lib_concat {w : World} {gl g0 n0 c0 g1 n1 c1 B : Nat} {xs ys : List Int} (k0 : w.cell? ⟨gl, 0, none⟩ = some (.slice (some ⟨g0, 0, none⟩) n0 c0)) (k1 : w.cell? ⟨gl, 1, none⟩ = some (.slice (some ⟨g1, 0, none⟩) n1 c1)) (hgl : gl < w.heap.size)
    (h0 : IS w B (.slice (some ⟨g0, 0, none⟩) n0 c0) xs) (h1 : IS w B (.slice (some ⟨g1, 0, none⟩) n1 c1) ys) (hn0 : n0 ≤ 1000) (hn1 : n1 ≤ 1000) :
    Calls Try.prog 62 #[.slice (some ⟨gl, 0, none⟩) 2 2] w fun e w' => ∃ r, e = .returned r ∧ IS w' w.heap.size r (xs ++ ys) ∧ Below w.heap.size w w' := by
  have e0 : n0 = xs.length := by obtain ⟨_, _, e⟩ := h0.form; injection e
  have e1 : n1 = ys.length := by obtain ⟨_, _, e⟩ := h1.form; injection e
  have H : Hid (IS w B (.slice (some ⟨g0, 0, none⟩) n0 c0) xs ∧ IS w B (.slice (some ⟨g1, 0, none⟩) n1 c1) ys ∧ n0 = xs.length ∧ n1 = ys.length) := ⟨h0, h1, e0, e1⟩
  have HK : Hid (w.cell? ⟨gl, 0, none⟩ = some (.slice (some ⟨g0, 0, none⟩) n0 c0) ∧ w.cell? ⟨gl, 1, none⟩ = some (.slice (some ⟨g1, 0, none⟩) n1 c1)) := ⟨k0, k1⟩
  clear h0 h1 e0 e1
  have z0 : ¬ (n0 : Int) < 0 := by omega
  have z1 : ¬ ((n0 : Int) + (n1 : Int)) < 0 := by omega
  obtain ⟨N, hN⟩ : ∃ N : Nat, N = n0 + n1 := ⟨_, rfl⟩
  have HG : Hid (∀ W, Calls Try.prog 64 #[.slice none 0 0, .int .i64 ((n0 : Int) + (n1 : Int))] W fun e w' => ∃ r, e = .returned r ∧ IS w' W.heap.size r [] ∧ Below W.heap.size W w') := fun W => by
    have := lib_grow N (by omega) W
    rw [hN] at this
    simpa using this
  clear hN
  obtain ⟨i0, hi, hz0, hz1, hz2⟩ := info_parts info_i64
  go_enter Try.func62, Try.ntmps62
  go_wp2
  refine wp_loop_rounds 3 ?_
  rw [rounds_succ]
  go_wp2
  rw [rounds_succ]
  go_wp2
  rw [rounds_succ]
  go_wp2_with (fail)
  refine (HG.out _).mono ?_
  rintro e w1 ⟨r1, rfl, hr1, hb1⟩
  obtain ⟨ra, rc, hrf⟩ := hr1.form
  subst hrf
  have HB1 : Hid (IS w1 w.heap.size (.slice ra 0 rc) [] ∧ Below w.heap.size w w1) := ⟨hr1, hb1⟩
  have q0 : w1.cell? ⟨gl, 0, none⟩ = some (.slice (some ⟨g0, 0, none⟩) n0 c0) := (hb1.cell (p := ⟨gl, 0, none⟩) hgl).trans HK.out.1
  have q1 : w1.cell? ⟨gl, 1, none⟩ = some (.slice (some ⟨g1, 0, none⟩) n1 c1) := (hb1.cell (p := ⟨gl, 1, none⟩) hgl).trans HK.out.2
  clear hr1 hb1 k0 k1
  go_wp2
  refine wp_loop_rounds 3 ?_
  rw [rounds_succ]
  go_wp2_with (at_builtin; (refine wpList_append_own _ rfl _ _ 29 rfl w.heap.size 2 i0 (.int .i64 0) 1 8 Try.underlying29 hi hz0 hz1 hz2 rfl (by decide) (.slice ra 0 rc) 0 [] rfl (show w1.ownsRow w.heap.size 2 1 (.slice ra 0 rc) 0 [] from HB1.out.1) ⟨g0, 0, none⟩ n0 c0 (xs.map (Value.int .i64)) rfl (by have := H.out.2.2.1; simp; omega) (IS.newsAt (H.out.1.bel HB1.out.2)) (one_nums xs) (by unfold maxLen; omega) (by omega) (by have := HB1.out.2.size; omega) ?_); intro v6 w6 hown6 hgrow6 _; have HO6 : Hid (IS w6 w.heap.size v6 xs ∧ Below w.heap.size w w6) := ⟨by have h := hown6; rw [H.out.2.2.1] at h; simpa [IS] using h, HB1.out.2.grown hgrow6 (by have := HB1.out.2.size; omega) (fun k hk => (World.ownsRow.lt HB1.out.1 k hk).1)⟩; have q1' : w6.cell? ⟨gl, 1, none⟩ = some (.slice (some ⟨g1, 0, none⟩) n1 c1) := (HO6.out.2.cell (p := ⟨gl, 1, none⟩) hgl).trans HK.out.2; clear hown6 hgrow6)
  obtain ⟨va, vc, hvf⟩ := HO6.out.1.form
  subst hvf
  obtain ⟨m0, hm0⟩ : ∃ m, m = xs.length := ⟨_, rfl⟩
  have HM0 : Hid (m0 = xs.length) := hm0
  have hm1 : m0 ≤ 1000 := by have := H.out.2.2.1; omega
  rw [← hm0]
  have HQ6 : Hid (w6.ownsRow w.heap.size 2 1 (.slice va m0 vc) m0 (xs.map (Value.int .i64))) := by
    have h := HO6.out.1
    unfold IS at h
    rw [← hm0] at h
    exact h
  clear hm0 q0 q1
  rw [rounds_succ]
  go_wp2_with (at_builtin; (refine wpList_append_own _ rfl _ _ 29 rfl w.heap.size 2 i0 (.int .i64 0) 1 8 Try.underlying29 hi hz0 hz1 hz2 rfl (by decide) (.slice va m0 vc) m0 (xs.map (Value.int .i64)) rfl HQ6.out ⟨g1, 0, none⟩ n1 c1 (ys.map (Value.int .i64)) rfl (by have := H.out.2.2.2; simp; omega) (IS.newsAt (H.out.2.1.bel HO6.out.2)) (one_nums ys) (by unfold maxLen; omega) (by omega) (by have := HO6.out.2.size; omega) ?_); intro v7 w7 hown7 hgrow7 _; (have HO7 : Hid (IS w7 w.heap.size v7 (xs ++ ys) ∧ Below w.heap.size w w7) := ⟨IS.app (by have h := hown7; rw [H.out.2.2.2, HM0.out] at h; exact h), HO6.out.2.grown hgrow7 (by have := HO6.out.2.size; omega) (fun k hk => (World.ownsRow.lt HQ6.out k hk).1)⟩); clear hown7 hgrow7)
  rw [rounds_succ]
  go_wp2
  go_returns
  exact ⟨_, rfl, HO7.out.1, HO7.out.2⟩

end Go.Proofs.Ytfjcebgknpccbaa
