/- Proved here: the least 'come' of a list of jobs; slices.MinFunc at jobs. -/
import Derived.Test.YtjbghflphngnkaaPjI
import Derived.Test.YtjbghflphngnkaaSoF
import Derived.Deep.Cut
namespace Go.Proofs.Ytjbghflphngnkaa
open Go.RowKit
set_option linter.unusedVariables false
set_option linter.unusedSimpArgs false


def mnC (s : List Jb) : Nat → Int
  | 0 => (jA s 0).co
  | k + 1 => min (mnC s k) (jA s (k + 1)).co
set_option maxRecDepth 10000 in
set_option maxHeartbeats 6400000 in
theorem min_run {W : World} {v : Value} {s : List Jb} (hn : s.length ≤ 1000) (hp : 0 < s.length) (hs : RG 7 jbC W v s) :
    Calls Try.prog 38 #[v, .func (Fn.func 39) #[] #[]] W fun e w' => ∃ j : Jb, e = .returned (.agg #[.int .i64 j.id, .int .i64 j.co, .int .i64 j.ti, .int .i64 j.se, .int .i64 j.du, .int .i64 j.we, .int .i64 j.ki]) ∧ j.co = mnC s (s.length - 1) ∧ Below W.heap.size W w' := by
  obtain ⟨a, c, rfl⟩ := hs.form
  obtain ⟨n, hnn⟩ : ∃ n, n = s.length := ⟨_, rfl⟩
  obtain ⟨j0, hj0⟩ : ∃ j, j = jA s 0 := ⟨_, rfl⟩
  obtain ⟨x0, hx0⟩ : ∃ x, x = W.heap.size := ⟨_, rfl⟩
  obtain ⟨V, hV⟩ : ∃ V, V = (W.alloc (.cells #[.int .i64 0, .int .i64 0, .int .i64 0, .int .i64 0, .int .i64 0, .int .i64 0, .int .i64 0] 51)).alloc (.cells #[.int .i64 j0.id, .int .i64 j0.co, .int .i64 j0.ti, .int .i64 j0.se, .int .i64 j0.du, .int .i64 j0.we, .int .i64 j0.ki] 51) := ⟨_, rfl⟩
  have HV : Hid (Below W.heap.size W V ∧ V.heap[W.heap.size]? = some (.cells #[.int .i64 0, .int .i64 0, .int .i64 0, .int .i64 0, .int .i64 0, .int .i64 0, .int .i64 0] 51) ∧ V.heap[W.heap.size + 1]? = some (.cells #[.int .i64 j0.id, .int .i64 j0.co, .int .i64 j0.ti, .int .i64 j0.se, .int .i64 j0.du, .int .i64 j0.we, .int .i64 j0.ki] 51)) := by
    rw [hV]
    refine ⟨by (repeat' (first | (with_reducible exact Below.refl _ _) | (with_reducible assumption) | (with_reducible refine Below.setCell ?_ ?_ _) | (with_reducible refine Below.alloc ?_ ?_ _) | (with_reducible refine below_drewN ?_ _) | (with_reducible refine Below.drew ?_) | (with_reducible exact Nat.le_refl _) | omega | (simp; done) | (simp; omega))), (Below.heap_alloc _ _ _ (by simp)).trans (heap_alloc_new W _), ?_⟩
    have := heap_alloc_new (W.alloc (.cells #[.int .i64 0, .int .i64 0, .int .i64 0, .int .i64 0, .int .i64 0, .int .i64 0, .int .i64 0] 51)) (.cells #[.int .i64 j0.id, .int .i64 j0.co, .int .i64 j0.ti, .int .i64 j0.se, .int .i64 j0.du, .int .i64 j0.we, .int .i64 j0.ki] 51); simpa using this
  have HBC : Hid (∀ (x y : Jb) (X : World), Calls Try.prog 39 #[.agg #[.int .i64 x.id, .int .i64 x.co, .int .i64 x.ti, .int .i64 x.se, .int .i64 x.du, .int .i64 x.we, .int .i64 x.ki], .agg #[.int .i64 y.id, .int .i64 y.co, .int .i64 y.ti, .int .i64 y.se, .int .i64 y.du, .int .i64 y.we, .int .i64 y.ki]] X fun e w' => e = .returned (.int .i64 (cmpI x.co y.co)) ∧ Below X.heap.size X w') := by_co
  rw [← hnn] at hn hp hs ⊢
  have H : Hid (RG 7 jbC W (.slice a n c) s ∧ n = s.length ∧ j0 = jA s 0) := ⟨hs, hnn, hj0⟩
  have hb0 : Below W.heap.size W (W.alloc (.cells #[.int .i64 0, .int .i64 0, .int .i64 0, .int .i64 0, .int .i64 0, .int .i64 0, .int .i64 0] 51)) := by (repeat' (first | (with_reducible exact Below.refl _ _) | (with_reducible assumption) | (with_reducible refine Below.setCell ?_ ?_ _) | (with_reducible refine Below.alloc ?_ ?_ _) | (with_reducible refine below_drewN ?_ _) | (with_reducible refine Below.drew ?_) | (with_reducible exact Nat.le_refl _) | omega | (simp; done) | (simp; omega)))
  obtain ⟨g, o, c2, he, hg, hj⟩ := (hs.below hb0).pos (by omega)
  simp only [Value.slice.injEq] at he
  obtain ⟨rfl, hx1, hx2⟩ := he
  clear hx1 hx2
  obtain ⟨c0, c1, c2, c3, c4, c5, c6⟩ := jbC_at (hj 0 (by omega))
  rw [← jA_at, ← hj0] at c0 c1 c2 c3 c4 c5 c6
  have b1 : ¬ (n : Int) < 1 := by omega
  have b2 : (0 : Int) < (n : Int) := by omega
  clear hs hnn hj0 hj hb0
  simp only [Nat.zero_mul, Nat.add_zero] at c0 c1 c2 c3 c4 c5 c6
  go_enter Try.func38, Try.ntmps38
  go_upto_region 4 with fail
  rw [← hV]
  clear hV c0 c1 c2 c3 c4 c5 c6 hg
  go_wp2
  go_loopw [6] (fun i wr => ∃ (k : Nat) (m : Jb), 1 ≤ k ∧ k ≤ n ∧ i = .int .i64 (k : Nat) ∧ Hid (Below W.heap.size W wr ∧ wr.heap[W.heap.size]? = some (.cells #[.int .i64 0, .int .i64 0, .int .i64 0, .int .i64 0, .int .i64 0, .int .i64 0, .int .i64 0] 51) ∧ wr.heap[W.heap.size + 1]? = some (.cells #[.int .i64 m.id, .int .i64 m.co, .int .i64 m.ti, .int .i64 m.se, .int .i64 m.du, .int .i64 m.we, .int .i64 m.ki] 51) ∧ m.co = mnC s (k - 1))) (fun i _ => n - (intOf i).toNat)
  case atStart => exact ⟨1, j0, Nat.le_refl _, by omega, by go_num, HV.out.1, HV.out.2.1, HV.out.2.2, by rw [H.out.2.2]; rfl⟩
  case round =>
    clear HV
    obtain ⟨k, m, hk1, hk2, rfl, hR⟩ := hrel
    by_cases hkn : k < n
    · have hkl : k < s.length := by rw [← H.out.2.1]; exact hkn
      obtain ⟨g', o', c2', he, hg, hj⟩ := (H.out.1.below hR.out.1).pos (by omega)
      simp only [Value.slice.injEq, Option.some.injEq, Addr.mk.injEq] at he
      obtain ⟨⟨rfl, rfl, _⟩, hx1, hx2⟩ := he
      clear hx1 hx2
      obtain ⟨c0, c1, c2, c3, c4, c5, c6⟩ := jbC_at (hj k hkl)
      obtain ⟨x, hx⟩ : ∃ x, x = s[k] := ⟨_, rfl⟩
      rw [← hx] at c0 c1 c2 c3 c4 c5 c6
      obtain ⟨p0, p1, p2, p3, p4, p5, p6, pl⟩ := jb_cells hR.out.2.2.1
      obtain ⟨r, hr⟩ : ∃ r, r = cmpI x.co m.co := ⟨_, rfl⟩
      have HX : Hid (x = jA s k ∧ r = cmpI x.co m.co) := ⟨by rw [jA_at hkl]; exact hx, hr⟩
      have HCU : Hid (∀ X : Und wr.heap.size wr, Calls Try.prog 39 #[.agg #[.int .i64 x.id, .int .i64 x.co, .int .i64 x.ti, .int .i64 x.se, .int .i64 x.du, .int .i64 x.we, .int .i64 x.ki], .agg #[.int .i64 m.id, .int .i64 m.co, .int .i64 m.ti, .int .i64 m.se, .int .i64 m.du, .int .i64 m.we, .int .i64 m.ki]] X.W fun e w' => e = .returned (.int .i64 r) ∧ Below X.W.heap.size X.W w') := fun X => by rw [hr]; exact HBC.out x m X.W
      have b3 : (0 : Int) ≤ (k : Int) := by omega
      have b4 : (k : Int) < (n : Int) := by omega
      clear hj hx hr
      go_wp2_with (fail)
      (refine wp_region_und (by kernel_rfl) (by kernel_rfl) (fun hund => ?_); (repeat (go_big_quiet_step (first | (go_at_call 39; with_reducible refine und_call ?_ (HCU.out _); exact Nat.le_refl _)))); with_reducible refine wpQuiet_nil ?_; clear hund; intro W1 hb1; obtain ⟨hc1, hf1⟩ := undcell hb1)
      have hRb := hR.out.1.size
      have hRw := ltOfQ hR.out.2.2.1
      have HR1 : Hid (Below W.heap.size W W1 ∧ W1.heap[W.heap.size]? = some (.cells #[.int .i64 0, .int .i64 0, .int .i64 0, .int .i64 0, .int .i64 0, .int .i64 0, .int .i64 0] 51) ∧ W1.heap[W.heap.size + 1]? = some (.cells #[.int .i64 m.id, .int .i64 m.co, .int .i64 m.ti, .int .i64 m.se, .int .i64 m.du, .int .i64 m.we, .int .i64 m.ki] 51) ∧ m.co = mnC s (k - 1)) := ⟨hR.out.1.trans (hb1.mono hRb), (hb1.block _ (by omega)).trans hR.out.2.1, (hb1.block _ hRw).trans hR.out.2.2.1, hR.out.2.2.2⟩
      obtain ⟨e0, e1, e2, e3, e4, e5, e6⟩ : W1.cell? ⟨g, o + k * 7, none⟩ = some (.int .i64 x.id) ∧ W1.cell? ⟨g, o + k * 7 + 1, none⟩ = some (.int .i64 x.co) ∧ W1.cell? ⟨g, o + k * 7 + 2, none⟩ = some (.int .i64 x.ti) ∧ W1.cell? ⟨g, o + k * 7 + 3, none⟩ = some (.int .i64 x.se) ∧ W1.cell? ⟨g, o + k * 7 + 4, none⟩ = some (.int .i64 x.du) ∧ W1.cell? ⟨g, o + k * 7 + 5, none⟩ = some (.int .i64 x.we) ∧ W1.cell? ⟨g, o + k * 7 + 6, none⟩ = some (.int .i64 x.ki) := ⟨(hb1.cell (p := ⟨g, _, none⟩) hg).trans c0, (hb1.cell (p := ⟨g, _, none⟩) hg).trans c1, (hb1.cell (p := ⟨g, _, none⟩) hg).trans c2, (hb1.cell (p := ⟨g, _, none⟩) hg).trans c3, (hb1.cell (p := ⟨g, _, none⟩) hg).trans c4, (hb1.cell (p := ⟨g, _, none⟩) hg).trans c5, (hb1.cell (p := ⟨g, _, none⟩) hg).trans c6⟩
      have hg1 : g < W1.heap.size := Nat.lt_of_lt_of_le hg hb1.size
      clear hb1 hc1 hf1 hR HCU c0 c1 c2 c3 c4 c5 c6 p0 p1 p2 p3 p4 p5 p6 pl hg hRb hRw
      have hstep : mnC s (k + 1 - 1) = min (mnC s (k - 1)) (jA s k).co := by
        obtain ⟨q, rfl⟩ : ∃ q, k = q + 1 := ⟨k - 1, by omega⟩
        rfl
      by_cases hr0 : r < 0
      · have HE : Hid (x.co = mnC s (k + 1 - 1)) := by
          unfold Hid
          have h2 := HX.out.2
          rw [h2] at hr0
          unfold cmpI at hr0
          have h3 : x.co < m.co := by
            by_cases h : x.co < m.co
            · exact h
            · rw [if_neg h] at hr0; split at hr0 <;> omega
          rw [hstep, ← HR1.out.2.2.2, ← HX.out.1]; omega
        obtain ⟨p0, p1, p2, p3, p4, p5, p6, pl⟩ := jb_cells HR1.out.2.2.1
        have q0 := frozOfQ HR1.out.2.2.1 0
        have q1 := frozOfQ HR1.out.2.2.1 1
        have q2 := frozOfQ HR1.out.2.2.1 2
        have q3 := frozOfQ HR1.out.2.2.1 3
        have q4 := frozOfQ HR1.out.2.2.1 4
        have q5 := frozOfQ HR1.out.2.2.1 5
        have q6 := frozOfQ HR1.out.2.2.1 6
        obtain ⟨W2, hW2⟩ : ∃ X, X = ((((((((W1.setCell ⟨W.heap.size + 1, 0, none⟩ (.int .i64 x.id)).setCell ⟨W.heap.size + 1, 1, none⟩ (.int .i64 x.co)).setCell ⟨W.heap.size + 1, 2, none⟩ (.int .i64 x.ti)).setCell ⟨W.heap.size + 1, 3, none⟩ (.int .i64 x.se)).setCell ⟨W.heap.size + 1, 4, none⟩ (.int .i64 x.du)).setCell ⟨W.heap.size + 1, 5, none⟩ (.int .i64 x.we)).setCell ⟨W.heap.size + 1, 6, none⟩ (.int .i64 x.ki))) := ⟨_, rfl⟩
        have HW2 : Hid (Below W.heap.size W W2 ∧ W2.heap[W.heap.size]? = some (.cells #[.int .i64 0, .int .i64 0, .int .i64 0, .int .i64 0, .int .i64 0, .int .i64 0, .int .i64 0] 51) ∧ W2.heap[W.heap.size + 1]? = some (.cells #[.int .i64 x.id, .int .i64 x.co, .int .i64 x.ti, .int .i64 x.se, .int .i64 x.du, .int .i64 x.we, .int .i64 x.ki] 51)) := by
          rw [hW2]
          refine ⟨?_, ?_, ?_⟩
          · have hb := HR1.out.1
            (repeat' (first | (with_reducible exact Below.refl _ _) | (with_reducible assumption) | (with_reducible refine Below.setCell ?_ ?_ _) | (with_reducible refine Below.alloc ?_ ?_ _) | (with_reducible refine below_drewN ?_ _) | (with_reducible refine Below.drew ?_) | (with_reducible exact Nat.le_refl _) | omega | (simp; done) | (simp; omega)))
          · rw [heap_setCell_other _ _ _ _ (by simp), heap_setCell_other _ _ _ _ (by simp), heap_setCell_other _ _ _ _ (by simp), heap_setCell_other _ _ _ _ (by simp), heap_setCell_other _ _ _ _ (by simp), heap_setCell_other _ _ _ _ (by simp), heap_setCell_other _ _ _ _ (by simp)]
            exact HR1.out.2.1
          · have s0 := heap_setCell_same _ _ 0 _ _ (.int .i64 x.id) HR1.out.2.2.1
            have s1 := heap_setCell_same _ _ 1 _ _ (.int .i64 x.co) s0
            have s2 := heap_setCell_same _ _ 2 _ _ (.int .i64 x.ti) s1
            have s3 := heap_setCell_same _ _ 3 _ _ (.int .i64 x.se) s2
            have s4 := heap_setCell_same _ _ 4 _ _ (.int .i64 x.du) s3
            have s5 := heap_setCell_same _ _ 5 _ _ (.int .i64 x.we) s4
            have s6 := heap_setCell_same _ _ 6 _ _ (.int .i64 x.ki) s5
            simpa using s6
        clear HX
        go_upto_region 6 with fail
        rw [← hW2]
        clear hW2 p0 p1 p2 p3 p4 p5 p6 pl q0 q1 q2 q3 q4 q5 q6 e0 e1 e2 e3 e4 e5 e6 hg1 hstep
        go_wp2
        go_roundw
        case rel => exact ⟨k + 1, x, by omega, by omega, by go_num, HW2.out.1, HW2.out.2.1, HW2.out.2.2, HE.out⟩
        case measure => simp [intOf]; omega
      · have HE : Hid (m.co = mnC s (k + 1 - 1)) := by
          unfold Hid
          have h2 := HX.out.2
          rw [h2] at hr0
          unfold cmpI at hr0
          have h3 : ¬ x.co < m.co := by
            intro h
            rw [if_pos h] at hr0; omega
          rw [hstep, ← HR1.out.2.2.2, ← HX.out.1]; omega
        clear HX e0 e1 e2 e3 e4 e5 e6
        go_wp2
        go_roundw
        case rel => exact ⟨k + 1, m, by omega, by omega, by go_num, HR1.out.1, HR1.out.2.1, HR1.out.2.2.1, HE.out⟩
        case measure => simp [intOf]; omega
    · obtain rfl : k = n := by omega
      obtain ⟨y0, y1, y2, y3, y4, y5, y6, yl⟩ := jb_cells hR.out.2.2.1
      have hz := hR.out.2.1
      have z0 : wr.cell? ⟨W.heap.size, 0, none⟩ = some (.int .i64 0) := cellOfQ hz 0 rfl
      have z1 : wr.cell? ⟨W.heap.size, 1, none⟩ = some (.int .i64 0) := cellOfQ hz 1 rfl
      have z2 : wr.cell? ⟨W.heap.size, 2, none⟩ = some (.int .i64 0) := cellOfQ hz 2 rfl
      have z3 : wr.cell? ⟨W.heap.size, 3, none⟩ = some (.int .i64 0) := cellOfQ hz 3 rfl
      have z4 : wr.cell? ⟨W.heap.size, 4, none⟩ = some (.int .i64 0) := cellOfQ hz 4 rfl
      have z5 : wr.cell? ⟨W.heap.size, 5, none⟩ = some (.int .i64 0) := cellOfQ hz 5 rfl
      have z6 : wr.cell? ⟨W.heap.size, 6, none⟩ = some (.int .i64 0) := cellOfQ hz 6 rfl
      have zl := ltOfQ hz
      have f0 := frozOfQ hz 0
      have f1 := frozOfQ hz 1
      have f2 := frozOfQ hz 2
      have f3 := frozOfQ hz 3
      have f4 := frozOfQ hz 4
      have f5 := frozOfQ hz 5
      have f6 := frozOfQ hz 6
      have HE : Hid (Below W.heap.size W wr ∧ m.co = mnC s (s.length - 1)) := ⟨hR.out.1, by rw [hR.out.2.2.2, H.out.2.1]⟩
      clear hz hR
      go_wp2
      try simp only [Exit.inBlock, Exit.then]
      refine bodyPost_ret (by simp [results, Try.results38, go_sem, z0, z1, z2, z3, z4, z5, z6, zl, f0, f1, f2, f3, f4, f5, f6]; try rfl) rfl ⟨m, by rfl, by rw [H.out.2.1]; exact HE.out.2, ?_⟩
      have hb := HE.out.1
      (repeat' (first | (with_reducible exact Below.refl _ _) | (with_reducible assumption) | (with_reducible refine Below.setCell ?_ ?_ _) | (with_reducible refine Below.alloc ?_ ?_ _) | (with_reducible refine below_drewN ?_ _) | (with_reducible refine Below.drew ?_) | (with_reducible exact Nat.le_refl _) | omega | (simp; done) | (simp; omega)))

end Go.Proofs.Ytjbghflphngnkaa
