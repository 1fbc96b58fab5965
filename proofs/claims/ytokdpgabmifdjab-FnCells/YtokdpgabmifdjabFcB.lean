/- Proved here: the least box that has all of a list, by the model and by the program; BoundsOf of both. -/
import Derived.Test.YtokdpgabmifdjabIForm
import Derived.Test.YtokdpgabmifdjabRim
import Derived.StillTailTactics
namespace Go.Proofs.Ytokdpgabmifdjab
open Go.RowKit
set_option linter.unusedVariables false
set_option linter.unusedSimpArgs false

theorem bnd_zero {s : List Bx} (h : shapeK s = 0) : boxesK s = 0 := by
  unfold shapeK at h
  split at h
  · assumption
  · rename_i h0; exact absurd h h0

/-- The least box that has both. -/
def joinB (a b : Bx) : Bx := ⟨minI a.x0 b.x0, minI a.y0 b.y0, maxI a.x1 b.x1, maxI a.y1 b.y1⟩
def bnd (s : List Bx) (k : Nat) : Bx := (s.take k).foldl joinB (bat s 0)
theorem bnd_step {s : List Bx} {k : Nat} (h : k < s.length) : bnd s (k + 1) = joinB (bnd s k) (bat s k) := by
  unfold bnd; rw [take_bat h, List.foldl_append]; rfl
theorem alloc2 (w : World) (a b : Obj) : ((w.alloc a).alloc b).heap[w.heap.size + 1]? = some b ∧ ((w.alloc a).alloc b).heap[w.heap.size]? = some a := by
  constructor
  · have := heap_alloc_new (w.alloc a) b; simpa using this
  · rw [Below.heap_alloc _ _ _ (by simp)]; exact heap_alloc_new w a
theorem box_at {w : World} {k : Nat} {b : Bx} (h : w.heap[k]? = some (.cells #[.int .i64 b.x0, .int .i64 b.y0, .int .i64 b.x1, .int .i64 b.y1] 49)) :
    w.cell? ⟨k, 0, none⟩ = some (.int .i64 b.x0) ∧ w.cell? ⟨k, 1, none⟩ = some (.int .i64 b.y0) ∧ w.cell? ⟨k, 2, none⟩ = some (.int .i64 b.x1) ∧ w.cell? ⟨k, 3, none⟩ = some (.int .i64 b.y1) ∧
    w.frozen? ⟨k, 0, none⟩ = false ∧ w.frozen? ⟨k, 1, none⟩ = false ∧ w.frozen? ⟨k, 2, none⟩ = false ∧ w.frozen? ⟨k, 3, none⟩ = false ∧ k < w.heap.size := by
  refine ⟨by simp [World.cell?, h], by simp [World.cell?, h], by simp [World.cell?, h], by simp [World.cell?, h], by simp [World.frozen?, h], by simp [World.frozen?, h], by simp [World.frozen?, h], by simp [World.frozen?, h], ?_⟩
  rcases Nat.lt_or_ge k w.heap.size with h' | h'
  · exact h'
  · rw [Array.getElem?_eq_none h'] at h; cases h
theorem box_put {w : World} {k : Nat} {b : Bx} (m : Bx) (h : w.heap[k]? = some (.cells #[.int .i64 b.x0, .int .i64 b.y0, .int .i64 b.x1, .int .i64 b.y1] 49)) :
    ((((w.setCell ⟨k, 0, none⟩ (.int .i64 m.x0)).setCell ⟨k, 1, none⟩ (.int .i64 m.y0)).setCell ⟨k, 2, none⟩ (.int .i64 m.x1)).setCell ⟨k, 3, none⟩ (.int .i64 m.y1)).heap[k]? = some (.cells #[.int .i64 m.x0, .int .i64 m.y0, .int .i64 m.x1, .int .i64 m.y1] 49) := by
  have h1 := heap_setCell_same w k 0 _ _ (.int .i64 m.x0) h
  have h2 := heap_setCell_same _ k 1 _ _ (.int .i64 m.y0) h1
  have h3 := heap_setCell_same _ k 2 _ _ (.int .i64 m.x1) h2
  have h4 := heap_setCell_same _ k 3 _ _ (.int .i64 m.y1) h3
  simpa using h4

set_option maxRecDepth 10000 in
set_option maxHeartbeats 4000000 in
theorem spec_bounds (g o c n : Nat) (s : List Bx) (w : World) (hl : Hid (s.length = n)) (hn : n ≤ 150) (hp : 0 < n) (hg : g < w.heap.size) (h : ∀ j, j < n → BAt w g (o + j * 4) (bat s j)) :
    Calls Try.prog 60 #[.slice (some ⟨g, o, none⟩) n c] w fun e w' => e = .returned (.agg #[.int .i64 (bnd s n).x0, .int .i64 (bnd s n).y0, .int .i64 (bnd s n).x1, .int .i64 (bnd s n).y1]) ∧ Below w.heap.size w w' := by
  have H : Hid (∀ j, j < n → BAt w g (o + j * 4) (bat s j)) := h
  clear h
  obtain ⟨c0, c1, c2, c3⟩ := H.out 0 hp
  simp only [Nat.zero_mul, Nat.add_zero] at c0 c1 c2 c3
  obtain ⟨b, hb⟩ : ∃ b, b = bat s 0 := ⟨_, rfl⟩
  rw [← hb] at c0 c1 c2 c3
  have HB : Hid (b = bnd s 0) := by unfold Hid; rw [hb]; rfl
  clear hb
  have bp : (0 : Int) < (n : Int) := by omega
  go_enter Try.func60, Try.ntmps60
  go_wp2_with (fail)
  go_loopw [4] (fun i wr => ∃ k : Nat, k ≤ n ∧ i = .int .i64 k ∧ Hid (wr.heap[w.heap.size + 1]? = some (.cells #[.int .i64 (bnd s k).x0, .int .i64 (bnd s k).y0, .int .i64 (bnd s k).x1, .int .i64 (bnd s k).y1] 49) ∧ wr.heap[w.heap.size]? = some (.cells #[.int .i64 0, .int .i64 0, .int .i64 0, .int .i64 0] 49) ∧ Below w.heap.size w wr)) (fun i _ => n - (intOf i).toNat)
  case atStart =>
    refine ⟨0, Nat.zero_le _, rfl, ?_, (alloc2 _ _ _).2, by (repeat' (first | (with_reducible exact Below.refl _ _) | (with_reducible assumption) | (with_reducible refine Below.setCell ?_ ?_ _) | (with_reducible refine Below.alloc ?_ ?_ _) | (with_reducible refine below_drewN ?_ _) | (with_reducible refine Below.drew ?_) | (with_reducible exact Nat.le_refl _) | omega | (simp; done) | (simp; omega)))⟩
    rw [← HB.out]; exact (alloc2 _ _ _).1
  case round =>
    clear c0 c1 c2 c3 HB
    obtain ⟨k, hk, rfl, hR⟩ := hrel
    by_cases hlt : k < n
    · obtain ⟨c0, c1, c2, c3⟩ := (H.out k hlt).below hg hR.out.2.2
      obtain ⟨t, ht⟩ : ∃ t, t = bat s k := ⟨_, rfl⟩
      rw [← ht] at c0 c1 c2 c3
      obtain ⟨m, hm⟩ : ∃ m, m = bnd s k := ⟨_, rfl⟩
      have hblk := hR.out.1
      rw [← hm] at hblk
      obtain ⟨v0, v1, v2, v3, f0, f1, f2, f3, hlt2⟩ := box_at hblk
      obtain ⟨j, hj⟩ : ∃ j, j = joinB m t := ⟨_, rfl⟩
      have k0 : ∀ W, Calls Try.prog 59 #[.int .i64 m.x0, .int .i64 t.x0] W fun e w' => e = .returned (.int .i64 j.x0) ∧ w' = W := fun W => by rw [hj]; exact spec_min _ _ W
      have k1 : ∀ W, Calls Try.prog 59 #[.int .i64 m.y0, .int .i64 t.y0] W fun e w' => e = .returned (.int .i64 j.y0) ∧ w' = W := fun W => by rw [hj]; exact spec_min _ _ W
      have k2 : ∀ W, Calls Try.prog 58 #[.int .i64 m.x1, .int .i64 t.x1] W fun e w' => e = .returned (.int .i64 j.x1) ∧ w' = W := fun W => by rw [hj]; exact spec_max _ _ W
      have k3 : ∀ W, Calls Try.prog 58 #[.int .i64 m.y1, .int .i64 t.y1] W fun e w' => e = .returned (.int .i64 j.y1) ∧ w' = W := fun W => by rw [hj]; exact spec_max _ _ W
      have K0 : Hid _ := k0
      have K1 : Hid _ := k1
      have K2 : Hid _ := k2
      have K3 : Hid _ := k3
      clear k0 k1 k2 k3
      have R : Hid (∀ W, W = ((((wr.drew.setCell ⟨w.heap.size + 1, 0, none⟩ (.int .i64 j.x0)).setCell ⟨w.heap.size + 1, 1, none⟩ (.int .i64 j.y0)).setCell ⟨w.heap.size + 1, 2, none⟩ (.int .i64 j.x1)).setCell ⟨w.heap.size + 1, 3, none⟩ (.int .i64 j.y1)) → W.heap[w.heap.size + 1]? = some (.cells #[.int .i64 (bnd s (k + 1)).x0, .int .i64 (bnd s (k + 1)).y0, .int .i64 (bnd s (k + 1)).x1, .int .i64 (bnd s (k + 1)).y1] 49) ∧ W.heap[w.heap.size]? = some (.cells #[.int .i64 0, .int .i64 0, .int .i64 0, .int .i64 0] 49) ∧ Below w.heap.size w W) := by
        intro W hW
        have e : bnd s (k + 1) = j := by rw [bnd_step (by rw [hl.out]; exact hlt), ← hm, ← ht, hj]
        rw [e, hW]
        refine ⟨box_put j hblk, ?_, ?_⟩
        · rw [heap_setCell_other _ _ _ _ (by simp), heap_setCell_other _ _ _ _ (by simp), heap_setCell_other _ _ _ _ (by simp), heap_setCell_other _ _ _ _ (by simp)]
          exact hR.out.2.1
        · exact ((((hR.out.2.2.drew).setCell (by simp) _).setCell (by simp) _).setCell (by simp) _).setCell (by simp) _
      have hsz : g < wr.heap.size := Nat.lt_of_lt_of_le hg hR.out.2.2.size
      clear ht hm hj hblk hR
      have b0 : (0 : Int) ≤ (k : Int) := by omega
      have b1 : (k : Int) < (n : Int) := by omega
      go_wp2_with (fail)
      refine wp_region_still_tail 33 (by kernel_rfl) (by kernel_rfl) ?_
      have hdw : ({ wr with drawn := wr.drawn + 1 } : World) = wr.drew := rfl
      rw [hdw]
      clear hdw
      simp only [List.take_succ_cons, List.take_zero, List.drop_succ_cons, List.drop_zero]
      iterate 7 still_step
      still_call (K0.out _)
      iterate 7 still_step
      still_call (K1.out _)
      iterate 7 still_step
      still_call (K2.out _)
      iterate 7 still_step
      still_call (K3.out _)
      still_step
      refine wpStill_nil ?_
      go_wp2
      go_roundw
      case rel => exact ⟨k + 1, by omega, by go_num, R.out _ rfl⟩
      case measure => simp [intOf]; omega
    · have ek : k = n := by omega
      have HR : Hid (wr.heap[w.heap.size + 1]? = some (.cells #[.int .i64 (bnd s n).x0, .int .i64 (bnd s n).y0, .int .i64 (bnd s n).x1, .int .i64 (bnd s n).y1] 49) ∧ wr.heap[w.heap.size]? = some (.cells #[.int .i64 0, .int .i64 0, .int .i64 0, .int .i64 0] 49) ∧ Below w.heap.size w wr) := by
        have := hR.out
        rwa [ek] at this
      obtain ⟨m, hm⟩ : ∃ m, m = bnd s n := ⟨_, rfl⟩
      rw [← hm] at HR
      have HM : Hid (m = bnd s n) := hm
      obtain ⟨v0, v1, v2, v3, f0, f1, f2, f3, hlt2⟩ := box_at HR.out.1
      obtain ⟨r0, r1, r2, r3, z0, z1, z2, z3, hlt3⟩ := box_at (b := ⟨0, 0, 0, 0⟩) HR.out.2.1
      clear hR hm ek
      go_wp2
      refine bodyPost_ret (by simp [results, Try.results60, go_sem, r0, r1, r2, r3, hlt3]; rfl) rfl ⟨?_, ?_⟩
      · rw [← HM.out]
      · have hb := HR.out.2.2
        (repeat' (first | (with_reducible exact Below.refl _ _) | (with_reducible assumption) | (with_reducible refine Below.setCell ?_ ?_ _) | (with_reducible refine Below.alloc ?_ ?_ _) | (with_reducible refine below_drewN ?_ _) | (with_reducible refine Below.drew ?_) | (with_reducible exact Nat.le_refl _) | omega | (simp; done) | (simp; omega)))

theorem spec_bounds_any {w : World} {v : Value} {s : List Bx} (hl : s.length ≤ 150) (hp : 0 < s.length) (h : RB w v s) :
    Calls Try.prog 60 #[v] w fun e w' => e = .returned (.agg #[.int .i64 (bnd s s.length).x0, .int .i64 (bnd s s.length).y0, .int .i64 (bnd s s.length).x1, .int .i64 (bnd s s.length).y1]) ∧ Below w.heap.size w w' := by
  obtain ⟨g, o, c, rfl, hg, hj⟩ := h.pos hp
  exact spec_bounds g o c _ s w rfl hl hp hg hj
theorem BS.lit1 (m : Bx) (w : World) (B : Nat) (hB : B ≤ w.heap.size) : BS (w.alloc (.cells #[.int .i64 m.x0, .int .i64 m.y0, .int .i64 m.x1, .int .i64 m.y1] 49)) B (.slice (some ⟨w.heap.size, 0, none⟩) 1 1) [m] :=
  World.ownsRow_lit w #[.int .i64 m.x0, .int .i64 m.y0, .int .i64 m.x1, .int .i64 m.y1] 1 hB (by decide) (by simp)

def bndC (s : List Bx) : Int := shapeK s
def bndL (s : List Bx) : List Bx := if shapeK s = 0 ∧ 0 < s.length then [bnd s s.length] else []
theorem bndL_length (s : List Bx) : (bndL s).length ≤ 150 := by
  unfold bndL; split <;> simp

set_option maxRecDepth 10000 in
set_option maxHeartbeats 4000000 in
theorem spec_boundsOf {w : World} {v : Value} {s : List Bx} (h : RB w v s) :
    Calls Try.prog 32 #[v] w fun e w' => ∃ vs, e = .returned (.agg #[.int .i64 (bndC s), vs]) ∧ BS w' w.heap.size vs (bndL s) ∧ Below w.heap.size w w' := by
  obtain ⟨a, c, rfl⟩ := h.form
  obtain ⟨n, hn⟩ : ∃ n, n = s.length := ⟨_, rfl⟩
  have HN : Hid (n = s.length) := hn
  rw [← hn] at h ⊢
  have H : Hid (RB w (.slice a n c) s) := h
  clear h hn
  obtain ⟨z, hz⟩ : ∃ z, z = shapeK s := ⟨_, rfl⟩
  have HZ : Hid (z = shapeK s) := hz
  have HC : Hid (bndC s = z) := hz.symm
  clear hz
  by_cases hz0 : z = 0
  · have hsz : shapeK s = 0 := by rw [← HZ.out]; exact hz0
    have HL : Hid (s.length ≤ 150) := (boxesK_zero (bnd_zero hsz)).1
    by_cases hp : 0 < n
    · have HE : Hid (bndL s = [bnd s s.length]) := by unfold Hid bndL; rw [if_pos ⟨hsz, by rw [← HN.out]; exact hp⟩]
      obtain ⟨m, hm⟩ : ∃ m, m = bnd s s.length := ⟨_, rfl⟩
      have hne : ¬ (n : Int) = 0 := by omega
      have hne2 : ¬ n = 0 := by omega
      have hne3 : ((n : Int) == 0) = false := by simp; omega
      have HCL : Hid (∀ W, Below w.heap.size w W → Calls Try.prog 60 #[.slice a n c] W fun e w' => e = .returned (.agg #[.int .i64 m.x0, .int .i64 m.y0, .int .i64 m.x1, .int .i64 m.y1]) ∧ Below W.heap.size W w') := fun W hW => by rw [hm]; exact spec_bounds_any HL.out (by rw [← HN.out]; exact hp) (H.out.below hW)
      rw [← hm] at HE
      clear hm hsz
      subst hz0
      go_enter Try.func32, Try.ntmps32
      go_wp2_with (fail)
      refine (spec_shape (H.out.below ((Below.refl _ _).alloc (Nat.le_refl _) _))).mono ?_
      rintro e w1 ⟨rfl, hb1⟩
      rw [← HZ.out]
      obtain ⟨hk1, hlt1, hB1⟩ := res_kept hb1
      have HK1 : Hid (w1.heap[w.heap.size]? = some (.cells #[.int .i64 0, .slice none 0 0] 26) ∧ Below w.heap.size w w1) := ⟨hk1, hB1⟩
      clear hb1 hk1 hB1
      go_wp2_with (fail)
      refine (HCL.out _ HK1.out.2).mono ?_
      rintro e w2 ⟨rfl, hb2⟩
      have hk2 : w2.heap[w.heap.size]? = some (.cells #[.int .i64 0, .slice none 0 0] 26) := (hb2.block _ hlt1).trans HK1.out.1
      have HB2 : Hid (Below w.heap.size w w2) := HK1.out.2.trans (hb2.mono HK1.out.2.size)
      obtain ⟨r0, r1, f0, f1, hlt2⟩ := two_cells hk2
      clear hb2 HK1 hk2
      go_wp2
      refine bodyPost_ret (by simp [results, Try.results32, go_sem, r0, r1, hlt2]; rfl) rfl ⟨.slice (some ⟨w2.heap.size, 0, none⟩) 1 1, ?_, ?_, ?_⟩
      · rw [HC.out]
      · rw [HE.out]
        have hz := HB2.out.size
        have := BS.lit1 m ((w2.setCell ⟨w.heap.size, 0, none⟩ (.int .i64 0)).setCell ⟨w.heap.size, 1, none⟩ (.slice (some ⟨w2.heap.size, 0, none⟩) 1 1)) w.heap.size (by simp; omega)
        simpa using this
      · have hb := HB2.out
        have hz := HB2.out.size
        (repeat' (first | (with_reducible exact Below.refl _ _) | (with_reducible assumption) | (with_reducible refine Below.setCell ?_ ?_ _) | (with_reducible refine Below.alloc ?_ ?_ _) | (with_reducible refine below_drewN ?_ _) | (with_reducible refine Below.drew ?_) | (with_reducible exact Nat.le_refl _) | omega | (simp; done) | (simp; omega)))
    · have HE : Hid (bndL s = []) := by unfold Hid bndL; rw [if_neg (fun e => hp (by rw [HN.out]; exact e.2))]
      obtain rfl : n = 0 := by omega
      clear hsz
      subst hz0
      go_enter Try.func32, Try.ntmps32
      go_wp2_with (fail)
      refine (spec_shape (H.out.below ((Below.refl _ _).alloc (Nat.le_refl _) _))).mono ?_
      rintro e w1 ⟨rfl, hb1⟩
      rw [← HZ.out]
      obtain ⟨hk1, hlt1, hB1⟩ := res_kept hb1
      have HB1 : Hid (Below w.heap.size w w1) := hB1
      obtain ⟨r0, r1, f0, f1, hlt2⟩ := two_cells hk1
      clear hb1 hk1 hB1
      go_wp2
      refine bodyPost_ret (by simp [results, Try.results32, go_sem, r0, r1, hlt2]; rfl) rfl ⟨.slice none 0 0, ?_, ?_, ?_⟩
      · rw [HC.out]
      · rw [HE.out]; exact BS.nil _ _
      · have hb := HB1.out
        (repeat' (first | (with_reducible exact Below.refl _ _) | (with_reducible assumption) | (with_reducible refine Below.setCell ?_ ?_ _) | (with_reducible refine Below.alloc ?_ ?_ _) | (with_reducible refine below_drewN ?_ _) | (with_reducible refine Below.drew ?_) | (with_reducible exact Nat.le_refl _) | omega | (simp; done) | (simp; omega)))
  · have HE : Hid (bndL s = []) := by unfold Hid bndL; rw [if_neg (fun e => hz0 (by rw [HZ.out]; exact e.1))]
    go_enter Try.func32, Try.ntmps32
    go_wp2_with (fail)
    refine (spec_shape (H.out.below ((Below.refl _ _).alloc (Nat.le_refl _) _))).mono ?_
    rintro e w1 ⟨rfl, hb1⟩
    rw [← HZ.out]
    obtain ⟨hk1, hlt1, hB1⟩ := res_kept hb1
    have HB1 : Hid (Below w.heap.size w w1) := hB1
    obtain ⟨r0, r1, f0, f1, hlt2⟩ := two_cells hk1
    clear hb1 hk1 hB1
    go_wp2
    refine bodyPost_ret (by simp [results, Try.results32, go_sem, r0, r1, hlt2]; rfl) rfl ⟨.slice none 0 0, ?_, ?_, ?_⟩
    · rw [HC.out]
    · rw [HE.out]; exact BS.nil _ _
    · have hb := HB1.out
      (repeat' (first | (with_reducible exact Below.refl _ _) | (with_reducible assumption) | (with_reducible refine Below.setCell ?_ ?_ _) | (with_reducible refine Below.alloc ?_ ?_ _) | (with_reducible refine below_drewN ?_ _) | (with_reducible refine Below.drew ?_) | (with_reducible exact Nat.le_refl _) | omega | (simp; done) | (simp; omega)))

end Go.Proofs.Ytokdpgabmifdjab
