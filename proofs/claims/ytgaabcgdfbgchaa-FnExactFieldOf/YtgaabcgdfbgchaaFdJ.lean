/- Proved here: the program's lensFault and lensOf. -/
import Derived.Test.YtgaabcgdfbgchaaFdI
import Derived.Test.YtgaabcgdfbgchaaOoB
namespace Go.Proofs.Ytgaabcgdfbgchaa
open Go.RowKit
set_option linter.unusedVariables false
set_option linter.unusedSimpArgs false

/-- The code of a mask and a pupil. -/
def lfK (n : Nat) (C F : Int) (s : List Int) : Int := if mcK n = 0 then puF C F s else mcK n
set_option maxHeartbeats 1600000 in
theorem impl_lf (C F : Int) {w : World} {a ap : Option Addr} {n c m cp : Nat} {s : List Int} (h : RdI w (.slice ap m cp) s) :
    Calls Try.prog 61 #[.slice a n c, .agg #[.int .i64 C, .int .i64 F, .slice ap m cp]] w fun e w' => e = .returned (.int .i64 (lfK n C F s)) ∧ Below w.heap.size w w' := by
  obtain ⟨K, hK⟩ : ∃ K, K = mcK n := ⟨_, rfl⟩
  obtain ⟨Q, hQ⟩ : ∃ Q, Q = puF C F s := ⟨_, rfl⟩
  obtain ⟨R, hR⟩ : ∃ R, R = lfK n C F s := ⟨_, rfl⟩
  have HM : Hid (∀ W, Calls Try.prog 46 #[.slice a n c] W fun e w' => e = .returned (.int .i64 K) ∧ w' = W) := fun W => by rw [hK]; exact impl_mask a n c W
  have HP : Hid (∀ W, Below w.heap.size w W → Calls Try.prog 54 #[.agg #[.int .i64 C, .int .i64 F, .slice ap m cp]] W fun e w' => e = .returned (.int .i64 Q) ∧ Below W.heap.size W w') := fun W hb => by rw [hQ]; exact impl_pu C F (h.below hb)
  have HR : Hid (R = if K = 0 then Q else K) := by unfold Hid; rw [hR, hK, hQ]; rfl
  rw [← hR]
  clear h hK hQ hR
  go_enter Try.func61, Try.ntmps61
  go_wp2_with (fail)
  refine (HM.out _).mono ?_
  rintro e w1 ⟨rfl, hw1⟩
  subst w1
  by_cases hK0 : K = 0
  · have HE : Hid (R = Q) := by unfold Hid; rw [HR.out, if_pos hK0]
    subst hK0
    go_wp2_with (fail)
    refine (HP.out _ (by (repeat' (first | (with_reducible exact Below.refl _ _) | (with_reducible assumption) | (with_reducible refine Below.setCell ?_ ?_ _) | (with_reducible refine Below.alloc ?_ ?_ _) | (with_reducible refine below_drewN ?_ _) | (with_reducible refine Below.drew ?_) | (with_reducible exact Nat.le_refl _) | omega | (simp; done) | (simp; omega))))).mono ?_
    rintro e w2 ⟨rfl, hb2⟩
    have HB : Hid (Below w.heap.size w w2) := (show Below w.heap.size w _ from by (repeat' (first | (with_reducible exact Below.refl _ _) | (with_reducible assumption) | (with_reducible refine Below.setCell ?_ ?_ _) | (with_reducible refine Below.alloc ?_ ?_ _) | (with_reducible refine below_drewN ?_ _) | (with_reducible refine Below.drew ?_) | (with_reducible exact Nat.le_refl _) | omega | (simp; done) | (simp; omega)))).trans (hb2.mono (by simp))
    clear hb2
    go_wp2
    go_returns
    exact ⟨by rw [HE.out]; rfl, HB.out⟩
  · have HE : Hid (R = K) := by unfold Hid; rw [HR.out, if_neg hK0]
    go_wp2
    go_returns
    exact ⟨by rw [HE.out]; rfl, by (repeat' (first | (with_reducible exact Below.refl _ _) | (with_reducible assumption) | (with_reducible refine Below.setCell ?_ ?_ _) | (with_reducible refine Below.alloc ?_ ?_ _) | (with_reducible refine below_drewN ?_ _) | (with_reducible refine Below.drew ?_) | (with_reducible exact Nat.le_refl _) | omega | (simp; done) | (simp; omega)))⟩

theorem there_five {w : World} {k : Nat} {a b c d e : Value} {T : TypeId} (h : w.heap[k]? = some (.cells #[a, b, c, d, e] T)) : w.there k 0 5 := by
  intro j hj
  have hj2 : j < 5 := hj
  simp [World.cell?, World.frozen?, h, hj2]
theorem five_set {w : World} {k : Nat} {a b c d e : Value} {T : TypeId} (h : w.heap[k]? = some (.cells #[a, b, c, d, e] T)) (a' b' c' d' e' : Value) : (w.setCells k 0 [a', b', c', d', e']).heap[k]? = some (.cells #[a', b', c', d', e'] T) := by
  have s0 := heap_setCell_same _ _ 0 _ _ a' h
  have s1 := heap_setCell_same _ _ 1 _ _ b' s0
  have s2 := heap_setCell_same _ _ 2 _ _ c' s1
  have s3 := heap_setCell_same _ _ 3 _ _ d' s2
  have s4 := heap_setCell_same _ _ 4 _ _ e' s3
  simpa [World.setCells] using s4
theorem five_off (w : World) (k : Nat) {q : Nat} (h : q ≠ k) : ∀ (vs : List Value) {o : Nat}, (w.setCells k o vs).heap[q]? = w.heap[q]? := by
  intro vs
  induction vs generalizing w with
  | nil => intro o; rfl
  | cons v r ih => intro o; rw [World.setCells, ih, heap_setCell_other _ _ _ _ (by simpa using h)]

set_option maxRecDepth 10000 in
set_option maxHeartbeats 6400000 in
theorem impl_lens (C F : Int) {w : World} {a ap : Option Addr} {n c m cp : Nat} {mk : List Zf} (hm : RZs w (.slice a n c) mk) (h1 : 1 ≤ n) (h2 : n ≤ 24) :
    Calls Try.prog 62 #[.slice a n c, .agg #[.int .i64 C, .int .i64 F, .slice ap m cp]] w fun e w' => ∃ g1 g2 zs ts, e = .returned (.agg #[.slice (some ⟨g1, 0, none⟩) n n, .slice (some ⟨g2, 0, none⟩) n n, .int .i64 C, .int .i64 F, .slice ap m cp]) ∧ RCs w' (.slice (some ⟨g1, 0, none⟩) n n) zs ∧ RCs w' (.slice (some ⟨g2, 0, none⟩) n n) ts ∧ zs.map Zf.v = orL (mk.map Zf.v) ∧ TuL n 1 ts n ∧ Below w.heap.size w w' := by
  have H : Hid (RZs w (.slice a n c) mk ∧ True) := ⟨hm, trivial⟩
  clear hm
  go_enter Try.func62, Try.ntmps62
  go_wp2_with (fail)
  obtain ⟨U, hU⟩ : ∃ U, U = (w.alloc (.cells #[.int .i64 C, .int .i64 F, .slice ap m cp] 45)).alloc (.cells #[.slice none 0 0, .slice none 0 0, .int .i64 0, .int .i64 0, .slice none 0 0] 92) := ⟨_, rfl⟩
  rw [← hU]
  have BW : Below w.heap.size w U := by rw [hU]; (repeat' (first | (with_reducible exact Below.refl _ _) | (with_reducible assumption) | (with_reducible refine Below.setCell ?_ ?_ _) | (with_reducible refine Below.alloc ?_ ?_ _) | (with_reducible refine below_drewN ?_ _) | (with_reducible refine Below.drew ?_) | (with_reducible exact Nat.le_refl _) | omega | (simp; done) | (simp; omega)))
  have hUs : U.heap.size = w.heap.size + 2 := by rw [hU]; simp
  have u0 : U.heap[w.heap.size]? = some (.cells #[.int .i64 C, .int .i64 F, .slice ap m cp] 45) := by rw [hU]; exact (Below.heap_alloc _ _ _ (by simp)).trans (heap_alloc_new w _)
  have u1 : U.heap[w.heap.size + 1]? = some (.cells #[.slice none 0 0, .slice none 0 0, .int .i64 0, .int .i64 0, .slice none 0 0] 92) := by
    rw [hU]
    have := heap_alloc_new (w.alloc (.cells #[.int .i64 C, .int .i64 F, .slice ap m cp] 45)) (.cells #[.slice none 0 0, .slice none 0 0, .int .i64 0, .int .i64 0, .slice none 0 0] 92)
    simpa using this
  obtain ⟨p0, p1, p2, pf, pl⟩ := three_at u0
  have BU : Below (w.heap.size + 2) U U.drew := (Below.refl _ _).drew
  have hDs : U.drew.heap.size = U.heap.size := rfl
  clear hU pf
  refine wp_region_holdsA (S := KA (w.heap.size + 1) U) (by kernel_rfl) (KA.of (BU.mono (by omega))) (fun hS => ?_)
  refine fl_takeA (i := 0) (d := 5) (v := .slice a n c) rfl rfl rfl (by kernel_rfl) (by kernel_rfl) (by kernel_rfl) hS ?_ ?_
  · intro w' hk; unfold KA at hk; go_simp
  simp only [Act.put, List.setIfInBounds_toArray, List.set_cons_zero, List.set_cons_succ]
  refine fl_takeA (i := 2) (d := 7) (v := .slice a n c) rfl rfl rfl (by kernel_rfl) (by kernel_rfl) (by kernel_rfl) hS ?_ ?_
  · intro w' hk; unfold KA at hk; go_simp
  simp only [Act.put, List.setIfInBounds_toArray, List.set_cons_zero, List.set_cons_succ]
  refine fl_takeA (i := 3) (d := 8) (v := .int .i64 n) rfl rfl rfl (by kernel_rfl) (by kernel_rfl) (by kernel_rfl) hS ?_ ?_
  · intro w' hk; unfold KA at hk; go_simp
  simp only [Act.put, List.setIfInBounds_toArray, List.set_cons_zero, List.set_cons_succ]
  refine fl_takeA (i := 5) (d := 10) (v := .agg #[.int .i64 C, .int .i64 F, .slice ap m cp]) rfl rfl rfl (by kernel_rfl) (by kernel_rfl) (by kernel_rfl) hS ?_ ?_
  · intro w' hk; unfold KA at hk; go_simp
  simp only [Act.put, List.setIfInBounds_toArray, List.set_cons_zero, List.set_cons_succ]
  refine wpAnyH_all (rs := [1]) (by kernel_rfl) (by simp) ?_
  intro i hi; obtain rfl := List.mem_singleton.1 hi; clear hi
  refine op_call (d := 6) rfl rfl rfl (by go_simp) ((impl_orders (H.out.1.below (BW.trans (BU.mono (by omega)))) h1 h2).mono ?_)
  rintro e w3 ⟨g1, zs, rfl, hz, hzv, hbB3⟩
  have lo : U.heap.size ≤ U.drew.heap.size := Nat.le_refl _
  have B3 : Below (w.heap.size + 2) U w3 := BU.trans (hbB3.mono (by omega))
  refine ⟨_, rfl, KA.of (B3.mono (by omega)), ?_⟩
  simp only [Act.put, List.setIfInBounds_toArray, List.set_cons_zero, List.set_cons_succ]
  have h3s : U.heap.size ≤ w3.heap.size := hbB3.size
  refine wpAnyH_all (rs := [4]) (by kernel_rfl) (by simp) ?_
  intro i hi; obtain rfl := List.mem_singleton.1 hi; clear hi
  refine op_call (d := 9) rfl rfl rfl (by go_simp) ((impl_turns n h1 h2 1 (Or.inl rfl) _).mono ?_)
  rintro e w4 ⟨g2, ts, rfl, ht, htv, hbB4⟩
  have lt : U.heap.size ≤ w3.heap.size := h3s
  have B4 : Below (w.heap.size + 2) U w4 := B3.trans (hbB4.mono (by omega))
  refine ⟨_, rfl, KA.of (B4.mono (by omega)), ?_⟩
  simp only [Act.put, List.setIfInBounds_toArray, List.set_cons_zero, List.set_cons_succ]
  refine wpAnyH_all (rs := [6]) (by kernel_rfl) (by simp) ?_
  intro i hi; obtain rfl := List.mem_singleton.1 hi; clear hi
  refine op_val (d := 11) (v := .agg #[.slice (some ⟨g1, 0, none⟩) n n, .slice (some ⟨g2, 0, none⟩) n n, .int .i64 C, .int .i64 F, .slice ap m cp]) (w' := w4) rfl rfl rfl (by go_simp; try rfl) ?_
  simp only [Act.put, List.setIfInBounds_toArray, List.set_cons_zero, List.set_cons_succ]
  refine ⟨KA.of (B4.mono (by omega)), wpAnyH_all (rs := [7]) (by kernel_rfl) (by simp) ?_⟩
  intro i hi; obtain rfl := List.mem_singleton.1 hi; clear hi
  have g5 : w4.heap[w.heap.size + 1]? = some (.cells #[.slice none 0 0, .slice none 0 0, .int .i64 0, .int .i64 0, .slice none 0 0] 92) := (B4.block _ (by omega)).trans u1
  refine op_store rfl rfl rfl 92 _ _ rfl (w.heap.size + 1) #[.slice (some ⟨g1, 0, none⟩) n n, .slice (some ⟨g2, 0, none⟩) n n, .int .i64 C, .int .i64 F, .slice ap m cp] (by go_simp) (by go_simp) (there_five g5) (by kernel_rfl) (by simp [Value.oneCell']) ?_
  have B6 := below_setCells (w.heap.size + 1) (Nat.le_refl _) [.slice (some ⟨g1, 0, none⟩) n n, .slice (some ⟨g2, 0, none⟩) n n, .int .i64 C, .int .i64 F, .slice ap m cp] 0 _ (B4.mono (show w.heap.size + 1 ≤ w.heap.size + 2 by omega))
  refine ⟨KA.of B6, wpAnyH_done (by kernel_rfl) (NoPanic.normal ?_) _⟩
  have s2 := five_set g5 (.slice (some ⟨g1, 0, none⟩) n n) (.slice (some ⟨g2, 0, none⟩) n n) (.int .i64 C) (.int .i64 F) (.slice ap m cp)
  have HO : OCs w4 (w.heap.size + 2) (.slice (some ⟨g1, 0, none⟩) n n) zs := OG.low (OG.below hz hbB4) (by omega)
  have HT : OCs w4 (w.heap.size + 2) (.slice (some ⟨g2, 0, none⟩) n n) ts := OG.low ht (by omega)
  have HB : Hid (Below w.heap.size w (w4.setCells (w.heap.size + 1) 0 [.slice (some ⟨g1, 0, none⟩) n n, .slice (some ⟨g2, 0, none⟩) n n, .int .i64 C, .int .i64 F, .slice ap m cp]) ∧ RCs (w4.setCells (w.heap.size + 1) 0 [.slice (some ⟨g1, 0, none⟩) n n, .slice (some ⟨g2, 0, none⟩) n n, .int .i64 C, .int .i64 F, .slice ap m cp]) (.slice (some ⟨g1, 0, none⟩) n n) zs ∧ RCs (w4.setCells (w.heap.size + 1) 0 [.slice (some ⟨g1, 0, none⟩) n n, .slice (some ⟨g2, 0, none⟩) n n, .int .i64 C, .int .i64 F, .slice ap m cp]) (.slice (some ⟨g2, 0, none⟩) n n) ts ∧ zs.map Zf.v = orL (mk.map Zf.v) ∧ TuL n 1 ts n) := by
    have hsz : w4.heap.size ≤ (w4.setCells (w.heap.size + 1) 0 [.slice (some ⟨g1, 0, none⟩) n n, .slice (some ⟨g2, 0, none⟩) n n, .int .i64 C, .int .i64 F, .slice ap m cp]).heap.size := by simp [World.setCells]
    refine ⟨BW.trans (B6.mono (by omega)), RG.kept (OCs.rg HO) (fun q hq => ?_) hsz, RG.kept (OCs.rg HT) (fun q hq => ?_) hsz, hzv, htv⟩
    · have := (OG.lt HO q hq).1
      exact five_off _ _ (by omega) _
    · have := (OG.lt HT q hq).1
      exact five_off _ _ (by omega) _
  generalize w4.setCells (w.heap.size + 1) 0 [.slice (some ⟨g1, 0, none⟩) n n, .slice (some ⟨g2, 0, none⟩) n n, .int .i64 C, .int .i64 F, .slice ap m cp] = w6 at s2 HB ⊢
  obtain ⟨r0, r1, r2, r3, r4, rl⟩ := five_at s2
  clear s2 g5 B4 B6 hS HO HT
  go_wp2
  refine bodyPost_ret (by simp [results, Try.results62, go_sem, r0, r1, r2, r3, r4]; try rfl) rfl ?_
  exact ⟨g1, g2, zs, ts, rfl, HB.out.2.1, HB.out.2.2.1, HB.out.2.2.2.1, HB.out.2.2.2.2, HB.out.1⟩

end Go.Proofs.Ytgaabcgdfbgchaa
