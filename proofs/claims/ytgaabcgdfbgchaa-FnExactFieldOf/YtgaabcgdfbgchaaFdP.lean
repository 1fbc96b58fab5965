/- Proved here: the model's FieldOf. -/
import Derived.Test.YtgaabcgdfbgchaaFdO
import Derived.Test.YtgaabcgdfbgchaaFdS
namespace Go.Proofs.Ytgaabcgdfbgchaa
open Go.RowKit
set_option linter.unusedVariables false
set_option linter.unusedSimpArgs false

theorem two_set {w : World} {k : Nat} {a b : Value} {T : TypeId} (h : w.heap[k]? = some (.cells #[a, b] T)) (a' b' : Value) : (w.setCells k 0 [a', b']).heap[k]? = some (.cells #[a', b'] T) := by
  have s0 := heap_setCell_same _ _ 0 _ _ a' h
  have s1 := heap_setCell_same _ _ 1 _ _ b' s0
  simpa [World.setCells] using s1
set_option maxRecDepth 10000 in
set_option maxHeartbeats 6400000 in
theorem spec_fo (C F sh : Int) {w : World} {a ap : Option Addr} {n c m cp : Nat} {mk : List Zf} {s : List Int} (hm : RZs w (.slice a n c) mk) (hs : RdI w (.slice ap m cp) s) :
    Calls Try.prog 25 #[.slice a n c, .agg #[.int .i64 C, .int .i64 F, .slice ap m cp], .int .i64 sh] w fun e w' => ∃ v zs, e = .returned (.agg #[.int .i64 (ffK n C F s sh), v]) ∧ OZs w' w.heap.size v zs ∧ zs.map Zf.v = ffL (mk.map Zf.v) C F s sh ∧ Below w.heap.size w w' := by
  have hml : n = mk.length := hm.len
  obtain ⟨K, hK⟩ : ∃ K, K = mcK n := ⟨_, rfl⟩
  obtain ⟨Q, hQ⟩ : ∃ Q, Q = puF C F s := ⟨_, rfl⟩
  obtain ⟨R, hR⟩ : ∃ R, R = ffK n C F s sh := ⟨_, rfl⟩
  obtain ⟨L, hL⟩ : ∃ L, L = ffL (mk.map Zf.v) C F s sh := ⟨_, rfl⟩
  have H : Hid (RZs w (.slice a n c) mk ∧ RdI w (.slice ap m cp) s ∧ (K = mcK n ∧ Q = puF C F s) ∧ (R = if (if K = 0 then Q else K) = 0 then (if -12 ≤ sh ∧ sh ≤ 12 then 0 else 3) else (if K = 0 then Q else K)) ∧ L = if R = 0 then fdL (orL (mk.map Zf.v)) n C F sh s else []) :=
    ⟨hm, hs, ⟨hK, hQ⟩, by rw [hR, hK, hQ]; rfl, by rw [hL, hR]; unfold ffL; rw [List.length_map, ← hml]⟩
  have HM : Hid (∀ W, Calls Try.prog 43 #[.slice a n c] W fun e w' => e = .returned (.int .i64 K) ∧ w' = W) := fun W => by rw [hK]; exact spec_mask a n c W
  have HP : Hid (∀ W, Below w.heap.size w W → Calls Try.prog 51 #[.agg #[.int .i64 C, .int .i64 F, .slice ap m cp]] W fun e w' => e = .returned (.int .i64 Q) ∧ Below W.heap.size W w') := fun W hb => by rw [hQ]; exact spec_pu C F (hs.below hb)
  rw [← hR, ← hL]
  clear hm hs hml hK hR hL hQ
  go_enter Try.func25, Try.ntmps25
  go_wp2_with (fail)
  refine (HM.out _).mono ?_
  rintro e w1 ⟨rfl, hw1⟩
  have F1 : Hid (FO w w1 (.cells #[.int .i64 C, .int .i64 F, .slice ap m cp] 45)) := by
    have h2 := two_blk w (.cells #[.int .i64 C, .int .i64 F, .slice ap m cp] 45) (.cells #[.int .i64 0, .slice none 0 0] 32)
    rw [hw1]
    exact ⟨by (repeat' (first | (with_reducible exact Below.refl _ _) | (with_reducible assumption) | (with_reducible refine Below.setCell ?_ ?_ _) | (with_reducible refine Below.alloc ?_ ?_ _) | (with_reducible refine below_drewN ?_ _) | (with_reducible refine Below.drew ?_) | (with_reducible exact Nat.le_refl _) | omega | (simp; done) | (simp; omega))), h2.1, h2.2⟩
  clear hw1 HM
  obtain ⟨b0, b1, b2, bf, bl⟩ := three_at F1.out.bx
  obtain ⟨p0, p1, pf, pl⟩ := z_two F1.out.an
  have pf0 := pf 0
  have pf1 := pf 1
  clear pf bf
  by_cases hK0 : K = 0
  case neg =>
    have HE : Hid (R = K ∧ L = []) := by
      have h3 : R = K := by rw [H.out.2.2.2.1, if_neg hK0, if_neg hK0]
      exact ⟨h3, by rw [H.out.2.2.2.2, if_neg (by rw [h3]; exact hK0)]⟩
    go_wp2
    refine bodyPost_ret (by simp [results, Try.results25, go_sem, p0, p1]; try rfl) rfl ⟨_, [], by rw [HE.out.1], World.ownsRow_nil _ _ _ _, by rw [HE.out.2]; rfl, ?_⟩
    have hB := F1.out.bl
    (repeat' (first | (with_reducible exact Below.refl _ _) | (with_reducible assumption) | (with_reducible refine Below.setCell ?_ ?_ _) | (with_reducible refine Below.alloc ?_ ?_ _) | (with_reducible refine below_drewN ?_ _) | (with_reducible refine Below.drew ?_) | (with_reducible exact Nat.le_refl _) | omega | (simp; done) | (simp; omega)))
  have HR1 : Hid (R = if Q = 0 then (if -12 ≤ sh ∧ sh ≤ 12 then 0 else 3) else Q) := by unfold Hid; rw [H.out.2.2.2.1, if_pos hK0]
  have HK0 : Hid (K = 0) := hK0
  subst hK0
  go_wp2_with (fail)
  refine (HP.out _ F1.out.bl).mono ?_
  rintro e w2 ⟨rfl, hb2⟩
  have F2 : Hid (FO w w2 (.cells #[.int .i64 C, .int .i64 F, .slice ap m cp] 45)) := F1.out.next hb2
  clear hb2 HP F1 b0 b1 b2 bl p0 p1 pl pf0 pf1
  obtain ⟨b0, b1, b2, bf, bl⟩ := three_at F2.out.bx
  obtain ⟨p0, p1, pf, pl⟩ := z_two F2.out.an
  have pf0 := pf 0
  have pf1 := pf 1
  clear pf bf
  by_cases hQ0 : Q = 0
  case neg =>
    have HE : Hid (R = Q ∧ L = []) := by
      have h3 : R = Q := by rw [HR1.out, if_neg hQ0]
      exact ⟨h3, by rw [H.out.2.2.2.2, if_neg (by rw [h3]; exact hQ0)]⟩
    go_wp2
    refine bodyPost_ret (by simp [results, Try.results25, go_sem, p0, p1]; try rfl) rfl ⟨_, [], by rw [HE.out.1], World.ownsRow_nil _ _ _ _, by rw [HE.out.2]; rfl, ?_⟩
    have hB := F2.out.bl
    (repeat' (first | (with_reducible exact Below.refl _ _) | (with_reducible assumption) | (with_reducible refine Below.setCell ?_ ?_ _) | (with_reducible refine Below.alloc ?_ ?_ _) | (with_reducible refine below_drewN ?_ _) | (with_reducible refine Below.drew ?_) | (with_reducible exact Nat.le_refl _) | omega | (simp; done) | (simp; omega)))
  have HR2 : Hid (R = if -12 ≤ sh ∧ sh ≤ 12 then 0 else 3) := by unfold Hid; rw [HR1.out, if_pos hQ0]
  have HQ0 : Hid (puF C F s = 0) := by unfold Hid; rw [← H.out.2.2.1.2]; exact hQ0
  have HN : Hid (1 ≤ n ∧ n ≤ 24) := by
    have h3 := H.out.2.2.1.1
    unfold mcK at h3
    split at h3
    · cases h3
    · split at h3
      · cases h3
      · exact ⟨by omega, by omega⟩
  subst hQ0
  obtain ⟨r, hr⟩ : ∃ r, r = decide (sh < -12 ∨ 12 < sh) := ⟨_, rfl⟩
  have HSH : Hid (∀ W, Calls Try.prog 59 #[.int .i64 sh] W fun e w' => e = .returned (.bool r) ∧ w' = W) := fun W => by rw [hr]; exact spec_shift sh W
  have HRR : Hid (r = decide (sh < -12 ∨ 12 < sh)) := hr
  clear hr HR1
  go_wp2_with (fail)
  refine (HSH.out _).mono ?_
  rintro e w3 ⟨rfl, hw3⟩
  subst w3
  cases r with
  | true =>
    have HE : Hid (R = 3 ∧ L = []) := by
      have hn : sh < -12 ∨ 12 < sh := of_decide_eq_true HRR.out.symm
      have h3 : R = 3 := by rw [HR2.out, if_neg (by omega)]
      exact ⟨h3, by rw [H.out.2.2.2.2, if_neg (by rw [h3]; decide)]⟩
    go_wp2
    refine bodyPost_ret (by simp [results, Try.results25, go_sem, p0, p1]; try rfl) rfl ⟨_, [], by rw [HE.out.1], World.ownsRow_nil _ _ _ _, by rw [HE.out.2]; rfl, ?_⟩
    have hB := F2.out.bl
    (repeat' (first | (with_reducible exact Below.refl _ _) | (with_reducible assumption) | (with_reducible refine Below.setCell ?_ ?_ _) | (with_reducible refine Below.alloc ?_ ?_ _) | (with_reducible refine below_drewN ?_ _) | (with_reducible refine Below.drew ?_) | (with_reducible exact Nat.le_refl _) | omega | (simp; done) | (simp; omega)))
  | false =>
    have HC : Hid (-12 ≤ sh ∧ sh ≤ 12) := by
      have hn : ¬ (sh < -12 ∨ 12 < sh) := of_decide_eq_false HRR.out.symm
      exact ⟨by omega, by omega⟩
    have HE : Hid (R = 0 ∧ L = fdL (orL (mk.map Zf.v)) n C F sh s) := by
      have h3 : R = 0 := by rw [HR2.out, if_pos HC.out]
      exact ⟨h3, by rw [H.out.2.2.2.2, if_pos h3]⟩
    clear HSH HRR
    go_wp2_with (fail)
    refine (spec_roots _).mono ?_
    rintro e w4 ⟨rv, rfl, hr4, hb4⟩
    obtain ⟨ra, rc, hrf⟩ := hr4.rg.form
    rw [rzK_len] at hrf
    subst hrf
    have F4 : Hid (FO w w4 (.cells #[.int .i64 C, .int .i64 F, .slice ap m cp] 45) ∧ RZs w4 (.slice ra 20 rc) (rzK 20)) := ⟨F2.out.next hb4, hr4.rg⟩
    clear hr4 hb4 F2 b0 b1 b2 bl p0 p1 pl pf0 pf1
    obtain ⟨b0, b1, b2, bf, bl⟩ := three_at F4.out.1.bx
    clear bf
    go_wp2_with (fail)
    have B0 : Below w4.heap.size w4 w4.drew := (Below.refl _ _).drew
    have hl4 := lt_of_an F4.out.1.an
    refine wp_region_holdsA (S := KA (w.heap.size + 1) w4) (by kernel_rfl) (KA.of (B0.mono (by omega))) (fun hS => ?_)
    refine fl_takeA (i := 0) (d := 26) (v := .slice a n c) rfl rfl rfl (by kernel_rfl) (by kernel_rfl) (by kernel_rfl) hS ?_ ?_
    · intro w' hk; unfold KA at hk; go_simp
    simp only [Act.put, List.setIfInBounds_toArray, List.set_cons_zero, List.set_cons_succ]
    refine fl_takeA (i := 1) (d := 27) (v := .slice ra 20 rc) rfl rfl rfl (by kernel_rfl) (by kernel_rfl) (by kernel_rfl) hS ?_ ?_
    · intro w' hk; unfold KA at hk; go_simp
    simp only [Act.put, List.setIfInBounds_toArray, List.set_cons_zero, List.set_cons_succ]
    refine fl_takeA (i := 3) (d := 29) (v := .agg #[.int .i64 C, .int .i64 F, .slice ap m cp]) rfl rfl rfl (by kernel_rfl) (by kernel_rfl) (by kernel_rfl) hS ?_ ?_
    · intro w' hk; unfold KA at hk; go_simp
    simp only [Act.put, List.setIfInBounds_toArray, List.set_cons_zero, List.set_cons_succ]
    refine fl_takeA (i := 4) (d := 30) (v := .int .i64 sh) rfl rfl rfl (by kernel_rfl) (by kernel_rfl) (by kernel_rfl) hS ?_ ?_
    · intro w' hk; unfold KA at hk; go_simp
    simp only [Act.put, List.setIfInBounds_toArray, List.set_cons_zero, List.set_cons_succ]
    refine fl_takeA (i := 5) (d := 31) (v := .slice ra 20 rc) rfl rfl rfl (by kernel_rfl) (by kernel_rfl) (by kernel_rfl) hS ?_ ?_
    · intro w' hk; unfold KA at hk; go_simp
    simp only [Act.put, List.setIfInBounds_toArray, List.set_cons_zero, List.set_cons_succ]
    refine wpAnyH_all (rs := [2]) (by kernel_rfl) (by simp) ?_
    intro i hi; obtain rfl := List.mem_singleton.1 hi; clear hi
    refine op_call (d := 28) rfl rfl rfl (by go_simp) ((spec_orders (H.out.1.below (F4.out.1.next B0).bl) (F4.out.2.below B0) HN.out.1 HN.out.2).mono ?_)
    rintro e w5 ⟨v5, zs, rfl, hz5, hv5, hb5⟩
    have B5 : Below w4.heap.size w4 w5 := B0.trans (hb5.mono B0.size)
    obtain ⟨oa, oc, hof⟩ := hz5.rg.form
    have hzl : zs.length = n := by
      have h3 := congrArg List.length hv5
      have h4 := H.out.1.len
      simp [orL] at h3
      omega
    rw [hzl] at hof
    subst hof
    have hS : KA (w.heap.size + 1) w4 w5 := KA.of (B5.mono (by omega))
    refine ⟨_, rfl, hS, ?_⟩
    simp only [Act.put, List.setIfInBounds_toArray, List.set_cons_zero, List.set_cons_succ]
    refine wpAnyH_all (rs := [6]) (by kernel_rfl) (by simp) ?_
    intro i hi; obtain rfl := List.mem_singleton.1 hi; clear hi
    refine op_call (d := 32) rfl rfl rfl (by go_simp) ((spec_field C F sh hz5.rg (F4.out.2.below B5) (H.out.2.1.below (F4.out.1.next B5).bl) HQ0.out HN.out.1 HN.out.2 HC.out.1 HC.out.2).mono ?_)
    rintro e w6 ⟨v6, fs, rfl, hf6, hv6, hb6⟩
    have B6 : Below w4.heap.size w4 w6 := B5.trans (hb6.mono B5.size)
    obtain ⟨fa, fc, hff⟩ := hf6.rg.form
    subst hff
    refine ⟨_, rfl, KA.of (B6.mono (by omega)), ?_⟩
    simp only [Act.put, List.setIfInBounds_toArray, List.set_cons_zero, List.set_cons_succ]
    refine wpAnyH_all (rs := [7]) (by kernel_rfl) (by simp) ?_
    intro i hi; obtain rfl := List.mem_singleton.1 hi; clear hi
    refine op_val (d := 33) (v := .agg #[.int .i64 0, .slice fa fs.length fc]) (w' := w6) rfl rfl rfl (by go_simp; try rfl) ?_
    simp only [Act.put, List.setIfInBounds_toArray, List.set_cons_zero, List.set_cons_succ]
    refine ⟨KA.of (B6.mono (by omega)), wpAnyH_all (rs := [8]) (by kernel_rfl) (by simp) ?_⟩
    intro i hi; obtain rfl := List.mem_singleton.1 hi; clear hi
    have F6 := F4.out.1.next B6
    have g6 := F6.an
    refine op_store rfl rfl rfl 32 _ _ rfl (w.heap.size + 1) #[.int .i64 0, .slice fa fs.length fc] (by go_simp) (by go_simp) (there_two g6) (by kernel_rfl) (by simp [Value.oneCell']) ?_
    have B8 := below_setCells (w.heap.size + 1) (Nat.le_refl _) [.int .i64 0, .slice fa fs.length fc] 0 _ (B6.mono (show w.heap.size + 1 ≤ w4.heap.size by omega))
    refine ⟨KA.of B8, wpAnyH_done (by kernel_rfl) (NoPanic.normal ?_) _⟩
    have s2 := two_set g6 (.int .i64 0) (.slice fa fs.length fc)
    have hlow : OZs w6 (w.heap.size + 2) (.slice fa fs.length fc) fs := OG.low hf6 (by have := B5.size; omega)
    have HB : Hid (Below w.heap.size w (w6.setCells (w.heap.size + 1) 0 [.int .i64 0, .slice fa fs.length fc]) ∧ OZs (w6.setCells (w.heap.size + 1) 0 [.int .i64 0, .slice fa fs.length fc]) w.heap.size (.slice fa fs.length fc) fs ∧ fs.map Zf.v = L) := by
      refine ⟨F4.out.1.bl.trans (B8.mono (by omega)), OG.low (OZs.keepO (B := w.heap.size + 1) hlow fun g hg => ?_) (by omega), by rw [hv6, hv5, HE.out.2]⟩
      have := (OG.lt hlow g hg).1
      exact five_off _ _ (by omega) _
    generalize w6.setCells (w.heap.size + 1) 0 [.int .i64 0, .slice fa fs.length fc] = w7 at s2 HB ⊢
    obtain ⟨r0, r1, rf, rl⟩ := z_two s2
    clear s2 B8 B6 B5 g6 F6 hS hlow hf6 hv6 hb6 hz5 hv5 hb5 rf
    go_wp2
    refine bodyPost_ret (by simp [results, Try.results25, go_sem, r0, r1]; try rfl) rfl ?_
    exact ⟨_, fs, by rw [HE.out.1], HB.out.2.1, HB.out.2.2, HB.out.1⟩

end Go.Proofs.Ytgaabcgdfbgchaa
