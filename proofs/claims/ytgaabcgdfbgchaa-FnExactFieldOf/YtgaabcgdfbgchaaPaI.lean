/- Proved here: PupilAt of both, and the model's l7Pupil, by value. -/
import Derived.Test.YtgaabcgdfbgchaaPaB
namespace Go.Proofs.Ytgaabcgdfbgchaa
open Go.RowKit
set_option linter.unusedVariables false
set_option linter.unusedSimpArgs false

theorem pu_pos {C F : Int} {s : List Int} {o : Int} (h : puF C F s = 0) (ho : -C ≤ o ∧ o ≤ C) : puV C F s o = trV (puP F s o) := by unfold puV; rw [if_pos ⟨h, ho⟩]
theorem pu_neg {C F : Int} {s : List Int} {o : Int} (h : ¬ (puF C F s = 0 ∧ (-C ≤ o ∧ o ≤ C))) : puV C F s o = ⟨fv 0, fv 0⟩ := by unfold puV; rw [if_neg h]
theorem getD_bd {s : List Int} (h : ∀ j (hj : j < s.length), -1048576 ≤ s[j] ∧ s[j] ≤ 1048576) (k : Nat) : -1048576 ≤ s.getD k 0 ∧ s.getD k 0 ≤ 1048576 := by
  by_cases hk : k < s.length
  · have := h k hk
    simpa [hk] using this
  · simp [List.getD_eq_getElem?_getD, List.getElem?_eq_none (show s.length ≤ k by omega)]

set_option maxHeartbeats 6400000 in
theorem impl_pa (C F o : Int) {w : World} {a : Option Addr} {n c : Nat} {s : List Int} (h : RdI w (.slice a n c) s) :
    Calls Try.prog 23 #[.agg #[.int .i64 C, .int .i64 F, .slice a n c], .int .i64 o] w fun e w' => ∃ z : Zf, e = .returned (.agg #[.float .f64 z.re, .float .f64 z.im]) ∧ z.v = puV C F s o ∧ Below w.heap.size w w' := by
  obtain ⟨K, hK⟩ : ∃ K, K = puF C F s := ⟨_, rfl⟩
  have H : Hid (RdI w (.slice a n c) s ∧ n = s.length ∧ K = puF C F s) := ⟨h, h.len, hK⟩
  have HPF : Hid (∀ W, Below w.heap.size w W → Calls Try.prog 54 #[.agg #[.int .i64 C, .int .i64 F, .slice a n c]] W fun e w' => e = .returned (.int .i64 K) ∧ Below W.heap.size W w') := fun W hb => by rw [hK]; exact impl_pu C F (h.below hb)
  clear h hK
  go_enter Try.func23, Try.ntmps23
  go_wp2_with (fail)
  refine (HPF.out _ (by (repeat' (first | (with_reducible exact Below.refl _ _) | (with_reducible assumption) | (with_reducible refine Below.setCell ?_ ?_ _) | (with_reducible refine Below.alloc ?_ ?_ _) | (with_reducible refine below_drewN ?_ _) | (with_reducible refine Below.drew ?_) | (with_reducible exact Nat.le_refl _) | omega | (simp; done) | (simp; omega))))).mono ?_
  rintro e w1 ⟨rfl, hb1⟩
  have B1 : Hid (Below w.heap.size w w1 ∧ w1.heap[w.heap.size]? = some (.cells #[.int .i64 C, .int .i64 F, .slice a n c] 45) ∧ w1.heap[w.heap.size + 1]? = some (.cells #[.float .f64 0, .float .f64 0] 24)) :=
    ⟨(show Below w.heap.size w _ from by (repeat' (first | (with_reducible exact Below.refl _ _) | (with_reducible assumption) | (with_reducible refine Below.setCell ?_ ?_ _) | (with_reducible refine Below.alloc ?_ ?_ _) | (with_reducible refine below_drewN ?_ _) | (with_reducible refine Below.drew ?_) | (with_reducible exact Nat.le_refl _) | omega | (simp; done) | (simp; omega)))).trans (hb1.mono (by simp; omega)), (hb1.block w.heap.size (by simp; omega)).trans ((Below.heap_alloc _ _ _ (by simp)).trans (heap_alloc_new w _)), (hb1.block (w.heap.size + 1) (by simp)).trans (pu_at1 w _ _)⟩
  clear hb1 HPF
  obtain ⟨p0, p1, p2, pf, pl⟩ := three_at B1.out.2.1
  obtain ⟨q0, q1, qf, ql⟩ := z_two B1.out.2.2
  have qf0 := qf 0
  have qf1 := qf 1
  clear qf
  by_cases hK0 : K = 0
  case neg =>
    have HV : Hid (puV C F s o = ⟨fv 0, fv 0⟩) := pu_neg (fun hh => hK0 (by rw [H.out.2.2]; exact hh.1))
    go_wp2
    refine bodyPost_ret (by simp [results, Try.results23, go_sem, q0, q1]; try rfl) rfl ⟨⟨0, 0⟩, rfl, by rw [HV.out]; rfl, ?_⟩
    have hB := B1.out.1
    (repeat' (first | (with_reducible exact Below.refl _ _) | (with_reducible assumption) | (with_reducible refine Below.setCell ?_ ?_ _) | (with_reducible refine Below.alloc ?_ ?_ _) | (with_reducible refine below_drewN ?_ _) | (with_reducible refine Below.drew ?_) | (with_reducible exact Nat.le_refl _) | omega | (simp; done) | (simp; omega)))
  have hg := puF_good (C := C) (F := F) (s := s) (by rw [← H.out.2.2]; exact hK0)
  have eC : IntKind.i64.wrap (-C) = -C := by rw [IntKind.wrap_i64]; omega
  obtain ⟨r, hr⟩ : ∃ r, r = decide (-C ≤ o ∧ o ≤ C) := ⟨_, rfl⟩
  have HIN : Hid (∀ W, Calls Try.prog 55 #[.int .i64 o, .int .i64 (-C), .int .i64 C] W fun e w' => e = .returned (.bool r) ∧ w' = W) := impl_insC o (-C) C r hr
  have HG : Hid (0 ≤ C ∧ C ≤ 12 ∧ (-1048576 ≤ F ∧ F ≤ 1048576) ∧ s.length ≤ 13 ∧ (∀ j (hj : j < s.length), -1048576 ≤ s[j] ∧ s[j] ≤ 1048576) ∧ r = decide (-C ≤ o ∧ o ≤ C)) := ⟨hg.1, hg.2.1, hg.2.2.1, hg.2.2.2.1, hg.2.2.2.2, hr⟩
  clear hg hr
  subst hK0
  go_wp2_with (fail)
  refine (HIN.out _).mono ?_
  rintro e w2 ⟨rfl, hw2⟩
  subst w2
  cases r with
  | false =>
    have HV : Hid (puV C F s o = ⟨fv 0, fv 0⟩) := pu_neg (fun hh => by have := HG.out.2.2.2.2.2; rw [decide_eq_true hh.2] at this; cases this)
    go_wp2
    refine bodyPost_ret (by simp [results, Try.results23, go_sem, q0, q1]; try rfl) rfl ⟨⟨0, 0⟩, rfl, by rw [HV.out]; rfl, ?_⟩
    have hB := B1.out.1
    (repeat' (first | (with_reducible exact Below.refl _ _) | (with_reducible assumption) | (with_reducible refine Below.setCell ?_ ?_ _) | (with_reducible refine Below.alloc ?_ ?_ _) | (with_reducible refine below_drewN ?_ _) | (with_reducible refine Below.drew ?_) | (with_reducible exact Nat.le_refl _) | omega | (simp; done) | (simp; omega)))
  | true =>
    have ho : -C ≤ o ∧ o ≤ C := of_decide_eq_true HG.out.2.2.2.2.2.symm
    have ho12 : -12 ≤ o ∧ o ≤ 12 := by have := HG.out; omega
    have hfo := fo_bd HG.out.2.2.1 ho12
    obtain ⟨P, hP⟩ : ∃ P, P = s.getD o.natAbs 0 := ⟨_, rfl⟩
    have hPb : -1048576 ≤ P ∧ P ≤ 1048576 := by rw [hP]; exact getD_bd HG.out.2.2.2.2.1 _
    have HV : Hid (puV C F s o = trV (F * o * o + P)) := by unfold Hid; rw [pu_pos H.out.2.2.symm ho, hP]; rfl
    have e1 : IntKind.i64.wrap (F * o) = F * o := by rw [IntKind.wrap_i64]; omega
    have e2 : IntKind.i64.wrap (F * o * o) = F * o * o := by rw [IntKind.wrap_i64]; omega
    have e3 : IntKind.i64.wrap (F * o * o + P) = F * o * o + P := by rw [IntKind.wrap_i64]; omega
    have hna : o.natAbs ≤ 12 := by omega
    have HAB : Hid (∀ W, Calls Try.prog 57 #[.int .i64 o] W fun e w' => e = .returned (.int .i64 o.natAbs) ∧ w' = W) := impl_absI o (by omega)
    have HPT : Hid (∀ W, Below w.heap.size w W → Calls Try.prog 56 #[.agg #[.int .i64 C, .int .i64 F, .slice a n c], .int .i64 o.natAbs] W fun e w' => e = .returned (.int .i64 P) ∧ Below W.heap.size W w') := fun W hb => by
      rw [hP]; exact impl_part C F (H.out.1.below hb) (by have := HG.out; have := H.out.2.1; omega) _ hna
    clear hP ho ho12 hfo HIN hna
    go_wp2_with (fail)
    refine wp_region_holdsA (S := KA (w.heap.size + 1) w1) (by kernel_rfl) (KA.of ((Below.refl _ _).drew)) (fun hS => ?_)
    refine fl_takeA (i := 0) (d := 19) (v := .pointer (some ⟨w.heap.size, 1, none⟩)) rfl rfl rfl (by kernel_rfl) (by kernel_rfl) (by kernel_rfl) hS ?_ ?_
    · intro w' hk; unfold KA at hk; go_simp
    simp only [Act.put, List.setIfInBounds_toArray, List.set_cons_zero, List.set_cons_succ]
    refine fl_takeA (i := 1) (d := 20) (v := .int .i64 F) rfl rfl rfl (by kernel_rfl) (by kernel_rfl) (by kernel_rfl) hS ?_ ?_
    · intro w' hk; unfold KA at hk; go_simp
    simp only [Act.put, List.setIfInBounds_toArray, List.set_cons_zero, List.set_cons_succ]
    refine fl_takeA (i := 2) (d := 21) (v := .int .i64 o) rfl rfl rfl (by kernel_rfl) (by kernel_rfl) (by kernel_rfl) hS ?_ ?_
    · intro w' hk; unfold KA at hk; go_simp
    simp only [Act.put, List.setIfInBounds_toArray, List.set_cons_zero, List.set_cons_succ]
    refine fl_takeA (i := 3) (d := 22) (v := .int .i64 (F * o)) rfl rfl rfl (by kernel_rfl) (by kernel_rfl) (by kernel_rfl) hS ?_ ?_
    · intro w' hk; unfold KA at hk; go_simp
    simp only [Act.put, List.setIfInBounds_toArray, List.set_cons_zero, List.set_cons_succ]
    refine fl_takeA (i := 4) (d := 23) (v := .int .i64 o) rfl rfl rfl (by kernel_rfl) (by kernel_rfl) (by kernel_rfl) hS ?_ ?_
    · intro w' hk; unfold KA at hk; go_simp
    simp only [Act.put, List.setIfInBounds_toArray, List.set_cons_zero, List.set_cons_succ]
    refine fl_takeA (i := 5) (d := 24) (v := .int .i64 (F * o * o)) rfl rfl rfl (by kernel_rfl) (by kernel_rfl) (by kernel_rfl) hS ?_ ?_
    · intro w' hk; unfold KA at hk; go_simp
    simp only [Act.put, List.setIfInBounds_toArray, List.set_cons_zero, List.set_cons_succ]
    refine fl_takeA (i := 6) (d := 25) (v := .agg #[.int .i64 C, .int .i64 F, .slice a n c]) rfl rfl rfl (by kernel_rfl) (by kernel_rfl) (by kernel_rfl) hS ?_ ?_
    · intro w' hk; unfold KA at hk; go_simp
    simp only [Act.put, List.setIfInBounds_toArray, List.set_cons_zero, List.set_cons_succ]
    refine fl_takeA (i := 7) (d := 26) (v := .int .i64 o) rfl rfl rfl (by kernel_rfl) (by kernel_rfl) (by kernel_rfl) hS ?_ ?_
    · intro w' hk; unfold KA at hk; go_simp
    simp only [Act.put, List.setIfInBounds_toArray, List.set_cons_zero, List.set_cons_succ]
    refine wpAnyH_all (rs := [8]) (by kernel_rfl) (by simp) ?_
    intro i hi; obtain rfl := List.mem_singleton.1 hi; clear hi
    refine op_call (d := 27) rfl rfl rfl (by go_simp) ((HAB.out _).mono ?_)
    rintro e w3 ⟨rfl, hw3⟩
    subst w3
    refine ⟨_, rfl, hS, ?_⟩
    simp only [Act.put, List.setIfInBounds_toArray, List.set_cons_zero, List.set_cons_succ]
    refine wpAnyH_all (rs := [9]) (by kernel_rfl) (by simp) ?_
    intro i hi; obtain rfl := List.mem_singleton.1 hi; clear hi
    refine op_call (d := 28) rfl rfl rfl (by go_simp) ((HPT.out _ (B1.out.1.trans (hS.2.mono (by omega)))).mono ?_)
    rintro e w4 ⟨rfl, hb4⟩
    have B4 : Below (w.heap.size + 1) w1 w4 := hS.2.trans (hb4.mono (by simp; omega))
    refine ⟨_, rfl, KA.of B4, ?_⟩
    simp only [Act.put, List.setIfInBounds_toArray, List.set_cons_zero, List.set_cons_succ]
    refine wpAnyH_all (rs := [10]) (by kernel_rfl) (by simp) ?_
    intro i hi; obtain rfl := List.mem_singleton.1 hi; clear hi
    refine op_val (d := 29) (v := .int .i64 (F * o * o + P)) (w' := w4) rfl rfl rfl (by go_simp; try rfl) ?_
    simp only [Act.put, List.setIfInBounds_toArray, List.set_cons_zero, List.set_cons_succ]
    refine ⟨KA.of B4, wpAnyH_all (rs := [11]) (by kernel_rfl) (by simp) ?_⟩
    intro i hi; obtain rfl := List.mem_singleton.1 hi; clear hi
    refine op_call (d := 30) rfl rfl rfl (by go_simp) ((impl_tz (F * o * o + P) _).mono ?_)
    rintro e w5 ⟨z, rfl, hz, hb5⟩
    have l4 : w.heap.size + 1 < w4.heap.size := by have := hb4.size; simp at this; omega
    have B5 : Below (w.heap.size + 1) w1 w5 := B4.trans (hb5.mono (by omega))
    have g5 : w5.heap[w.heap.size + 1]? = some (.cells #[.float .f64 0, .float .f64 0] 24) := (hb5.block _ l4).trans ((hb4.block _ (by simp; omega)).trans B1.out.2.2)
    refine ⟨_, rfl, KA.of B5, ?_⟩
    simp only [Act.put, List.setIfInBounds_toArray, List.set_cons_zero, List.set_cons_succ]
    refine wpAnyH_all (rs := [12]) (by kernel_rfl) (by simp) ?_
    intro i hi; obtain rfl := List.mem_singleton.1 hi; clear hi
    refine op_store rfl rfl rfl 24 _ _ rfl (w.heap.size + 1) #[.float .f64 z.re, .float .f64 z.im] (by go_simp) (by go_simp) (there_two g5) (by kernel_rfl) (by simp [Value.oneCell']) ?_
    have B6 := below_setCells (w.heap.size + 1) (Nat.le_refl _) [.float .f64 z.re, .float .f64 z.im] 0 _ B5
    refine ⟨KA.of B6, wpAnyH_done (by kernel_rfl) (NoPanic.normal ?_) _⟩
    have s0 := heap_setCell_same _ _ 0 _ _ (.float .f64 z.re) g5
    have s1 := heap_setCell_same _ _ 1 _ _ (.float .f64 z.im) s0
    have s2 : (w5.setCells (w.heap.size + 1) 0 [.float .f64 z.re, .float .f64 z.im]).heap[w.heap.size + 1]? = some (.cells #[.float .f64 z.re, .float .f64 z.im] 24) := by simpa [World.setCells] using s1
    have HB : Hid (Below w.heap.size w (w5.setCells (w.heap.size + 1) 0 [.float .f64 z.re, .float .f64 z.im]) ∧ z.v = puV C F s o) := ⟨B1.out.1.trans (B6.mono (by omega)), by rw [HV.out]; exact hz⟩
    generalize w5.setCells (w.heap.size + 1) 0 [.float .f64 z.re, .float .f64 z.im] = w6 at s2 HB ⊢
    clear q0 q1 qf0 qf1 ql p0 p1 p2 pf pl s0 s1 B4 B5 B6 g5 hb4 hb5 hS hz
    obtain ⟨r0, r1, rf, rl⟩ := z_two s2
    clear s2
    go_wp2
    refine bodyPost_ret (by simp [results, Try.results23, go_sem, r0, r1]; try rfl) rfl ?_
    exact ⟨z, rfl, HB.out.2, HB.out.1⟩

set_option maxHeartbeats 6400000 in
theorem spec_pl (C F o : Int) {w : World} {a b : Option Addr} {n c d : Nat} {s : List Int} (h : RdI w (.slice a n c) s) (hr : RZs w (.slice b 20 d) (rzK 20)) (hg : puF C F s = 0) (ho : -12 ≤ o ∧ o ≤ 12) :
    Calls Try.prog 52 #[.agg #[.int .i64 C, .int .i64 F, .slice a n c], .int .i64 o, .slice b 20 d] w fun e w' => ∃ z : Zf, e = .returned (.agg #[.float .f64 z.re, .float .f64 z.im]) ∧ z.v = trV (puP F s o) ∧ Below w.heap.size w w' := by
  have hg := puF_good hg
  have hfo := fo_bd hg.2.2.1 ho
  obtain ⟨P, hP⟩ : ∃ P, P = s.getD o.natAbs 0 := ⟨_, rfl⟩
  have hPb : -1048576 ≤ P ∧ P ≤ 1048576 := by rw [hP]; exact getD_bd hg.2.2.2.2 _
  have H : Hid (RdI w (.slice a n c) s ∧ n = s.length ∧ RZs w (.slice b 20 d) (rzK 20) ∧ puP F s o = F * o * o + P ∧ P = s.getD o.natAbs 0 ∧ n ≤ 13) := ⟨h, h.len, hr, by rw [puP, hP], hP, by rw [h.len]; exact hg.2.2.2.1⟩
  have e1 : IntKind.i64.wrap (F * o) = F * o := by rw [IntKind.wrap_i64]; omega
  have e2 : IntKind.i64.wrap (F * o * o) = F * o * o := by rw [IntKind.wrap_i64]; omega
  have e3 : IntKind.i64.wrap (F * o * o + P) = F * o * o + P := by rw [IntKind.wrap_i64]; omega
  have hna : o.natAbs ≤ 12 := by omega
  have HAB : Hid (∀ W, Calls Try.prog 81 #[.int .i64 o] W fun e w' => e = .returned (.int .i64 o.natAbs) ∧ w' = W) := spec_absI o (by omega)
  clear h hr hg hfo hP
  go_enter Try.func52, Try.ntmps52
  go_wp2_with (fail)
  refine (HAB.out _).mono ?_
  rintro e w1 ⟨rfl, hw1⟩
  subst w1
  obtain ⟨k, hk⟩ : ∃ k, k = o.natAbs := ⟨_, rfl⟩
  rw [← hk] at hna ⊢
  obtain ⟨W, hW⟩ : ∃ W, W = (w.alloc (.cells #[.int .i64 C, .int .i64 F, .slice a n c] 45)).alloc (.cells #[.float .f64 0, .float .f64 0] 24) := ⟨_, rfl⟩
  have B1 : Hid (Below w.heap.size w W ∧ W.heap[w.heap.size]? = some (.cells #[.int .i64 C, .int .i64 F, .slice a n c] 45) ∧ W.heap[w.heap.size + 1]? = some (.cells #[.float .f64 0, .float .f64 0] 24)) := by
    unfold Hid
    rw [hW]
    exact ⟨by (repeat' (first | (with_reducible exact Below.refl _ _) | (with_reducible assumption) | (with_reducible refine Below.setCell ?_ ?_ _) | (with_reducible refine Below.alloc ?_ ?_ _) | (with_reducible refine below_drewN ?_ _) | (with_reducible refine Below.drew ?_) | (with_reducible exact Nat.le_refl _) | omega | (simp; done) | (simp; omega))), (Below.heap_alloc _ _ _ (by simp)).trans (heap_alloc_new w _), pu_at1 w _ _⟩
  rw [← hW]
  have HK : Hid (k = o.natAbs) := hk
  clear hW hk HAB
  obtain ⟨p0, p1, p2, pf, pl⟩ := three_at B1.out.2.1
  have FIN : Hid (∀ (V : World), Below W.heap.size W V → RZs V (.slice b 20 d) (rzK 20)) := fun V hV => H.out.2.2.1.below (B1.out.1.trans (hV.mono B1.out.1.size))
  by_cases hlt : k < n
  · have b1 : (k : Int) < (n : Int) := by omega
    have b0 : (0 : Int) ≤ (k : Int) := by omega
    obtain ⟨g, oo, ha, hgg, hx⟩ := rd_at (H.out.1.below B1.out.1) hlt
    rw [HK.out, ← H.out.2.2.2.2.1] at hx
    rw [← HK.out] at hx
    subst ha
    go_wp2_with (fail)
    refine (spec_turn (F * o * o + P) (FIN.out _ (Below.refl _ _))).mono ?_
    rintro e w3 ⟨z, rfl, hz, hb3⟩
    have B3 : Hid (Below w.heap.size w w3 ∧ w3.heap[w.heap.size + 1]? = some (.cells #[.float .f64 0, .float .f64 0] 24) ∧ z.v = trV (puP F s o)) := ⟨B1.out.1.trans (hb3.mono B1.out.1.size), (hb3.block _ (z_two B1.out.2.2).2.2.2).trans B1.out.2.2, by rw [H.out.2.2.2.1]; exact hz⟩
    clear hb3 hz p0 p1 p2 pf pl hx
    obtain ⟨q0, q1, qf, ql⟩ := z_two B3.out.2.1
    have qf0 := qf 0
    have qf1 := qf 1
    clear qf
    go_wp2
    refine bodyPost_ret (by simp [results, Try.results52, go_sem, q0, q1]; try rfl) rfl ⟨z, rfl, B3.out.2.2, ?_⟩
    have hB := B3.out.1
    (repeat' (first | (with_reducible exact Below.refl _ _) | (with_reducible assumption) | (with_reducible refine Below.setCell ?_ ?_ _) | (with_reducible refine Below.alloc ?_ ?_ _) | (with_reducible refine below_drewN ?_ _) | (with_reducible refine Below.drew ?_) | (with_reducible exact Nat.le_refl _) | omega | (simp; done) | (simp; omega)))
  · have b1 : ¬ (k : Int) < (n : Int) := by omega
    have HP0 : Hid (P = 0) := by
      unfold Hid
      rw [H.out.2.2.2.2.1, ← HK.out]
      simp [List.getD_eq_getElem?_getD, List.getElem?_eq_none (show s.length ≤ k by have := H.out.2.1; omega)]
    go_wp2_with (fail)
    refine (spec_turn (F * o * o) (FIN.out _ (Below.refl _ _))).mono ?_
    rintro e w3 ⟨z, rfl, hz, hb3⟩
    have B3 : Hid (Below w.heap.size w w3 ∧ w3.heap[w.heap.size + 1]? = some (.cells #[.float .f64 0, .float .f64 0] 24) ∧ z.v = trV (puP F s o)) := ⟨B1.out.1.trans (hb3.mono B1.out.1.size), (hb3.block _ (z_two B1.out.2.2).2.2.2).trans B1.out.2.2, by rw [H.out.2.2.2.1, HP0.out, Int.add_zero]; exact hz⟩
    clear hb3 hz p0 p1 p2 pf pl
    obtain ⟨q0, q1, qf, ql⟩ := z_two B3.out.2.1
    have qf0 := qf 0
    have qf1 := qf 1
    clear qf
    go_wp2
    refine bodyPost_ret (by simp [results, Try.results52, go_sem, q0, q1]; try rfl) rfl ⟨z, rfl, B3.out.2.2, ?_⟩
    have hB := B3.out.1
    (repeat' (first | (with_reducible exact Below.refl _ _) | (with_reducible assumption) | (with_reducible refine Below.setCell ?_ ?_ _) | (with_reducible refine Below.alloc ?_ ?_ _) | (with_reducible refine below_drewN ?_ _) | (with_reducible refine Below.drew ?_) | (with_reducible exact Nat.le_refl _) | omega | (simp; done) | (simp; omega)))

set_option maxHeartbeats 6400000 in
theorem spec_pa (C F o : Int) {w : World} {a : Option Addr} {n c : Nat} {s : List Int} (h : RdI w (.slice a n c) s) :
    Calls Try.prog 21 #[.agg #[.int .i64 C, .int .i64 F, .slice a n c], .int .i64 o] w fun e w' => ∃ z : Zf, e = .returned (.agg #[.float .f64 z.re, .float .f64 z.im]) ∧ z.v = puV C F s o ∧ Below w.heap.size w w' := by
  obtain ⟨K, hK⟩ : ∃ K, K = puF C F s := ⟨_, rfl⟩
  have H : Hid (RdI w (.slice a n c) s ∧ n = s.length ∧ K = puF C F s) := ⟨h, h.len, hK⟩
  have HPF : Hid (∀ W, Below w.heap.size w W → Calls Try.prog 51 #[.agg #[.int .i64 C, .int .i64 F, .slice a n c]] W fun e w' => e = .returned (.int .i64 K) ∧ Below W.heap.size W w') := fun W hb => by rw [hK]; exact spec_pu C F (h.below hb)
  clear h hK
  go_enter Try.func21, Try.ntmps21
  go_wp2_with (fail)
  refine (HPF.out _ (by (repeat' (first | (with_reducible exact Below.refl _ _) | (with_reducible assumption) | (with_reducible refine Below.setCell ?_ ?_ _) | (with_reducible refine Below.alloc ?_ ?_ _) | (with_reducible refine below_drewN ?_ _) | (with_reducible refine Below.drew ?_) | (with_reducible exact Nat.le_refl _) | omega | (simp; done) | (simp; omega))))).mono ?_
  rintro e w1 ⟨rfl, hb1⟩
  have B1 : Hid (Below w.heap.size w w1 ∧ w1.heap[w.heap.size]? = some (.cells #[.int .i64 C, .int .i64 F, .slice a n c] 45) ∧ w1.heap[w.heap.size + 1]? = some (.cells #[.float .f64 0, .float .f64 0] 24)) :=
    ⟨(show Below w.heap.size w _ from by (repeat' (first | (with_reducible exact Below.refl _ _) | (with_reducible assumption) | (with_reducible refine Below.setCell ?_ ?_ _) | (with_reducible refine Below.alloc ?_ ?_ _) | (with_reducible refine below_drewN ?_ _) | (with_reducible refine Below.drew ?_) | (with_reducible exact Nat.le_refl _) | omega | (simp; done) | (simp; omega)))).trans (hb1.mono (by simp; omega)), (hb1.block w.heap.size (by simp; omega)).trans ((Below.heap_alloc _ _ _ (by simp)).trans (heap_alloc_new w _)), (hb1.block (w.heap.size + 1) (by simp)).trans (pu_at1 w _ _)⟩
  clear hb1 HPF
  obtain ⟨p0, p1, p2, pf, pl⟩ := three_at B1.out.2.1
  obtain ⟨q0, q1, qf, ql⟩ := z_two B1.out.2.2
  have qf0 := qf 0
  have qf1 := qf 1
  clear qf
  by_cases hK0 : K = 0
  case neg =>
    have HV : Hid (puV C F s o = ⟨fv 0, fv 0⟩) := pu_neg (fun hh => hK0 (by rw [H.out.2.2]; exact hh.1))
    go_wp2
    refine bodyPost_ret (by simp [results, Try.results21, go_sem, q0, q1]; try rfl) rfl ⟨⟨0, 0⟩, rfl, by rw [HV.out]; rfl, ?_⟩
    have hB := B1.out.1
    (repeat' (first | (with_reducible exact Below.refl _ _) | (with_reducible assumption) | (with_reducible refine Below.setCell ?_ ?_ _) | (with_reducible refine Below.alloc ?_ ?_ _) | (with_reducible refine below_drewN ?_ _) | (with_reducible refine Below.drew ?_) | (with_reducible exact Nat.le_refl _) | omega | (simp; done) | (simp; omega)))
  have hg := puF_good (C := C) (F := F) (s := s) (by rw [← H.out.2.2]; exact hK0)
  have eC : IntKind.i64.wrap (-C) = -C := by rw [IntKind.wrap_i64]; omega
  have HG : Hid (0 ≤ C ∧ C ≤ 12) := ⟨hg.1, hg.2.1⟩
  clear hg
  subst hK0
  by_cases ho1 : o < -C
  · have HV : Hid (puV C F s o = ⟨fv 0, fv 0⟩) := pu_neg (fun hh => by have := hh.2.1; omega)
    go_wp2
    refine bodyPost_ret (by simp [results, Try.results21, go_sem, q0, q1]; try rfl) rfl ⟨⟨0, 0⟩, rfl, by rw [HV.out]; rfl, ?_⟩
    have hB := B1.out.1
    (repeat' (first | (with_reducible exact Below.refl _ _) | (with_reducible assumption) | (with_reducible refine Below.setCell ?_ ?_ _) | (with_reducible refine Below.alloc ?_ ?_ _) | (with_reducible refine below_drewN ?_ _) | (with_reducible refine Below.drew ?_) | (with_reducible exact Nat.le_refl _) | omega | (simp; done) | (simp; omega)))
  by_cases ho2 : C < o
  · have HV : Hid (puV C F s o = ⟨fv 0, fv 0⟩) := pu_neg (fun hh => by have := hh.2.2; omega)
    go_wp2
    refine bodyPost_ret (by simp [results, Try.results21, go_sem, q0, q1]; try rfl) rfl ⟨⟨0, 0⟩, rfl, by rw [HV.out]; rfl, ?_⟩
    have hB := B1.out.1
    (repeat' (first | (with_reducible exact Below.refl _ _) | (with_reducible assumption) | (with_reducible refine Below.setCell ?_ ?_ _) | (with_reducible refine Below.alloc ?_ ?_ _) | (with_reducible refine below_drewN ?_ _) | (with_reducible refine Below.drew ?_) | (with_reducible exact Nat.le_refl _) | omega | (simp; done) | (simp; omega)))
  have HV : Hid (puV C F s o = trV (puP F s o) ∧ (-12 ≤ o ∧ o ≤ 12)) := ⟨pu_pos H.out.2.2.symm (by omega), by have := HG.out; omega⟩
  go_wp2_with (fail)
  refine wp_region_holdsA (S := KA (w.heap.size + 1) w1) (by kernel_rfl) (KA.of ((Below.refl _ _).drew)) (fun hS => ?_)
  refine fl_takeA (i := 0) (d := 22) (v := .agg #[.int .i64 C, .int .i64 F, .slice a n c]) rfl rfl rfl (by kernel_rfl) (by kernel_rfl) (by kernel_rfl) hS ?_ ?_
  · intro w' hk; unfold KA at hk; go_simp
  simp only [Act.put, List.setIfInBounds_toArray, List.set_cons_zero, List.set_cons_succ]
  refine fl_takeA (i := 1) (d := 23) (v := .int .i64 o) rfl rfl rfl (by kernel_rfl) (by kernel_rfl) (by kernel_rfl) hS ?_ ?_
  · intro w' hk; unfold KA at hk; go_simp
  simp only [Act.put, List.setIfInBounds_toArray, List.set_cons_zero, List.set_cons_succ]
  refine wpAnyH_all (rs := [2]) (by kernel_rfl) (by simp) ?_
  intro i hi; obtain rfl := List.mem_singleton.1 hi; clear hi
  refine op_call (d := 24) rfl rfl rfl (by go_simp) ((spec_roots _).mono ?_)
  rintro e w4 ⟨v, rfl, hv4, hb4⟩
  obtain ⟨ra, rc, hrf⟩ := hv4.rg.form
  rw [rzK_len] at hrf
  subst hrf
  have B4 : Below (w.heap.size + 1) w1 w4 := hS.2.trans (hb4.mono (by simp; omega))
  refine ⟨_, rfl, KA.of B4, ?_⟩
  simp only [Act.put, List.setIfInBounds_toArray, List.set_cons_zero, List.set_cons_succ]
  refine wpAnyH_all (rs := [3]) (by kernel_rfl) (by simp) ?_
  intro i hi; obtain rfl := List.mem_singleton.1 hi; clear hi
  refine op_call (d := 25) rfl rfl rfl (by go_simp) ((spec_pl C F o (H.out.1.below (B1.out.1.trans (B4.mono (by omega)))) hv4.rg H.out.2.2.symm HV.out.2).mono ?_)
  rintro e w5 ⟨z, rfl, hz, hb5⟩
  have l4 : w.heap.size + 1 < w4.heap.size := by have := hb4.size; simp at this; omega
  have B5 : Below (w.heap.size + 1) w1 w5 := B4.trans (hb5.mono (by omega))
  have g5 : w5.heap[w.heap.size + 1]? = some (.cells #[.float .f64 0, .float .f64 0] 24) := (hb5.block _ l4).trans ((hb4.block _ (by simp; omega)).trans B1.out.2.2)
  refine ⟨_, rfl, KA.of B5, ?_⟩
  simp only [Act.put, List.setIfInBounds_toArray, List.set_cons_zero, List.set_cons_succ]
  refine wpAnyH_all (rs := [4]) (by kernel_rfl) (by simp) ?_
  intro i hi; obtain rfl := List.mem_singleton.1 hi; clear hi
  refine op_store rfl rfl rfl 24 _ _ rfl (w.heap.size + 1) #[.float .f64 z.re, .float .f64 z.im] (by go_simp) (by go_simp) (there_two g5) (by kernel_rfl) (by simp [Value.oneCell']) ?_
  have B6 := below_setCells (w.heap.size + 1) (Nat.le_refl _) [.float .f64 z.re, .float .f64 z.im] 0 _ B5
  refine ⟨KA.of B6, wpAnyH_done (by kernel_rfl) (NoPanic.normal ?_) _⟩
  have s0 := heap_setCell_same _ _ 0 _ _ (.float .f64 z.re) g5
  have s1 := heap_setCell_same _ _ 1 _ _ (.float .f64 z.im) s0
  have s2 : (w5.setCells (w.heap.size + 1) 0 [.float .f64 z.re, .float .f64 z.im]).heap[w.heap.size + 1]? = some (.cells #[.float .f64 z.re, .float .f64 z.im] 24) := by simpa [World.setCells] using s1
  have HB : Hid (Below w.heap.size w (w5.setCells (w.heap.size + 1) 0 [.float .f64 z.re, .float .f64 z.im]) ∧ z.v = puV C F s o) := ⟨B1.out.1.trans (B6.mono (by omega)), by rw [HV.out.1]; exact hz⟩
  generalize w5.setCells (w.heap.size + 1) 0 [.float .f64 z.re, .float .f64 z.im] = w6 at s2 HB ⊢
  clear q0 q1 qf0 qf1 ql p0 p1 p2 pf pl s0 s1 B4 B5 B6 g5 hb4 hb5 hS hz hv4
  obtain ⟨r0, r1, rf, rl⟩ := z_two s2
  clear s2
  go_wp2
  refine bodyPost_ret (by simp [results, Try.results21, go_sem, r0, r1]; try rfl) rfl ?_
  exact ⟨z, rfl, HB.out.2, HB.out.1⟩

end Go.Proofs.Ytgaabcgdfbgchaa
