/- Proved here: TraceAt of the program: trC, trN, trW. -/
import Derived.Test.YtgjdcdhdfhkfcaaTrF
import Derived.Test.YtgjdcdhdfhkfcaaTrQ
import Derived.Test.YtgjdcdhdfhkfcaaReg
namespace Go.Proofs.Ytgjdcdhdfhkfcaa
open Go.RowKit
set_option linter.unusedVariables false
set_option linter.unusedSimpArgs false

set_option maxRecDepth 20000 in
set_option maxHeartbeats 25600000 in
theorem impl_trace {w : World} {g1 g2 : Nat} {xs ys : List Nat} (x : Nat) (hn1 : xs.length ≤ 1048576) (hn2 : ys.length ≤ 1048576) (h1 : RFl w (.slice (some ⟨g1, 0, none⟩) xs.length xs.length) xs) (h2 : RFl w (.slice (some ⟨g2, 0, none⟩) ys.length ys.length) ys) :
    Calls Try.prog 37 #[.slice (some ⟨g1, 0, none⟩) xs.length xs.length, .slice (some ⟨g2, 0, none⟩) ys.length ys.length, .float .f64 x] w fun e w' => ∃ y, e = .returned (.agg #[.int .i64 (trC xs ys x), .int .i64 (trN xs ys x), .float .f64 y]) ∧ fv y = trW xs ys x ∧ Below w.heap.size w w' := by
  obtain ⟨n, hn⟩ : ∃ n, n = xs.length := ⟨_, rfl⟩
  obtain ⟨m, hm⟩ : ∃ m, m = ys.length := ⟨_, rfl⟩
  obtain ⟨C, hC⟩ : ∃ C, C = trC xs ys x := ⟨_, rfl⟩
  have HF : Hid (∀ W, RFl W (.slice (some ⟨g1, 0, none⟩) n n) xs → Calls Try.prog 60 #[.slice (some ⟨g1, 0, none⟩) n n, .slice (some ⟨g2, 0, none⟩) m m, .float .f64 x] W fun e w' => e = .returned (.int .i64 C) ∧ w' = W) := fun W hW => by rw [hC, hn, hm]; rw [hn] at hW; exact impl_tf x hn1 hn2 hW
  have HX0 : Hid (RFl w (.slice (some ⟨g1, 0, none⟩) n n) xs ∧ RFl w (.slice (some ⟨g2, 0, none⟩) m m) ys) := ⟨by rw [hn]; exact h1, by rw [hm]; exact h2⟩
  have HL : Hid (n = xs.length ∧ m = ys.length ∧ C = trC xs ys x) := ⟨hn, hm, hC⟩
  rw [← hn, ← hm, ← hC]
  clear h1 h2 hn hm hC hn1 hn2
  obtain ⟨W0, hW0⟩ : ∃ W, W = w.alloc (.cells #[.int .i64 0, .int .i64 0, .float .f64 0] 62) := ⟨_, rfl⟩
  have HW0 : Hid (Below w.heap.size w W0 ∧ W0.heap[w.heap.size]? = some (.cells #[.int .i64 0, .int .i64 0, .float .f64 0] 62)) := by
    rw [hW0]; exact ⟨by (repeat' (first | (with_reducible exact Below.refl _ _) | (with_reducible assumption) | (with_reducible refine Below.setCell ?_ ?_ _) | (with_reducible refine Below.alloc ?_ ?_ _) | (with_reducible refine below_drewN ?_ _) | (with_reducible refine Below.drew ?_) | (with_reducible exact Nat.le_refl _) | omega | (simp; done) | (simp; omega))), heap_alloc_new _ _⟩
  go_enter Try.func37, Try.ntmps37
  go_wp2_with (fail)
  rw [← hW0]
  clear hW0
  refine (HF.out _ (HX0.out.1.below HW0.out.1)).mono ?_
  rintro e w3 ⟨rfl, hw3⟩
  subst w3
  clear HF
  obtain ⟨q0, q1, q2, f0, f1, f2, ql⟩ := three_q HW0.out.2
  by_cases h0 : C = 0
  · subst h0
    have hcc : ¬ (200 < n ∨ 200 < m) ∧ ¬ (n ≠ m ∨ n < 2) ∧ (riseF xs ∧ inF xs x) := by
      have h3 := HL.out.2.2
      rw [trC, ← HL.out.1, ← HL.out.2.1] at h3
      by_cases a : 200 < n ∨ 200 < m
      · rw [if_pos a] at h3; omega
      rw [if_neg a] at h3
      by_cases b : n ≠ m ∨ n < 2
      · rw [if_pos b] at h3; omega
      rw [if_neg b] at h3
      by_cases c : riseF xs ∧ inF xs x
      · exact ⟨a, b, c⟩
      · rw [if_neg c] at h3; omega
    obtain rfl : n = m := by omega
    have HX := HX0
    have HC0 : Hid (trC xs ys x = 0 ∧ riseF xs ∧ inF xs x ∧ n = xs.length) := ⟨HL.out.2.2.symm, hcc.2.2.1, hcc.2.2.2, HL.out.1⟩
    have hnb : 2 ≤ n ∧ n ≤ 200 := by omega
    clear hcc HX0 HL q0 q1 q2 f0 f1 f2 ql
    go_wp2
    go_loopw [8] (fun i wr => ∃ p : Nat, p + 2 ≤ n ∧ i = .int .i64 p ∧ wr = W0 ∧ Hid (p = 0 ∨ leF (xs.getD p 0) x)) (fun i _ => n - (intOf i).toNat)
    case atStart => exact ⟨0, by omega, rfl, rfl, .inl rfl⟩
    case round =>
      obtain ⟨p, hp, rfl, rfl, hR⟩ := hrel
      have HRS : Hid (wr.heap[w.heap.size]? = some (.cells #[.int .i64 0, .int .i64 0, .float .f64 0] 62)) := HW0.out.2
      have HBW : Hid (Below w.heap.size w wr) := HW0.out.1
      have e8 : IntKind.i64.wrap ((p : Int) + 2) = (p : Int) + 2 := by rw [IntKind.wrap_i64]; omega
      by_cases hlt : p + 2 < n
      · have b2 : (p : Int) + 2 < (n : Int) := by omega
        obtain ⟨g, o, xq, ha, hgq, hzq, cq⟩ := rf_at HX.out.1 (show p + 1 < n by omega)
        injection ha with ha
        injection ha with ha1 ha2
        subst ha1 ha2
        rw [Nat.zero_add] at cq
        have cq2 := (HBW.out.cell (p := ⟨g1, p + 1, none⟩) hgq).trans cq
        have e7 : IntKind.i64.wrap ((p : Int) + 1) = ((p + 1 : Nat) : Int) := by rw [IntKind.wrap_i64]; omega
        obtain ⟨r1, hr1⟩ : ∃ r1, r1 = p + 1 := ⟨_, rfl⟩
        rw [← hr1] at cq2 e7
        have y0 : (0 : Int) ≤ (r1 : Int) := by omega
        have y1 : (r1 : Int) < (n : Int) := by omega
        have HR1 : Hid (r1 = p + 1 ∧ xs.getD (p + 1) 0 = xq) := ⟨hr1, getD_at hzq⟩
        clear cq hzq hr1
        by_cases hc : leF xq x
        · have ql : (FloatKind.f64.format.order x xq == some .gt || FloatKind.f64.format.order x xq == some .eq) = true := by rw [ord_ge, decide_eq_true hc]
          have HS : Hid (leF (xs.getD (p + 1) 0) x) := by unfold Hid; rw [HR1.out.2]; exact hc
          clear hc hR
          go_wp2
          go_roundw
          case rel => exact ⟨p + 1, by omega, by rw [← HR1.out.1], by first | rfl | trivial, .inr HS.out⟩
          case measure => simp [intOf]; have := HR1.out.1; omega
        · have ql : (FloatKind.f64.format.order x xq == some .gt || FloatKind.f64.format.order x xq == some .eq) = false := by rw [ord_ge, decide_eq_false hc]
          have HE : Hid (trG xs x (xs.length - 2) = p) := tr_end HC0.out.2.1 HC0.out.2.2.1 (by rw [← HC0.out.2.2.2]; omega) (by rw [← HC0.out.2.2.2]; omega) hR.out (.inr (by rw [HR1.out.2]; exact hc))
          clear hc hR
          go_wp2_with (fail)
          clear cq2 e7 y0 y1 HR1 ql e8 b2
          obtain ⟨g, o, xa, ha, hgx, hzx, cx0⟩ := rf_at HX.out.1 (show p < n by omega)
          injection ha with ha
          injection ha with ha1 ha2
          subst ha1 ha2
          obtain ⟨g, o, xb, ha, hgx', hzx', cx1⟩ := rf_at HX.out.1 (show p + 1 < n by omega)
          injection ha with ha
          injection ha with ha1 ha2
          subst ha1 ha2
          obtain ⟨g, o, ya, ha, hgy, hzy, cy0⟩ := rf_at HX.out.2 (show p < n by omega)
          injection ha with ha
          injection ha with ha1 ha2
          subst ha1 ha2
          obtain ⟨g, o, yb, ha, hgy', hzy', cy1⟩ := rf_at HX.out.2 (show p + 1 < n by omega)
          injection ha with ha
          injection ha with ha1 ha2
          subst ha1 ha2
          obtain ⟨p1, hp1⟩ : ∃ p1, p1 = p + 1 := ⟨_, rfl⟩
          rw [Nat.zero_add, ← hp1] at cx1 cy1
          rw [Nat.zero_add] at cx0 cy0
          have HVW : Hid (trN xs ys x = (p : Int) ∧ trW xs ys x = trV xs ys x p) := by
            refine ⟨?_, ?_⟩
            · rw [trN, HC0.out.1, if_pos rfl, HE.out]
            · rw [trW, HC0.out.1, if_pos rfl, HE.out]
          have HYD : Hid (ys.getD p 0 = ya ∧ ys.getD (p + 1) 0 = yb ∧ xs.getD p 0 = xa ∧ xs.getD (p + 1) 0 = xb) := ⟨getD_at hzy, getD_at hzy', getD_at hzx, getD_at hzx'⟩
          have HYA : Hid (wr.cell? ⟨g2, p, none⟩ = some (.float .f64 ya)) := (HBW.out.cell (p := ⟨g2, p, none⟩) hgy).trans cy0
          have HYB : Hid (wr.cell? ⟨g2, p1, none⟩ = some (.float .f64 yb)) := (HBW.out.cell (p := ⟨g2, p1, none⟩) hgy).trans cy1
          have cz0 := (HBW.out.cell (p := ⟨g1, p, none⟩) hgx).trans cx0
          have cz1 := (HBW.out.cell (p := ⟨g1, p1, none⟩) hgx).trans cx1
          clear cx0 cx1 cy0 cy1
          have cx0 := cz0
          have cx1 := cz1
          have e9 : IntKind.i64.wrap ((p : Int) + 1) = (p1 : Int) := by rw [IntKind.wrap_i64]; omega
          have z0 : (0 : Int) ≤ (p : Int) := by omega
          have z1 : (0 : Int) ≤ (p1 : Int) := by omega
          have z2 : (p : Int) < (n : Int) := by omega
          have z3 : (p1 : Int) < (n : Int) := by omega
          clear cz0 cz1 hzx hzx' hzy hzy' hp1 hgx' hgy' HE
          refine wp_region_holdsA (S := KA w.heap.size wr) (by kernel_rfl) (KA.of (Below.drew (Below.refl _ _))) (fun hS => ?_)
          refine fl_takeA (i := 0) (d := 35) (v := .float .f64 x) rfl rfl rfl (by kernel_rfl) (by kernel_rfl) (by kernel_rfl) hS ?_ ?_
          · intro w' hk; unfold KA at hk; go_simp
          simp only [Act.put, List.setIfInBounds_toArray, List.set_cons_zero, List.set_cons_succ]
          refine fl_takeA (i := 1) (d := 36) (v := .slice (some ⟨g1, 0, none⟩) n n) rfl rfl rfl (by kernel_rfl) (by kernel_rfl) (by kernel_rfl) hS ?_ ?_
          · intro w' hk; unfold KA at hk; go_simp
          simp only [Act.put, List.setIfInBounds_toArray, List.set_cons_zero, List.set_cons_succ]
          refine fl_takeA (i := 2) (d := 37) (v := .int .i64 p) rfl rfl rfl (by kernel_rfl) (by kernel_rfl) (by kernel_rfl) hS ?_ ?_
          · intro w' hk; unfold KA at hk; go_simp
          simp only [Act.put, List.setIfInBounds_toArray, List.set_cons_zero, List.set_cons_succ]
          refine fl_takeA (i := 3) (d := 38) (v := .pointer (some ⟨g1, p, none⟩)) rfl rfl rfl (by kernel_rfl) (by kernel_rfl) (by kernel_rfl) hS ?_ ?_
          · intro w' hk; unfold KA at hk; go_simp
          simp only [Act.put, List.setIfInBounds_toArray, List.set_cons_zero, List.set_cons_succ]
          refine fl_takeA (i := 4) (d := 39) (v := .float .f64 xa) rfl rfl rfl (by kernel_rfl) (by kernel_rfl) (by kernel_rfl) hS ?_ ?_
          · intro w' hk; unfold KA at hk; go_simp
          simp only [Act.put, List.setIfInBounds_toArray, List.set_cons_zero, List.set_cons_succ]
          refine fl_takeA (i := 6) (d := 41) (v := .slice (some ⟨g1, 0, none⟩) n n) rfl rfl rfl (by kernel_rfl) (by kernel_rfl) (by kernel_rfl) hS ?_ ?_
          · intro w' hk; unfold KA at hk; go_simp
          simp only [Act.put, List.setIfInBounds_toArray, List.set_cons_zero, List.set_cons_succ]
          refine fl_takeA (i := 7) (d := 42) (v := .int .i64 p) rfl rfl rfl (by kernel_rfl) (by kernel_rfl) (by kernel_rfl) hS ?_ ?_
          · intro w' hk; unfold KA at hk; go_simp
          simp only [Act.put, List.setIfInBounds_toArray, List.set_cons_zero, List.set_cons_succ]
          refine fl_takeA (i := 8) (d := 43) (v := .int .i64 p1) rfl rfl rfl (by kernel_rfl) (by kernel_rfl) (by kernel_rfl) hS ?_ ?_
          · intro w' hk; unfold KA at hk; go_simp
          simp only [Act.put, List.setIfInBounds_toArray, List.set_cons_zero, List.set_cons_succ]
          refine fl_takeA (i := 9) (d := 44) (v := .pointer (some ⟨g1, p1, none⟩)) rfl rfl rfl (by kernel_rfl) (by kernel_rfl) (by kernel_rfl) hS ?_ ?_
          · intro w' hk; unfold KA at hk; go_simp
          simp only [Act.put, List.setIfInBounds_toArray, List.set_cons_zero, List.set_cons_succ]
          refine fl_takeA (i := 10) (d := 45) (v := .float .f64 xb) rfl rfl rfl (by kernel_rfl) (by kernel_rfl) (by kernel_rfl) hS ?_ ?_
          · intro w' hk; unfold KA at hk; go_simp
          simp only [Act.put, List.setIfInBounds_toArray, List.set_cons_zero, List.set_cons_succ]
          refine fl_takeA (i := 11) (d := 46) (v := .slice (some ⟨g1, 0, none⟩) n n) rfl rfl rfl (by kernel_rfl) (by kernel_rfl) (by kernel_rfl) hS ?_ ?_
          · intro w' hk; unfold KA at hk; go_simp
          simp only [Act.put, List.setIfInBounds_toArray, List.set_cons_zero, List.set_cons_succ]
          refine fl_takeA (i := 12) (d := 47) (v := .int .i64 p) rfl rfl rfl (by kernel_rfl) (by kernel_rfl) (by kernel_rfl) hS ?_ ?_
          · intro w' hk; unfold KA at hk; go_simp
          simp only [Act.put, List.setIfInBounds_toArray, List.set_cons_zero, List.set_cons_succ]
          refine fl_takeA (i := 13) (d := 48) (v := .pointer (some ⟨g1, p, none⟩)) rfl rfl rfl (by kernel_rfl) (by kernel_rfl) (by kernel_rfl) hS ?_ ?_
          · intro w' hk; unfold KA at hk; go_simp
          simp only [Act.put, List.setIfInBounds_toArray, List.set_cons_zero, List.set_cons_succ]
          refine fl_takeA (i := 14) (d := 49) (v := .float .f64 xa) rfl rfl rfl (by kernel_rfl) (by kernel_rfl) (by kernel_rfl) hS ?_ ?_
          · intro w' hk; unfold KA at hk; go_simp
          simp only [Act.put, List.setIfInBounds_toArray, List.set_cons_zero, List.set_cons_succ]
          refine wpAnyH_all (rs := [5, 15]) (by kernel_rfl) (by simp) ?_
          intro iz hi
          have hi : iz = 5 ∨ iz = 15 := by simpa using hi
          rcases hi with rfl | rfl
          · refine op_val (d := 40) (v := .float .f64 (fres .sub x xa wr.drew)) (w' := (wr.drew.drewN (fnn .sub x xa))) rfl rfl rfl (by go_simp; try rfl) ?_
            simp only [Act.put, List.setIfInBounds_toArray, List.set_cons_zero, List.set_cons_succ]
            have hK1 : KA w.heap.size wr (wr.drew.drewN (fnn .sub x xa)) := KA.of (below_drewN hS.2 _)
            refine ⟨hK1, ?_⟩
            refine wpAnyH_all (rs := [15]) (by kernel_rfl) (by simp) ?_
            intro iz hi
            obtain rfl : iz = 15 := by simpa using hi
            clear hi
            refine op_val (d := 50) (v := .float .f64 (fres .sub xb xa (wr.drew.drewN (fnn .sub x xa)))) (w' := ((wr.drew.drewN (fnn .sub x xa)).drewN (fnn .sub xb xa))) rfl rfl rfl (by go_simp; try rfl) ?_
            simp only [Act.put, List.setIfInBounds_toArray, List.set_cons_zero, List.set_cons_succ]
            have hK2 : KA w.heap.size wr ((wr.drew.drewN (fnn .sub x xa)).drewN (fnn .sub xb xa)) := KA.of (below_drewN hK1.2 _)
            refine ⟨hK2, ?_⟩
            refine wpAnyH_all (rs := [16]) (by kernel_rfl) (by simp) ?_
            intro iz hi
            obtain rfl : iz = 16 := by simpa using hi
            clear hi
            refine op_val (d := 51) (v := .float .f64 (fres .quo (fres .sub x xa wr.drew) (fres .sub xb xa (wr.drew.drewN (fnn .sub x xa))) ((wr.drew.drewN (fnn .sub x xa)).drewN (fnn .sub xb xa)))) (w' := (((wr.drew.drewN (fnn .sub x xa)).drewN (fnn .sub xb xa)).drewN (fnn .quo (fres .sub x xa wr.drew) (fres .sub xb xa (wr.drew.drewN (fnn .sub x xa)))))) rfl rfl rfl (by go_simp; try rfl) ?_
            simp only [Act.put, List.setIfInBounds_toArray, List.set_cons_zero, List.set_cons_succ]
            have hK3 : KA w.heap.size wr (((wr.drew.drewN (fnn .sub x xa)).drewN (fnn .sub xb xa)).drewN (fnn .quo (fres .sub x xa wr.drew) (fres .sub xb xa (wr.drew.drewN (fnn .sub x xa))))) := KA.of (below_drewN hK2.2 _)
            refine ⟨hK3, ?_⟩
            refine wpAnyH_all (rs := [17]) (by kernel_rfl) (by simp) ?_
            intro iz hi
            obtain rfl : iz = 17 := by simpa using hi
            clear hi
            refine op_val (d := 9) (v := .float .f64 (fres .quo (fres .sub x xa wr.drew) (fres .sub xb xa (wr.drew.drewN (fnn .sub x xa))) ((wr.drew.drewN (fnn .sub x xa)).drewN (fnn .sub xb xa)))) (w' := (((wr.drew.drewN (fnn .sub x xa)).drewN (fnn .sub xb xa)).drewN (fnn .quo (fres .sub x xa wr.drew) (fres .sub xb xa (wr.drew.drewN (fnn .sub x xa)))))) rfl rfl rfl (by go_simp; try rfl) ?_
            simp only [Act.put, List.setIfInBounds_toArray, List.set_cons_zero, List.set_cons_succ]
            refine ⟨hK3, wpAnyH_done (by kernel_rfl) (NoPanic.normal ?_) _⟩
            obtain ⟨Q, hQ⟩ : ∃ Q, Q = fres .quo (fres .sub x xa wr.drew) (fres .sub xb xa (wr.drew.drewN (fnn .sub x xa))) ((wr.drew.drewN (fnn .sub x xa)).drewN (fnn .sub xb xa)) := ⟨_, rfl⟩
            have HQ : Hid (fv Q = fop .quo (fop .sub (fv x) (fv xa)) (fop .sub (fv xb) (fv xa))) := by unfold Hid; rw [hQ, fv_fres, fv_fres, fv_fres]
            rw [← hQ]
            clear hQ
            have HBL : Below w.heap.size wr (((wr.drew.drewN (fnn .sub x xa)).drewN (fnn .sub xb xa)).drewN (fnn .quo (fres .sub x xa wr.drew) (fres .sub xb xa (wr.drew.drewN (fnn .sub x xa))))) := hK3.2
            obtain ⟨wq, hwq⟩ : ∃ W, W = (((wr.drew.drewN (fnn .sub x xa)).drewN (fnn .sub xb xa)).drewN (fnn .quo (fres .sub x xa wr.drew) (fres .sub xb xa (wr.drew.drewN (fnn .sub x xa))))) := ⟨_, rfl⟩
            have e0 : wq.heap = wr.heap := by rw [hwq]; rfl
            rw [← hwq] at HBL ⊢
            have HB3 : Hid (Below w.heap.size w wq ∧ wq.heap = wr.heap) := ⟨HBW.out.trans HBL, e0⟩
            clear hwq hK1 hK2 hK3 hS HBL e0 cx0 cx1
            have HRQ : wq.heap[w.heap.size]? = some (.cells #[.int .i64 0, .int .i64 0, .float .f64 0] 62) := by rw [HB3.out.2]; exact HRS.out
            obtain ⟨q0, q1, q2, f0, f1, f2, ql⟩ := three_q HRQ
            have cy0 : wq.cell? ⟨g2, p, none⟩ = some (.float .f64 ya) := by have := HYA.out; simp only [World.cell?, HB3.out.2] at this ⊢; exact this
            have cy1 : wq.cell? ⟨g2, p1, none⟩ = some (.float .f64 yb) := by have := HYB.out; simp only [World.cell?, HB3.out.2] at this ⊢; exact this
            clear HRQ
            go_wp2_with (fail)
            refine wp_region_holdsA (S := KA w.heap.size wq) (by kernel_rfl) (KA.of (Below.drew (Below.refl _ _))) (fun hS => ?_)
            refine fl_takeA (i := 0) (d := 52) (v := .slice (some ⟨g2, 0, none⟩) n n) rfl rfl rfl (by kernel_rfl) (by kernel_rfl) (by kernel_rfl) hS ?_ ?_
            · intro w' hk; unfold KA at hk; go_simp
            simp only [Act.put, List.setIfInBounds_toArray, List.set_cons_zero, List.set_cons_succ]
            refine fl_takeA (i := 1) (d := 53) (v := .int .i64 p) rfl rfl rfl (by kernel_rfl) (by kernel_rfl) (by kernel_rfl) hS ?_ ?_
            · intro w' hk; unfold KA at hk; go_simp
            simp only [Act.put, List.setIfInBounds_toArray, List.set_cons_zero, List.set_cons_succ]
            refine fl_takeA (i := 2) (d := 54) (v := .int .i64 p1) rfl rfl rfl (by kernel_rfl) (by kernel_rfl) (by kernel_rfl) hS ?_ ?_
            · intro w' hk; unfold KA at hk; go_simp
            simp only [Act.put, List.setIfInBounds_toArray, List.set_cons_zero, List.set_cons_succ]
            refine fl_takeA (i := 3) (d := 55) (v := .pointer (some ⟨g2, p1, none⟩)) rfl rfl rfl (by kernel_rfl) (by kernel_rfl) (by kernel_rfl) hS ?_ ?_
            · intro w' hk; unfold KA at hk; go_simp
            simp only [Act.put, List.setIfInBounds_toArray, List.set_cons_zero, List.set_cons_succ]
            refine fl_takeA (i := 4) (d := 56) (v := .float .f64 yb) rfl rfl rfl (by kernel_rfl) (by kernel_rfl) (by kernel_rfl) hS ?_ ?_
            · intro w' hk; unfold KA at hk; go_simp
            simp only [Act.put, List.setIfInBounds_toArray, List.set_cons_zero, List.set_cons_succ]
            refine fl_takeA (i := 5) (d := 57) (v := .slice (some ⟨g2, 0, none⟩) n n) rfl rfl rfl (by kernel_rfl) (by kernel_rfl) (by kernel_rfl) hS ?_ ?_
            · intro w' hk; unfold KA at hk; go_simp
            simp only [Act.put, List.setIfInBounds_toArray, List.set_cons_zero, List.set_cons_succ]
            refine fl_takeA (i := 6) (d := 58) (v := .int .i64 p) rfl rfl rfl (by kernel_rfl) (by kernel_rfl) (by kernel_rfl) hS ?_ ?_
            · intro w' hk; unfold KA at hk; go_simp
            simp only [Act.put, List.setIfInBounds_toArray, List.set_cons_zero, List.set_cons_succ]
            refine fl_takeA (i := 7) (d := 59) (v := .pointer (some ⟨g2, p, none⟩)) rfl rfl rfl (by kernel_rfl) (by kernel_rfl) (by kernel_rfl) hS ?_ ?_
            · intro w' hk; unfold KA at hk; go_simp
            simp only [Act.put, List.setIfInBounds_toArray, List.set_cons_zero, List.set_cons_succ]
            refine fl_takeA (i := 8) (d := 60) (v := .float .f64 ya) rfl rfl rfl (by kernel_rfl) (by kernel_rfl) (by kernel_rfl) hS ?_ ?_
            · intro w' hk; unfold KA at hk; go_simp
            simp only [Act.put, List.setIfInBounds_toArray, List.set_cons_zero, List.set_cons_succ]
            refine fl_takeA (i := 10) (d := 62) (v := .float .f64 Q) rfl rfl rfl (by kernel_rfl) (by kernel_rfl) (by kernel_rfl) hS ?_ ?_
            · intro w' hk; unfold KA at hk; go_simp
            simp only [Act.put, List.setIfInBounds_toArray, List.set_cons_zero, List.set_cons_succ]
            refine wpAnyH_all (rs := [9]) (by kernel_rfl) (by simp) ?_
            intro iz hi
            obtain rfl : iz = 9 := by simpa using hi
            clear hi
            refine op_val (d := 61) (v := .float .f64 (fres .sub yb ya wq.drew)) (w' := (wq.drew.drewN (fnn .sub yb ya))) rfl rfl rfl (by go_simp; try rfl) ?_
            simp only [Act.put, List.setIfInBounds_toArray, List.set_cons_zero, List.set_cons_succ]
            have hK1 : KA w.heap.size wq (wq.drew.drewN (fnn .sub yb ya)) := KA.of (below_drewN hS.2 _)
            refine ⟨hK1, ?_⟩
            refine wpAnyH_all (rs := [11]) (by kernel_rfl) (by simp) ?_
            intro iz hi
            obtain rfl : iz = 11 := by simpa using hi
            clear hi
            refine op_val (d := 63) (v := .float .f64 (fres .mul (fres .sub yb ya wq.drew) Q (wq.drew.drewN (fnn .sub yb ya)))) (w' := ((wq.drew.drewN (fnn .sub yb ya)).drewN (fnn .mul (fres .sub yb ya wq.drew) Q))) rfl rfl rfl (by go_simp; try rfl) ?_
            simp only [Act.put, List.setIfInBounds_toArray, List.set_cons_zero, List.set_cons_succ]
            have hK2 : KA w.heap.size wq ((wq.drew.drewN (fnn .sub yb ya)).drewN (fnn .mul (fres .sub yb ya wq.drew) Q)) := KA.of (below_drewN hK1.2 _)
            refine ⟨hK2, ?_⟩
            refine wpAnyH_all (rs := [12]) (by kernel_rfl) (by simp) ?_
            intro iz hi
            obtain rfl : iz = 12 := by simpa using hi
            clear hi
            refine op_val (d := 10) (v := .float .f64 (fres .mul (fres .sub yb ya wq.drew) Q (wq.drew.drewN (fnn .sub yb ya)))) (w' := ((wq.drew.drewN (fnn .sub yb ya)).drewN (fnn .mul (fres .sub yb ya wq.drew) Q))) rfl rfl rfl (by go_simp; try rfl) ?_
            simp only [Act.put, List.setIfInBounds_toArray, List.set_cons_zero, List.set_cons_succ]
            refine ⟨hK2, wpAnyH_done (by kernel_rfl) (NoPanic.normal ?_) _⟩
            obtain ⟨R, hR⟩ : ∃ R, R = fres .mul (fres .sub yb ya wq.drew) Q (wq.drew.drewN (fnn .sub yb ya)) := ⟨_, rfl⟩
            have HR : Hid (fv R = fop .mul (fop .sub (fv yb) (fv ya)) (fv Q)) := by unfold Hid; rw [hR, fv_fres, fv_fres]
            rw [← hR]
            clear hR hK1 hK2 hS
            have HZ : Hid (∀ W, fv (fres .add ya R W) = trW xs ys x) := fun W => by rw [fv_fres, HR.out, HQ.out, HVW.out.2, trV, HYD.out.1, HYD.out.2.1, HYD.out.2.2.1, HYD.out.2.2.2]
            go_wp2
            try simp only [Exit.inBlock, Exit.then]
            refine bodyPost_ret (by simp [results, Try.results37, go_sem, q0, q1, q2, ql]; try rfl) rfl ⟨_, by rw [HVW.out.1], HZ.out _, ?_⟩
            have hb := HB3.out.1
            (repeat' (first | (with_reducible exact Below.refl _ _) | (with_reducible assumption) | (with_reducible refine Below.setCell ?_ ?_ _) | (with_reducible refine Below.alloc ?_ ?_ _) | (with_reducible refine below_drewN ?_ _) | (with_reducible refine Below.drew ?_) | (with_reducible exact Nat.le_refl _) | omega | (simp; done) | (simp; omega)))
          · refine op_val (d := 50) (v := .float .f64 (fres .sub xb xa wr.drew)) (w' := (wr.drew.drewN (fnn .sub xb xa))) rfl rfl rfl (by go_simp; try rfl) ?_
            simp only [Act.put, List.setIfInBounds_toArray, List.set_cons_zero, List.set_cons_succ]
            have hK1 : KA w.heap.size wr (wr.drew.drewN (fnn .sub xb xa)) := KA.of (below_drewN hS.2 _)
            refine ⟨hK1, ?_⟩
            refine wpAnyH_all (rs := [5]) (by kernel_rfl) (by simp) ?_
            intro iz hi
            obtain rfl : iz = 5 := by simpa using hi
            clear hi
            refine op_val (d := 40) (v := .float .f64 (fres .sub x xa (wr.drew.drewN (fnn .sub xb xa)))) (w' := ((wr.drew.drewN (fnn .sub xb xa)).drewN (fnn .sub x xa))) rfl rfl rfl (by go_simp; try rfl) ?_
            simp only [Act.put, List.setIfInBounds_toArray, List.set_cons_zero, List.set_cons_succ]
            have hK2 : KA w.heap.size wr ((wr.drew.drewN (fnn .sub xb xa)).drewN (fnn .sub x xa)) := KA.of (below_drewN hK1.2 _)
            refine ⟨hK2, ?_⟩
            refine wpAnyH_all (rs := [16]) (by kernel_rfl) (by simp) ?_
            intro iz hi
            obtain rfl : iz = 16 := by simpa using hi
            clear hi
            refine op_val (d := 51) (v := .float .f64 (fres .quo (fres .sub x xa (wr.drew.drewN (fnn .sub xb xa))) (fres .sub xb xa wr.drew) ((wr.drew.drewN (fnn .sub xb xa)).drewN (fnn .sub x xa)))) (w' := (((wr.drew.drewN (fnn .sub xb xa)).drewN (fnn .sub x xa)).drewN (fnn .quo (fres .sub x xa (wr.drew.drewN (fnn .sub xb xa))) (fres .sub xb xa wr.drew)))) rfl rfl rfl (by go_simp; try rfl) ?_
            simp only [Act.put, List.setIfInBounds_toArray, List.set_cons_zero, List.set_cons_succ]
            have hK3 : KA w.heap.size wr (((wr.drew.drewN (fnn .sub xb xa)).drewN (fnn .sub x xa)).drewN (fnn .quo (fres .sub x xa (wr.drew.drewN (fnn .sub xb xa))) (fres .sub xb xa wr.drew))) := KA.of (below_drewN hK2.2 _)
            refine ⟨hK3, ?_⟩
            refine wpAnyH_all (rs := [17]) (by kernel_rfl) (by simp) ?_
            intro iz hi
            obtain rfl : iz = 17 := by simpa using hi
            clear hi
            refine op_val (d := 9) (v := .float .f64 (fres .quo (fres .sub x xa (wr.drew.drewN (fnn .sub xb xa))) (fres .sub xb xa wr.drew) ((wr.drew.drewN (fnn .sub xb xa)).drewN (fnn .sub x xa)))) (w' := (((wr.drew.drewN (fnn .sub xb xa)).drewN (fnn .sub x xa)).drewN (fnn .quo (fres .sub x xa (wr.drew.drewN (fnn .sub xb xa))) (fres .sub xb xa wr.drew)))) rfl rfl rfl (by go_simp; try rfl) ?_
            simp only [Act.put, List.setIfInBounds_toArray, List.set_cons_zero, List.set_cons_succ]
            refine ⟨hK3, wpAnyH_done (by kernel_rfl) (NoPanic.normal ?_) _⟩
            obtain ⟨Q, hQ⟩ : ∃ Q, Q = fres .quo (fres .sub x xa (wr.drew.drewN (fnn .sub xb xa))) (fres .sub xb xa wr.drew) ((wr.drew.drewN (fnn .sub xb xa)).drewN (fnn .sub x xa)) := ⟨_, rfl⟩
            have HQ : Hid (fv Q = fop .quo (fop .sub (fv x) (fv xa)) (fop .sub (fv xb) (fv xa))) := by unfold Hid; rw [hQ, fv_fres, fv_fres, fv_fres]
            rw [← hQ]
            clear hQ
            have HBL : Below w.heap.size wr (((wr.drew.drewN (fnn .sub xb xa)).drewN (fnn .sub x xa)).drewN (fnn .quo (fres .sub x xa (wr.drew.drewN (fnn .sub xb xa))) (fres .sub xb xa wr.drew))) := hK3.2
            obtain ⟨wq, hwq⟩ : ∃ W, W = (((wr.drew.drewN (fnn .sub xb xa)).drewN (fnn .sub x xa)).drewN (fnn .quo (fres .sub x xa (wr.drew.drewN (fnn .sub xb xa))) (fres .sub xb xa wr.drew))) := ⟨_, rfl⟩
            have e0 : wq.heap = wr.heap := by rw [hwq]; rfl
            rw [← hwq] at HBL ⊢
            have HB3 : Hid (Below w.heap.size w wq ∧ wq.heap = wr.heap) := ⟨HBW.out.trans HBL, e0⟩
            clear hwq hK1 hK2 hK3 hS HBL e0 cx0 cx1
            have HRQ : wq.heap[w.heap.size]? = some (.cells #[.int .i64 0, .int .i64 0, .float .f64 0] 62) := by rw [HB3.out.2]; exact HRS.out
            obtain ⟨q0, q1, q2, f0, f1, f2, ql⟩ := three_q HRQ
            have cy0 : wq.cell? ⟨g2, p, none⟩ = some (.float .f64 ya) := by have := HYA.out; simp only [World.cell?, HB3.out.2] at this ⊢; exact this
            have cy1 : wq.cell? ⟨g2, p1, none⟩ = some (.float .f64 yb) := by have := HYB.out; simp only [World.cell?, HB3.out.2] at this ⊢; exact this
            clear HRQ
            go_wp2_with (fail)
            refine wp_region_holdsA (S := KA w.heap.size wq) (by kernel_rfl) (KA.of (Below.drew (Below.refl _ _))) (fun hS => ?_)
            refine fl_takeA (i := 0) (d := 52) (v := .slice (some ⟨g2, 0, none⟩) n n) rfl rfl rfl (by kernel_rfl) (by kernel_rfl) (by kernel_rfl) hS ?_ ?_
            · intro w' hk; unfold KA at hk; go_simp
            simp only [Act.put, List.setIfInBounds_toArray, List.set_cons_zero, List.set_cons_succ]
            refine fl_takeA (i := 1) (d := 53) (v := .int .i64 p) rfl rfl rfl (by kernel_rfl) (by kernel_rfl) (by kernel_rfl) hS ?_ ?_
            · intro w' hk; unfold KA at hk; go_simp
            simp only [Act.put, List.setIfInBounds_toArray, List.set_cons_zero, List.set_cons_succ]
            refine fl_takeA (i := 2) (d := 54) (v := .int .i64 p1) rfl rfl rfl (by kernel_rfl) (by kernel_rfl) (by kernel_rfl) hS ?_ ?_
            · intro w' hk; unfold KA at hk; go_simp
            simp only [Act.put, List.setIfInBounds_toArray, List.set_cons_zero, List.set_cons_succ]
            refine fl_takeA (i := 3) (d := 55) (v := .pointer (some ⟨g2, p1, none⟩)) rfl rfl rfl (by kernel_rfl) (by kernel_rfl) (by kernel_rfl) hS ?_ ?_
            · intro w' hk; unfold KA at hk; go_simp
            simp only [Act.put, List.setIfInBounds_toArray, List.set_cons_zero, List.set_cons_succ]
            refine fl_takeA (i := 4) (d := 56) (v := .float .f64 yb) rfl rfl rfl (by kernel_rfl) (by kernel_rfl) (by kernel_rfl) hS ?_ ?_
            · intro w' hk; unfold KA at hk; go_simp
            simp only [Act.put, List.setIfInBounds_toArray, List.set_cons_zero, List.set_cons_succ]
            refine fl_takeA (i := 5) (d := 57) (v := .slice (some ⟨g2, 0, none⟩) n n) rfl rfl rfl (by kernel_rfl) (by kernel_rfl) (by kernel_rfl) hS ?_ ?_
            · intro w' hk; unfold KA at hk; go_simp
            simp only [Act.put, List.setIfInBounds_toArray, List.set_cons_zero, List.set_cons_succ]
            refine fl_takeA (i := 6) (d := 58) (v := .int .i64 p) rfl rfl rfl (by kernel_rfl) (by kernel_rfl) (by kernel_rfl) hS ?_ ?_
            · intro w' hk; unfold KA at hk; go_simp
            simp only [Act.put, List.setIfInBounds_toArray, List.set_cons_zero, List.set_cons_succ]
            refine fl_takeA (i := 7) (d := 59) (v := .pointer (some ⟨g2, p, none⟩)) rfl rfl rfl (by kernel_rfl) (by kernel_rfl) (by kernel_rfl) hS ?_ ?_
            · intro w' hk; unfold KA at hk; go_simp
            simp only [Act.put, List.setIfInBounds_toArray, List.set_cons_zero, List.set_cons_succ]
            refine fl_takeA (i := 8) (d := 60) (v := .float .f64 ya) rfl rfl rfl (by kernel_rfl) (by kernel_rfl) (by kernel_rfl) hS ?_ ?_
            · intro w' hk; unfold KA at hk; go_simp
            simp only [Act.put, List.setIfInBounds_toArray, List.set_cons_zero, List.set_cons_succ]
            refine fl_takeA (i := 10) (d := 62) (v := .float .f64 Q) rfl rfl rfl (by kernel_rfl) (by kernel_rfl) (by kernel_rfl) hS ?_ ?_
            · intro w' hk; unfold KA at hk; go_simp
            simp only [Act.put, List.setIfInBounds_toArray, List.set_cons_zero, List.set_cons_succ]
            refine wpAnyH_all (rs := [9]) (by kernel_rfl) (by simp) ?_
            intro iz hi
            obtain rfl : iz = 9 := by simpa using hi
            clear hi
            refine op_val (d := 61) (v := .float .f64 (fres .sub yb ya wq.drew)) (w' := (wq.drew.drewN (fnn .sub yb ya))) rfl rfl rfl (by go_simp; try rfl) ?_
            simp only [Act.put, List.setIfInBounds_toArray, List.set_cons_zero, List.set_cons_succ]
            have hK1 : KA w.heap.size wq (wq.drew.drewN (fnn .sub yb ya)) := KA.of (below_drewN hS.2 _)
            refine ⟨hK1, ?_⟩
            refine wpAnyH_all (rs := [11]) (by kernel_rfl) (by simp) ?_
            intro iz hi
            obtain rfl : iz = 11 := by simpa using hi
            clear hi
            refine op_val (d := 63) (v := .float .f64 (fres .mul (fres .sub yb ya wq.drew) Q (wq.drew.drewN (fnn .sub yb ya)))) (w' := ((wq.drew.drewN (fnn .sub yb ya)).drewN (fnn .mul (fres .sub yb ya wq.drew) Q))) rfl rfl rfl (by go_simp; try rfl) ?_
            simp only [Act.put, List.setIfInBounds_toArray, List.set_cons_zero, List.set_cons_succ]
            have hK2 : KA w.heap.size wq ((wq.drew.drewN (fnn .sub yb ya)).drewN (fnn .mul (fres .sub yb ya wq.drew) Q)) := KA.of (below_drewN hK1.2 _)
            refine ⟨hK2, ?_⟩
            refine wpAnyH_all (rs := [12]) (by kernel_rfl) (by simp) ?_
            intro iz hi
            obtain rfl : iz = 12 := by simpa using hi
            clear hi
            refine op_val (d := 10) (v := .float .f64 (fres .mul (fres .sub yb ya wq.drew) Q (wq.drew.drewN (fnn .sub yb ya)))) (w' := ((wq.drew.drewN (fnn .sub yb ya)).drewN (fnn .mul (fres .sub yb ya wq.drew) Q))) rfl rfl rfl (by go_simp; try rfl) ?_
            simp only [Act.put, List.setIfInBounds_toArray, List.set_cons_zero, List.set_cons_succ]
            refine ⟨hK2, wpAnyH_done (by kernel_rfl) (NoPanic.normal ?_) _⟩
            obtain ⟨R, hR⟩ : ∃ R, R = fres .mul (fres .sub yb ya wq.drew) Q (wq.drew.drewN (fnn .sub yb ya)) := ⟨_, rfl⟩
            have HR : Hid (fv R = fop .mul (fop .sub (fv yb) (fv ya)) (fv Q)) := by unfold Hid; rw [hR, fv_fres, fv_fres]
            rw [← hR]
            clear hR hK1 hK2 hS
            have HZ : Hid (∀ W, fv (fres .add ya R W) = trW xs ys x) := fun W => by rw [fv_fres, HR.out, HQ.out, HVW.out.2, trV, HYD.out.1, HYD.out.2.1, HYD.out.2.2.1, HYD.out.2.2.2]
            go_wp2
            try simp only [Exit.inBlock, Exit.then]
            refine bodyPost_ret (by simp [results, Try.results37, go_sem, q0, q1, q2, ql]; try rfl) rfl ⟨_, by rw [HVW.out.1], HZ.out _, ?_⟩
            have hb := HB3.out.1
            (repeat' (first | (with_reducible exact Below.refl _ _) | (with_reducible assumption) | (with_reducible refine Below.setCell ?_ ?_ _) | (with_reducible refine Below.alloc ?_ ?_ _) | (with_reducible refine below_drewN ?_ _) | (with_reducible refine Below.drew ?_) | (with_reducible exact Nat.le_refl _) | omega | (simp; done) | (simp; omega)))
      · have b2 : ¬ (p : Int) + 2 < (n : Int) := by omega
        have HE : Hid (trG xs x (xs.length - 2) = p) := tr_end HC0.out.2.1 HC0.out.2.2.1 (by rw [← HC0.out.2.2.2]; omega) (by rw [← HC0.out.2.2.2]; omega) hR.out (.inl (by rw [← HC0.out.2.2.2]; omega))
        clear hR
        go_wp2_with (fail)
        clear e8 b2
        obtain ⟨g, o, xa, ha, hgx, hzx, cx0⟩ := rf_at HX.out.1 (show p < n by omega)
        injection ha with ha
        injection ha with ha1 ha2
        subst ha1 ha2
        obtain ⟨g, o, xb, ha, hgx', hzx', cx1⟩ := rf_at HX.out.1 (show p + 1 < n by omega)
        injection ha with ha
        injection ha with ha1 ha2
        subst ha1 ha2
        obtain ⟨g, o, ya, ha, hgy, hzy, cy0⟩ := rf_at HX.out.2 (show p < n by omega)
        injection ha with ha
        injection ha with ha1 ha2
        subst ha1 ha2
        obtain ⟨g, o, yb, ha, hgy', hzy', cy1⟩ := rf_at HX.out.2 (show p + 1 < n by omega)
        injection ha with ha
        injection ha with ha1 ha2
        subst ha1 ha2
        obtain ⟨p1, hp1⟩ : ∃ p1, p1 = p + 1 := ⟨_, rfl⟩
        rw [Nat.zero_add, ← hp1] at cx1 cy1
        rw [Nat.zero_add] at cx0 cy0
        have HVW : Hid (trN xs ys x = (p : Int) ∧ trW xs ys x = trV xs ys x p) := by
          refine ⟨?_, ?_⟩
          · rw [trN, HC0.out.1, if_pos rfl, HE.out]
          · rw [trW, HC0.out.1, if_pos rfl, HE.out]
        have HYD : Hid (ys.getD p 0 = ya ∧ ys.getD (p + 1) 0 = yb ∧ xs.getD p 0 = xa ∧ xs.getD (p + 1) 0 = xb) := ⟨getD_at hzy, getD_at hzy', getD_at hzx, getD_at hzx'⟩
        have HYA : Hid (wr.cell? ⟨g2, p, none⟩ = some (.float .f64 ya)) := (HBW.out.cell (p := ⟨g2, p, none⟩) hgy).trans cy0
        have HYB : Hid (wr.cell? ⟨g2, p1, none⟩ = some (.float .f64 yb)) := (HBW.out.cell (p := ⟨g2, p1, none⟩) hgy).trans cy1
        have cz0 := (HBW.out.cell (p := ⟨g1, p, none⟩) hgx).trans cx0
        have cz1 := (HBW.out.cell (p := ⟨g1, p1, none⟩) hgx).trans cx1
        clear cx0 cx1 cy0 cy1
        have cx0 := cz0
        have cx1 := cz1
        have e9 : IntKind.i64.wrap ((p : Int) + 1) = (p1 : Int) := by rw [IntKind.wrap_i64]; omega
        have z0 : (0 : Int) ≤ (p : Int) := by omega
        have z1 : (0 : Int) ≤ (p1 : Int) := by omega
        have z2 : (p : Int) < (n : Int) := by omega
        have z3 : (p1 : Int) < (n : Int) := by omega
        clear cz0 cz1 hzx hzx' hzy hzy' hp1 hgx' hgy' HE
        refine wp_region_holdsA (S := KA w.heap.size wr) (by kernel_rfl) (KA.of (Below.drew (Below.refl _ _))) (fun hS => ?_)
        refine fl_takeA (i := 0) (d := 35) (v := .float .f64 x) rfl rfl rfl (by kernel_rfl) (by kernel_rfl) (by kernel_rfl) hS ?_ ?_
        · intro w' hk; unfold KA at hk; go_simp
        simp only [Act.put, List.setIfInBounds_toArray, List.set_cons_zero, List.set_cons_succ]
        refine fl_takeA (i := 1) (d := 36) (v := .slice (some ⟨g1, 0, none⟩) n n) rfl rfl rfl (by kernel_rfl) (by kernel_rfl) (by kernel_rfl) hS ?_ ?_
        · intro w' hk; unfold KA at hk; go_simp
        simp only [Act.put, List.setIfInBounds_toArray, List.set_cons_zero, List.set_cons_succ]
        refine fl_takeA (i := 2) (d := 37) (v := .int .i64 p) rfl rfl rfl (by kernel_rfl) (by kernel_rfl) (by kernel_rfl) hS ?_ ?_
        · intro w' hk; unfold KA at hk; go_simp
        simp only [Act.put, List.setIfInBounds_toArray, List.set_cons_zero, List.set_cons_succ]
        refine fl_takeA (i := 3) (d := 38) (v := .pointer (some ⟨g1, p, none⟩)) rfl rfl rfl (by kernel_rfl) (by kernel_rfl) (by kernel_rfl) hS ?_ ?_
        · intro w' hk; unfold KA at hk; go_simp
        simp only [Act.put, List.setIfInBounds_toArray, List.set_cons_zero, List.set_cons_succ]
        refine fl_takeA (i := 4) (d := 39) (v := .float .f64 xa) rfl rfl rfl (by kernel_rfl) (by kernel_rfl) (by kernel_rfl) hS ?_ ?_
        · intro w' hk; unfold KA at hk; go_simp
        simp only [Act.put, List.setIfInBounds_toArray, List.set_cons_zero, List.set_cons_succ]
        refine fl_takeA (i := 6) (d := 41) (v := .slice (some ⟨g1, 0, none⟩) n n) rfl rfl rfl (by kernel_rfl) (by kernel_rfl) (by kernel_rfl) hS ?_ ?_
        · intro w' hk; unfold KA at hk; go_simp
        simp only [Act.put, List.setIfInBounds_toArray, List.set_cons_zero, List.set_cons_succ]
        refine fl_takeA (i := 7) (d := 42) (v := .int .i64 p) rfl rfl rfl (by kernel_rfl) (by kernel_rfl) (by kernel_rfl) hS ?_ ?_
        · intro w' hk; unfold KA at hk; go_simp
        simp only [Act.put, List.setIfInBounds_toArray, List.set_cons_zero, List.set_cons_succ]
        refine fl_takeA (i := 8) (d := 43) (v := .int .i64 p1) rfl rfl rfl (by kernel_rfl) (by kernel_rfl) (by kernel_rfl) hS ?_ ?_
        · intro w' hk; unfold KA at hk; go_simp
        simp only [Act.put, List.setIfInBounds_toArray, List.set_cons_zero, List.set_cons_succ]
        refine fl_takeA (i := 9) (d := 44) (v := .pointer (some ⟨g1, p1, none⟩)) rfl rfl rfl (by kernel_rfl) (by kernel_rfl) (by kernel_rfl) hS ?_ ?_
        · intro w' hk; unfold KA at hk; go_simp
        simp only [Act.put, List.setIfInBounds_toArray, List.set_cons_zero, List.set_cons_succ]
        refine fl_takeA (i := 10) (d := 45) (v := .float .f64 xb) rfl rfl rfl (by kernel_rfl) (by kernel_rfl) (by kernel_rfl) hS ?_ ?_
        · intro w' hk; unfold KA at hk; go_simp
        simp only [Act.put, List.setIfInBounds_toArray, List.set_cons_zero, List.set_cons_succ]
        refine fl_takeA (i := 11) (d := 46) (v := .slice (some ⟨g1, 0, none⟩) n n) rfl rfl rfl (by kernel_rfl) (by kernel_rfl) (by kernel_rfl) hS ?_ ?_
        · intro w' hk; unfold KA at hk; go_simp
        simp only [Act.put, List.setIfInBounds_toArray, List.set_cons_zero, List.set_cons_succ]
        refine fl_takeA (i := 12) (d := 47) (v := .int .i64 p) rfl rfl rfl (by kernel_rfl) (by kernel_rfl) (by kernel_rfl) hS ?_ ?_
        · intro w' hk; unfold KA at hk; go_simp
        simp only [Act.put, List.setIfInBounds_toArray, List.set_cons_zero, List.set_cons_succ]
        refine fl_takeA (i := 13) (d := 48) (v := .pointer (some ⟨g1, p, none⟩)) rfl rfl rfl (by kernel_rfl) (by kernel_rfl) (by kernel_rfl) hS ?_ ?_
        · intro w' hk; unfold KA at hk; go_simp
        simp only [Act.put, List.setIfInBounds_toArray, List.set_cons_zero, List.set_cons_succ]
        refine fl_takeA (i := 14) (d := 49) (v := .float .f64 xa) rfl rfl rfl (by kernel_rfl) (by kernel_rfl) (by kernel_rfl) hS ?_ ?_
        · intro w' hk; unfold KA at hk; go_simp
        simp only [Act.put, List.setIfInBounds_toArray, List.set_cons_zero, List.set_cons_succ]
        refine wpAnyH_all (rs := [5, 15]) (by kernel_rfl) (by simp) ?_
        intro iz hi
        have hi : iz = 5 ∨ iz = 15 := by simpa using hi
        rcases hi with rfl | rfl
        · refine op_val (d := 40) (v := .float .f64 (fres .sub x xa wr.drew)) (w' := (wr.drew.drewN (fnn .sub x xa))) rfl rfl rfl (by go_simp; try rfl) ?_
          simp only [Act.put, List.setIfInBounds_toArray, List.set_cons_zero, List.set_cons_succ]
          have hK1 : KA w.heap.size wr (wr.drew.drewN (fnn .sub x xa)) := KA.of (below_drewN hS.2 _)
          refine ⟨hK1, ?_⟩
          refine wpAnyH_all (rs := [15]) (by kernel_rfl) (by simp) ?_
          intro iz hi
          obtain rfl : iz = 15 := by simpa using hi
          clear hi
          refine op_val (d := 50) (v := .float .f64 (fres .sub xb xa (wr.drew.drewN (fnn .sub x xa)))) (w' := ((wr.drew.drewN (fnn .sub x xa)).drewN (fnn .sub xb xa))) rfl rfl rfl (by go_simp; try rfl) ?_
          simp only [Act.put, List.setIfInBounds_toArray, List.set_cons_zero, List.set_cons_succ]
          have hK2 : KA w.heap.size wr ((wr.drew.drewN (fnn .sub x xa)).drewN (fnn .sub xb xa)) := KA.of (below_drewN hK1.2 _)
          refine ⟨hK2, ?_⟩
          refine wpAnyH_all (rs := [16]) (by kernel_rfl) (by simp) ?_
          intro iz hi
          obtain rfl : iz = 16 := by simpa using hi
          clear hi
          refine op_val (d := 51) (v := .float .f64 (fres .quo (fres .sub x xa wr.drew) (fres .sub xb xa (wr.drew.drewN (fnn .sub x xa))) ((wr.drew.drewN (fnn .sub x xa)).drewN (fnn .sub xb xa)))) (w' := (((wr.drew.drewN (fnn .sub x xa)).drewN (fnn .sub xb xa)).drewN (fnn .quo (fres .sub x xa wr.drew) (fres .sub xb xa (wr.drew.drewN (fnn .sub x xa)))))) rfl rfl rfl (by go_simp; try rfl) ?_
          simp only [Act.put, List.setIfInBounds_toArray, List.set_cons_zero, List.set_cons_succ]
          have hK3 : KA w.heap.size wr (((wr.drew.drewN (fnn .sub x xa)).drewN (fnn .sub xb xa)).drewN (fnn .quo (fres .sub x xa wr.drew) (fres .sub xb xa (wr.drew.drewN (fnn .sub x xa))))) := KA.of (below_drewN hK2.2 _)
          refine ⟨hK3, ?_⟩
          refine wpAnyH_all (rs := [17]) (by kernel_rfl) (by simp) ?_
          intro iz hi
          obtain rfl : iz = 17 := by simpa using hi
          clear hi
          refine op_val (d := 9) (v := .float .f64 (fres .quo (fres .sub x xa wr.drew) (fres .sub xb xa (wr.drew.drewN (fnn .sub x xa))) ((wr.drew.drewN (fnn .sub x xa)).drewN (fnn .sub xb xa)))) (w' := (((wr.drew.drewN (fnn .sub x xa)).drewN (fnn .sub xb xa)).drewN (fnn .quo (fres .sub x xa wr.drew) (fres .sub xb xa (wr.drew.drewN (fnn .sub x xa)))))) rfl rfl rfl (by go_simp; try rfl) ?_
          simp only [Act.put, List.setIfInBounds_toArray, List.set_cons_zero, List.set_cons_succ]
          refine ⟨hK3, wpAnyH_done (by kernel_rfl) (NoPanic.normal ?_) _⟩
          obtain ⟨Q, hQ⟩ : ∃ Q, Q = fres .quo (fres .sub x xa wr.drew) (fres .sub xb xa (wr.drew.drewN (fnn .sub x xa))) ((wr.drew.drewN (fnn .sub x xa)).drewN (fnn .sub xb xa)) := ⟨_, rfl⟩
          have HQ : Hid (fv Q = fop .quo (fop .sub (fv x) (fv xa)) (fop .sub (fv xb) (fv xa))) := by unfold Hid; rw [hQ, fv_fres, fv_fres, fv_fres]
          rw [← hQ]
          clear hQ
          have HBL : Below w.heap.size wr (((wr.drew.drewN (fnn .sub x xa)).drewN (fnn .sub xb xa)).drewN (fnn .quo (fres .sub x xa wr.drew) (fres .sub xb xa (wr.drew.drewN (fnn .sub x xa))))) := hK3.2
          obtain ⟨wq, hwq⟩ : ∃ W, W = (((wr.drew.drewN (fnn .sub x xa)).drewN (fnn .sub xb xa)).drewN (fnn .quo (fres .sub x xa wr.drew) (fres .sub xb xa (wr.drew.drewN (fnn .sub x xa))))) := ⟨_, rfl⟩
          have e0 : wq.heap = wr.heap := by rw [hwq]; rfl
          rw [← hwq] at HBL ⊢
          have HB3 : Hid (Below w.heap.size w wq ∧ wq.heap = wr.heap) := ⟨HBW.out.trans HBL, e0⟩
          clear hwq hK1 hK2 hK3 hS HBL e0 cx0 cx1
          have HRQ : wq.heap[w.heap.size]? = some (.cells #[.int .i64 0, .int .i64 0, .float .f64 0] 62) := by rw [HB3.out.2]; exact HRS.out
          obtain ⟨q0, q1, q2, f0, f1, f2, ql⟩ := three_q HRQ
          have cy0 : wq.cell? ⟨g2, p, none⟩ = some (.float .f64 ya) := by have := HYA.out; simp only [World.cell?, HB3.out.2] at this ⊢; exact this
          have cy1 : wq.cell? ⟨g2, p1, none⟩ = some (.float .f64 yb) := by have := HYB.out; simp only [World.cell?, HB3.out.2] at this ⊢; exact this
          clear HRQ
          go_wp2_with (fail)
          refine wp_region_holdsA (S := KA w.heap.size wq) (by kernel_rfl) (KA.of (Below.drew (Below.refl _ _))) (fun hS => ?_)
          refine fl_takeA (i := 0) (d := 52) (v := .slice (some ⟨g2, 0, none⟩) n n) rfl rfl rfl (by kernel_rfl) (by kernel_rfl) (by kernel_rfl) hS ?_ ?_
          · intro w' hk; unfold KA at hk; go_simp
          simp only [Act.put, List.setIfInBounds_toArray, List.set_cons_zero, List.set_cons_succ]
          refine fl_takeA (i := 1) (d := 53) (v := .int .i64 p) rfl rfl rfl (by kernel_rfl) (by kernel_rfl) (by kernel_rfl) hS ?_ ?_
          · intro w' hk; unfold KA at hk; go_simp
          simp only [Act.put, List.setIfInBounds_toArray, List.set_cons_zero, List.set_cons_succ]
          refine fl_takeA (i := 2) (d := 54) (v := .int .i64 p1) rfl rfl rfl (by kernel_rfl) (by kernel_rfl) (by kernel_rfl) hS ?_ ?_
          · intro w' hk; unfold KA at hk; go_simp
          simp only [Act.put, List.setIfInBounds_toArray, List.set_cons_zero, List.set_cons_succ]
          refine fl_takeA (i := 3) (d := 55) (v := .pointer (some ⟨g2, p1, none⟩)) rfl rfl rfl (by kernel_rfl) (by kernel_rfl) (by kernel_rfl) hS ?_ ?_
          · intro w' hk; unfold KA at hk; go_simp
          simp only [Act.put, List.setIfInBounds_toArray, List.set_cons_zero, List.set_cons_succ]
          refine fl_takeA (i := 4) (d := 56) (v := .float .f64 yb) rfl rfl rfl (by kernel_rfl) (by kernel_rfl) (by kernel_rfl) hS ?_ ?_
          · intro w' hk; unfold KA at hk; go_simp
          simp only [Act.put, List.setIfInBounds_toArray, List.set_cons_zero, List.set_cons_succ]
          refine fl_takeA (i := 5) (d := 57) (v := .slice (some ⟨g2, 0, none⟩) n n) rfl rfl rfl (by kernel_rfl) (by kernel_rfl) (by kernel_rfl) hS ?_ ?_
          · intro w' hk; unfold KA at hk; go_simp
          simp only [Act.put, List.setIfInBounds_toArray, List.set_cons_zero, List.set_cons_succ]
          refine fl_takeA (i := 6) (d := 58) (v := .int .i64 p) rfl rfl rfl (by kernel_rfl) (by kernel_rfl) (by kernel_rfl) hS ?_ ?_
          · intro w' hk; unfold KA at hk; go_simp
          simp only [Act.put, List.setIfInBounds_toArray, List.set_cons_zero, List.set_cons_succ]
          refine fl_takeA (i := 7) (d := 59) (v := .pointer (some ⟨g2, p, none⟩)) rfl rfl rfl (by kernel_rfl) (by kernel_rfl) (by kernel_rfl) hS ?_ ?_
          · intro w' hk; unfold KA at hk; go_simp
          simp only [Act.put, List.setIfInBounds_toArray, List.set_cons_zero, List.set_cons_succ]
          refine fl_takeA (i := 8) (d := 60) (v := .float .f64 ya) rfl rfl rfl (by kernel_rfl) (by kernel_rfl) (by kernel_rfl) hS ?_ ?_
          · intro w' hk; unfold KA at hk; go_simp
          simp only [Act.put, List.setIfInBounds_toArray, List.set_cons_zero, List.set_cons_succ]
          refine fl_takeA (i := 10) (d := 62) (v := .float .f64 Q) rfl rfl rfl (by kernel_rfl) (by kernel_rfl) (by kernel_rfl) hS ?_ ?_
          · intro w' hk; unfold KA at hk; go_simp
          simp only [Act.put, List.setIfInBounds_toArray, List.set_cons_zero, List.set_cons_succ]
          refine wpAnyH_all (rs := [9]) (by kernel_rfl) (by simp) ?_
          intro iz hi
          obtain rfl : iz = 9 := by simpa using hi
          clear hi
          refine op_val (d := 61) (v := .float .f64 (fres .sub yb ya wq.drew)) (w' := (wq.drew.drewN (fnn .sub yb ya))) rfl rfl rfl (by go_simp; try rfl) ?_
          simp only [Act.put, List.setIfInBounds_toArray, List.set_cons_zero, List.set_cons_succ]
          have hK1 : KA w.heap.size wq (wq.drew.drewN (fnn .sub yb ya)) := KA.of (below_drewN hS.2 _)
          refine ⟨hK1, ?_⟩
          refine wpAnyH_all (rs := [11]) (by kernel_rfl) (by simp) ?_
          intro iz hi
          obtain rfl : iz = 11 := by simpa using hi
          clear hi
          refine op_val (d := 63) (v := .float .f64 (fres .mul (fres .sub yb ya wq.drew) Q (wq.drew.drewN (fnn .sub yb ya)))) (w' := ((wq.drew.drewN (fnn .sub yb ya)).drewN (fnn .mul (fres .sub yb ya wq.drew) Q))) rfl rfl rfl (by go_simp; try rfl) ?_
          simp only [Act.put, List.setIfInBounds_toArray, List.set_cons_zero, List.set_cons_succ]
          have hK2 : KA w.heap.size wq ((wq.drew.drewN (fnn .sub yb ya)).drewN (fnn .mul (fres .sub yb ya wq.drew) Q)) := KA.of (below_drewN hK1.2 _)
          refine ⟨hK2, ?_⟩
          refine wpAnyH_all (rs := [12]) (by kernel_rfl) (by simp) ?_
          intro iz hi
          obtain rfl : iz = 12 := by simpa using hi
          clear hi
          refine op_val (d := 10) (v := .float .f64 (fres .mul (fres .sub yb ya wq.drew) Q (wq.drew.drewN (fnn .sub yb ya)))) (w' := ((wq.drew.drewN (fnn .sub yb ya)).drewN (fnn .mul (fres .sub yb ya wq.drew) Q))) rfl rfl rfl (by go_simp; try rfl) ?_
          simp only [Act.put, List.setIfInBounds_toArray, List.set_cons_zero, List.set_cons_succ]
          refine ⟨hK2, wpAnyH_done (by kernel_rfl) (NoPanic.normal ?_) _⟩
          obtain ⟨R, hR⟩ : ∃ R, R = fres .mul (fres .sub yb ya wq.drew) Q (wq.drew.drewN (fnn .sub yb ya)) := ⟨_, rfl⟩
          have HR : Hid (fv R = fop .mul (fop .sub (fv yb) (fv ya)) (fv Q)) := by unfold Hid; rw [hR, fv_fres, fv_fres]
          rw [← hR]
          clear hR hK1 hK2 hS
          have HZ : Hid (∀ W, fv (fres .add ya R W) = trW xs ys x) := fun W => by rw [fv_fres, HR.out, HQ.out, HVW.out.2, trV, HYD.out.1, HYD.out.2.1, HYD.out.2.2.1, HYD.out.2.2.2]
          go_wp2
          try simp only [Exit.inBlock, Exit.then]
          refine bodyPost_ret (by simp [results, Try.results37, go_sem, q0, q1, q2, ql]; try rfl) rfl ⟨_, by rw [HVW.out.1], HZ.out _, ?_⟩
          have hb := HB3.out.1
          (repeat' (first | (with_reducible exact Below.refl _ _) | (with_reducible assumption) | (with_reducible refine Below.setCell ?_ ?_ _) | (with_reducible refine Below.alloc ?_ ?_ _) | (with_reducible refine below_drewN ?_ _) | (with_reducible refine Below.drew ?_) | (with_reducible exact Nat.le_refl _) | omega | (simp; done) | (simp; omega)))
        · refine op_val (d := 50) (v := .float .f64 (fres .sub xb xa wr.drew)) (w' := (wr.drew.drewN (fnn .sub xb xa))) rfl rfl rfl (by go_simp; try rfl) ?_
          simp only [Act.put, List.setIfInBounds_toArray, List.set_cons_zero, List.set_cons_succ]
          have hK1 : KA w.heap.size wr (wr.drew.drewN (fnn .sub xb xa)) := KA.of (below_drewN hS.2 _)
          refine ⟨hK1, ?_⟩
          refine wpAnyH_all (rs := [5]) (by kernel_rfl) (by simp) ?_
          intro iz hi
          obtain rfl : iz = 5 := by simpa using hi
          clear hi
          refine op_val (d := 40) (v := .float .f64 (fres .sub x xa (wr.drew.drewN (fnn .sub xb xa)))) (w' := ((wr.drew.drewN (fnn .sub xb xa)).drewN (fnn .sub x xa))) rfl rfl rfl (by go_simp; try rfl) ?_
          simp only [Act.put, List.setIfInBounds_toArray, List.set_cons_zero, List.set_cons_succ]
          have hK2 : KA w.heap.size wr ((wr.drew.drewN (fnn .sub xb xa)).drewN (fnn .sub x xa)) := KA.of (below_drewN hK1.2 _)
          refine ⟨hK2, ?_⟩
          refine wpAnyH_all (rs := [16]) (by kernel_rfl) (by simp) ?_
          intro iz hi
          obtain rfl : iz = 16 := by simpa using hi
          clear hi
          refine op_val (d := 51) (v := .float .f64 (fres .quo (fres .sub x xa (wr.drew.drewN (fnn .sub xb xa))) (fres .sub xb xa wr.drew) ((wr.drew.drewN (fnn .sub xb xa)).drewN (fnn .sub x xa)))) (w' := (((wr.drew.drewN (fnn .sub xb xa)).drewN (fnn .sub x xa)).drewN (fnn .quo (fres .sub x xa (wr.drew.drewN (fnn .sub xb xa))) (fres .sub xb xa wr.drew)))) rfl rfl rfl (by go_simp; try rfl) ?_
          simp only [Act.put, List.setIfInBounds_toArray, List.set_cons_zero, List.set_cons_succ]
          have hK3 : KA w.heap.size wr (((wr.drew.drewN (fnn .sub xb xa)).drewN (fnn .sub x xa)).drewN (fnn .quo (fres .sub x xa (wr.drew.drewN (fnn .sub xb xa))) (fres .sub xb xa wr.drew))) := KA.of (below_drewN hK2.2 _)
          refine ⟨hK3, ?_⟩
          refine wpAnyH_all (rs := [17]) (by kernel_rfl) (by simp) ?_
          intro iz hi
          obtain rfl : iz = 17 := by simpa using hi
          clear hi
          refine op_val (d := 9) (v := .float .f64 (fres .quo (fres .sub x xa (wr.drew.drewN (fnn .sub xb xa))) (fres .sub xb xa wr.drew) ((wr.drew.drewN (fnn .sub xb xa)).drewN (fnn .sub x xa)))) (w' := (((wr.drew.drewN (fnn .sub xb xa)).drewN (fnn .sub x xa)).drewN (fnn .quo (fres .sub x xa (wr.drew.drewN (fnn .sub xb xa))) (fres .sub xb xa wr.drew)))) rfl rfl rfl (by go_simp; try rfl) ?_
          simp only [Act.put, List.setIfInBounds_toArray, List.set_cons_zero, List.set_cons_succ]
          refine ⟨hK3, wpAnyH_done (by kernel_rfl) (NoPanic.normal ?_) _⟩
          obtain ⟨Q, hQ⟩ : ∃ Q, Q = fres .quo (fres .sub x xa (wr.drew.drewN (fnn .sub xb xa))) (fres .sub xb xa wr.drew) ((wr.drew.drewN (fnn .sub xb xa)).drewN (fnn .sub x xa)) := ⟨_, rfl⟩
          have HQ : Hid (fv Q = fop .quo (fop .sub (fv x) (fv xa)) (fop .sub (fv xb) (fv xa))) := by unfold Hid; rw [hQ, fv_fres, fv_fres, fv_fres]
          rw [← hQ]
          clear hQ
          have HBL : Below w.heap.size wr (((wr.drew.drewN (fnn .sub xb xa)).drewN (fnn .sub x xa)).drewN (fnn .quo (fres .sub x xa (wr.drew.drewN (fnn .sub xb xa))) (fres .sub xb xa wr.drew))) := hK3.2
          obtain ⟨wq, hwq⟩ : ∃ W, W = (((wr.drew.drewN (fnn .sub xb xa)).drewN (fnn .sub x xa)).drewN (fnn .quo (fres .sub x xa (wr.drew.drewN (fnn .sub xb xa))) (fres .sub xb xa wr.drew))) := ⟨_, rfl⟩
          have e0 : wq.heap = wr.heap := by rw [hwq]; rfl
          rw [← hwq] at HBL ⊢
          have HB3 : Hid (Below w.heap.size w wq ∧ wq.heap = wr.heap) := ⟨HBW.out.trans HBL, e0⟩
          clear hwq hK1 hK2 hK3 hS HBL e0 cx0 cx1
          have HRQ : wq.heap[w.heap.size]? = some (.cells #[.int .i64 0, .int .i64 0, .float .f64 0] 62) := by rw [HB3.out.2]; exact HRS.out
          obtain ⟨q0, q1, q2, f0, f1, f2, ql⟩ := three_q HRQ
          have cy0 : wq.cell? ⟨g2, p, none⟩ = some (.float .f64 ya) := by have := HYA.out; simp only [World.cell?, HB3.out.2] at this ⊢; exact this
          have cy1 : wq.cell? ⟨g2, p1, none⟩ = some (.float .f64 yb) := by have := HYB.out; simp only [World.cell?, HB3.out.2] at this ⊢; exact this
          clear HRQ
          go_wp2_with (fail)
          refine wp_region_holdsA (S := KA w.heap.size wq) (by kernel_rfl) (KA.of (Below.drew (Below.refl _ _))) (fun hS => ?_)
          refine fl_takeA (i := 0) (d := 52) (v := .slice (some ⟨g2, 0, none⟩) n n) rfl rfl rfl (by kernel_rfl) (by kernel_rfl) (by kernel_rfl) hS ?_ ?_
          · intro w' hk; unfold KA at hk; go_simp
          simp only [Act.put, List.setIfInBounds_toArray, List.set_cons_zero, List.set_cons_succ]
          refine fl_takeA (i := 1) (d := 53) (v := .int .i64 p) rfl rfl rfl (by kernel_rfl) (by kernel_rfl) (by kernel_rfl) hS ?_ ?_
          · intro w' hk; unfold KA at hk; go_simp
          simp only [Act.put, List.setIfInBounds_toArray, List.set_cons_zero, List.set_cons_succ]
          refine fl_takeA (i := 2) (d := 54) (v := .int .i64 p1) rfl rfl rfl (by kernel_rfl) (by kernel_rfl) (by kernel_rfl) hS ?_ ?_
          · intro w' hk; unfold KA at hk; go_simp
          simp only [Act.put, List.setIfInBounds_toArray, List.set_cons_zero, List.set_cons_succ]
          refine fl_takeA (i := 3) (d := 55) (v := .pointer (some ⟨g2, p1, none⟩)) rfl rfl rfl (by kernel_rfl) (by kernel_rfl) (by kernel_rfl) hS ?_ ?_
          · intro w' hk; unfold KA at hk; go_simp
          simp only [Act.put, List.setIfInBounds_toArray, List.set_cons_zero, List.set_cons_succ]
          refine fl_takeA (i := 4) (d := 56) (v := .float .f64 yb) rfl rfl rfl (by kernel_rfl) (by kernel_rfl) (by kernel_rfl) hS ?_ ?_
          · intro w' hk; unfold KA at hk; go_simp
          simp only [Act.put, List.setIfInBounds_toArray, List.set_cons_zero, List.set_cons_succ]
          refine fl_takeA (i := 5) (d := 57) (v := .slice (some ⟨g2, 0, none⟩) n n) rfl rfl rfl (by kernel_rfl) (by kernel_rfl) (by kernel_rfl) hS ?_ ?_
          · intro w' hk; unfold KA at hk; go_simp
          simp only [Act.put, List.setIfInBounds_toArray, List.set_cons_zero, List.set_cons_succ]
          refine fl_takeA (i := 6) (d := 58) (v := .int .i64 p) rfl rfl rfl (by kernel_rfl) (by kernel_rfl) (by kernel_rfl) hS ?_ ?_
          · intro w' hk; unfold KA at hk; go_simp
          simp only [Act.put, List.setIfInBounds_toArray, List.set_cons_zero, List.set_cons_succ]
          refine fl_takeA (i := 7) (d := 59) (v := .pointer (some ⟨g2, p, none⟩)) rfl rfl rfl (by kernel_rfl) (by kernel_rfl) (by kernel_rfl) hS ?_ ?_
          · intro w' hk; unfold KA at hk; go_simp
          simp only [Act.put, List.setIfInBounds_toArray, List.set_cons_zero, List.set_cons_succ]
          refine fl_takeA (i := 8) (d := 60) (v := .float .f64 ya) rfl rfl rfl (by kernel_rfl) (by kernel_rfl) (by kernel_rfl) hS ?_ ?_
          · intro w' hk; unfold KA at hk; go_simp
          simp only [Act.put, List.setIfInBounds_toArray, List.set_cons_zero, List.set_cons_succ]
          refine fl_takeA (i := 10) (d := 62) (v := .float .f64 Q) rfl rfl rfl (by kernel_rfl) (by kernel_rfl) (by kernel_rfl) hS ?_ ?_
          · intro w' hk; unfold KA at hk; go_simp
          simp only [Act.put, List.setIfInBounds_toArray, List.set_cons_zero, List.set_cons_succ]
          refine wpAnyH_all (rs := [9]) (by kernel_rfl) (by simp) ?_
          intro iz hi
          obtain rfl : iz = 9 := by simpa using hi
          clear hi
          refine op_val (d := 61) (v := .float .f64 (fres .sub yb ya wq.drew)) (w' := (wq.drew.drewN (fnn .sub yb ya))) rfl rfl rfl (by go_simp; try rfl) ?_
          simp only [Act.put, List.setIfInBounds_toArray, List.set_cons_zero, List.set_cons_succ]
          have hK1 : KA w.heap.size wq (wq.drew.drewN (fnn .sub yb ya)) := KA.of (below_drewN hS.2 _)
          refine ⟨hK1, ?_⟩
          refine wpAnyH_all (rs := [11]) (by kernel_rfl) (by simp) ?_
          intro iz hi
          obtain rfl : iz = 11 := by simpa using hi
          clear hi
          refine op_val (d := 63) (v := .float .f64 (fres .mul (fres .sub yb ya wq.drew) Q (wq.drew.drewN (fnn .sub yb ya)))) (w' := ((wq.drew.drewN (fnn .sub yb ya)).drewN (fnn .mul (fres .sub yb ya wq.drew) Q))) rfl rfl rfl (by go_simp; try rfl) ?_
          simp only [Act.put, List.setIfInBounds_toArray, List.set_cons_zero, List.set_cons_succ]
          have hK2 : KA w.heap.size wq ((wq.drew.drewN (fnn .sub yb ya)).drewN (fnn .mul (fres .sub yb ya wq.drew) Q)) := KA.of (below_drewN hK1.2 _)
          refine ⟨hK2, ?_⟩
          refine wpAnyH_all (rs := [12]) (by kernel_rfl) (by simp) ?_
          intro iz hi
          obtain rfl : iz = 12 := by simpa using hi
          clear hi
          refine op_val (d := 10) (v := .float .f64 (fres .mul (fres .sub yb ya wq.drew) Q (wq.drew.drewN (fnn .sub yb ya)))) (w' := ((wq.drew.drewN (fnn .sub yb ya)).drewN (fnn .mul (fres .sub yb ya wq.drew) Q))) rfl rfl rfl (by go_simp; try rfl) ?_
          simp only [Act.put, List.setIfInBounds_toArray, List.set_cons_zero, List.set_cons_succ]
          refine ⟨hK2, wpAnyH_done (by kernel_rfl) (NoPanic.normal ?_) _⟩
          obtain ⟨R, hR⟩ : ∃ R, R = fres .mul (fres .sub yb ya wq.drew) Q (wq.drew.drewN (fnn .sub yb ya)) := ⟨_, rfl⟩
          have HR : Hid (fv R = fop .mul (fop .sub (fv yb) (fv ya)) (fv Q)) := by unfold Hid; rw [hR, fv_fres, fv_fres]
          rw [← hR]
          clear hR hK1 hK2 hS
          have HZ : Hid (∀ W, fv (fres .add ya R W) = trW xs ys x) := fun W => by rw [fv_fres, HR.out, HQ.out, HVW.out.2, trV, HYD.out.1, HYD.out.2.1, HYD.out.2.2.1, HYD.out.2.2.2]
          go_wp2
          try simp only [Exit.inBlock, Exit.then]
          refine bodyPost_ret (by simp [results, Try.results37, go_sem, q0, q1, q2, ql]; try rfl) rfl ⟨_, by rw [HVW.out.1], HZ.out _, ?_⟩
          have hb := HB3.out.1
          (repeat' (first | (with_reducible exact Below.refl _ _) | (with_reducible assumption) | (with_reducible refine Below.setCell ?_ ?_ _) | (with_reducible refine Below.alloc ?_ ?_ _) | (with_reducible refine below_drewN ?_ _) | (with_reducible refine Below.drew ?_) | (with_reducible exact Nat.le_refl _) | omega | (simp; done) | (simp; omega)))
  · have HV : Hid (trN xs ys x = 0 ∧ trW xs ys x = some 0) := by
      refine ⟨?_, ?_⟩
      · rw [trN, ← HL.out.2.2, if_neg h0]
      · rw [trW, ← HL.out.2.2, if_neg h0]
    have hq0 : (C != 0) = true := by simpa using h0
    have HB : Hid (Below w.heap.size w W0) := HW0.out.1
    go_wp2
    try simp only [Exit.inBlock, Exit.then]
    refine bodyPost_ret (by simp [results, Try.results37, go_sem, q0, q1, q2, ql]; try rfl) rfl ⟨0, by rw [HV.out.1], by rw [HV.out.2]; decide, ?_⟩
    have hb := HB.out
    (repeat' (first | (with_reducible exact Below.refl _ _) | (with_reducible assumption) | (with_reducible refine Below.setCell ?_ ?_ _) | (with_reducible refine Below.alloc ?_ ?_ _) | (with_reducible refine below_drewN ?_ _) | (with_reducible refine Below.drew ?_) | (with_reducible exact Nat.le_refl _) | omega | (simp; done) | (simp; omega)))

end Go.Proofs.Ytgjdcdhdfhkfcaa
