/- Proved here: differences of books, of the model. -/
import Derived.Test.YtceljakmjddgbabLsB
import Derived.Test.YtceljakmjddgbabFiO
import Derived.Test.YtceljakmjddgbabLwS
import Derived.Deep.AppendLies
namespace Go.Proofs.Ytceljakmjddgbab
open Go.RowKit
set_option linter.unusedVariables false
set_option linter.unusedSimpArgs false

theorem is_lit12 (w : World) (B : Nat) (hB : B ≤ w.heap.size) : IS (w.alloc (.cells #[] 2)) B (.slice (some ⟨w.heap.size, 0, none⟩) 0 0) [] :=
  World.ownsRow_lit w #[] 0 hB (by decide) (by simp)

set_option maxRecDepth 10000 in
set_option maxHeartbeats 12800000 in
theorem spec_less12 {w : World} {B1 B2 g1 g2 : Nat} {xs ys : List Int} (hx : BM 1000000000 xs) (hy : BM 1000000000 ys) (h1 : IS w B1 (.slice (some ⟨g1, 0, none⟩) 12 12) xs) (h2 : IS w B2 (.slice (some ⟨g2, 0, none⟩) 12 12) ys) :
    Calls Try.prog 71 #[.slice (some ⟨g1, 0, none⟩) 12 12, .slice (some ⟨g2, 0, none⟩) 12 12] w fun e w' => ∃ a c, e = .returned (.slice a 12 c) ∧ IS w' w.heap.size (.slice a 12 c) (lsL xs ys) ∧ Below w.heap.size w w' := by
  obtain ⟨i0, hi0, hz0, hz1, hz2⟩ := info_parts info_i64
  have HX : Hid (BM 1000000000 xs ∧ BM 1000000000 ys ∧ IS w B1 (.slice (some ⟨g1, 0, none⟩) 12 12) xs ∧ IS w B2 (.slice (some ⟨g2, 0, none⟩) 12 12) ys ∧ (lsL xs ys).length = 12) := ⟨hx, hy, h1, h2, by rw [lsL_len]; exact hx.len⟩
  clear hx hy h1 h2
  go_enter Try.func71, Try.ntmps71
  go_wp2
  have HS : Hid (IS (w.alloc (.cells #[] 2)) w.heap.size (.slice (some ⟨w.heap.size, 0, none⟩) 0 0) ((lsL xs ys).take 0) ∧ Below w.heap.size w (w.alloc (.cells #[] 2))) := ⟨by rw [List.take_zero]; exact is_lit12 w _ (Nat.le_refl _), by (repeat' (first | (with_reducible exact Below.refl _ _) | (with_reducible assumption) | (with_reducible refine Below.setCell ?_ ?_ _) | (with_reducible refine Below.alloc ?_ ?_ _) | (with_reducible refine below_drewN ?_ _) | (with_reducible refine Below.drew ?_) | (with_reducible exact Nat.le_refl _) | omega | (simp; done) | (simp; omega)))⟩
  go_loopw [5, 6] (fun q i wr => ∃ (j : Nat) (oa : Option Addr) (oc : Nat), j ≤ 12 ∧ i = .int .i64 j ∧ q = .slice oa j oc ∧ Hid (IS wr w.heap.size (.slice oa j oc) ((lsL xs ys).take j) ∧ Below w.heap.size w wr)) (fun _ i _ => 12 - (intOf i).toNat)
  case atStart => exact ⟨0, _, _, Nat.zero_le _, rfl, rfl, HS.out⟩
  case round =>
    clear HS
    obtain ⟨j, oa, oc, hjn, rfl, rfl, hR⟩ := hrel
    have HTL : Hid (((lsL xs ys).take j).length = j) := by unfold Hid; rw [List.length_take, HX.out.2.2.2.2]; omega
    by_cases hlt : j < 12
    · obtain ⟨c1, _, l1⟩ := HX.out.2.2.1.bookAt HX.out.1.len hlt
      obtain ⟨c2, _, l2⟩ := HX.out.2.2.2.1.bookAt HX.out.2.1.len hlt
      obtain ⟨x, hx⟩ : ∃ x, x = xs.getD j 0 := ⟨_, rfl⟩
      obtain ⟨y, hy⟩ : ∃ y, y = ys.getD j 0 := ⟨_, rfl⟩
      have hx0 := HX.out.1.lo j
      have hx1 := HX.out.1.hi j
      have hy0 := HX.out.2.1.lo j
      have hy1 := HX.out.2.1.hi j
      rw [← hx] at c1 hx0 hx1
      rw [← hy] at c2 hy0 hy1
      have d1 : wr.cell? ⟨g1, j, none⟩ = some (.int .i64 x) := (hR.out.2.cell (p := ⟨g1, j, none⟩) l1).trans c1
      have d2 : wr.cell? ⟨g2, j, none⟩ = some (.int .i64 y) := (hR.out.2.cell (p := ⟨g2, j, none⟩) l2).trans c2
      have m1 : g1 < wr.heap.size := Nat.lt_of_lt_of_le l1 hR.out.2.size
      have m2 : g2 < wr.heap.size := Nat.lt_of_lt_of_le l2 hR.out.2.size
      have HNX : Hid ((lsL xs ys).take (j + 1) = (lsL xs ys).take j ++ [x - y]) := by
        have hjl : j < (lsL xs ys).length := by rw [HX.out.2.2.2.2]; exact hlt
        unfold Hid
        rw [List.take_succ_eq_append_getElem hjl]
        simp [lsL, hx, hy]
      have HR : Hid (IS wr w.heap.size (.slice oa j oc) ((lsL xs ys).take j) ∧ Below w.heap.size w wr) := hR.out
      have hsub : IntKind.i64.wrap (x - y) = x - y := by rw [IntKind.wrap_i64]; omega
      clear hR c1 c2 hx hy
      have b0 : (0 : Int) ≤ (j : Int) := by omega
      have b1 : (j : Int) < 12 := by omega
      go_wp2_with (fail)
      refine wp_region_holdsA (S := KA w.heap.size wr) (by kernel_rfl) (KA.of ((Below.refl _ _).drew)) (fun hS => ?_)
      refine fl_takeA (i := 0) (d := 14) (v := .slice oa j oc) rfl rfl rfl (by kernel_rfl) (by kernel_rfl) (by kernel_rfl) hS ?_ ?_
      · intro w' hk; unfold KA at hk; go_simp
      simp only [Act.put, List.setIfInBounds_toArray, List.set_cons_zero, List.set_cons_succ]
      refine fl_takeA (i := 1) (d := 15) (v := .slice (some ⟨g1, 0, none⟩) 12 12) rfl rfl rfl (by kernel_rfl) (by kernel_rfl) (by kernel_rfl) hS ?_ ?_
      · intro w' hk; unfold KA at hk; go_simp
      simp only [Act.put, List.setIfInBounds_toArray, List.set_cons_zero, List.set_cons_succ]
      refine fl_takeA (i := 2) (d := 16) (v := .int .i64 j) rfl rfl rfl (by kernel_rfl) (by kernel_rfl) (by kernel_rfl) hS ?_ ?_
      · intro w' hk; unfold KA at hk; go_simp
      simp only [Act.put, List.setIfInBounds_toArray, List.set_cons_zero, List.set_cons_succ]
      refine fl_takeA (i := 3) (d := 17) (v := .pointer (some ⟨g1, j, none⟩)) rfl rfl rfl (by kernel_rfl) (by kernel_rfl) (by kernel_rfl) hS ?_ ?_
      · intro w' hk; unfold KA at hk; go_simp
      simp only [Act.put, List.setIfInBounds_toArray, List.set_cons_zero, List.set_cons_succ]
      refine fl_takeA (i := 4) (d := 18) (v := .int .i64 x) rfl rfl rfl (by kernel_rfl) (by kernel_rfl) (by kernel_rfl) hS ?_ ?_
      · intro w' hk; unfold KA at hk; go_simp
      simp only [Act.put, List.setIfInBounds_toArray, List.set_cons_zero, List.set_cons_succ]
      refine fl_takeA (i := 5) (d := 19) (v := .slice (some ⟨g2, 0, none⟩) 12 12) rfl rfl rfl (by kernel_rfl) (by kernel_rfl) (by kernel_rfl) hS ?_ ?_
      · intro w' hk; unfold KA at hk; go_simp
      simp only [Act.put, List.setIfInBounds_toArray, List.set_cons_zero, List.set_cons_succ]
      refine fl_takeA (i := 6) (d := 20) (v := .int .i64 j) rfl rfl rfl (by kernel_rfl) (by kernel_rfl) (by kernel_rfl) hS ?_ ?_
      · intro w' hk; unfold KA at hk; go_simp
      simp only [Act.put, List.setIfInBounds_toArray, List.set_cons_zero, List.set_cons_succ]
      refine fl_takeA (i := 7) (d := 21) (v := .pointer (some ⟨g2, j, none⟩)) rfl rfl rfl (by kernel_rfl) (by kernel_rfl) (by kernel_rfl) hS ?_ ?_
      · intro w' hk; unfold KA at hk; go_simp
      simp only [Act.put, List.setIfInBounds_toArray, List.set_cons_zero, List.set_cons_succ]
      refine fl_takeA (i := 8) (d := 22) (v := .int .i64 y) rfl rfl rfl (by kernel_rfl) (by kernel_rfl) (by kernel_rfl) hS ?_ ?_
      · intro w' hk; unfold KA at hk; go_simp
      simp only [Act.put, List.setIfInBounds_toArray, List.set_cons_zero, List.set_cons_succ]
      refine fl_takeA (i := 9) (d := 23) (v := .int .i64 (x - y)) rfl rfl rfl (by kernel_rfl) (by kernel_rfl) (by kernel_rfl) hS ?_ ?_
      · intro w' hk; go_simp; try rw [hsub]
      simp only [Act.put, List.setIfInBounds_toArray, List.set_cons_zero, List.set_cons_succ]
      refine wpAnyH_all (rs := [10]) (by kernel_rfl) (by simp) ?_
      intro i hi
      obtain rfl : i = 10 := by simpa using hi
      clear hi
      refine op_val (d := 24) (v := .slice (some ⟨wr.drew.heap.size, 0, none⟩) 1 1) (w' := wr.drew.alloc (.cells #[.int .i64 (x - y)] 2)) rfl rfl rfl (by go_simp; try rfl) ?_
      simp only [Act.put, List.setIfInBounds_toArray, List.set_cons_zero, List.set_cons_succ]
      have hn2 := heap_alloc_new wr.drew (.cells #[.int .i64 (x - y)] 2)
      have hb2 : Below wr.heap.size wr (wr.drew.alloc (.cells #[.int .i64 (x - y)] 2)) := by have := (Below.refl wr.heap.size wr).drew; (repeat' (first | (with_reducible exact Below.refl _ _) | (with_reducible assumption) | (with_reducible refine Below.setCell ?_ ?_ _) | (with_reducible refine Below.alloc ?_ ?_ _) | (with_reducible refine below_drewN ?_ _) | (with_reducible refine Below.drew ?_) | (with_reducible exact Nat.le_refl _) | omega | (simp; done) | (simp; omega)))
      have ho2 : (wr.drew.alloc (.cells #[.int .i64 (x - y)] 2)).ownsRow w.heap.size 2 1 (.slice oa j oc) j (((lsL xs ys).take j).map (Value.int .i64)) := by
        have h9 := IS.kept HR.out.1 (fun q hq => hb2.block q (World.ownsRow.lt HR.out.1 q hq).2)
        unfold IS at h9
        rw [HTL.out] at h9
        exact h9
      refine ⟨KA.of (hb2.mono HR.out.2.size), wpAnyH_all (rs := [11]) (by kernel_rfl) (by simp) ?_⟩
      intro i hi
      obtain rfl : i = 11 := by simpa using hi
      clear hi
      refine op_appA rfl rfl rfl _ _ 25 rfl w.heap.size 2 i0 (.int .i64 0) 1 8 Try.underlying25 hi0 hz0 hz1 hz2 rfl (by decide) (.slice oa j oc) j (((lsL xs ys).take j).map (Value.int .i64)) rfl ho2 (some ⟨wr.drew.heap.size, 0, none⟩) 1 1 [.int .i64 (x - y)] rfl rfl (fun h => by cases h) (fun ad h => by injection h with h; subst h; exact World.news_of_block (cs := #[.int .i64 (x - y)]) (t := 2) (fr := (0, 0)) hn2) (by simp [Value.oneCell']) (by unfold maxLen; omega) (by omega) (Nat.le_trans HR.out.2.size hb2.size) ?_
      intro v5 w5 hown5 hgrow5
      simp only [Act.put, List.setIfInBounds_toArray, List.set_cons_zero, List.set_cons_succ]
      have hb5 : Below w.heap.size wr w5 := (hb2.mono HR.out.2.size).grown hgrow5 (Nat.le_trans HR.out.2.size hb2.size) (fun q hq => (World.ownsRow.lt ho2 q hq).1)
      have R : Hid (∃ na nc, v5 = .slice na (j + 1) nc ∧ IS w5 w.heap.size (.slice na (j + 1) nc) ((lsL xs ys).take (j + 1)) ∧ Below w.heap.size w w5) := by
        have h9 : IS w5 w.heap.size v5 ((lsL xs ys).take (j + 1)) := by
          rw [HNX.out]; unfold IS; rw [List.length_append, HTL.out, List.map_append]; exact hown5
        obtain ⟨na, nc, e⟩ := h9.form
        rw [HNX.out, List.length_append, HTL.out] at e
        have e' : v5 = .slice na (j + 1) nc := e
        rw [e'] at h9
        exact ⟨na, nc, e', h9, HR.out.2.trans hb5⟩
      refine ⟨KA.of hb5, wpAnyH_all (rs := [12]) (by kernel_rfl) (by simp) ?_⟩
      intro i hi
      obtain rfl : i = 12 := by simpa using hi
      clear hi
      refine op_val (d := 5) (v := v5) (w' := w5) rfl rfl rfl (by go_simp; try rfl) ?_
      simp only [Act.put, List.setIfInBounds_toArray, List.set_cons_zero, List.set_cons_succ]
      refine ⟨KA.of hb5, wpAnyH_done (by kernel_rfl) (NoPanic.normal ?_) _⟩
      obtain ⟨na, nc, rfl, R2⟩ := R.out
      have R3 : Hid _ := R2
      clear R R2 hown5 hgrow5 hb5 ho2 hb2 hn2 hS d1 d2 m1 m2 l1 l2
      go_wp2
      go_roundw
      case rel => exact ⟨j + 1, na, nc, by omega, by go_num, rfl, R3.out⟩
      case measure => simp [intOf]; omega
    · have HD : Hid (IS wr w.heap.size (.slice oa 12 oc) (lsL xs ys) ∧ Below w.heap.size w wr) := by
        have h1 := hR.out
        rw [show j = 12 by omega, show (lsL xs ys).take 12 = lsL xs ys by rw [← HX.out.2.2.2.2]; exact List.take_length] at h1
        exact h1
      obtain rfl : j = 12 := by omega
      clear hR HTL
      go_wp2
      go_returns
      exact ⟨oa, oc, rfl, HD.out.1, HD.out.2⟩

end Go.Proofs.Ytceljakmjddgbab
