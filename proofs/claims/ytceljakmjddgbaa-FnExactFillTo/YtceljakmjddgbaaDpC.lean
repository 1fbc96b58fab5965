/- Proved here: the closures of Deposit and FillTo. -/
import Derived.Test.YtceljakmjddgbaaDpM
import Derived.Test.YtceljakmjddgbaaInsC
import Derived.Test.YtceljakmjddgbaaScI
import Derived.Deep.AppendLies
namespace Go.Proofs.Ytceljakmjddgbaa
open Go.RowKit
set_option linter.unusedVariables false
set_option linter.unusedSimpArgs false

set_option maxRecDepth 10000 in
set_option maxHeartbeats 12800000 in
theorem impl_dep1 {W : World} {i : Nat} {ua : Option Addr} {un uc k1 k2 : Nat} {c : List Flm} {m t : Int} (hc : GC c) (hk1 : k1 < W.heap.size) (hk2 : k2 < W.heap.size) (h1 : W.cell? ⟨k1, 0, none⟩ = some (.int .i64 m)) (h2 : W.cell? ⟨k2, 0, none⟩ = some (.int .i64 t)) (h : RG 2 flC W (.slice ua un uc) c) :
    Calls Try.prog 74 #[.int .i64 i, .slice ua un uc, .pointer (some ⟨k1, 0, none⟩), .pointer (some ⟨k2, 0, none⟩)] W fun e w' => ∃ u, e = .returned u ∧ OG 124 1 layC w' W.heap.size u (whoL c ++ [.who m t]) ∧ Below W.heap.size W w' := by
  obtain ⟨n, hn⟩ : ∃ n, n = un := ⟨_, rfl⟩
  subst hn
  have HN : Hid (n = c.length) := h.len
  have hn24 : n ≤ 24 := by rw [h.len]; exact hc.len
  have HWH : Hid (∀ V, Below W.heap.size W V → Calls Try.prog 75 #[.slice ua n uc] V fun e w' => e = .returned (.slice (some ⟨V.heap.size, 0, none⟩) n n) ∧ OG 124 1 layC w' V.heap.size (.slice (some ⟨V.heap.size, 0, none⟩) n n) (whoL c) ∧ Below V.heap.size V w') := fun V hV => by
    rw [HN.out]; have := h.below hV; rw [HN.out] at this; exact impl_whole (Nat.le_trans hc.len (by omega)) this
  have HVW : Hid (Below W.heap.size W W) := Below.refl _ _
  clear h hc
  obtain ⟨i0, hi0, hz0, hz1, hz2⟩ := info_parts info_layer
  go_enter Try.func74, Try.ntmps74
  go_wp2_with (fail)

  refine wp_region_float (by kernel_rfl) (fun hS => ?_)
  refine fl_take (i := 0) (d := 7) (v := .slice ua n uc) rfl rfl rfl (by kernel_rfl) (by kernel_rfl) (by kernel_rfl) hS ?_ ?_
  · intro w' hk; go_simp
  simp only [Act.put, List.setIfInBounds_toArray, List.set_cons_zero, List.set_cons_succ]
  refine fl_take (i := 2) (d := 9) (v := .int .i64 m) rfl rfl rfl (by kernel_rfl) (by kernel_rfl) (by kernel_rfl) hS ?_ ?_
  · intro w' hk; go_simp
  simp only [Act.put, List.setIfInBounds_toArray, List.set_cons_zero, List.set_cons_succ]
  refine fl_take (i := 3) (d := 10) (v := .int .i64 t) rfl rfl rfl (by kernel_rfl) (by kernel_rfl) (by kernel_rfl) hS ?_ ?_
  · intro w' hk; go_simp
  simp only [Act.put, List.setIfInBounds_toArray, List.set_cons_zero, List.set_cons_succ]
  refine fl_take (i := 4) (d := 11) (v := .agg #[.int .i64 m, .int .i64 t]) rfl rfl rfl (by kernel_rfl) (by kernel_rfl) (by kernel_rfl) hS ?_ ?_
  · intro w' hk; go_simp
  simp only [Act.put, List.setIfInBounds_toArray, List.set_cons_zero, List.set_cons_succ]
  refine fl_take (i := 5) (d := 12) (v := .iface 86 (.agg #[.int .i64 m, .int .i64 t])) rfl rfl rfl (by kernel_rfl) (by kernel_rfl) (by kernel_rfl) hS ?_ ?_
  · intro w' hk; go_simp
  simp only [Act.put, List.setIfInBounds_toArray, List.set_cons_zero, List.set_cons_succ]
  refine wpAnyH_all (rs := [1, 6]) (by kernel_rfl) (by simp) ?_
  intro i hi
  rcases (by simpa using hi : i = 1 ∨ i = 6) with rfl | rfl
  · clear hi
    refine op_call (d := 8) rfl rfl rfl (by go_simp) ((HWH.out _ hS.2).mono ?_)
    rintro e y1 ⟨rfl, ho1, hb1⟩
    have hk1 : Below W.heap.size W y1 := hS.2.trans (hb1.mono hS.2.size)
    refine ⟨_, rfl, KS.of hk1, ?_⟩
    simp only [Act.put, List.setIfInBounds_toArray, List.set_cons_zero, List.set_cons_succ]
    refine wpAnyH_all (rs := [6]) (by kernel_rfl) (by simp) ?_
    intro i hi
    obtain rfl : i = 6 := by simpa using hi
    clear hi
    refine op_val (d := 13) (v := .slice (some ⟨y1.heap.size, 0, none⟩) 1 1) (w' := y1.alloc (.cells #[layV (.who m t)] 124)) rfl rfl rfl (by go_simp; try rfl) ?_
    simp only [Act.put, List.setIfInBounds_toArray, List.set_cons_zero, List.set_cons_succ]
    have hk2 : Below W.heap.size W (y1.alloc (.cells #[layV (.who m t)] 124)) := by have := hk1.size; (repeat' (first | (with_reducible exact Below.refl _ _) | (with_reducible assumption) | (with_reducible refine Below.setCell ?_ ?_ _) | (with_reducible refine Below.alloc ?_ ?_ _) | (with_reducible refine below_drewN ?_ _) | (with_reducible refine Below.drew ?_) | (with_reducible exact Nat.le_refl _) | omega | (simp; done) | (simp; omega)))
    have ho2 : (y1.alloc (.cells #[layV (.who m t)] 124)).ownsRow W.heap.size 124 1 (.slice (some ⟨W.drew.heap.size, 0, none⟩) n n) n ((whoL c).flatMap layC) := by
      have h1 : y1.ownsRow W.heap.size 124 1 (.slice (some ⟨W.drew.heap.size, 0, none⟩) n n) n ((whoL c).flatMap layC) := by unfold OG at ho1; rw [whoL_len, ← HN.out] at ho1; exact ho1
      exact World.ownsRow.alloc h1 _
    have hn2 := heap_alloc_new y1 (.cells #[layV (.who m t)] 124)
    have hsz2 : W.heap.size ≤ (y1.alloc (.cells #[layV (.who m t)] 124)).heap.size := hk2.size
    refine ⟨KS.of hk2, wpAnyH_all (rs := [7]) (by kernel_rfl) (by simp) ?_⟩
    intro i hi
    obtain rfl : i = 7 := by simpa using hi
    clear hi
    refine op_appA rfl rfl rfl _ _ 102 rfl W.heap.size 124 i0 .nilIface 1 16 Try.underlying102 hi0 hz0 hz1 hz2 rfl (by decide) (.slice (some ⟨W.drew.heap.size, 0, none⟩) n n) n ((whoL c).flatMap layC) rfl ho2 (some ⟨y1.heap.size, 0, none⟩) 1 1 [layV (.who m t)] rfl rfl (fun h => by cases h) (fun ad h => by injection h with h; subst h; exact World.news_of_block (cs := #[layV (.who m t)]) (t := 124) (fr := (0, 0)) hn2) (by simp [layV, Value.oneCell']) (by unfold maxLen; omega) (by omega) (by omega) ?_
    intro v5 w5 hown5 hgrow5
    simp only [Act.put, List.setIfInBounds_toArray, List.set_cons_zero, List.set_cons_succ]
    have hk5 : Below W.heap.size W w5 := hk2.grown hgrow5 hk2.size (fun q hq => by
      have e : W.drew.heap.size = q := by injection hq
      rw [← e]; exact Nat.le_refl _)
    refine ⟨KS.of hk5, wpAnyH_all (rs := [8]) (by kernel_rfl) (by simp) ?_⟩
    intro i hi
    obtain rfl : i = 8 := by simpa using hi
    clear hi
    refine op_val (d := 6) (v := v5) (w' := w5) rfl rfl rfl (by go_simp; try rfl) ?_
    simp only [Act.put, List.setIfInBounds_toArray, List.set_cons_zero, List.set_cons_succ]
    refine ⟨KS.of hk5, wpAnyH_done (by kernel_rfl) (NoPanic.normal ?_) _⟩
    have HF : Hid (OG 124 1 layC w5 W.heap.size v5 (whoL c ++ [.who m t]) ∧ Below W.heap.size W w5) := by
      refine ⟨?_, HVW.out.trans (hk5.mono HVW.out.size)⟩
      unfold OG
      rw [List.flatMap_append, List.length_append, whoL_len, ← HN.out]
      exact rowLow hown5 HVW.out.size
    go_wp2
    go_returns
    exact ⟨v5, rfl, HF.out.1, HF.out.2⟩
  · clear hi
    refine op_val (d := 13) (v := .slice (some ⟨W.drew.heap.size, 0, none⟩) 1 1) (w' := W.drew.alloc (.cells #[layV (.who m t)] 124)) rfl rfl rfl (by go_simp; try rfl) ?_
    simp only [Act.put, List.setIfInBounds_toArray, List.set_cons_zero, List.set_cons_succ]
    have hn2 := heap_alloc_new W.drew (.cells #[layV (.who m t)] 124)
    obtain ⟨y0, hy0⟩ : ∃ y, y = W.drew.alloc (.cells #[layV (.who m t)] 124) := ⟨_, rfl⟩
    have hk0 : Below W.heap.size W y0 := by rw [hy0]; have := hS.2; (repeat' (first | (with_reducible exact Below.refl _ _) | (with_reducible assumption) | (with_reducible refine Below.setCell ?_ ?_ _) | (with_reducible refine Below.alloc ?_ ?_ _) | (with_reducible refine below_drewN ?_ _) | (with_reducible refine Below.drew ?_) | (with_reducible exact Nat.le_refl _) | omega | (simp; done) | (simp; omega)))
    rw [← hy0] at hn2 ⊢
    have hy0s : W.drew.heap.size < y0.heap.size := by rw [hy0]; simp
    clear hy0
    refine ⟨KS.of hk0, wpAnyH_all (rs := [1]) (by kernel_rfl) (by simp) ?_⟩
    intro i hi
    obtain rfl : i = 1 := by simpa using hi
    clear hi
    refine op_call (d := 8) rfl rfl rfl (by go_simp) ((HWH.out _ hk0).mono ?_)
    rintro e y1 ⟨rfl, ho1, hb1⟩
    have hk1 : Below W.heap.size W y1 := hk0.trans (hb1.mono hk0.size)
    have ho2 : y1.ownsRow W.heap.size 124 1 (.slice (some ⟨y0.heap.size, 0, none⟩) n n) n ((whoL c).flatMap layC) := by
      unfold OG at ho1; rw [whoL_len, ← HN.out] at ho1; exact rowLow ho1 hk0.size
    have hn3 : y1.heap[W.drew.heap.size]? = some (.cells #[layV (.who m t)] 124) := (hb1.block _ hy0s).trans hn2
    have hsz2 : W.heap.size ≤ y1.heap.size := hk1.size
    refine ⟨_, rfl, KS.of hk1, wpAnyH_all (rs := [7]) (by kernel_rfl) (by simp) ?_⟩
    simp only [Act.put, List.setIfInBounds_toArray, List.set_cons_zero, List.set_cons_succ]
    intro i hi
    obtain rfl : i = 7 := by simpa using hi
    clear hi
    refine op_appA rfl rfl rfl _ _ 102 rfl W.heap.size 124 i0 .nilIface 1 16 Try.underlying102 hi0 hz0 hz1 hz2 rfl (by decide) (.slice (some ⟨y0.heap.size, 0, none⟩) n n) n ((whoL c).flatMap layC) rfl ho2 (some ⟨W.drew.heap.size, 0, none⟩) 1 1 [layV (.who m t)] rfl rfl (fun h => by cases h) (fun ad h => by injection h with h; subst h; exact World.news_of_block (cs := #[layV (.who m t)]) (t := 124) (fr := (0, 0)) hn3) (by simp [layV, Value.oneCell']) (by unfold maxLen; omega) (by omega) (by omega) ?_
    intro v5 w5 hown5 hgrow5
    simp only [Act.put, List.setIfInBounds_toArray, List.set_cons_zero, List.set_cons_succ]
    have hk5 : Below W.heap.size W w5 := hk1.grown hgrow5 hk1.size (fun q hq => by
      have e : y0.heap.size = q := by injection hq
      rw [← e]; exact hk0.size)
    refine ⟨KS.of hk5, wpAnyH_all (rs := [8]) (by kernel_rfl) (by simp) ?_⟩
    intro i hi
    obtain rfl : i = 8 := by simpa using hi
    clear hi
    refine op_val (d := 6) (v := v5) (w' := w5) rfl rfl rfl (by go_simp; try rfl) ?_
    simp only [Act.put, List.setIfInBounds_toArray, List.set_cons_zero, List.set_cons_succ]
    refine ⟨KS.of hk5, wpAnyH_done (by kernel_rfl) (NoPanic.normal ?_) _⟩
    have HF : Hid (OG 124 1 layC w5 W.heap.size v5 (whoL c ++ [.who m t]) ∧ Below W.heap.size W w5) := by
      refine ⟨?_, HVW.out.trans (hk5.mono HVW.out.size)⟩
      unfold OG
      rw [List.flatMap_append, List.length_append, whoL_len, ← HN.out]
      exact rowLow hown5 HVW.out.size
    go_wp2
    go_returns
    exact ⟨v5, rfl, HF.out.1, HF.out.2⟩

set_option maxRecDepth 10000 in
set_option maxHeartbeats 12800000 in
theorem impl_fill1 {W : World} {i : Nat} {ua : Option Addr} {un uc k1 k2 : Nat} {c : List Flm} {m lv : Int} (hc : GC c) (hk1 : k1 < W.heap.size) (hk2 : k2 < W.heap.size) (h1 : W.cell? ⟨k1, 0, none⟩ = some (.int .i64 lv)) (h2 : W.cell? ⟨k2, 0, none⟩ = some (.int .i64 m)) (hlv : 0 ≤ lv ∧ lv ≤ 100000) (h : RG 2 flC W (.slice ua un uc) c) :
    Calls Try.prog 78 #[.int .i64 i, .slice ua un uc, .pointer (some ⟨k1, 0, none⟩), .pointer (some ⟨k2, 0, none⟩)] W fun e w' => ∃ u, e = .returned u ∧ OG 124 1 layC w' W.heap.size u (whoL c ++ [.who m (fiT lv c)]) ∧ Below W.heap.size W w' := by
  obtain ⟨n, hn⟩ : ∃ n, n = un := ⟨_, rfl⟩
  subst hn
  have HN : Hid (n = c.length) := h.len
  have hn24 : n ≤ 24 := by rw [h.len]; exact hc.len
  obtain ⟨x, hx⟩ : ∃ x, x = fiT lv c := ⟨_, rfl⟩
  rw [← hx]
  obtain ⟨T, hT⟩ : ∃ T, T = topC c := ⟨_, rfl⟩
  have hT0 : 0 ≤ T ∧ T ≤ 100000 := by rw [hT]; exact hc.upto (Nat.le_refl _)
  have HX : Hid (x = if 0 < lv - T then lv - T else 0) := by rw [hx, hT]; rfl
  have HTH : Hid (∀ V, Below W.heap.size W V → Calls Try.prog 63 #[.slice ua n uc] V fun e w' => e = .returned (.int .i64 T) ∧ Below V.heap.size V w') := fun V hV => by
    rw [hT]; exact impl_thick hc.len (fun j hj => by have := hc.t hj; omega) (h.below hV)
  have HWH0 : Hid (∀ V, Below W.heap.size W V → Calls Try.prog 75 #[.slice ua n uc] V fun e w' => e = .returned (.slice (some ⟨V.heap.size, 0, none⟩) n n) ∧ OG 124 1 layC w' V.heap.size (.slice (some ⟨V.heap.size, 0, none⟩) n n) (whoL c) ∧ Below V.heap.size V w') := fun V hV => by
    rw [HN.out]; have := h.below hV; rw [HN.out] at this; exact impl_whole (Nat.le_trans hc.len (by omega)) this
  clear h hc hx hT
  obtain ⟨i0, hi0, hz0, hz1, hz2⟩ := info_parts info_layer
  have hsub : IntKind.i64.wrap (lv - T) = lv - T := by rw [IntKind.wrap_i64]; omega
  go_enter Try.func78, Try.ntmps78
  go_wp2_with (fail)
  refine wp_region_float (by kernel_rfl) (fun hS => ?_)
  refine fl_take (i := 0) (d := 8) (v := .int .i64 lv) rfl rfl rfl (by kernel_rfl) (by kernel_rfl) (by kernel_rfl) hS ?_ ?_
  · intro w' hk; go_simp
  simp only [Act.put, List.setIfInBounds_toArray, List.set_cons_zero, List.set_cons_succ]
  refine fl_take (i := 1) (d := 9) (v := .slice ua n uc) rfl rfl rfl (by kernel_rfl) (by kernel_rfl) (by kernel_rfl) hS ?_ ?_
  · intro w' hk; go_simp
  simp only [Act.put, List.setIfInBounds_toArray, List.set_cons_zero, List.set_cons_succ]
  refine wpAnyH_all (rs := [2]) (by kernel_rfl) (by simp) ?_
  intro i hi
  obtain rfl : i = 2 := by simpa using hi
  clear hi
  refine op_call (d := 10) rfl rfl rfl (by go_simp) ((HTH.out _ hS.2).mono ?_)
  rintro e V ⟨rfl, hbV⟩
  have hkV : Below W.heap.size W V := hS.2.trans (hbV.mono hS.2.size)
  refine ⟨_, rfl, KS.of hkV, ?_⟩
  simp only [Act.put, List.setIfInBounds_toArray, List.set_cons_zero, List.set_cons_succ]
  refine wpAnyH_all (rs := [3]) (by kernel_rfl) (by simp) ?_
  intro i hi
  obtain rfl : i = 3 := by simpa using hi
  clear hi
  refine op_val (d := 11) (v := .int .i64 (lv - T)) (w' := V) rfl rfl rfl (by go_simp; try rw [hsub]) ?_
  simp only [Act.put, List.setIfInBounds_toArray, List.set_cons_zero, List.set_cons_succ]
  refine ⟨KS.of hkV, wpAnyH_all (rs := [4]) (by kernel_rfl) (by simp) ?_⟩
  intro i hi
  obtain rfl : i = 4 := by simpa using hi
  clear hi
  have hmax : (if (0 : Int) > lv - T then (0 : Int) else lv - T) = x := by
    rw [HX.out]
    by_cases h9 : 0 < lv - T
    · rw [if_pos h9, if_neg (by omega)]
    · rw [if_neg h9]
      by_cases h8 : (0 : Int) > lv - T
      · rw [if_pos h8]
      · rw [if_neg h8]; omega
  refine op_val (d := 12) (v := .int .i64 x) (w' := V) rfl rfl rfl (by rw [← hmax]; go_simp; try rfl) ?_
  simp only [Act.put, List.setIfInBounds_toArray, List.set_cons_zero, List.set_cons_succ]
  refine ⟨KS.of hkV, wpAnyH_all (rs := [5]) (by kernel_rfl) (by simp) ?_⟩
  intro i hi
  obtain rfl : i = 5 := by simpa using hi
  clear hi
  refine op_val (d := 7) (v := .int .i64 x) (w' := V) rfl rfl rfl (by go_simp; try rfl) ?_
  simp only [Act.put, List.setIfInBounds_toArray, List.set_cons_zero, List.set_cons_succ]
  refine ⟨KS.of hkV, wpAnyH_done (by kernel_rfl) (NoPanic.normal ?_) _⟩
  have h2' : V.cell? ⟨k2, 0, none⟩ = some (.int .i64 m) := (hkV.cell (p := ⟨k2, 0, none⟩) hk2).trans h2
  have hk2' : k2 < V.heap.size := Nat.lt_of_lt_of_le hk2 hkV.size
  have HVW : Hid (Below W.heap.size W V) := hkV
  have HWH : Hid (∀ V', Below V.heap.size V V' → Calls Try.prog 75 #[.slice ua n uc] V' fun e w' => e = .returned (.slice (some ⟨V'.heap.size, 0, none⟩) n n) ∧ OG 124 1 layC w' V'.heap.size (.slice (some ⟨V'.heap.size, 0, none⟩) n n) (whoL c) ∧ Below V'.heap.size V' w') := fun V' hV' => HWH0.out V' (HVW.out.trans (hV'.mono HVW.out.size))
  clear HWH0 HTH hmax hkV hbV hS h1 h2 hk1 hk2
  go_wp2_with (fail)
  refine wp_region_float (by kernel_rfl) (fun hS => ?_)
  refine fl_take (i := 0) (d := 13) (v := .slice ua n uc) rfl rfl rfl (by kernel_rfl) (by kernel_rfl) (by kernel_rfl) hS ?_ ?_
  · intro w' hk; go_simp
  simp only [Act.put, List.setIfInBounds_toArray, List.set_cons_zero, List.set_cons_succ]
  refine fl_take (i := 2) (d := 15) (v := .int .i64 m) rfl rfl rfl (by kernel_rfl) (by kernel_rfl) (by kernel_rfl) hS ?_ ?_
  · intro w' hk; go_simp
  simp only [Act.put, List.setIfInBounds_toArray, List.set_cons_zero, List.set_cons_succ]
  refine fl_take (i := 3) (d := 16) (v := .int .i64 x) rfl rfl rfl (by kernel_rfl) (by kernel_rfl) (by kernel_rfl) hS ?_ ?_
  · intro w' hk; go_simp
  simp only [Act.put, List.setIfInBounds_toArray, List.set_cons_zero, List.set_cons_succ]
  refine fl_take (i := 4) (d := 17) (v := .agg #[.int .i64 m, .int .i64 x]) rfl rfl rfl (by kernel_rfl) (by kernel_rfl) (by kernel_rfl) hS ?_ ?_
  · intro w' hk; go_simp
  simp only [Act.put, List.setIfInBounds_toArray, List.set_cons_zero, List.set_cons_succ]
  refine fl_take (i := 5) (d := 18) (v := .iface 86 (.agg #[.int .i64 m, .int .i64 x])) rfl rfl rfl (by kernel_rfl) (by kernel_rfl) (by kernel_rfl) hS ?_ ?_
  · intro w' hk; go_simp
  simp only [Act.put, List.setIfInBounds_toArray, List.set_cons_zero, List.set_cons_succ]
  refine wpAnyH_all (rs := [1, 6]) (by kernel_rfl) (by simp) ?_
  intro i hi
  rcases (by simpa using hi : i = 1 ∨ i = 6) with rfl | rfl
  · clear hi
    refine op_call (d := 14) rfl rfl rfl (by go_simp) ((HWH.out _ hS.2).mono ?_)
    rintro e y1 ⟨rfl, ho1, hb1⟩
    have hk1 : Below V.heap.size V y1 := hS.2.trans (hb1.mono hS.2.size)
    refine ⟨_, rfl, KS.of hk1, ?_⟩
    simp only [Act.put, List.setIfInBounds_toArray, List.set_cons_zero, List.set_cons_succ]
    refine wpAnyH_all (rs := [6]) (by kernel_rfl) (by simp) ?_
    intro i hi
    obtain rfl : i = 6 := by simpa using hi
    clear hi
    refine op_val (d := 19) (v := .slice (some ⟨y1.heap.size, 0, none⟩) 1 1) (w' := y1.alloc (.cells #[layV (.who m x)] 124)) rfl rfl rfl (by go_simp; try rfl) ?_
    simp only [Act.put, List.setIfInBounds_toArray, List.set_cons_zero, List.set_cons_succ]
    have hk2 : Below V.heap.size V (y1.alloc (.cells #[layV (.who m x)] 124)) := by have := hk1.size; (repeat' (first | (with_reducible exact Below.refl _ _) | (with_reducible assumption) | (with_reducible refine Below.setCell ?_ ?_ _) | (with_reducible refine Below.alloc ?_ ?_ _) | (with_reducible refine below_drewN ?_ _) | (with_reducible refine Below.drew ?_) | (with_reducible exact Nat.le_refl _) | omega | (simp; done) | (simp; omega)))
    have ho2 : (y1.alloc (.cells #[layV (.who m x)] 124)).ownsRow V.heap.size 124 1 (.slice (some ⟨V.drew.heap.size, 0, none⟩) n n) n ((whoL c).flatMap layC) := by
      have h1 : y1.ownsRow V.heap.size 124 1 (.slice (some ⟨V.drew.heap.size, 0, none⟩) n n) n ((whoL c).flatMap layC) := by unfold OG at ho1; rw [whoL_len, ← HN.out] at ho1; exact ho1
      exact World.ownsRow.alloc h1 _
    have hn2 := heap_alloc_new y1 (.cells #[layV (.who m x)] 124)
    have hsz2 : V.heap.size ≤ (y1.alloc (.cells #[layV (.who m x)] 124)).heap.size := hk2.size
    refine ⟨KS.of hk2, wpAnyH_all (rs := [7]) (by kernel_rfl) (by simp) ?_⟩
    intro i hi
    obtain rfl : i = 7 := by simpa using hi
    clear hi
    refine op_appA rfl rfl rfl _ _ 102 rfl V.heap.size 124 i0 .nilIface 1 16 Try.underlying102 hi0 hz0 hz1 hz2 rfl (by decide) (.slice (some ⟨V.drew.heap.size, 0, none⟩) n n) n ((whoL c).flatMap layC) rfl ho2 (some ⟨y1.heap.size, 0, none⟩) 1 1 [layV (.who m x)] rfl rfl (fun h => by cases h) (fun ad h => by injection h with h; subst h; exact World.news_of_block (cs := #[layV (.who m x)]) (t := 124) (fr := (0, 0)) hn2) (by simp [layV, Value.oneCell']) (by unfold maxLen; omega) (by omega) (by omega) ?_
    intro v5 w5 hown5 hgrow5
    simp only [Act.put, List.setIfInBounds_toArray, List.set_cons_zero, List.set_cons_succ]
    have hk5 : Below V.heap.size V w5 := hk2.grown hgrow5 hk2.size (fun q hq => by
      have e : V.drew.heap.size = q := by injection hq
      rw [← e]; exact Nat.le_refl _)
    refine ⟨KS.of hk5, wpAnyH_all (rs := [8]) (by kernel_rfl) (by simp) ?_⟩
    intro i hi
    obtain rfl : i = 8 := by simpa using hi
    clear hi
    refine op_val (d := 6) (v := v5) (w' := w5) rfl rfl rfl (by go_simp; try rfl) ?_
    simp only [Act.put, List.setIfInBounds_toArray, List.set_cons_zero, List.set_cons_succ]
    refine ⟨KS.of hk5, wpAnyH_done (by kernel_rfl) (NoPanic.normal ?_) _⟩
    have HF : Hid (OG 124 1 layC w5 W.heap.size v5 (whoL c ++ [.who m x]) ∧ Below W.heap.size W w5) := by
      refine ⟨?_, HVW.out.trans (hk5.mono HVW.out.size)⟩
      unfold OG
      rw [List.flatMap_append, List.length_append, whoL_len, ← HN.out]
      exact rowLow hown5 HVW.out.size
    go_wp2
    go_returns
    exact ⟨v5, rfl, HF.out.1, HF.out.2⟩
  · clear hi
    refine op_val (d := 19) (v := .slice (some ⟨V.drew.heap.size, 0, none⟩) 1 1) (w' := V.drew.alloc (.cells #[layV (.who m x)] 124)) rfl rfl rfl (by go_simp; try rfl) ?_
    simp only [Act.put, List.setIfInBounds_toArray, List.set_cons_zero, List.set_cons_succ]
    have hn2 := heap_alloc_new V.drew (.cells #[layV (.who m x)] 124)
    obtain ⟨y0, hy0⟩ : ∃ y, y = V.drew.alloc (.cells #[layV (.who m x)] 124) := ⟨_, rfl⟩
    have hk0 : Below V.heap.size V y0 := by rw [hy0]; have := hS.2; (repeat' (first | (with_reducible exact Below.refl _ _) | (with_reducible assumption) | (with_reducible refine Below.setCell ?_ ?_ _) | (with_reducible refine Below.alloc ?_ ?_ _) | (with_reducible refine below_drewN ?_ _) | (with_reducible refine Below.drew ?_) | (with_reducible exact Nat.le_refl _) | omega | (simp; done) | (simp; omega)))
    rw [← hy0] at hn2 ⊢
    have hy0s : V.drew.heap.size < y0.heap.size := by rw [hy0]; simp
    clear hy0
    refine ⟨KS.of hk0, wpAnyH_all (rs := [1]) (by kernel_rfl) (by simp) ?_⟩
    intro i hi
    obtain rfl : i = 1 := by simpa using hi
    clear hi
    refine op_call (d := 14) rfl rfl rfl (by go_simp) ((HWH.out _ hk0).mono ?_)
    rintro e y1 ⟨rfl, ho1, hb1⟩
    have hk1 : Below V.heap.size V y1 := hk0.trans (hb1.mono hk0.size)
    have ho2 : y1.ownsRow V.heap.size 124 1 (.slice (some ⟨y0.heap.size, 0, none⟩) n n) n ((whoL c).flatMap layC) := by
      unfold OG at ho1; rw [whoL_len, ← HN.out] at ho1; exact rowLow ho1 hk0.size
    have hn3 : y1.heap[V.drew.heap.size]? = some (.cells #[layV (.who m x)] 124) := (hb1.block _ hy0s).trans hn2
    have hsz2 : V.heap.size ≤ y1.heap.size := hk1.size
    refine ⟨_, rfl, KS.of hk1, wpAnyH_all (rs := [7]) (by kernel_rfl) (by simp) ?_⟩
    simp only [Act.put, List.setIfInBounds_toArray, List.set_cons_zero, List.set_cons_succ]
    intro i hi
    obtain rfl : i = 7 := by simpa using hi
    clear hi
    refine op_appA rfl rfl rfl _ _ 102 rfl V.heap.size 124 i0 .nilIface 1 16 Try.underlying102 hi0 hz0 hz1 hz2 rfl (by decide) (.slice (some ⟨y0.heap.size, 0, none⟩) n n) n ((whoL c).flatMap layC) rfl ho2 (some ⟨V.drew.heap.size, 0, none⟩) 1 1 [layV (.who m x)] rfl rfl (fun h => by cases h) (fun ad h => by injection h with h; subst h; exact World.news_of_block (cs := #[layV (.who m x)]) (t := 124) (fr := (0, 0)) hn3) (by simp [layV, Value.oneCell']) (by unfold maxLen; omega) (by omega) (by omega) ?_
    intro v5 w5 hown5 hgrow5
    simp only [Act.put, List.setIfInBounds_toArray, List.set_cons_zero, List.set_cons_succ]
    have hk5 : Below V.heap.size V w5 := hk1.grown hgrow5 hk1.size (fun q hq => by
      have e : y0.heap.size = q := by injection hq
      rw [← e]; exact hk0.size)
    refine ⟨KS.of hk5, wpAnyH_all (rs := [8]) (by kernel_rfl) (by simp) ?_⟩
    intro i hi
    obtain rfl : i = 8 := by simpa using hi
    clear hi
    refine op_val (d := 6) (v := v5) (w' := w5) rfl rfl rfl (by go_simp; try rfl) ?_
    simp only [Act.put, List.setIfInBounds_toArray, List.set_cons_zero, List.set_cons_succ]
    refine ⟨KS.of hk5, wpAnyH_done (by kernel_rfl) (NoPanic.normal ?_) _⟩
    have HF : Hid (OG 124 1 layC w5 W.heap.size v5 (whoL c ++ [.who m x]) ∧ Below W.heap.size W w5) := by
      refine ⟨?_, HVW.out.trans (hk5.mono HVW.out.size)⟩
      unfold OG
      rw [List.flatMap_append, List.length_append, whoL_len, ← HN.out]
      exact rowLow hown5 HVW.out.size
    go_wp2
    go_returns
    exact ⟨v5, rfl, HF.out.1, HF.out.2⟩

end Go.Proofs.Ytceljakmjddgbaa
