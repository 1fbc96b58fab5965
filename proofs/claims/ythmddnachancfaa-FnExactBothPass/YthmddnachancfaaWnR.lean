/- Proved here: the program's readers of grids: what each kind of map says of a place. -/
import Derived.Test.YthmddnachancfaaWnE
namespace Go.Proofs.Ythmddnachancfaa
open Go.RowKit
set_option linter.unusedVariables false
set_option linter.unusedSimpArgs false

set_option maxRecDepth 10000 in
set_option maxHeartbeats 3200000 in
theorem impl_isOne {w : World} {a oa : Option Addr} {n c on oc : Nat} {lo hi : Int} {ls : List (List Int)} (h : RdR w (.slice a n c) ls) {y x : Nat} (hm : n ≤ 1048576) (hy : y < n) (hx : x < (ls.getD y []).length) :
    Calls Try.prog 50 #[.agg #[.slice a n c, .slice oa on oc, .int .i64 lo, .int .i64 hi], .agg #[.int .i64 x, .int .i64 y]] w fun e w' => e = .returned (.bool (oneP ls y x)) ∧ Below w.heap.size w w' := by
  obtain ⟨g, o, ua, un, uc, rfl, hg, c0, hun, hrd⟩ := h.at hy
  obtain ⟨g2, o2, rfl, hg2, d0⟩ := rd_at hrd (show x < un by omega)
  have b0 : (0 : Int) ≤ (y : Int) := by omega
  have b1 : (y : Int) < (n : Int) := by omega
  have b2 : (0 : Int) ≤ (x : Int) := by omega
  have b3 : (x : Int) < (un : Int) := by omega
  obtain ⟨v, hv⟩ : ∃ v, v = (ls.getD y []).getD x 0 := ⟨_, rfl⟩
  rw [← hv] at d0
  have HV : Hid (oneP ls y x = (v == 1)) := by unfold Hid oneP at2; rw [hv]
  clear hv hrd h hun hx
  go_enter Try.func50, Try.ntmps50
  go_wp2_with (fail)
  obtain ⟨V, hV⟩ : ∃ V, V = (w.alloc (.cells #[.slice (some ⟨g, o, none⟩) n c, .slice oa on oc, .int .i64 lo, .int .i64 hi] 58)).alloc (.cells #[.int .i64 x, .int .i64 y] 61) := ⟨_, rfl⟩
  rw [← hV]
  obtain ⟨k0, k1, hb, hs⟩ := al2 hV
  have c1 := (hb.cell (p := ⟨g, o + y, none⟩) hg).trans c0
  have d1 := (hb.cell (p := ⟨g2, o2 + x, none⟩) hg2).trans d0
  have e0 := cellOf k0 0 rfl
  have l0 := ltOf k0
  obtain ⟨q0, q1, qf0, qf1, ql⟩ := two_of k1
  have hg' := Nat.lt_of_lt_of_le hg hb.size
  have hg2' := Nat.lt_of_lt_of_le hg2 hb.size
  have HB : Hid (Below w.heap.size w V) := hb
  clear hV k0 k1 hb hs c0 d0 hg hg2
  (refine wp_region_und (by kernel_rfl) (by kernel_rfl) (fun hund => ?_); (repeat (go_big_quiet_step (fail))); with_reducible refine wpQuiet_nil ?_; clear hund; intro W1 hb1; obtain ⟨hc1, hf1⟩ := undcell hb1)
  have HB1 : Hid (Below w.heap.size w W1) := HB.out.trans (hb1.mono HB.out.size)
  clear hb1 hc1 hf1
  go_wp2
  go_returns
  exact ⟨by rw [HV.out]; rfl, HB1.out⟩

set_option maxHeartbeats 1600000 in
theorem impl_flipped (x y : Nat) (w : World) :
    Calls Try.prog 60 #[.agg #[.int .i64 x, .int .i64 y]] w fun e w' => e = .returned (.agg #[.int .i64 y, .int .i64 x]) ∧ Below w.heap.size w w' := by
  go_enter Try.func60, Try.ntmps60
  go_wp2
  go_returns
  exact ⟨rfl, by (repeat' (first | (with_reducible exact Below.refl _ _) | (with_reducible assumption) | (with_reducible refine Below.setCell ?_ ?_ _) | (with_reducible refine Below.alloc ?_ ?_ _) | (with_reducible refine below_drewN ?_ _) | (with_reducible refine Below.drew ?_) | (with_reducible exact Nat.le_refl _) | omega | (simp; done) | (simp; omega)))⟩

set_option maxRecDepth 10000 in
set_option maxHeartbeats 3200000 in
theorem impl_isOneFlipped {w : World} {a oa : Option Addr} {n c on oc : Nat} {lo hi : Int} {ls : List (List Int)} (h : RdR w (.slice a n c) ls) {y x : Nat} (hm : n ≤ 1048576) (hx : x < n) (hy : y < (ls.getD x []).length) :
    Calls Try.prog 61 #[.agg #[.slice a n c, .slice oa on oc, .int .i64 lo, .int .i64 hi], .agg #[.int .i64 x, .int .i64 y]] w fun e w' => e = .returned (.bool (oneP ls x y)) ∧ Below w.heap.size w w' := by
  have HF : Hid (∀ V, Calls Try.prog 60 #[.agg #[.int .i64 x, .int .i64 y]] V fun e w' => e = .returned (.agg #[.int .i64 y, .int .i64 x]) ∧ Below V.heap.size V w') := fun V => impl_flipped x y V
  obtain ⟨r, hr⟩ : ∃ r, r = oneP ls x y := ⟨_, rfl⟩
  have HO : Hid (∀ V, Below w.heap.size w V → Calls Try.prog 50 #[.agg #[.slice a n c, .slice oa on oc, .int .i64 lo, .int .i64 hi], .agg #[.int .i64 y, .int .i64 x]] V fun e w' => e = .returned (.bool r) ∧ Below V.heap.size V w') := fun V hV => by rw [hr]; exact impl_isOne (h.below hV) hm hx hy
  rw [← hr]
  clear h hr hm hx hy
  go_enter Try.func61, Try.ntmps61
  go_wp2_with (fail)
  obtain ⟨V, hV⟩ : ∃ V, V = (w.alloc (.cells #[.slice a n c, .slice oa on oc, .int .i64 lo, .int .i64 hi] 58)).alloc (.cells #[.int .i64 x, .int .i64 y] 61) := ⟨_, rfl⟩
  rw [← hV]
  obtain ⟨k0, k1, hb, hs⟩ := al2 hV
  have e0 : V.cell? ⟨w.heap.size, 0, none⟩ = some (.slice a n c) := cellOf k0 0 rfl
  have e1 : V.cell? ⟨w.heap.size, 1, none⟩ = some (.slice oa on oc) := cellOf k0 1 rfl
  have e2 : V.cell? ⟨w.heap.size, 2, none⟩ = some (.int .i64 lo) := cellOf k0 2 rfl
  have e3 : V.cell? ⟨w.heap.size, 3, none⟩ = some (.int .i64 hi) := cellOf k0 3 rfl
  have l0 := ltOf k0
  obtain ⟨q0, q1, qf0, qf1, ql⟩ := two_of k1
  have HB : Hid (Below w.heap.size w V) := hb
  have HO2 : Hid (∀ V', Below V.heap.size V V' → Calls Try.prog 50 #[.agg #[.slice a n c, .slice oa on oc, .int .i64 lo, .int .i64 hi], .agg #[.int .i64 y, .int .i64 x]] V' fun e w' => e = .returned (.bool r) ∧ Below V'.heap.size V' w') := fun V' hV' => HO.out V' (hb.trans (hV'.mono hb.size))
  clear hV k0 k1 hb hs HO
  (refine wp_region_und (by kernel_rfl) (by kernel_rfl) (fun hund => ?_); (repeat (go_big_quiet_step (first | (go_at_call 60; with_reducible refine und_call ?_ (HF.out _); exact Nat.le_refl _) | (go_at_call 50; with_reducible refine und_call ?_ (HO2.out _ (Und.below _)); exact Nat.le_refl _)))); with_reducible refine wpQuiet_nil ?_; clear hund; intro W1 hb1; obtain ⟨hc1, hf1⟩ := undcell hb1)
  have HB1 : Hid (Below w.heap.size w W1) := HB.out.trans (hb1.mono HB.out.size)
  clear hb1 hc1 hf1
  go_wp2
  go_returns
  exact ⟨rfl, HB1.out⟩

set_option maxRecDepth 10000 in
set_option maxHeartbeats 3200000 in
theorem impl_inLimits {w : World} {a oa : Option Addr} {n c on oc : Nat} {lo hi : Int} {ls : List (List Int)} (h : RdR w (.slice a n c) ls) {y x : Nat} (hm : n ≤ 1048576) (hy : y < n) (hx : x < (ls.getD y []).length) :
    Calls Try.prog 41 #[.agg #[.slice a n c, .slice oa on oc, .int .i64 lo, .int .i64 hi], .agg #[.int .i64 x, .int .i64 y]] w fun e w' => e = .returned (.bool (decide (lo ≤ at2 ls y x ∧ at2 ls y x ≤ hi))) ∧ Below w.heap.size w w' := by
  obtain ⟨g, o, ua, un, uc, rfl, hg, c0, hun, hrd⟩ := h.at hy
  obtain ⟨g2, o2, rfl, hg2, d0⟩ := rd_at hrd (show x < un by omega)
  have b0 : (0 : Int) ≤ (y : Int) := by omega
  have b1 : (y : Int) < (n : Int) := by omega
  have b2 : (0 : Int) ≤ (x : Int) := by omega
  have b3 : (x : Int) < (un : Int) := by omega
  obtain ⟨v, hv⟩ : ∃ v, v = (ls.getD y []).getD x 0 := ⟨_, rfl⟩
  rw [← hv] at d0
  rw [show at2 ls y x = v by unfold at2; exact hv.symm]
  obtain ⟨r, hr⟩ : ∃ r, r = decide (lo ≤ v ∧ v ≤ hi) := ⟨_, rfl⟩
  have HI : Hid (∀ V, Calls Try.prog 65 #[.int .i64 v, .int .i64 lo, .int .i64 hi] V fun e w' => e = .returned (.bool r) ∧ w' = V) := fun V => impl_insC v lo hi r hr V
  rw [← hr]
  clear hv hrd h hun hx hr
  go_enter Try.func41, Try.ntmps41
  go_wp2_with (fail)
  obtain ⟨V, hV⟩ : ∃ V, V = (w.alloc (.cells #[.slice (some ⟨g, o, none⟩) n c, .slice oa on oc, .int .i64 lo, .int .i64 hi] 58)).alloc (.cells #[.int .i64 x, .int .i64 y] 61) := ⟨_, rfl⟩
  rw [← hV]
  obtain ⟨k0, k1, hb, hs⟩ := al2 hV
  have c1 := (hb.cell (p := ⟨g, o + y, none⟩) hg).trans c0
  have d1 := (hb.cell (p := ⟨g2, o2 + x, none⟩) hg2).trans d0
  have e0 : V.cell? ⟨w.heap.size, 0, none⟩ = some (.slice (some ⟨g, o, none⟩) n c) := cellOf k0 0 rfl
  have e2 : V.cell? ⟨w.heap.size, 2, none⟩ = some (.int .i64 lo) := cellOf k0 2 rfl
  have e3 : V.cell? ⟨w.heap.size, 3, none⟩ = some (.int .i64 hi) := cellOf k0 3 rfl
  have l0 := ltOf k0
  obtain ⟨q0, q1, qf0, qf1, ql⟩ := two_of k1
  have hg' := Nat.lt_of_lt_of_le hg hb.size
  have hg2' := Nat.lt_of_lt_of_le hg2 hb.size
  have HB : Hid (Below w.heap.size w V) := hb
  clear hV k0 k1 hb hs c0 d0 hg hg2
  (refine wp_region_und (by kernel_rfl) (by kernel_rfl) (fun hund => ?_); (repeat (go_big_quiet_step (first | (go_at_call 65; with_reducible refine und_call_same (HI.out _))))); with_reducible refine wpQuiet_nil ?_; clear hund; intro W1 hb1; obtain ⟨hc1, hf1⟩ := undcell hb1)
  have HB1 : Hid (Below w.heap.size w W1) := HB.out.trans (hb1.mono HB.out.size)
  clear hb1 hc1 hf1
  go_wp2
  go_returns
  exact ⟨rfl, HB1.out⟩

set_option maxRecDepth 10000 in
set_option maxHeartbeats 6400000 in
theorem impl_isOneInBoth {w : World} {a oa : Option Addr} {n c on oc : Nat} {lo hi : Int} {ls ms : List (List Int)} (h : RdR w (.slice a n c) ls) (h' : RdR w (.slice oa on oc) ms) {y x : Nat} (hm : n ≤ 1048576) (hy : y < n) (hx : x < (ls.getD y []).length) (hy' : y < on) (hx' : x < (ms.getD y []).length) (hm' : on ≤ 1048576) :
    Calls Try.prog 47 #[.agg #[.slice a n c, .slice oa on oc, .int .i64 lo, .int .i64 hi], .agg #[.int .i64 x, .int .i64 y]] w fun e w' => e = .returned (.bool (oneP ls y x && oneP ms y x)) ∧ Below w.heap.size w w' := by
  obtain ⟨g, o, ua, un, uc, rfl, hg, c0, hun, hrd⟩ := h.at hy
  obtain ⟨g2, o2, rfl, hg2, d0⟩ := rd_at hrd (show x < un by omega)
  obtain ⟨G, O, wa, wn, wc, rfl, hG, C0, hwn, hwd⟩ := h'.at hy'
  obtain ⟨G2, O2, rfl, hG2, D0⟩ := rd_at hwd (show x < wn by omega)
  have b0 : (0 : Int) ≤ (y : Int) := by omega
  have b1 : (y : Int) < (n : Int) := by omega
  have b2 : (0 : Int) ≤ (x : Int) := by omega
  have b3 : (x : Int) < (un : Int) := by omega
  have b4 : (y : Int) < (on : Int) := by omega
  have b5 : (x : Int) < (wn : Int) := by omega
  obtain ⟨v, hv⟩ : ∃ v, v = (ls.getD y []).getD x 0 := ⟨_, rfl⟩
  rw [← hv] at d0
  obtain ⟨u, hu⟩ : ∃ v, v = (ms.getD y []).getD x 0 := ⟨_, rfl⟩
  rw [← hu] at D0
  have HV : Hid ((oneP ls y x && oneP ms y x) = ((v == 1) && (u == 1))) := by unfold Hid oneP at2; rw [hv, hu]
  clear hv hu hrd hwd h h' hun hwn hx hx'
  by_cases hv1 : v = 1
  · subst hv1
    have hvt : ((1 : Int) == 1) = true := rfl
    go_enter Try.func47, Try.ntmps47
    go_wp2_with (fail)
    obtain ⟨V, hV⟩ : ∃ V, V = (w.alloc (.cells #[.slice (some ⟨g, o, none⟩) n c, .slice (some ⟨G, O, none⟩) on oc, .int .i64 lo, .int .i64 hi] 58)).alloc (.cells #[.int .i64 x, .int .i64 y] 61) := ⟨_, rfl⟩
    rw [← hV]
    obtain ⟨k0, k1, hb, hs⟩ := al2 hV
    have c1 := (hb.cell (p := ⟨g, o + y, none⟩) hg).trans c0
    have d1 := (hb.cell (p := ⟨g2, o2 + x, none⟩) hg2).trans d0
    have C1 := (hb.cell (p := ⟨G, O + y, none⟩) hG).trans C0
    have D1 := (hb.cell (p := ⟨G2, O2 + x, none⟩) hG2).trans D0
    have e0 : V.cell? ⟨w.heap.size, 0, none⟩ = some (.slice (some ⟨g, o, none⟩) n c) := cellOf k0 0 rfl
    have e1 : V.cell? ⟨w.heap.size, 1, none⟩ = some (.slice (some ⟨G, O, none⟩) on oc) := cellOf k0 1 rfl
    have l0 := ltOf k0
    obtain ⟨q0, q1, qf0, qf1, ql⟩ := two_of k1
    have hg' := Nat.lt_of_lt_of_le hg hb.size
    have hg2' := Nat.lt_of_lt_of_le hg2 hb.size
    have hG' := Nat.lt_of_lt_of_le hG hb.size
    have hG2' := Nat.lt_of_lt_of_le hG2 hb.size
    have HB : Hid (Below w.heap.size w V) := hb
    clear hV k0 k1 hb hs c0 d0 hg hg2 C0 D0 hG hG2
    (refine wp_region_und (by kernel_rfl) (by kernel_rfl) (fun hund => ?_); (repeat (go_big_quiet_step (fail))); with_reducible refine wpQuiet_nil ?_; clear hund; intro W1 hb1; obtain ⟨hc1, hf1⟩ := undcell hb1)
    have HB1 : Hid (Below w.heap.size w W1) := HB.out.trans (hb1.mono HB.out.size)
    clear hb1 hc1 hf1
    go_wp2
    go_returns
    exact ⟨by rw [HV.out]; rfl, HB1.out⟩
  · have hvf : (v == 1) = false := by simpa using hv1
    rw [hvf] at HV
    go_enter Try.func47, Try.ntmps47
    go_wp2_with (fail)
    obtain ⟨V, hV⟩ : ∃ V, V = (w.alloc (.cells #[.slice (some ⟨g, o, none⟩) n c, .slice (some ⟨G, O, none⟩) on oc, .int .i64 lo, .int .i64 hi] 58)).alloc (.cells #[.int .i64 x, .int .i64 y] 61) := ⟨_, rfl⟩
    rw [← hV]
    obtain ⟨k0, k1, hb, hs⟩ := al2 hV
    have c1 := (hb.cell (p := ⟨g, o + y, none⟩) hg).trans c0
    have d1 := (hb.cell (p := ⟨g2, o2 + x, none⟩) hg2).trans d0
    have e0 : V.cell? ⟨w.heap.size, 0, none⟩ = some (.slice (some ⟨g, o, none⟩) n c) := cellOf k0 0 rfl
    have l0 := ltOf k0
    obtain ⟨q0, q1, qf0, qf1, ql⟩ := two_of k1
    have hg' := Nat.lt_of_lt_of_le hg hb.size
    have hg2' := Nat.lt_of_lt_of_le hg2 hb.size
    have HB : Hid (Below w.heap.size w V) := hb
    clear hV k0 k1 hb hs c0 d0 hg hg2 C0 D0 hG hG2 hv1
    (refine wp_region_und (by kernel_rfl) (by kernel_rfl) (fun hund => ?_); (repeat (go_big_quiet_step (fail))); with_reducible refine wpQuiet_nil ?_; clear hund; intro W1 hb1; obtain ⟨hc1, hf1⟩ := undcell hb1)
    have HB1 : Hid (Below w.heap.size w W1) := HB.out.trans (hb1.mono HB.out.size)
    clear hb1 hc1 hf1
    go_wp2
    go_returns
    exact ⟨by rw [HV.out]; rfl, HB1.out⟩

theorem kd_one {M : Int} {w : World} {a oa : Option Addr} {n c on oc : Nat} {lo hi : Int} {ls : List (List Int)} (hG : GG M ls) (h : RdR w (.slice a n c) ls) :
    Kd 50 (.agg #[.slice a n c, .slice oa on oc, .int .i64 lo, .int .i64 hi]) n (ls.getD 0 []).length (oneP ls) w := by
  have hm : n ≤ 1048576 := by rw [h.len]; have := hG.h1; omega
  exact ⟨fun args V => enter_fn Try.func50 (by kernel_rfl) rfl args V, fun V y x hV hy hx => impl_isOne (h.below hV) hm hy (by rw [hG.row (by rw [← h.len]; exact hy)]; exact hx)⟩
theorem kd_flip {M : Int} {w : World} {a oa : Option Addr} {n c on oc : Nat} {lo hi : Int} {ls : List (List Int)} (hG : GG M ls) (h : RdR w (.slice a n c) ls) :
    Kd 61 (.agg #[.slice a n c, .slice oa on oc, .int .i64 lo, .int .i64 hi]) (ls.getD 0 []).length n (fun y x => oneP ls x y) w := by
  have hm : n ≤ 1048576 := by rw [h.len]; have := hG.h1; omega
  exact ⟨fun args V => enter_fn Try.func61 (by kernel_rfl) rfl args V, fun V y x hV hy hx => impl_isOneFlipped (h.below hV) hm hx (by rw [hG.row (by rw [← h.len]; exact hx)]; exact hy)⟩
theorem kd_lim {M : Int} {w : World} {a oa : Option Addr} {n c on oc : Nat} {lo hi : Int} {ls : List (List Int)} (hG : GG M ls) (h : RdR w (.slice a n c) ls) :
    Kd 41 (.agg #[.slice a n c, .slice oa on oc, .int .i64 lo, .int .i64 hi]) n (ls.getD 0 []).length (fun y x => decide (lo ≤ at2 ls y x ∧ at2 ls y x ≤ hi)) w := by
  have hm : n ≤ 1048576 := by rw [h.len]; have := hG.h1; omega
  exact ⟨fun args V => enter_fn Try.func41 (by kernel_rfl) rfl args V, fun V y x hV hy hx => impl_inLimits (h.below hV) hm hy (by rw [hG.row (by rw [← h.len]; exact hy)]; exact hx)⟩
theorem kd_both {M M' : Int} {w : World} {a oa : Option Addr} {n c oc : Nat} {lo hi : Int} {ls ms : List (List Int)} (hG : GG M ls) (hG' : GG M' ms) (h : RdR w (.slice a n c) ls) (h' : RdR w (.slice oa n oc) ms) (hW : (ls.getD 0 []).length = (ms.getD 0 []).length) :
    Kd 47 (.agg #[.slice a n c, .slice oa n oc, .int .i64 lo, .int .i64 hi]) n (ls.getD 0 []).length (fun y x => oneP ls y x && oneP ms y x) w := by
  have hm : n ≤ 1048576 := by rw [h.len]; have := hG.h1; omega
  exact ⟨fun args V => enter_fn Try.func47 (by kernel_rfl) rfl args V, fun V y x hV hy hx => impl_isOneInBoth (h.below hV) (h'.below hV) hm hy (by rw [hG.row (by rw [← h.len]; exact hy)]; exact hx) hy (by rw [hG'.row (by rw [← h'.len]; exact hy), ← hW]; exact hx) hm⟩

end Go.Proofs.Ythmddnachancfaa
