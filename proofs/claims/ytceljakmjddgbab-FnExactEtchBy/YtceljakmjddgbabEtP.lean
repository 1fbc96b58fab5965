/- Proved here: the closure of PolishTo. -/
import Derived.Test.YtceljakmjddgbabEtC
namespace Go.Proofs.Ytceljakmjddgbab
open Go.RowKit
set_option linter.unusedVariables false
set_option linter.unusedSimpArgs false

/-- The first j layers polished, the others whole. -/
def pmL (c : List Flm) (lv : Int) (j : Nat) : List Lay := (List.range c.length).map fun k => if k < j then poF c lv k else .who (fat c k).m (fat c k).t
theorem pmL_len (c : List Flm) (lv : Int) (j : Nat) : (pmL c lv j).length = c.length := by simp [pmL]
theorem pmL_zero (c : List Flm) (lv : Int) : pmL c lv 0 = whoL c := by
  apply List.ext_getElem
  · simp [pmL, whoL]
  · intro k h1 h2
    rw [whoL_len] at h2
    simp [pmL, whoL, fat, h2]
theorem pmL_all (c : List Flm) (lv : Int) : pmL c lv c.length = poL c lv := by
  unfold pmL poL
  apply List.map_congr_left
  intro k hk
  rw [if_pos (by simpa using hk)]
theorem pmL_set (c : List Flm) (lv : Int) {j : Nat} (h : j < c.length) : (pmL c lv j).set j (poF c lv j) = pmL c lv (j + 1) := by
  apply List.ext_getElem
  · simp [pmL]
  · intro k h1 h2
    rw [List.getElem_set]
    split
    · rename_i e; subst e; simp [pmL]
    · rename_i e
      simp only [pmL, List.getElem_map, List.getElem_range]
      by_cases h3 : k < j
      · rw [if_pos h3, if_pos (by omega)]
      · rw [if_neg h3, if_neg (by omega)]
theorem pmL_same (c : List Flm) (lv : Int) {j : Nat} (h : poF c lv j = .who (fat c j).m (fat c j).t) : pmL c lv j = pmL c lv (j + 1) := by
  unfold pmL
  apply List.map_congr_left
  intro k _
  by_cases h3 : k < j
  · rw [if_pos h3, if_pos (by omega)]
  · rw [if_neg h3]
    split
    · rw [show k = j by omega, h]
    · rfl

set_option maxRecDepth 10000 in
set_option maxHeartbeats 12800000 in
theorem impl_polished {W : World} {ua : Option Addr} {un uc : Nat} {c : List Flm} {lv : Int} (hc : GC c) (hlv : 0 ≤ lv ∧ lv ≤ 100000) (h : RG 2 flC W (.slice ua un uc) c) :
    Calls Try.prog 58 #[.slice ua un uc, .int .i64 lv] W fun e w' => ∃ u, e = .returned u ∧ OG 88 1 layC w' W.heap.size u (poL c lv) ∧ Below W.heap.size W w' := by
  obtain ⟨n, hn⟩ : ∃ n, n = un := ⟨_, rfl⟩
  subst hn
  have HN : Hid (n = c.length ∧ GC c) := ⟨h.len, hc⟩
  have hn24 : n ≤ 24 := by rw [h.len]; exact hc.len
  have HWH : Hid (Calls Try.prog 47 #[.slice ua n uc] W fun e w' => e = .returned (.slice (some ⟨W.heap.size, 0, none⟩) n n) ∧ OG 88 1 layC w' W.heap.size (.slice (some ⟨W.heap.size, 0, none⟩) n n) (whoL c) ∧ Below W.heap.size W w') := by
    rw [HN.out.1]; have := h; rw [HN.out.1] at this; exact impl_whole (Nat.le_trans hc.len (by omega)) this
  have H : Hid (RG 2 flC W (.slice ua n uc) c) := h
  clear h hc
  go_enter Try.func58, Try.ntmps58
  go_wp2_with (fail)
  refine HWH.out.mono ?_
  rintro e w1 ⟨rfl, ho, hb⟩
  have HO : Hid (OG 88 1 layC w1 W.heap.size (.slice (some ⟨W.heap.size, 0, none⟩) n n) (pmL c lv 0) ∧ Below W.heap.size W w1) := ⟨by rw [pmL_zero]; exact ho, hb⟩
  clear HWH ho hb
  go_wp2
  go_loopw [6, 14] (fun q i wr => ∃ (j : Nat) (t : Int), j ≤ n ∧ i = .int .i64 j ∧ q = .int .i64 t ∧ 0 ≤ t ∧ t ≤ 100000 ∧ Hid (t = topA c j ∧ OG 88 1 layC wr W.heap.size (.slice (some ⟨W.heap.size, 0, none⟩) n n) (pmL c lv j) ∧ Below W.heap.size W wr)) (fun _ i _ => n - (intOf i).toNat)
  case atStart => exact ⟨0, 0, Nat.zero_le _, rfl, rfl, by omega, by omega, rfl, HO.out⟩
  case round =>
    clear HO
    obtain ⟨j, t, hjn, rfl, rfl, ht0, ht1, hR⟩ := hrel
    by_cases hlt : j < n
    · obtain ⟨g, o, rfl, hg, d0, d1⟩ := fl_at (H.out.below hR.out.2.2) hlt
      obtain ⟨m, hm⟩ : ∃ x, x = (fat c j).m := ⟨_, rfl⟩
      obtain ⟨x, hx⟩ : ∃ x, x = (fat c j).t := ⟨_, rfl⟩
      rw [← hm] at d0
      rw [← hx] at d1
      have hjl : j < c.length := by rw [← HN.out.1]; exact hlt
      have HT1 : Hid (t + x = topA c (j + 1)) := by unfold Hid; rw [topA, ← hR.out.1, hx]
      have hx0 := (HN.out.2.t hjl).1
      rw [← hx] at hx0
      have hx1 := (HN.out.2.upto (show j + 1 ≤ c.length from hjl)).2
      rw [← HT1.out] at hx1
      obtain ⟨V, hV⟩ : ∃ V, V = wr.alloc (.cells #[.int .i64 m, .int .i64 x] 76) := ⟨_, rfl⟩
      have hbV : Below wr.heap.size wr V := by rw [hV]; (repeat' (first | (with_reducible exact Below.refl _ _) | (with_reducible assumption) | (with_reducible refine Below.setCell ?_ ?_ _) | (with_reducible refine Below.alloc ?_ ?_ _) | (with_reducible refine below_drewN ?_ _) | (with_reducible refine Below.drew ?_) | (with_reducible exact Nat.le_refl _) | omega | (simp; done) | (simp; omega)))
      have HVV : Hid (V = wr.alloc (.cells #[.int .i64 m, .int .i64 x] 76) ∧ OG 88 1 layC V W.heap.size (.slice (some ⟨W.heap.size, 0, none⟩) n n) (pmL c lv j) ∧ Below W.heap.size W V) := ⟨hV, hR.out.2.1.below hbV, hR.out.2.2.trans (hbV.mono hR.out.2.2.size)⟩
      have HF : Hid ((⟨m, x⟩ : Flm) = fat c j ∧ j < c.length) := ⟨by rw [hm, hx], hjl⟩
      clear hR hm hx hbV hV hjl
      have b0 : (0 : Int) ≤ (j : Int) := by omega
      have b1 : (j : Int) < (n : Int) := by omega
      have b5 : (0 : Int) ≤ t + x := by omega
      by_cases hab : 0 < t + x - lv
      · have hpo : poF c lv j = lessL ⟨m, x⟩ (t + x - lv) := by unfold poF; rw [← HT1.out, if_pos hab, ← HF.out.1]
        have HPO : Hid (poF c lv j = lessL ⟨m, x⟩ (t + x - lv)) := hpo
        clear hpo
        have hwr : IntKind.i64.wrap (t + x - lv) = t + x - lv := by rw [IntKind.wrap_i64]; omega
        go_wp2_with (fail)
        rw [← HVV.out.1]
        refine (impl_less m x (t + x - lv) _).mono ?_
        rintro e w5 ⟨rfl, hb5⟩
        have hoW := HVV.out.2.1.below hb5
        obtain ⟨c0, f0, g0⟩ := og_layat hoW (show j < (pmL c lv j).length by rw [pmL_len]; exact HF.out.2)
        have HX : Hid (OG 88 1 layC (w5.setCell ⟨W.heap.size, j, none⟩ (layV (lessL ⟨m, x⟩ (t + x - lv)))) W.heap.size (.slice (some ⟨W.heap.size, 0, none⟩) n n) (pmL c lv (j + 1)) ∧ Below W.heap.size W (w5.setCell ⟨W.heap.size, j, none⟩ (layV (lessL ⟨m, x⟩ (t + x - lv))))) := by
          refine ⟨?_, (HVV.out.2.2.trans (hb5.mono HVV.out.2.2.size)).setCell (Nat.le_refl _) _⟩
          rw [← pmL_set c lv HF.out.2, HPO.out]
          exact og_layset hoW j _
        obtain ⟨cv, hcv⟩ : ∃ x, x = layV (lat (pmL c lv j) j) := ⟨_, rfl⟩
        rw [← hcv] at c0
        obtain ⟨LV, hLV⟩ : ∃ v, v = layV (lessL ⟨m, x⟩ (t + x - lv)) := ⟨_, rfl⟩
        obtain ⟨LT, LP, hLT⟩ : ∃ a b, LV = .iface a b := ⟨_, _, hLV⟩
        rw [← hLV] at HX ⊢
        subst hLT
        clear hb5 hoW hcv hLV d0 d1 hg HVV hwr
        go_wp2
        go_roundw
        case rel => exact ⟨j + 1, t + x, by omega, by go_num, by go_num, by omega, hx1, HT1.out, HX.out⟩
        case measure => simp [intOf]; omega
      · have HX : Hid (OG 88 1 layC (wr.alloc (.cells #[.int .i64 m, .int .i64 x] 76)) W.heap.size (.slice (some ⟨W.heap.size, 0, none⟩) n n) (pmL c lv (j + 1)) ∧ Below W.heap.size W (wr.alloc (.cells #[.int .i64 m, .int .i64 x] 76))) := by
          rw [← HVV.out.1, ← pmL_same c lv (by unfold poF; rw [← HT1.out, if_neg hab])]
          exact HVV.out.2
        have hwr : IntKind.i64.wrap (t + x - lv) = t + x - lv := by rw [IntKind.wrap_i64]; omega
        clear HVV
        go_wp2
        go_roundw
        case rel => exact ⟨j + 1, t + x, by omega, by go_num, by go_num, by omega, hx1, HT1.out, HX.out⟩
        case measure => simp [intOf]; omega
    · have HX : Hid (OG 88 1 layC wr W.heap.size (.slice (some ⟨W.heap.size, 0, none⟩) n n) (poL c lv) ∧ Below W.heap.size W wr) := by
        have h1 := hR.out.2
        rw [show j = c.length by rw [← HN.out.1]; omega, pmL_all] at h1
        exact h1
      clear hR
      go_wp2
      go_returns
      exact ⟨_, rfl, HX.out.1, HX.out.2⟩

set_option maxHeartbeats 1600000 in
theorem impl_polish1 {W : World} {i : Nat} {ua : Option Addr} {un uc k1 : Nat} {c : List Flm} {lv : Int} (hc : GC c) (hlv : 0 ≤ lv ∧ lv ≤ 100000) (hk1 : k1 < W.heap.size) (h1 : W.cell? ⟨k1, 0, none⟩ = some (.int .i64 lv)) (h : RG 2 flC W (.slice ua un uc) c) :
    Calls Try.prog 57 #[.int .i64 i, .slice ua un uc, .pointer (some ⟨k1, 0, none⟩)] W fun e w' => ∃ u, e = .returned u ∧ OG 88 1 layC w' W.heap.size u (poL c lv) ∧ Below W.heap.size W w' := by
  have HC : Hid (Calls Try.prog 58 #[.slice ua un uc, .int .i64 lv] W fun e w' => ∃ u, e = .returned u ∧ OG 88 1 layC w' W.heap.size u (poL c lv) ∧ Below W.heap.size W w') := impl_polished hc hlv h
  clear h hc hlv
  go_enter Try.func57, Try.ntmps57
  go_wp2_with (fail)
  refine HC.out.mono ?_
  rintro e w1 ⟨u, rfl, ho, hb⟩
  have HO : Hid _ := And.intro ho hb
  clear ho hb HC
  go_wp2
  go_returns
  exact ⟨_, rfl, HO.out.1, HO.out.2⟩

end Go.Proofs.Ytceljakmjddgbab
