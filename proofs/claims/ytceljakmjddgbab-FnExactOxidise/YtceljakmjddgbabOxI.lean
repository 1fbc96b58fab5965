/- Proved here: the closure of Oxidise. -/
import Derived.Test.YtceljakmjddgbabKept
import Derived.Test.YtceljakmjddgbabChg
import Derived.Test.YtceljakmjddgbabLwS
import Derived.Maps.AppendAt
import Derived.Deep.AppendLies
namespace Go.Proofs.Ytceljakmjddgbab
open Go.RowKit
set_option linter.unusedVariables false
set_option linter.unusedSimpArgs false

set_option maxRecDepth 10000 in
set_option maxHeartbeats 6400000 in
theorem impl_sil {w : World} {ua : Option Addr} {n uc : Nat} {c : List Flm} (hl : c.length ≤ 24) (h : RG 2 flC w (.slice ua n uc) c) :
    Calls Try.prog 83 #[.slice ua n uc] w fun e w' => e = .returned (.int .i64 (siI c)) ∧ w' = w := by
  have HN : Hid (n = c.length) := h.len
  have hn24 : n ≤ 24 := by rw [h.len]; exact hl
  obtain ⟨S, hS⟩ : ∃ S, S = siI c := ⟨_, rfl⟩
  rw [← hS]
  rcases Nat.eq_zero_or_pos n with hn0 | hn0
  · have HE : Hid (S = -1) := by unfold Hid; rw [hS, siI, if_pos (by rw [← HN.out]; exact hn0)]
    subst hn0
    clear h hS hl
    have k1 : IntKind.i64.wrap (-1) = -1 := by decide
    have k2 : ¬ (0 : Int) ≤ -1 := by omega
    go_enter Try.func83, Try.ntmps83
    go_wp2
    go_returns
    exact ⟨by rw [HE.out]; rfl, rfl⟩
  obtain ⟨p, hp⟩ : ∃ p, n = p + 1 := ⟨n - 1, by omega⟩
  obtain ⟨g, o, rfl, hgl, d0, _⟩ := fl_at h (show p < n by omega)
  obtain ⟨pm, hpm⟩ : ∃ x, x = (fat c p).m := ⟨_, rfl⟩
  rw [← hpm] at d0
  have e1 : c.length - 1 = p := by rw [← HN.out]; omega
  have e0 : ¬ c.length = 0 := by rw [← HN.out]; omega
  have k1 : IntKind.i64.wrap ((n : Int) - 1) = (p : Int) := by rw [IntKind.wrap_i64]; omega
  have k2 : (n : Int) - 1 = (p : Int) := by omega
  have k3 : (0 : Int) ≤ (p : Int) := by omega
  have k4 : (p : Int) < (n : Int) := by omega
  by_cases h2 : pm = 2
  · have hS2 : S = if 2 ≤ c.length ∧ (fat c (c.length - 2)).m = 1 then (c.length : Int) - 2 else -1 := by
      rw [hS, siI, if_neg e0, e1, ← hpm, if_pos h2]
    rcases Nat.eq_zero_or_pos p with hp0 | hp0
    · have HE : Hid (S = -1) := by unfold Hid; rw [hS2, if_neg (by rw [← HN.out]; omega)]
      subst hp0 h2
      clear hS hS2 hl h e1 e0 hpm
      have k5 : IntKind.i64.wrap (-1) = -1 := by decide
      have k6 : ¬ (0 : Int) ≤ -1 := by omega
      simp only [Nat.zero_mul, Nat.add_zero] at d0
      go_enter Try.func83, Try.ntmps83
      go_wp2
      go_returns
      exact ⟨by rw [HE.out]; rfl, rfl⟩
    obtain ⟨r, hr⟩ : ∃ r, p = r + 1 := ⟨p - 1, by omega⟩
    obtain ⟨g', o', he, _, f0, _⟩ := fl_at h (show r < n by omega)
    injection he with he1
    injection he1 with he2 he3
    subst he2 he3
    obtain ⟨rm, hrm⟩ : ∃ x, x = (fat c r).m := ⟨_, rfl⟩
    rw [← hrm] at f0
    have e2 : c.length - 2 = r := by rw [← HN.out]; omega
    have k5 : IntKind.i64.wrap ((p : Int) - 1) = (r : Int) := by rw [IntKind.wrap_i64]; omega
    have k6 : (p : Int) - 1 = (r : Int) := by omega
    have k7 : (0 : Int) ≤ (r : Int) := by omega
    have k8 : (r : Int) < (n : Int) := by omega
    have k9 : IntKind.i64.wrap (p : Int) = (p : Int) := by rw [IntKind.wrap_i64]; omega
    have k10 : IntKind.i64.wrap (r : Int) = (r : Int) := by rw [IntKind.wrap_i64]; omega
    by_cases h3 : rm = 1
    · have HE : Hid (S = (r : Int)) := by
        unfold Hid; rw [hS2, e2, ← hrm, if_pos ⟨by rw [← HN.out]; omega, h3⟩, ← HN.out]; omega
      subst h2 h3
      clear hS hS2 hl h e1 e0 hpm hrm e2 hr hp
      go_enter Try.func83, Try.ntmps83
      go_wp2
      go_returns
      exact ⟨by rw [HE.out]; rfl, rfl⟩
    · have HE : Hid (S = -1) := by unfold Hid; rw [hS2, e2, ← hrm, if_neg (fun h => h3 h.2)]
      have h3' : (rm == 1) = false := by simpa using h3
      subst h2
      clear hS hS2 hl h e1 e0 hpm hrm e2 hr hp
      go_enter Try.func83, Try.ntmps83
      go_wp2
      go_returns
      exact ⟨by rw [HE.out]; rfl, rfl⟩
  · have h2' : (pm == 2) = false := by simpa using h2
    have hS2 : S = if pm = 1 then (c.length : Int) - 1 else -1 := by
      rw [hS, siI, if_neg e0, e1, ← hpm, if_neg h2]
    by_cases h3 : pm = 1
    · have HE : Hid (S = (p : Int)) := by unfold Hid; rw [hS2, if_pos h3, ← HN.out]; omega
      subst h3
      clear hS hS2 hl h e1 e0 hpm hp
      go_enter Try.func83, Try.ntmps83
      go_wp2
      go_returns
      exact ⟨by rw [HE.out]; rfl, rfl⟩
    · have HE : Hid (S = -1) := by unfold Hid; rw [hS2, if_neg h3]
      have h3' : (pm == 1) = false := by simpa using h3
      clear hS hS2 hl h e1 e0 hpm hp
      go_enter Try.func83, Try.ntmps83
      go_wp2
      go_returns
      exact ⟨by rw [HE.out]; rfl, rfl⟩

set_option maxRecDepth 10000 in
set_option maxHeartbeats 12800000 in
theorem impl_oxidised {W : World} {ua : Option Addr} {un uc : Nat} {c : List Flm} {a : Int} (hc : GC c) (ha : 1 ≤ a ∧ a ≤ 100000) (h : RG 2 flC W (.slice ua un uc) c) :
    Calls Try.prog 63 #[.slice ua un uc, .int .i64 a] W fun e w' => ∃ u, e = .returned u ∧ OG 88 1 layC w' W.heap.size u (oxL c a) ∧ Below W.heap.size W w' := by
  obtain ⟨n, hn⟩ : ∃ n, n = un := ⟨_, rfl⟩
  subst hn
  have HN : Hid (n = c.length ∧ GC c) := ⟨h.len, hc⟩
  have hn24 : n ≤ 24 := by rw [h.len]; exact hc.len
  have HWH : Hid (Calls Try.prog 47 #[.slice ua n uc] W fun e w' => e = .returned (.slice (some ⟨W.heap.size, 0, none⟩) n n) ∧ OG 88 1 layC w' W.heap.size (.slice (some ⟨W.heap.size, 0, none⟩) n n) (whoL c) ∧ Below W.heap.size W w') := by
    rw [HN.out.1]; have := h; rw [HN.out.1] at this; exact impl_whole (Nat.le_trans hc.len (by omega)) this
  have H : Hid (RG 2 flC W (.slice ua n uc) c) := h
  obtain ⟨S, hS⟩ : ∃ S, S = siI c := ⟨_, rfl⟩
  have HS : Hid (∀ V, Below W.heap.size W V → Calls Try.prog 83 #[.slice ua n uc] V fun e w' => e = .returned (.int .i64 S) ∧ w' = V) := fun V hV => by rw [hS]; exact impl_sil hc.len (h.below hV)
  have HSI : Hid (S = siI c) := hS
  clear h hc hS
  obtain ⟨i0, hi0, hz0, hz1, hz2⟩ := info_parts info_layer
  go_enter Try.func63, Try.ntmps63
  go_wp2_with (fail)
  refine HWH.out.mono ?_
  rintro e w1 ⟨rfl, ho, hb⟩
  have HO : Hid (OG 88 1 layC w1 W.heap.size (.slice (some ⟨W.heap.size, 0, none⟩) n n) (whoL c) ∧ Below W.heap.size W w1) := ⟨ho, hb⟩
  clear HWH ho hb
  go_wp2_with (fail)
  refine (HS.out _ HO.out.2).mono ?_
  rintro e w2 ⟨rfl, rfl⟩
  clear HS
  by_cases hneg : S < 0
  · have HE : Hid (oxL c a = whoL c) := by unfold Hid oxL; rw [← HSI.out, if_pos hneg]
    go_wp2
    go_returns
    exact ⟨_, rfl, by rw [HE.out]; exact HO.out.1, HO.out.2⟩
  obtain ⟨p, hp⟩ := si_ok (by rw [← HSI.out]; exact hneg)
  have hSp : S = (p : Int) := by rw [HSI.out, hp.e]
  subst hSp
  obtain ⟨g, o, rfl, hgl, d0, d1⟩ := fl_at (H.out.below HO.out.2) (show p < n by rw [HN.out.1]; exact hp.lt)
  obtain ⟨m, hm⟩ : ∃ x, x = (fat c p).m := ⟨_, rfl⟩
  obtain ⟨t, ht⟩ : ∃ x, x = (fat c p).t := ⟨_, rfl⟩
  rw [← hm] at d0
  rw [← ht] at d1
  have htb := HN.out.2.t hp.lt
  rw [← ht] at htb
  have HX : Hid (oxL c a = (whoL c).set p (lessL ⟨m, t⟩ (oxE t a)) ++ [.who 2 (oxA t a)] ∧ p < c.length) := by
    refine ⟨?_, hp.lt⟩
    unfold oxL
    rw [← HSI.out, if_neg hneg, Int.toNat_natCast, ← ht]
    congr 3
    rw [hm, ht]
  have k3 : (0 : Int) ≤ (p : Int) := by omega
  have k4 : (p : Int) < (n : Int) := by have := hp.lt; have := HN.out.1; omega
  have k5 : ¬ (p : Int) < 0 := by omega
  obtain ⟨u, hu⟩ : ∃ u, u = 44 * a / 100 := ⟨_, rfl⟩
  have hub : 0 ≤ u ∧ u ≤ 44000 := by omega
  have hm1 : IntKind.i64.wrap (44 * a) = 44 * a := by rw [IntKind.wrap_i64]; omega
  have hm2 : Int.tdiv (44 * a) 100 = u := by rw [hu, Int.tdiv_eq_ediv_of_nonneg (by omega)]
  have hm3 : IntKind.i64.wrap u = u := by rw [IntKind.wrap_i64]; omega
  have hm4 : IntKind.i64.wrap (100 * t) = 100 * t := by rw [IntKind.wrap_i64]; omega
  obtain ⟨q, hq⟩ : ∃ q, q = 100 * t / 44 := ⟨_, rfl⟩
  have hm5 : Int.tdiv (100 * t) 44 = q := by rw [hq, Int.tdiv_eq_ediv_of_nonneg (by omega)]
  have hqb : 0 ≤ q ∧ q ≤ 250000 := by omega
  have hm6 : IntKind.i64.wrap q = q := by rw [IntKind.wrap_i64]; omega
  have HEA : Hid (oxE t a = (if t < u then t else u) ∧ oxA t a = (if t < u then q else a)) := by
    unfold oxE oxA; rw [← hu, ← hq]; exact ⟨rfl, rfl⟩
  clear hm ht hp hneg HSI hu hq
  obtain ⟨V, hV⟩ : ∃ V, V = w2.alloc (.cells #[.int .i64 m, .int .i64 t] 76) := ⟨_, rfl⟩
  have hbV : Below w2.heap.size w2 V := by rw [hV]; (repeat' (first | (with_reducible exact Below.refl _ _) | (with_reducible assumption) | (with_reducible refine Below.setCell ?_ ?_ _) | (with_reducible refine Below.alloc ?_ ?_ _) | (with_reducible refine below_drewN ?_ _) | (with_reducible refine Below.drew ?_) | (with_reducible exact Nat.le_refl _) | omega | (simp; done) | (simp; omega)))
  have hkV : V.heap[w2.heap.size]? = some (.cells #[.int .i64 m, .int .i64 t] 76) := by rw [hV]; exact heap_alloc_new _ _
  have HVV : Hid (V = w2.alloc (.cells #[.int .i64 m, .int .i64 t] 76) ∧ OG 88 1 layC V W.heap.size (.slice (some ⟨W.heap.size, 0, none⟩) n n) (whoL c) ∧ Below W.heap.size W V ∧ V.heap[w2.heap.size]? = some (.cells #[.int .i64 m, .int .i64 t] 76)) := ⟨hV, HO.out.1.below hbV, HO.out.2.trans (hbV.mono HO.out.2.size), hkV⟩
  clear hV hbV hkV HO
  by_cases hgt : t < u
  · have HE1 : Hid (oxE t a = t ∧ oxA t a = q) := by rw [HEA.out.1, HEA.out.2, if_pos hgt, if_pos hgt]; exact ⟨rfl, rfl⟩
    have hgt' : u > t := hgt
    clear HEA
    go_wp2_with (fail)
    rw [← HVV.out.1]
    have v1 := cellOf HVV.out.2.2.2 1 rfl
    have v2 := ltOf HVV.out.2.2.2
    (refine wp_region_und (by kernel_rfl) (by kernel_rfl) (fun hund => ?_); (repeat (go_big_quiet_step (fail))); with_reducible refine wpQuiet_nil ?_; clear hund; intro W1 hb1; obtain ⟨hc1, hf1⟩ := undcell hb1)
    clear v1 v2
    obtain ⟨Y, hY⟩ : ∃ Y, Y = W1 := ⟨_, rfl⟩
    subst hY
    have HY : Hid (OG 88 1 layC Y W.heap.size (.slice (some ⟨W.heap.size, 0, none⟩) n n) (whoL c) ∧ Below W.heap.size W Y) := ⟨HVV.out.2.1.below hb1, HVV.out.2.2.1.trans (hb1.mono HVV.out.2.2.1.size)⟩
    have hkY := (hb1.block _ (ltOf HVV.out.2.2.2)).trans HVV.out.2.2.2
    have r0 := cellOf hkY 0 rfl
    have r1 := cellOf hkY 1 rfl
    have r2 := ltOf hkY
    clear hb1 hc1 hf1 hkY d0 d1 hgl HVV
    go_wp2_with (fail)
    refine (impl_less m t t _).mono ?_
    rintro e w5 ⟨rfl, hb5⟩
    have hoW := HY.out.1.below hb5
    obtain ⟨c0, f0, g0⟩ := og_layat hoW (show p < (whoL c).length by rw [whoL_len]; exact HX.out.2)
    have hoS := og_layset hoW p (lessL ⟨m, t⟩ t)
    have hbS : Below W.heap.size W (w5.setCell ⟨W.heap.size, p, none⟩ (layV (lessL ⟨m, t⟩ t))) := (HY.out.2.trans (hb5.mono HY.out.2.size)).setCell (Nat.le_refl _) _
    obtain ⟨LN, hLN⟩ : ∃ l, l = (whoL c).set p (lessL ⟨m, t⟩ t) := ⟨_, rfl⟩
    obtain ⟨LV, hLV⟩ : ∃ v, v = layV (lessL ⟨m, t⟩ t) := ⟨_, rfl⟩
    obtain ⟨LT, LP, hLT⟩ : ∃ a b, LV = .iface a b := ⟨_, _, hLV⟩
    rw [← hLV] at hoS hbS ⊢
    rw [← hLN] at hoS
    subst hLT
    have HZ : Hid ((w5.setCell ⟨W.heap.size, p, none⟩ (.iface LT LP)).ownsRow W.heap.size 88 1 (.slice (some ⟨W.heap.size, 0, none⟩) n n) n (LN.flatMap layC) ∧ Below W.heap.size W (w5.setCell ⟨W.heap.size, p, none⟩ (.iface LT LP)) ∧ LN.length = n ∧ oxL c a = LN ++ [.who 2 q]) := by
      have hl : LN.length = n := by rw [hLN, List.length_set, whoL_len, HN.out.1]
      refine ⟨?_, hbS, hl, by rw [HX.out.1, HE1.out.1, HE1.out.2, hLN]⟩
      unfold OG at hoS; rw [hl] at hoS; exact hoS
    obtain ⟨cv, hcv⟩ : ∃ x, x = layV (lat (whoL c) p) := ⟨_, rfl⟩
    rw [← hcv] at c0
    have hwz : W.heap.size ≤ w5.heap.size := by omega
    have HNW : Hid (((w5.setCell ⟨W.heap.size, p, none⟩ (.iface LT LP)).alloc (.cells #[.iface 76 (.agg #[.int .i64 2, .int .i64 q])] 88)).heap[w5.heap.size]? = some (.cells #[.iface 76 (.agg #[.int .i64 2, .int .i64 q])] 88)) := by
      have := heap_alloc_new (w5.setCell ⟨W.heap.size, p, none⟩ (.iface LT LP)) (.cells #[.iface 76 (.agg #[.int .i64 2, .int .i64 q])] 88)
      unfold Hid
      simpa using this
    clear hb5 hoW hcv hLV hoS hbS r0 r1 r2 hLN HX HE1 HY
    go_wp2_with (at_builtin; refine wpList_append_own_at _ rfl _ _ 69 rfl W.heap.size 88 i0 .nilIface 1 16 Try.underlying69 hi0 hz0 hz1 hz2 rfl (by decide) _ _ _ rfl (World.ownsRow.alloc HZ.out.1 _) ⟨w5.heap.size, 0, none⟩ 1 1 [.iface 76 (.agg #[.int .i64 2, .int .i64 q])] rfl rfl (World.news_of_block (cs := #[.iface 76 (.agg #[.int .i64 2, .int .i64 q])]) (t := 88) (fr := (0, 0)) HNW.out) (by simp [Value.oneCell']) (by unfold maxLen; omega) (by omega) (by simp; omega) ?_; intro v5 w6 hown5 hgrow5 _ _)
    have HF : Hid (OG 88 1 layC w6 W.heap.size v5 (oxL c a) ∧ Below W.heap.size W w6) := by
      refine ⟨?_, ?_⟩
      · rw [HZ.out.2.2.2]
        unfold OG
        rw [List.flatMap_append, List.length_append, HZ.out.2.2.1]
        exact hown5
      · have h7 : Below W.heap.size W ((w5.setCell ⟨W.heap.size, p, none⟩ (.iface LT LP)).alloc (.cells #[.iface 76 (.agg #[.int .i64 2, .int .i64 q])] 88)) := HZ.out.2.1.alloc HZ.out.2.1.size _
        exact h7.grown hgrow5 h7.size fun q9 hq9 => by have hq' : W.heap.size = q9 := by injection hq9
                                                       omega
    clear hown5 hgrow5 HZ
    go_wp2
    go_returns
    exact ⟨_, rfl, HF.out.1, HF.out.2⟩
  · have HE1 : Hid (oxE t a = u ∧ oxA t a = a) := by rw [HEA.out.1, HEA.out.2, if_neg hgt, if_neg hgt]; exact ⟨rfl, rfl⟩
    clear HEA
    go_wp2_with (fail)
    rw [← HVV.out.1]
    obtain ⟨Y, hY⟩ : ∃ Y, Y = V := ⟨_, rfl⟩
    subst hY
    have HY : Hid (OG 88 1 layC Y W.heap.size (.slice (some ⟨W.heap.size, 0, none⟩) n n) (whoL c) ∧ Below W.heap.size W Y) := ⟨HVV.out.2.1, HVV.out.2.2.1⟩
    have hkY := HVV.out.2.2.2
    have hb1 : True := trivial
    have hc1 : True := trivial
    have hf1 : True := trivial
    have r0 := cellOf hkY 0 rfl
    have r1 := cellOf hkY 1 rfl
    have r2 := ltOf hkY
    clear hb1 hc1 hf1 hkY d0 d1 hgl HVV
    refine (impl_less m t u _).mono ?_
    rintro e w5 ⟨rfl, hb5⟩
    have hoW := HY.out.1.below hb5
    obtain ⟨c0, f0, g0⟩ := og_layat hoW (show p < (whoL c).length by rw [whoL_len]; exact HX.out.2)
    have hoS := og_layset hoW p (lessL ⟨m, t⟩ u)
    have hbS : Below W.heap.size W (w5.setCell ⟨W.heap.size, p, none⟩ (layV (lessL ⟨m, t⟩ u))) := (HY.out.2.trans (hb5.mono HY.out.2.size)).setCell (Nat.le_refl _) _
    obtain ⟨LN, hLN⟩ : ∃ l, l = (whoL c).set p (lessL ⟨m, t⟩ u) := ⟨_, rfl⟩
    obtain ⟨LV, hLV⟩ : ∃ v, v = layV (lessL ⟨m, t⟩ u) := ⟨_, rfl⟩
    obtain ⟨LT, LP, hLT⟩ : ∃ a b, LV = .iface a b := ⟨_, _, hLV⟩
    rw [← hLV] at hoS hbS ⊢
    rw [← hLN] at hoS
    subst hLT
    have HZ : Hid ((w5.setCell ⟨W.heap.size, p, none⟩ (.iface LT LP)).ownsRow W.heap.size 88 1 (.slice (some ⟨W.heap.size, 0, none⟩) n n) n (LN.flatMap layC) ∧ Below W.heap.size W (w5.setCell ⟨W.heap.size, p, none⟩ (.iface LT LP)) ∧ LN.length = n ∧ oxL c a = LN ++ [.who 2 a]) := by
      have hl : LN.length = n := by rw [hLN, List.length_set, whoL_len, HN.out.1]
      refine ⟨?_, hbS, hl, by rw [HX.out.1, HE1.out.1, HE1.out.2, hLN]⟩
      unfold OG at hoS; rw [hl] at hoS; exact hoS
    obtain ⟨cv, hcv⟩ : ∃ x, x = layV (lat (whoL c) p) := ⟨_, rfl⟩
    rw [← hcv] at c0
    have hwz : W.heap.size ≤ w5.heap.size := by omega
    have HNW : Hid (((w5.setCell ⟨W.heap.size, p, none⟩ (.iface LT LP)).alloc (.cells #[.iface 76 (.agg #[.int .i64 2, .int .i64 a])] 88)).heap[w5.heap.size]? = some (.cells #[.iface 76 (.agg #[.int .i64 2, .int .i64 a])] 88)) := by
      have := heap_alloc_new (w5.setCell ⟨W.heap.size, p, none⟩ (.iface LT LP)) (.cells #[.iface 76 (.agg #[.int .i64 2, .int .i64 a])] 88)
      unfold Hid
      simpa using this
    clear hb5 hoW hcv hLV hoS hbS r0 r1 r2 hLN HX HE1 HY
    go_wp2_with (at_builtin; refine wpList_append_own_at _ rfl _ _ 69 rfl W.heap.size 88 i0 .nilIface 1 16 Try.underlying69 hi0 hz0 hz1 hz2 rfl (by decide) _ _ _ rfl (World.ownsRow.alloc HZ.out.1 _) ⟨w5.heap.size, 0, none⟩ 1 1 [.iface 76 (.agg #[.int .i64 2, .int .i64 a])] rfl rfl (World.news_of_block (cs := #[.iface 76 (.agg #[.int .i64 2, .int .i64 a])]) (t := 88) (fr := (0, 0)) HNW.out) (by simp [Value.oneCell']) (by unfold maxLen; omega) (by omega) (by simp; omega) ?_; intro v5 w6 hown5 hgrow5 _ _)
    have HF : Hid (OG 88 1 layC w6 W.heap.size v5 (oxL c a) ∧ Below W.heap.size W w6) := by
      refine ⟨?_, ?_⟩
      · rw [HZ.out.2.2.2]
        unfold OG
        rw [List.flatMap_append, List.length_append, HZ.out.2.2.1]
        exact hown5
      · have h7 : Below W.heap.size W ((w5.setCell ⟨W.heap.size, p, none⟩ (.iface LT LP)).alloc (.cells #[.iface 76 (.agg #[.int .i64 2, .int .i64 a])] 88)) := HZ.out.2.1.alloc HZ.out.2.1.size _
        exact h7.grown hgrow5 h7.size fun q9 hq9 => by have hq' : W.heap.size = q9 := by injection hq9
                                                       omega
    clear hown5 hgrow5 HZ
    go_wp2
    go_returns
    exact ⟨_, rfl, HF.out.1, HF.out.2⟩


end Go.Proofs.Ytceljakmjddgbab
