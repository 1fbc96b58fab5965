/- Proved here: a step of a fleet, of the program: mvM, mvA. -/
import Derived.Test.YtgbbigokbbllgaaStM
import Derived.Test.YtgbbigokbbllgaaChV
import Derived.Test.YtgbbigokbbllgaaGzI
import Derived.Test.YtgbbigokbbllgaaSxI
import Derived.Test.YtgbbigokbbllgaaReg
import Derived.BigQuiet
namespace Go.Proofs.Ytgbbigokbbllgaa
open Go.RowKit
set_option linter.unusedVariables false
set_option linter.unusedSimpArgs false

/-- All but block G is as it was. -/
def KG (G : Nat) (W w : World) : Prop := ∀ b o, b < W.heap.size → ¬ b = G → w.cell? ⟨b, o, none⟩ = W.cell? ⟨b, o, none⟩
theorem KG.of {G : Nat} {W w : World} (hb : ∀ b, b < W.heap.size → ¬ b = G → w.heap[b]? = W.heap[b]?) : KG G W w := fun b o h hr => World.cell?_of_block (a := ⟨b, o, none⟩) (hb b h hr)

set_option maxRecDepth 10000 in
set_option maxHeartbeats 12800000 in
theorem impl_st (N K : Nat) {w : World} {B : Nat} {a b : Option Addr} {c d n : Nat} {s t : List Int} (hk : w.heap[K]? = some (.cells #[.int .i64 (N : Int), .slice a n c, .slice b n d] 45)) (hn : n = s.length) (ho : FlOk (N : Int) s t) (hw : OwL w B (.slice a n c) (.slice b n d) s t) (hK : ¬ BkL (.slice a n c) (.slice b n d) K) :
    Calls Try.prog 55 #[.pointer (some ⟨K, 0, none⟩)] w fun e w' => ∃ v, e = .returned v ∧ IS w' w.heap.size v (mvM (N : Int) s t n) ∧ OwL w' B (.slice a n c) (.slice b n d) (mvA (N : Int) s t) t ∧ ChV (.slice a n c) w w' := by
  obtain ⟨i0, hi0, hz0, hz1, hz2⟩ := info_parts info_i64
  have zb0 : 1 ≤ N := by have := ho.z; omega
  have zb1 : N ≤ 30 := by have := ho.z; omega
  have hn30 : n ≤ 30 := by have := ho.m; omega
  have H : Hid (w.heap[K]? = some (.cells #[.int .i64 (N : Int), .slice a n c, .slice b n d] 45) ∧ n = s.length ∧ n = t.length ∧ FlOk (N : Int) s t ∧ OwL w B (.slice a n c) (.slice b n d) s t ∧ ¬ BkL (.slice a n c) (.slice b n d) K) := ⟨hk, hn, by rw [hn]; exact ho.l.symm, ho, hw, hK⟩
  have HUR : Hid (Calls Try.prog 50 #[.agg #[.int .i64 (N : Int), .slice a n c, .slice b n d]] w fun e w' => ∃ v, e = .returned v ∧ IS w' w.heap.size v (urL (N : Int) s t) ∧ Below w.heap.size w w') := by
    have := impl_ur N (w := w) (a := a) (b := b) (c := c) (d := d) ho (by rw [← hn]; exact hw.rd)
    rw [← hn] at this
    exact this
  obtain ⟨p0, p1, p2, pf, pl⟩ := tw_three hk
  clear hk hn ho hw hK pf
  go_enter Try.func55, Try.ntmps55
  go_wp2_with (fail)
  refine HUR.out.mono ?_
  rintro e w1 ⟨vu, rfl, hI1, hb1⟩
  obtain ⟨ua, uc, hvu⟩ := hI1.form
  rw [urL_len, ← H.out.2.1] at hvu
  subst hvu
  have HW1 : Hid (IS w1 w.heap.size (.slice ua n uc) (urL (N : Int) s t) ∧ Below w.heap.size w w1) := ⟨hI1, hb1⟩
  have hwz : w.heap.size ≤ w1.heap.size := hb1.size
  clear hI1 hb1 HUR p0 p1 p2 pl
  go_wp2
  go_loopw [3, 13] (fun l i wr => ∃ (k : Nat) (v : Value), k ≤ n ∧ v = l ∧ i = .int .i64 k ∧ Hid (Below w1.heap.size w1 wr ∧ IS wr w1.heap.size v (mvM (N : Int) s t k))) (fun _ i _ => n - (intOf i).toNat)
  case atStart => exact ⟨0, _, Nat.zero_le _, rfl, rfl, Below.refl _ _, ⟨rfl, Or.inl ⟨rfl, rfl⟩⟩⟩
  case round =>
  obtain ⟨k, v, hk, rfl, rfl, hR⟩ := hrel
  have hbw : Below w.heap.size w wr := HW1.out.2.trans (hR.out.1.mono hwz)
  obtain ⟨cur, hcur⟩ : ∃ x, x = mvM (N : Int) s t k := ⟨_, rfl⟩
  obtain ⟨ml, hml⟩ : ∃ x, x = cur.length := ⟨_, rfl⟩
  rw [← hcur] at hR
  obtain ⟨ma, mc, hvf⟩ := hR.out.2.form
  rw [← hml] at hvf
  subst hvf
  have hmlb : ml ≤ 30 := by rw [hml, hcur]; have := mvM_len (N : Int) s t k; omega
  have HC0 : Hid (ml = cur.length ∧ cur = mvM (N : Int) s t k) := ⟨hml, hcur⟩
  clear hml hcur
  by_cases hlt : k < n
  · have hks : k < s.length := by rw [← H.out.2.1]; exact hlt
    have hkb := (hbw.block K (ltOf H.out.1)).trans H.out.1
    obtain ⟨p0, p1, p2, pf, pl⟩ := tw_three hkb
    obtain ⟨g1, c1, he, hg1, hgl, hcell⟩ := (H.out.2.2.2.2.1.1).pos (show 0 < s.length by omega)
    simp only [Value.slice.injEq] at he
    obtain ⟨rfl, hx1, hx2⟩ := he
    clear hx1 hx2
    have hc1 : wr.cell? ⟨g1, k, none⟩ = some (.int .i64 (s.getD k 0)) := (hbw.cell (p := ⟨g1, k, none⟩) hgl).trans (hcell k hks)
    have hg1w : g1 < wr.heap.size := Nat.lt_of_lt_of_le hgl hbw.size
    obtain ⟨x, hx⟩ : ∃ x, x = s.getD k 0 := ⟨_, rfl⟩
    rw [← hx] at hc1
    have hxb := H.out.2.2.2.1.a k hks
    rw [← hx] at hxb
    obtain ⟨q, hq⟩ : ∃ q, q = (x + 1) % (N : Int) := ⟨_, rfl⟩
    obtain ⟨qb, hqb⟩ : ∃ r, r = decide (q ∈ s) := ⟨_, rfl⟩
    obtain ⟨u0, uf⟩ : wr.cell? ⟨(match ua with | some ad => ad.block | none => 0), k, none⟩ = some (.int .i64 ((urL (N : Int) s t).getD k 0)) ∧ ∃ gu, ua = some ⟨gu, 0, none⟩ ∧ gu < wr.heap.size := by
      obtain ⟨gu, cu, he, hgu, hgl2, hcu⟩ := HW1.out.1.pos (by rw [urL_len]; omega)
      simp only [Value.slice.injEq] at he
      obtain ⟨rfl, hx1, hx2⟩ := he
      clear hx1 hx2
      exact ⟨(hR.out.1.cell (p := ⟨gu, k, none⟩) hgl2).trans (hcu k (by rw [urL_len]; exact hks)), gu, rfl, Nat.lt_of_lt_of_le hgl2 hR.out.1.size⟩
    obtain ⟨gu, rfl, hgu⟩ := uf
    obtain ⟨ub, hub⟩ : ∃ y, y = ugB (N : Int) s t x := ⟨_, rfl⟩
    have hu : (urL (N : Int) s t).getD k 0 = if ub = true then 1 else 0 := by rw [urL_at hks, ← hx, hub]
    simp only at u0
    rw [hu] at u0
    have HC1 : Hid (∀ y : Und wr.heap.size wr, Calls Try.prog 60 #[.agg #[.int .i64 (N : Int), .slice (some ⟨g1, 0, none⟩) n c, .slice b n d], .int .i64 x] y.W fun e w' => e = .returned (.int .i64 q) ∧ Below y.W.heap.size y.W w') := fun y => by rw [hq]; exact impl_ah (N : Int) x hxb (by omega)
    have HC2 : Hid (∀ y : Und wr.heap.size wr, Calls Try.prog 48 #[.slice (some ⟨g1, 0, none⟩) n c, .int .i64 q] y.W fun e w' => e = .returned (.bool qb) ∧ Below y.W.heap.size y.W w') := fun y => by
      rw [hqb]; exact sl_contains q (by rw [← H.out.2.1]; omega) (H.out.2.2.2.2.1.1.rg.below (hbw.trans (y.below.mono hbw.size)))
    have HMV : Hid (mvB (N : Int) s t k = (ub && !qb)) := by unfold Hid mvB; rw [← hx, ← hub, ← hq, ← hqb]
    have HR : Hid (Below w1.heap.size w1 wr ∧ IS wr w1.heap.size (.slice ma ml mc) cur) := hR.out
    have b0 : (0 : Int) ≤ (k : Int) := by omega
    have b1 : (k : Int) < (n : Int) := by omega
    clear hx hxb hq hqb hub hu hcell hkb pf hR hks hgl hg1
    cases ub with
    | false =>
      have HE : Hid (mvM (N : Int) s t (k + 1) = cur) := by unfold Hid; rw [mvM_no (by rw [HMV.out]; rfl), HC0.out.2]
      simp only [Bool.false_eq_true, if_false] at u0
      go_wp2
      (refine wp_region_und (by kernel_rfl) (by kernel_rfl) (fun hund => ?_); (repeat (go_big_quiet_step (first | (go_at_call 60; with_reducible refine und_call ?_ (HC1.out _); exact Nat.le_refl _) | (go_at_call 48; with_reducible refine und_call ?_ (HC2.out _); exact Nat.le_refl _)))); with_reducible refine wpQuiet_nil ?_; clear hund; intro W1 hb1; obtain ⟨hc1, hf1⟩ := undcell hb1)
      go_wp2
      go_roundw
      case rel => exact ⟨k + 1, _, by omega, rfl, by go_num, HR.out.1.trans (hb1.mono HR.out.1.size), by rw [HE.out]; exact HR.out.2.bel hb1⟩
      case measure => simp [intOf]; omega
    | true =>
    simp only [if_true] at u0
    cases qb with
    | true =>
      have HE : Hid (mvM (N : Int) s t (k + 1) = cur) := by unfold Hid; rw [mvM_no (by rw [HMV.out]; rfl), HC0.out.2]
      go_wp2
      (refine wp_region_und (by kernel_rfl) (by kernel_rfl) (fun hund => ?_); (repeat (go_big_quiet_step (first | (go_at_call 60; with_reducible refine und_call ?_ (HC1.out _); exact Nat.le_refl _) | (go_at_call 48; with_reducible refine und_call ?_ (HC2.out _); exact Nat.le_refl _)))); with_reducible refine wpQuiet_nil ?_; clear hund; intro W1 hb1; obtain ⟨hc1, hf1⟩ := undcell hb1)
      go_wp2
      go_roundw
      case rel => exact ⟨k + 1, _, by omega, rfl, by go_num, HR.out.1.trans (hb1.mono HR.out.1.size), by rw [HE.out]; exact HR.out.2.bel hb1⟩
      case measure => simp [intOf]; omega
    | false =>
      have HE : Hid (mvM (N : Int) s t (k + 1) = cur ++ [(k : Int)]) := by unfold Hid; rw [mvM_yes (by rw [HMV.out]; rfl), HC0.out.2]
      go_wp2
      (refine wp_region_und (by kernel_rfl) (by kernel_rfl) (fun hund => ?_); (repeat (go_big_quiet_step (first | (go_at_call 60; with_reducible refine und_call ?_ (HC1.out _); exact Nat.le_refl _) | (go_at_call 48; with_reducible refine und_call ?_ (HC2.out _); exact Nat.le_refl _)))); with_reducible refine wpQuiet_nil ?_; clear hund; intro W1 hb1; obtain ⟨hc1, hf1⟩ := undcell hb1)
      have HOW : Hid (W1.ownsRow w1.heap.size 2 1 (.slice ma ml mc) ml (cur.map (Value.int .i64)) ∧ Below w1.heap.size w1 W1) := by
        have h9 := HR.out.2.bel hb1
        unfold IS at h9
        rw [← HC0.out.1] at h9
        exact ⟨h9, HR.out.1.trans (hb1.mono HR.out.1.size)⟩
      have hws := HOW.out.2.size
      go_wp2_with (at_builtin; refine wpList_append_own _ rfl _ _ 22 rfl w1.heap.size 2 i0 (.int .i64 0) 1 8 Try.underlying22 hi0 hz0 hz1 hz2 rfl (by decide) (.slice ma ml mc) ml _ rfl (World.ownsRow.alloc HOW.out.1 _) ⟨W1.heap.size, 0, none⟩ 1 1 [.int .i64 (k : Int)] rfl rfl (World.news_of_block (cs := #[.int .i64 (k : Int)]) (t := 2) (fr := (0, 0)) (heap_alloc_new W1 _)) (by simp [Value.oneCell']) (by unfold maxLen; omega) (by omega) (by simp; omega) ?_; intro v6 w6 hown6 hgrow6 _)
      have R : Hid (Below w1.heap.size w1 w6 ∧ IS w6 w1.heap.size v6 (mvM (N : Int) s t (k + 1))) := by
        refine ⟨(HOW.out.2.alloc hws _).grown hgrow6 (by simp; omega) (fun q hq => (World.ownsRow.lt HOW.out.1 q hq).1), ?_⟩
        rw [HE.out]; unfold IS; rw [List.length_append, ← HC0.out.1, List.map_append]; exact hown6
      clear hown6 hgrow6 HOW
      go_wp2
      go_roundw
      case rel => exact ⟨k + 1, v6, by omega, rfl, by go_num, R.out.1, R.out.2⟩
      case measure => simp [intOf]; omega
  obtain rfl : k = n := by omega
  obtain ⟨w2, hw2⟩ : ∃ x, x = wr := ⟨_, rfl⟩
  subst hw2
  have HR : Hid (Below w.heap.size w w2 ∧ IS w2 w1.heap.size (.slice ma ml mc) cur ∧ OwL w2 B (.slice a k c) (.slice b k d) s t ∧ ∀ g, (Value.slice a k c).ownBlock = some g → g < w.heap.size) := ⟨hbw, hR.out.2, H.out.2.2.2.2.1.keep fun q hq => hbw.block q (H.out.2.2.2.2.1.blk hq).2, fun g hg => (H.out.2.2.2.2.1.blk (Or.inl hg)).2⟩
  clear hR hbw hlt hk
  go_wp2
  go_loopw [46] (fun i wr => ∃ j : Nat, j ≤ ml ∧ i = .int .i64 j ∧ Hid (ChV (.slice a k c) w2 wr ∧ IS wr B (.slice a k c) (stC (N : Int) s cur j))) (fun i _ => ml - (intOf i).toNat)
  case atStart => exact ⟨0, Nat.zero_le _, rfl, ChV.refl _ _, by rw [stC_zero]; exact HR.out.2.2.1.1⟩
  case round =>
    obtain ⟨j, hj, rfl, hQ⟩ := hrel
    by_cases hlt : j < ml
    · have hjc : j < cur.length := by rw [← HC0.out.1]; exact hlt
      obtain ⟨p, hp1, hp2⟩ : ∃ p : Nat, cur.getD j 0 = (p : Int) ∧ p < k := by rw [HC0.out.2] at hjc ⊢; exact mvM_nat hjc
      have hnew : (p : Int) ∉ cur.take j := by rw [← hp1]; rw [HC0.out.2] at hjc ⊢; exact mvM_new hjc
      have hps : p < s.length := by rw [← H.out.2.1]; exact hp2
      -- what moved lies apart
      obtain ⟨gm, cm, he, hgm, hgml, hcm⟩ := HR.out.2.1.pos (by omega)
      simp only [Value.slice.injEq] at he
      obtain ⟨rfl, hx1, hx2⟩ := he
      clear hx1 hx2
      obtain ⟨g1, c1, he, hg1, hgl, _⟩ := HR.out.2.2.1.1.pos (show 0 < s.length by omega)
      simp only [Value.slice.injEq] at he
      obtain ⟨rfl, hx1, hx2⟩ := he
      clear hx1 hx2
      have hglw : g1 < w.heap.size := HR.out.2.2.2 g1 rfl
      have hgm2 : ¬ g1 = gm := by omega
      have hKg : ¬ K = g1 := fun e => H.out.2.2.2.2.2 (Or.inl (by rw [e]; rfl))
      have hKl : K < w2.heap.size := Nat.lt_of_lt_of_le (ltOf H.out.1) HR.out.1.size
      have c9 : wr.cell? ⟨gm, j, none⟩ = some (.int .i64 (p : Int)) := by
        have h3 := hcm j hjc
        rw [hp1] at h3
        exact (World.cell?_of_block (a := ⟨gm, j, none⟩) (hQ.out.1.block gm hgml (by intro e; exact hgm2 (Option.some.inj e)))).trans h3
      have hkb : wr.heap[K]? = some (.cells #[.int .i64 (N : Int), .slice (some ⟨g1, 0, none⟩) k c, .slice b k d] 45) := (hQ.out.1.block K hKl (by intro e; exact hKg (Option.some.inj e).symm)).trans ((HR.out.1.block K (ltOf H.out.1)).trans H.out.1)
      obtain ⟨p0, p1, p2, pf, pl⟩ := tw_three hkb
      obtain ⟨x, hx⟩ : ∃ x, x = s.getD p 0 := ⟨_, rfl⟩
      obtain ⟨d0, df0⟩ := hQ.out.2.atG hp2
      rw [stC_old hps hnew, ← hx] at d0
      have hg1w : g1 < wr.heap.size := Nat.lt_of_lt_of_le hgl hQ.out.1.size
      have hgmw : gm < wr.heap.size := Nat.lt_of_lt_of_le hgml hQ.out.1.size
      have hxb := H.out.2.2.2.1.a p hps
      rw [← hx] at hxb
      obtain ⟨q, hq⟩ : ∃ q, q = (x + 1) % (N : Int) := ⟨_, rfl⟩
      have HA1 : Hid (∀ W, Calls Try.prog 60 #[.agg #[.int .i64 (N : Int), .slice (some ⟨g1, 0, none⟩) k c, .slice b k d], .int .i64 x] W fun e w' => e = .returned (.int .i64 q) ∧ Below W.heap.size W w') := fun W => by rw [hq]; exact impl_ah (N : Int) x hxb (by omega)
      have HNX : Hid (stC (N : Int) s cur (j + 1) = (stC (N : Int) s cur j).set p q) := by unfold Hid; rw [stC_step hjc hp1 hps, ← hx, ← hq]
      have HQ : Hid (ChV (.slice (some ⟨g1, 0, none⟩) k c) w2 wr ∧ IS wr B (.slice (some ⟨g1, 0, none⟩) k c) (stC (N : Int) s cur j)) := hQ.out
      have b0 : (0 : Int) ≤ (j : Int) := by omega
      have b1 : (j : Int) < (ml : Int) := by omega
      have b2 : (0 : Int) ≤ (p : Int) := by omega
      have b3 : (p : Int) < (k : Int) := by omega
      clear hx hq hp1 hnew hjc hQ hcm hkb hxb pf hgm hps
      go_upto_region 11 with fail
      refine wp_region_holdsA (S := KG g1 wr) (by kernel_rfl) (KG.of fun _ _ _ => rfl) (fun hS => ?_)
      refine fl_takeA (i := 0) (d := 50) (v := .pointer (some ⟨K, 0, none⟩)) rfl rfl rfl (by kernel_rfl) (by kernel_rfl) (by kernel_rfl) hS ?_ ?_
      · intro w' hk; unfold KG at hk; go_simp
      simp only [Act.put, List.setIfInBounds_toArray, List.set_cons_zero, List.set_cons_succ]
      refine fl_takeA (i := 1) (d := 51) (v := .pointer (some ⟨K, 0, none⟩)) rfl rfl rfl (by kernel_rfl) (by kernel_rfl) (by kernel_rfl) hS ?_ ?_
      · intro w' hk; unfold KG at hk; go_simp
      simp only [Act.put, List.setIfInBounds_toArray, List.set_cons_zero, List.set_cons_succ]
      refine fl_takeA (i := 2) (d := 52) (v := .pointer (some ⟨K, 1, none⟩)) rfl rfl rfl (by kernel_rfl) (by kernel_rfl) (by kernel_rfl) hS ?_ ?_
      · intro w' hk; unfold KG at hk; go_simp
      simp only [Act.put, List.setIfInBounds_toArray, List.set_cons_zero, List.set_cons_succ]
      refine fl_takeA (i := 3) (d := 53) (v := .slice (some ⟨g1, 0, none⟩) k c) rfl rfl rfl (by kernel_rfl) (by kernel_rfl) (by kernel_rfl) hS ?_ ?_
      · intro w' hk; unfold KG at hk; go_simp
      simp only [Act.put, List.setIfInBounds_toArray, List.set_cons_zero, List.set_cons_succ]
      refine fl_takeA (i := 4) (d := 54) (v := .int .i64 (p : Int)) rfl rfl rfl (by kernel_rfl) (by kernel_rfl) (by kernel_rfl) hS ?_ ?_
      · intro w' hk; unfold KG at hk; go_simp
      simp only [Act.put, List.setIfInBounds_toArray, List.set_cons_zero, List.set_cons_succ]
      refine fl_takeA (i := 5) (d := 55) (v := .pointer (some ⟨K, 0, none⟩)) rfl rfl rfl (by kernel_rfl) (by kernel_rfl) (by kernel_rfl) hS ?_ ?_
      · intro w' hk; unfold KG at hk; go_simp
      simp only [Act.put, List.setIfInBounds_toArray, List.set_cons_zero, List.set_cons_succ]
      refine fl_takeA (i := 6) (d := 56) (v := .pointer (some ⟨K, 0, none⟩)) rfl rfl rfl (by kernel_rfl) (by kernel_rfl) (by kernel_rfl) hS ?_ ?_
      · intro w' hk; unfold KG at hk; go_simp
      simp only [Act.put, List.setIfInBounds_toArray, List.set_cons_zero, List.set_cons_succ]
      refine fl_takeA (i := 7) (d := 57) (v := .agg #[.int .i64 (N : Int), .slice (some ⟨g1, 0, none⟩) k c, .slice b k d]) rfl rfl rfl (by kernel_rfl) (by kernel_rfl) (by kernel_rfl) hS ?_ ?_
      · intro w' hk; unfold KG at hk; go_simp
      simp only [Act.put, List.setIfInBounds_toArray, List.set_cons_zero, List.set_cons_succ]
      refine fl_takeA (i := 8) (d := 58) (v := .pointer (some ⟨K, 0, none⟩)) rfl rfl rfl (by kernel_rfl) (by kernel_rfl) (by kernel_rfl) hS ?_ ?_
      · intro w' hk; unfold KG at hk; go_simp
      simp only [Act.put, List.setIfInBounds_toArray, List.set_cons_zero, List.set_cons_succ]
      refine fl_takeA (i := 9) (d := 59) (v := .pointer (some ⟨K, 0, none⟩)) rfl rfl rfl (by kernel_rfl) (by kernel_rfl) (by kernel_rfl) hS ?_ ?_
      · intro w' hk; unfold KG at hk; go_simp
      simp only [Act.put, List.setIfInBounds_toArray, List.set_cons_zero, List.set_cons_succ]
      refine fl_takeA (i := 10) (d := 60) (v := .pointer (some ⟨K, 1, none⟩)) rfl rfl rfl (by kernel_rfl) (by kernel_rfl) (by kernel_rfl) hS ?_ ?_
      · intro w' hk; unfold KG at hk; go_simp
      simp only [Act.put, List.setIfInBounds_toArray, List.set_cons_zero, List.set_cons_succ]
      refine fl_takeA (i := 11) (d := 61) (v := .slice (some ⟨g1, 0, none⟩) k c) rfl rfl rfl (by kernel_rfl) (by kernel_rfl) (by kernel_rfl) hS ?_ ?_
      · intro w' hk; unfold KG at hk; go_simp
      simp only [Act.put, List.setIfInBounds_toArray, List.set_cons_zero, List.set_cons_succ]
      refine fl_takeA (i := 12) (d := 62) (v := .int .i64 (p : Int)) rfl rfl rfl (by kernel_rfl) (by kernel_rfl) (by kernel_rfl) hS ?_ ?_
      · intro w' hk; unfold KG at hk; go_simp
      simp only [Act.put, List.setIfInBounds_toArray, List.set_cons_zero, List.set_cons_succ]
      refine fl_takeA (i := 13) (d := 63) (v := .pointer (some ⟨g1, p, none⟩)) rfl rfl rfl (by kernel_rfl) (by kernel_rfl) (by kernel_rfl) hS ?_ ?_
      · intro w' hk; unfold KG at hk; go_simp
      simp only [Act.put, List.setIfInBounds_toArray, List.set_cons_zero, List.set_cons_succ]
      refine wpAnyH_all (rs := [14]) (by kernel_rfl) (by simp) ?_
      intro i hi
      obtain rfl : i = 14 := by simpa using hi
      clear hi
      refine op_val (d := 64) (v := .int .i64 x) (w' := wr.drew) rfl rfl rfl (by go_simp) ?_
      simp only [Act.put, List.setIfInBounds_toArray, List.set_cons_zero, List.set_cons_succ]
      refine ⟨hS, ?_⟩
      refine wpAnyH_all (rs := [15]) (by kernel_rfl) (by simp) ?_
      intro i hi
      obtain rfl : i = 15 := by simpa using hi
      clear hi
      refine op_call (d := 65) rfl rfl rfl (by go_simp) ((HA1.out wr.drew).mono ?_)
      rintro e y1 ⟨rfl, hy1⟩
      have hy2 : Below wr.heap.size wr y1 := ((Below.refl _ _).drew).trans (hy1.mono (Nat.le_refl _))
      have hS1 : KG g1 wr y1 := KG.of fun b hb _ => hy2.block b hb
      refine ⟨_, rfl, hS1, ?_⟩
      simp only [Act.put, List.setIfInBounds_toArray, List.set_cons_zero, List.set_cons_succ]
      refine fl_takeA (i := 16) (d := 66) (v := .pointer (some ⟨g1, p, none⟩)) rfl rfl rfl (by kernel_rfl) (by kernel_rfl) (by kernel_rfl) hS1 ?_ ?_
      · intro w' hk; go_simp
      simp only [Act.put, List.setIfInBounds_toArray, List.set_cons_zero, List.set_cons_succ]
      have d1 : y1.cell? ⟨g1, p, none⟩ = some (.int .i64 x) := (hy2.cell (p := ⟨g1, p, none⟩) hg1w).trans d0
      have df1 : y1.frozen? ⟨g1, p, none⟩ = false := (hy2.frozen (p := ⟨g1, p, none⟩) hg1w).trans df0
      have dl1 : g1 < y1.heap.size := Nat.lt_of_lt_of_le hg1w hy2.size
      refine wpAnyH_all (rs := [17]) (by kernel_rfl) (by simp) ?_
      intro i hi
      obtain rfl : i = 17 := by simpa using hi
      clear hi
      refine op_skipN (w' := y1.setCell ⟨g1, p, none⟩ (.int .i64 q)) rfl rfl (by go_simp) ?_
      simp only [Act.put, List.setIfInBounds_toArray, List.set_cons_zero, List.set_cons_succ]
      have R : Hid (ChV (.slice (some ⟨g1, 0, none⟩) k c) w2 (y1.setCell ⟨g1, p, none⟩ (.int .i64 q)) ∧ IS (y1.setCell ⟨g1, p, none⟩ (.int .i64 q)) B (.slice (some ⟨g1, 0, none⟩) k c) (stC (N : Int) s cur (j + 1))) := by
        refine ⟨(HQ.out.1.trans (ChV.of_below hy2)).trans (ChV.set _ _), ?_⟩
        rw [HNX.out]
        exact (HQ.out.2.bel hy2).setG p q
      refine ⟨KG.of fun b hb hne => (heap_setCell_other _ _ _ _ (by simpa using hne)).trans (hy2.block b hb), wpAnyH_done (by kernel_rfl) (NoPanic.normal ?_) _⟩
      clear hS hS1 hy1 hy2 d0 df0 d1 df1 dl1 p0 p1 p2 pl c9 HA1 HQ hg1w hgmw
      go_wp2
      go_roundw
      case rel => exact ⟨j + 1, by omega, by go_num, R.out.1, R.out.2⟩
      case measure => simp [intOf]; omega
    · obtain rfl : j = ml := by omega
      have HE : Hid (IS wr w.heap.size (.slice ma j mc) (mvM (N : Int) s t k) ∧ OwL wr B (.slice a k c) (.slice b k d) (mvA (N : Int) s t) t ∧ ChV (.slice a k c) w wr) := by
        have hch : ChV (.slice a k c) w wr := (ChV.of_below HR.out.1).trans hQ.out.1
        refine ⟨?_, ⟨?_, ?_, HR.out.2.2.1.2.2⟩, hch⟩
        · rw [← HC0.out.2]
          refine (HR.out.2.1.kept fun q hq => hQ.out.1.block q (IS.lt HR.out.2.1 q hq).2 fun e => ?_).low hwz
          have h3 := HR.out.2.2.2 q e
          have h4 := (IS.lt HR.out.2.1 q hq).1
          omega
        · have h3 := hQ.out.2
          rw [HC0.out.1, HC0.out.2, H.out.2.1, stC_done] at h3
          rw [H.out.2.1]
          exact h3
        · exact HR.out.2.2.1.2.1.kept fun q hq => hQ.out.1.block q (IS.lt HR.out.2.2.1.2.1 q hq).2 fun e => HR.out.2.2.1.2.2 q e hq
      clear hQ
      go_wp2
      go_returns
      exact ⟨_, rfl, HE.out.1, HE.out.2.1, HE.out.2.2⟩

end Go.Proofs.Ytgbbigokbbllgaa
