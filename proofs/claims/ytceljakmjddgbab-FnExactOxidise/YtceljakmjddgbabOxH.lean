/- Proved here: l12Grow of the model, where there is silicon. -/
import Derived.Test.YtceljakmjddgbabOxG
import Derived.Test.YtceljakmjddgbabEsM
namespace Go.Proofs.Ytceljakmjddgbab
open Go.RowKit
set_option linter.unusedVariables false
set_option linter.unusedSimpArgs false

theorem putF_tb {c : List Flm} {f : Flm} {M N : Int} (hc : ∀ k, k < c.length → 0 ≤ (fat c k).t ∧ (fat c k).t ≤ M) (hf : 0 ≤ f.t ∧ f.t ≤ N) : ∀ k, k < (putF c f).length → 0 ≤ (fat (putF c f) k).t ∧ ((fat (putF c f) k).t ≤ M + N ∨ (fat (putF c f) k).t ≤ N ∨ (fat (putF c f) k).t ≤ M) := by
  intro k hk
  unfold putF at hk ⊢
  split
  · rename_i h; rw [if_pos h] at hk; exact ⟨(hc k hk).1, Or.inr (Or.inr (hc k hk).2)⟩
  · rename_i h
    rw [if_neg h] at hk
    split
    · rename_i h4
      rw [if_pos h4, List.length_set] at hk
      rw [fat_set (by omega)]
      split
      · have := hc (c.length - 1) (by omega); exact ⟨show 0 ≤ _ + _ by omega, Or.inl (show _ + _ ≤ _ by omega)⟩
      · exact ⟨(hc k hk).1, Or.inr (Or.inr (hc k hk).2)⟩
    · rename_i h4
      rw [if_neg h4, List.length_append, List.length_singleton] at hk
      rw [fat_snoc]
      split
      · exact ⟨hf.1, Or.inr (Or.inl hf.2)⟩
      · have := hc k (by omega); exact ⟨this.1, Or.inr (Or.inr this.2)⟩

set_option maxRecDepth 10000 in
set_option maxHeartbeats 12800000 in
theorem grow_top {W : World} {B n g cap p : Nat} {a : Int} {c : List Flm} (hc : GC c) (ha : 1 ≤ a ∧ a ≤ 100000) (hB : B ≤ W.heap.size) (hp : SiOk c p) (he0 : c.length = p + 1) (h : OG 76 2 flC W B (.slice (some ⟨g, 0, none⟩) n cap) c) :
    Calls Try.prog 59 #[.slice (some ⟨g, 0, none⟩) n cap, .int .i64 a] W fun e w' => ∃ v', e = .returned v' ∧ OG 76 2 flC w' B v' (grF a c) ∧ Below W.heap.size W w' := by
  have HN : Hid (n = c.length) := by obtain ⟨_, _, e⟩ := h.form; injection e
  have HBW : Hid (B ≤ W.heap.size) := hB
  have hn24 : n ≤ 24 := by rw [HN.out]; exact hc.len
  have hpn : p < n := by rw [HN.out]; exact hp.lt
  obtain ⟨i1, hi1, hy0, hy1, hy2⟩ := info_parts info_Film
  obtain ⟨g', o', he, hgl, d0, d1⟩ := fl_at (OG.rg flC_len h) hpn
  injection he with he1
  injection he1 with he2 he3
  subst he2 he3
  rw [Nat.zero_add] at d0 d1
  rw [hp.m] at d0
  obtain ⟨t, ht⟩ : ∃ x, x = (fat c p).t := ⟨_, rfl⟩
  rw [← ht] at d1
  have htb := hc.t hp.lt
  rw [← ht] at htb
  have HG9 : Hid (g < W.heap.size ∧ W.cell? ⟨g, p * 2 + 1, none⟩ = some (.int .i64 t)) := ⟨hgl, d1⟩
  obtain ⟨O, hO⟩ : ∃ O, oxO c = O := ⟨_, rfl⟩
  have hO0 : O = 0 := by
    rw [← hO]; unfold oxO; rw [show c.length - 1 = p by omega, if_neg (by rw [hp.m]; decide)]
  subst hO0
  have k1 : IntKind.i64.wrap ((n : Int) - 1) = (p : Int) := by rw [IntKind.wrap_i64, HN.out, he0]; omega
  have k2 : (n : Int) - 1 = (p : Int) := by have := HN.out; omega
  have k3 : ¬ (p : Int) < 0 := by omega
  have k3' : (0 : Int) ≤ (p : Int) := by omega
  have k4 : (p : Int) < (n : Int) := by omega
  have k9 : IntKind.i64.wrap (p : Int) = (p : Int) := by rw [IntKind.wrap_i64]; omega
  obtain ⟨u, hu⟩ : ∃ u, u = 44 * a / 100 := ⟨_, rfl⟩
  have hub : 0 ≤ u ∧ u ≤ 44000 := by omega
  have hm1 : IntKind.i64.wrap (44 * a) = 44 * a := by rw [IntKind.wrap_i64]; omega
  have hm2 : Int.tdiv (44 * a) 100 = u := by rw [hu, Int.tdiv_eq_ediv_of_nonneg (by omega)]
  have hm3 : IntKind.i64.wrap u = u := by rw [IntKind.wrap_i64]; omega
  have hm4 : IntKind.i64.wrap (100 * t) = 100 * t := by rw [IntKind.wrap_i64]; omega
  obtain ⟨q, hq⟩ : ∃ q, q = 100 * t / 44 := ⟨_, rfl⟩
  have hm5 : Int.tdiv (100 * t) 44 = q := by rw [hq, Int.tdiv_eq_ediv_of_nonneg (by omega)]
  have hqb : 0 ≤ q ∧ q ≤ 250000 := by omega
  have hm6 : IntKind.i64.wrap q = q := by rw [IntKind.wrap_i64]; omega
  have HEA : Hid (oxE t a = (if t < u then t else u) ∧ oxA t a = (if t < u then q else a)) := by
    unfold oxE oxA; rw [← hu, ← hq]; exact ⟨rfl, rfl⟩
  have HGR : Hid (grF a c = putF (putF (c.take p) ⟨1, t - oxE t a⟩) ⟨2, 0 + oxA t a⟩) := by
    unfold Hid grF; rw [if_neg (by rw [hp.e]; omega), hp.e, Int.toNat_natCast, ← ht, hO]
  have HTL : Hid ((c.take p).length ≤ 24) := by unfold Hid; rw [List.length_take]; have := hc.len; omega
  have HTB : Hid ((c.take p).length ≤ 1000 ∧ ∀ k, k < (c.take p).length → 0 ≤ (fat (c.take p) k).t ∧ (fat (c.take p) k).t ≤ 100000) := by
    refine ⟨by have := HTL.out; omega, fun k hk => ?_⟩
    rw [List.length_take] at hk
    have e : fat (c.take p) k = fat c k := by
      unfold fat
      rw [List.getD_eq_getElem?_getD, List.getElem?_take_of_lt (by omega), ← List.getD_eq_getElem?_getD]
    rw [e]
    have := hc.t (show k < c.length by omega)
    omega
  have HLIT : Hid ((W.alloc (.cells #[] 76)).ownsRow W.heap.size 76 2 (.slice (some ⟨W.heap.size, 0, none⟩) 0 0) 0 []) := World.ownsRow_lit W #[] 0 (Nat.le_refl _) (by decide) (by simp)
  have HOW : Hid (OG 76 2 flC W B (.slice (some ⟨g, 0, none⟩) n cap) c) := h
  have HTK : Hid (((c.take p).flatMap flC).length = p * 2 ∧ ∀ j u, ((c.take p).flatMap flC)[j]? = some u → (W.alloc (.cells #[] 76)).cell? ((⟨g, 0, none⟩ : Addr).add j) = some u) := by
    refine ⟨by rw [fm_length flC_len, List.length_take]; have := hp.lt; omega, ?_⟩
    exact row_newsF (OG.rg flC_len ((og_cut h (show p ≤ n by rw [HN.out]; exact Nat.le_of_lt hp.lt)).below (by (repeat' (first | (with_reducible exact Below.refl _ _) | (with_reducible assumption) | (with_reducible refine Below.setCell ?_ ?_ _) | (with_reducible refine Below.alloc ?_ ?_ _) | (with_reducible refine below_drewN ?_ _) | (with_reducible refine Below.drew ?_) | (with_reducible exact Nat.le_refl _) | omega | (simp; done) | (simp; omega)))))) _ rfl
  have hcap : (p : Int) ≤ (cap : Int) := by
    rcases h.2 with ⟨e, h9⟩ | ⟨g9, cap9, cur, e, _, _, h5, _⟩
    · cases e
    · injection e with e1 e2 e3; rw [← e3] at h5; have := hp.lt; omega
  clear h hc hp hB ht hO hu hq he0
  by_cases hgt : t < u
  · have HEQ : Hid (oxE t a = t ∧ oxA t a = q) := by rw [HEA.out.1, HEA.out.2, if_pos hgt, if_pos hgt]; exact ⟨rfl, rfl⟩
    have HGF : Hid (grF a c = putF (putF (c.take p) ⟨1, 0⟩) ⟨2, q⟩) := by unfold Hid; rw [HGR.out, HEQ.out.1, HEQ.out.2, Int.sub_self, Int.zero_add]
    have hO1 : IntKind.i64.wrap (q : Int) = q := by rw [IntKind.wrap_i64]; omega
    have hO2 : IntKind.i64.wrap (0 : Int) = 0 := by rw [IntKind.wrap_i64]; omega
    have hgt9 : u > t := hgt
    clear HEA HEQ HGR
    go_enter Try.func59, Try.ntmps59
    go_wp2_with (at_builtin; refine wpList_append_own_at _ rfl _ _ 62 rfl W.heap.size 76 i1 (.agg #[.int .i64 0, .int .i64 0]) 2 16 Try.underlying62 hi1 hy0 hy1 hy2 rfl (by decide) (.slice (some ⟨W.heap.size, 0, none⟩) 0 0) 0 [] rfl HLIT.out ⟨g, 0, none⟩ p cap ((c.take p).flatMap flC) rfl HTK.out.1 HTK.out.2 (flC_ones _) (by unfold maxLen; omega) (by omega) (by simp) ?_; intro v5 w5 hown5 hgrow5 _ _; obtain ⟨va, vc, hv5, ho5, hb5⟩ := grow_row HTK.out.1 hown5 hgrow5 HOW.out; subst hv5; have x1 := (hb5.cell (p := ⟨g, p * 2 + 1, none⟩) HG9.out.1).trans HG9.out.2; have x2 : g < w5.heap.size := Nat.lt_of_lt_of_le HG9.out.1 hb5.size; have HX5 : Hid _ := And.intro ho5 hb5; clear hown5 hgrow5 ho5 hb5)
    refine (spec_put12 1 (0) HX5.out.2.size HTB.out.1 (by omega) (fun k hk => by have := HTB.out.2 k hk; omega) HX5.out.1).mono ?_
    rintro e y1 ⟨v1, rfl, hpf1⟩
    obtain ⟨xa, xc, hvf⟩ := hpf1.o.form
    obtain ⟨xn, hxn⟩ : ∃ x, x = (putF (c.take p) ⟨1, 0⟩).length := ⟨_, rfl⟩
    rw [← hxn] at hvf
    subst hvf
    clear hxn
    have HY1 : Hid (OG 76 2 flC y1 W.heap.size (.slice xa xn xc) (putF (c.take p) ⟨1, 0⟩) ∧ Below W.heap.size W y1) := ⟨hpf1.o, HX5.out.2.grown hpf1.g HX5.out.2.size fun q9 hq9 => (rowBlk HX5.out.1 hq9).1⟩
    have HTB2 : Hid ((putF (c.take p) ⟨1, 0⟩).length ≤ 1000 ∧ ∀ k, k < (putF (c.take p) ⟨1, 0⟩).length → 0 ≤ (fat (putF (c.take p) ⟨1, 0⟩) k).t ∧ (fat (putF (c.take p) ⟨1, 0⟩) k).t ≤ 200000) := by
      refine ⟨Nat.le_trans (putF_len _ _).2 (by have := HTL.out; omega), fun k hk => ?_⟩
      have h9 := putF_tb (M := 100000) (N := 100000) HTB.out.2 (f := ⟨1, 0⟩) (by show (0 : Int) ≤ 0 ∧ 0 ≤ 100000; omega) k hk
      omega
    clear hpf1 HX5 x1 x2
    go_wp2_with (fail)
    refine (spec_put12 2 (q) HY1.out.2.size HTB2.out.1 (by omega) (fun k hk => by have := HTB2.out.2 k hk; omega) HY1.out.1).mono ?_
    rintro e y2 ⟨v2, rfl, hpf2⟩
    have HF : Hid (OG 76 2 flC y2 B v2 (grF a c) ∧ Below W.heap.size W y2) := by
      rw [HGF.out]
      exact ⟨hpf2.o.low HBW.out, HY1.out.2.grown hpf2.g HY1.out.2.size fun q9 hq9 => (rowBlk HY1.out.1 hq9).1⟩
    clear hpf2 HY1
    go_wp2
    go_returns
    exact ⟨_, rfl, HF.out.1, HF.out.2⟩
  · have HEQ : Hid (oxE t a = u ∧ oxA t a = a) := by rw [HEA.out.1, HEA.out.2, if_neg hgt, if_neg hgt]; exact ⟨rfl, rfl⟩
    have HGF : Hid (grF a c = putF (putF (c.take p) ⟨1, t - u⟩) ⟨2, a⟩) := by unfold Hid; rw [HGR.out, HEQ.out.1, HEQ.out.2, Int.zero_add]
    have hO1 : IntKind.i64.wrap (a : Int) = a := by rw [IntKind.wrap_i64]; omega
    have hO2 : IntKind.i64.wrap (t - u : Int) = t - u := by rw [IntKind.wrap_i64]; omega
    have hgt9 : ¬ u > t := by omega
    clear HEA HEQ HGR
    go_enter Try.func59, Try.ntmps59
    go_wp2_with (at_builtin; refine wpList_append_own_at _ rfl _ _ 62 rfl W.heap.size 76 i1 (.agg #[.int .i64 0, .int .i64 0]) 2 16 Try.underlying62 hi1 hy0 hy1 hy2 rfl (by decide) (.slice (some ⟨W.heap.size, 0, none⟩) 0 0) 0 [] rfl HLIT.out ⟨g, 0, none⟩ p cap ((c.take p).flatMap flC) rfl HTK.out.1 HTK.out.2 (flC_ones _) (by unfold maxLen; omega) (by omega) (by simp) ?_; intro v5 w5 hown5 hgrow5 _ _; obtain ⟨va, vc, hv5, ho5, hb5⟩ := grow_row HTK.out.1 hown5 hgrow5 HOW.out; subst hv5; have x1 := (hb5.cell (p := ⟨g, p * 2 + 1, none⟩) HG9.out.1).trans HG9.out.2; have x2 : g < w5.heap.size := Nat.lt_of_lt_of_le HG9.out.1 hb5.size; have HX5 : Hid _ := And.intro ho5 hb5; clear hown5 hgrow5 ho5 hb5)
    refine (spec_put12 1 (t - u) HX5.out.2.size HTB.out.1 (by omega) (fun k hk => by have := HTB.out.2 k hk; omega) HX5.out.1).mono ?_
    rintro e y1 ⟨v1, rfl, hpf1⟩
    obtain ⟨xa, xc, hvf⟩ := hpf1.o.form
    obtain ⟨xn, hxn⟩ : ∃ x, x = (putF (c.take p) ⟨1, t - u⟩).length := ⟨_, rfl⟩
    rw [← hxn] at hvf
    subst hvf
    clear hxn
    have HY1 : Hid (OG 76 2 flC y1 W.heap.size (.slice xa xn xc) (putF (c.take p) ⟨1, t - u⟩) ∧ Below W.heap.size W y1) := ⟨hpf1.o, HX5.out.2.grown hpf1.g HX5.out.2.size fun q9 hq9 => (rowBlk HX5.out.1 hq9).1⟩
    have HTB2 : Hid ((putF (c.take p) ⟨1, t - u⟩).length ≤ 1000 ∧ ∀ k, k < (putF (c.take p) ⟨1, t - u⟩).length → 0 ≤ (fat (putF (c.take p) ⟨1, t - u⟩) k).t ∧ (fat (putF (c.take p) ⟨1, t - u⟩) k).t ≤ 200000) := by
      refine ⟨Nat.le_trans (putF_len _ _).2 (by have := HTL.out; omega), fun k hk => ?_⟩
      have h9 := putF_tb (M := 100000) (N := 100000) HTB.out.2 (f := ⟨1, t - u⟩) (by show (0 : Int) ≤ t - u ∧ t - u ≤ 100000; omega) k hk
      omega
    clear hpf1 HX5 x1 x2
    go_wp2_with (fail)
    refine (spec_put12 2 (a) HY1.out.2.size HTB2.out.1 (by omega) (fun k hk => by have := HTB2.out.2 k hk; omega) HY1.out.1).mono ?_
    rintro e y2 ⟨v2, rfl, hpf2⟩
    have HF : Hid (OG 76 2 flC y2 B v2 (grF a c) ∧ Below W.heap.size W y2) := by
      rw [HGF.out]
      exact ⟨hpf2.o.low HBW.out, HY1.out.2.grown hpf2.g HY1.out.2.size fun q9 hq9 => (rowBlk HY1.out.1 hq9).1⟩
    clear hpf2 HY1
    go_wp2
    go_returns
    exact ⟨_, rfl, HF.out.1, HF.out.2⟩

set_option maxRecDepth 10000 in
set_option maxHeartbeats 12800000 in
theorem grow_under {W : World} {B n g cap p : Nat} {a : Int} {c : List Flm} (hc : GC c) (ha : 1 ≤ a ∧ a ≤ 100000) (hB : B ≤ W.heap.size) (hp : SiOk c p) (he0 : c.length = p + 2) (he2 : (fat c (p + 1)).m = 2) (h : OG 76 2 flC W B (.slice (some ⟨g, 0, none⟩) n cap) c) :
    Calls Try.prog 59 #[.slice (some ⟨g, 0, none⟩) n cap, .int .i64 a] W fun e w' => ∃ v', e = .returned v' ∧ OG 76 2 flC w' B v' (grF a c) ∧ Below W.heap.size W w' := by
  have HN : Hid (n = c.length) := by obtain ⟨_, _, e⟩ := h.form; injection e
  have HBW : Hid (B ≤ W.heap.size) := hB
  have hn24 : n ≤ 24 := by rw [HN.out]; exact hc.len
  have hpn : p < n := by rw [HN.out]; exact hp.lt
  obtain ⟨i1, hi1, hy0, hy1, hy2⟩ := info_parts info_Film
  obtain ⟨g', o', he, hgl, d0, d1⟩ := fl_at (OG.rg flC_len h) hpn
  injection he with he1
  injection he1 with he2 he3
  subst he2 he3
  rw [Nat.zero_add] at d0 d1
  rw [hp.m] at d0
  obtain ⟨t, ht⟩ : ∃ x, x = (fat c p).t := ⟨_, rfl⟩
  rw [← ht] at d1
  have htb := hc.t hp.lt
  rw [← ht] at htb
  have HG9 : Hid (g < W.heap.size ∧ W.cell? ⟨g, p * 2 + 1, none⟩ = some (.int .i64 t)) := ⟨hgl, d1⟩
  obtain ⟨O, hO⟩ : ∃ O, oxO c = O := ⟨_, rfl⟩
  obtain ⟨g', o', he, _, f0, f1⟩ := fl_at (OG.rg flC_len h) (show p + 1 < n by rw [HN.out, he0]; omega)
  injection he with he1
  injection he1 with he3 he4
  subst he3 he4
  rw [Nat.zero_add] at f0 f1
  have hO0 : O = (fat c (p + 1)).t := by
    rw [← hO]; unfold oxO; rw [show c.length - 1 = p + 1 by omega, if_pos he2]
  have hOb := hc.t (show p + 1 < c.length by omega)
  rw [← hO0] at f1 hOb
  rw [he2] at f0
  clear hO0
  obtain ⟨r, hr⟩ : ∃ r, r = p + 1 := ⟨_, rfl⟩
  rw [← hr] at f0 f1
  have k1 : IntKind.i64.wrap ((n : Int) - 1) = (r : Int) := by rw [IntKind.wrap_i64, HN.out, he0, hr]; omega
  have k2 : (n : Int) - 1 = (r : Int) := by have := HN.out; omega
  have k3 : ¬ (r : Int) < 0 := by omega
  have k3' : (0 : Int) ≤ (r : Int) := by omega
  have k4 : (r : Int) < (n : Int) := by have := HN.out; omega
  have k9 : IntKind.i64.wrap (r : Int) = (r : Int) := by rw [IntKind.wrap_i64]; omega
  have k5 : IntKind.i64.wrap ((r : Int) - 1) = (p : Int) := by rw [IntKind.wrap_i64]; omega
  have k6 : (r : Int) - 1 = (p : Int) := by omega
  have k7 : (0 : Int) ≤ (p : Int) := by omega
  have k7' : ¬ (p : Int) < 0 := by omega
  have k8 : (p : Int) < (n : Int) := by omega
  have k10 : IntKind.i64.wrap (p : Int) = (p : Int) := by rw [IntKind.wrap_i64]; omega
  obtain ⟨u, hu⟩ : ∃ u, u = 44 * a / 100 := ⟨_, rfl⟩
  have hub : 0 ≤ u ∧ u ≤ 44000 := by omega
  have hm1 : IntKind.i64.wrap (44 * a) = 44 * a := by rw [IntKind.wrap_i64]; omega
  have hm2 : Int.tdiv (44 * a) 100 = u := by rw [hu, Int.tdiv_eq_ediv_of_nonneg (by omega)]
  have hm3 : IntKind.i64.wrap u = u := by rw [IntKind.wrap_i64]; omega
  have hm4 : IntKind.i64.wrap (100 * t) = 100 * t := by rw [IntKind.wrap_i64]; omega
  obtain ⟨q, hq⟩ : ∃ q, q = 100 * t / 44 := ⟨_, rfl⟩
  have hm5 : Int.tdiv (100 * t) 44 = q := by rw [hq, Int.tdiv_eq_ediv_of_nonneg (by omega)]
  have hqb : 0 ≤ q ∧ q ≤ 250000 := by omega
  have hm6 : IntKind.i64.wrap q = q := by rw [IntKind.wrap_i64]; omega
  have HEA : Hid (oxE t a = (if t < u then t else u) ∧ oxA t a = (if t < u then q else a)) := by
    unfold oxE oxA; rw [← hu, ← hq]; exact ⟨rfl, rfl⟩
  have HGR : Hid (grF a c = putF (putF (c.take p) ⟨1, t - oxE t a⟩) ⟨2, O + oxA t a⟩) := by
    unfold Hid grF; rw [if_neg (by rw [hp.e]; omega), hp.e, Int.toNat_natCast, ← ht, hO]
  have HTL : Hid ((c.take p).length ≤ 24) := by unfold Hid; rw [List.length_take]; have := hc.len; omega
  have HTB : Hid ((c.take p).length ≤ 1000 ∧ ∀ k, k < (c.take p).length → 0 ≤ (fat (c.take p) k).t ∧ (fat (c.take p) k).t ≤ 100000) := by
    refine ⟨by have := HTL.out; omega, fun k hk => ?_⟩
    rw [List.length_take] at hk
    have e : fat (c.take p) k = fat c k := by
      unfold fat
      rw [List.getD_eq_getElem?_getD, List.getElem?_take_of_lt (by omega), ← List.getD_eq_getElem?_getD]
    rw [e]
    have := hc.t (show k < c.length by omega)
    omega
  have HLIT : Hid ((W.alloc (.cells #[] 76)).ownsRow W.heap.size 76 2 (.slice (some ⟨W.heap.size, 0, none⟩) 0 0) 0 []) := World.ownsRow_lit W #[] 0 (Nat.le_refl _) (by decide) (by simp)
  have HOW : Hid (OG 76 2 flC W B (.slice (some ⟨g, 0, none⟩) n cap) c) := h
  have HTK : Hid (((c.take p).flatMap flC).length = p * 2 ∧ ∀ j u, ((c.take p).flatMap flC)[j]? = some u → (W.alloc (.cells #[] 76)).cell? ((⟨g, 0, none⟩ : Addr).add j) = some u) := by
    refine ⟨by rw [fm_length flC_len, List.length_take]; have := hp.lt; omega, ?_⟩
    exact row_newsF (OG.rg flC_len ((og_cut h (show p ≤ n by rw [HN.out]; exact Nat.le_of_lt hp.lt)).below (by (repeat' (first | (with_reducible exact Below.refl _ _) | (with_reducible assumption) | (with_reducible refine Below.setCell ?_ ?_ _) | (with_reducible refine Below.alloc ?_ ?_ _) | (with_reducible refine below_drewN ?_ _) | (with_reducible refine Below.drew ?_) | (with_reducible exact Nat.le_refl _) | omega | (simp; done) | (simp; omega)))))) _ rfl
  have hcap : (p : Int) ≤ (cap : Int) := by
    rcases h.2 with ⟨e, h9⟩ | ⟨g9, cap9, cur, e, _, _, h5, _⟩
    · cases e
    · injection e with e1 e2 e3; rw [← e3] at h5; have := hp.lt; omega
  clear h hc hp hB ht hO hu hq he0 he2 hr
  by_cases hgt : t < u
  · have HEQ : Hid (oxE t a = t ∧ oxA t a = q) := by rw [HEA.out.1, HEA.out.2, if_pos hgt, if_pos hgt]; exact ⟨rfl, rfl⟩
    have HGF : Hid (grF a c = putF (putF (c.take p) ⟨1, 0⟩) ⟨2, O + q⟩) := by unfold Hid; rw [HGR.out, HEQ.out.1, HEQ.out.2, Int.sub_self]
    have hO1 : IntKind.i64.wrap (O + q : Int) = O + q := by rw [IntKind.wrap_i64]; omega
    have hO2 : IntKind.i64.wrap (0 : Int) = 0 := by rw [IntKind.wrap_i64]; omega
    have hgt9 : u > t := hgt
    clear HEA HEQ HGR
    go_enter Try.func59, Try.ntmps59
    go_wp2_with (at_builtin; refine wpList_append_own_at _ rfl _ _ 62 rfl W.heap.size 76 i1 (.agg #[.int .i64 0, .int .i64 0]) 2 16 Try.underlying62 hi1 hy0 hy1 hy2 rfl (by decide) (.slice (some ⟨W.heap.size, 0, none⟩) 0 0) 0 [] rfl HLIT.out ⟨g, 0, none⟩ p cap ((c.take p).flatMap flC) rfl HTK.out.1 HTK.out.2 (flC_ones _) (by unfold maxLen; omega) (by omega) (by simp) ?_; intro v5 w5 hown5 hgrow5 _ _; obtain ⟨va, vc, hv5, ho5, hb5⟩ := grow_row HTK.out.1 hown5 hgrow5 HOW.out; subst hv5; have x1 := (hb5.cell (p := ⟨g, p * 2 + 1, none⟩) HG9.out.1).trans HG9.out.2; have x2 : g < w5.heap.size := Nat.lt_of_lt_of_le HG9.out.1 hb5.size; have HX5 : Hid _ := And.intro ho5 hb5; clear hown5 hgrow5 ho5 hb5)
    refine (spec_put12 1 (0) HX5.out.2.size HTB.out.1 (by omega) (fun k hk => by have := HTB.out.2 k hk; omega) HX5.out.1).mono ?_
    rintro e y1 ⟨v1, rfl, hpf1⟩
    obtain ⟨xa, xc, hvf⟩ := hpf1.o.form
    obtain ⟨xn, hxn⟩ : ∃ x, x = (putF (c.take p) ⟨1, 0⟩).length := ⟨_, rfl⟩
    rw [← hxn] at hvf
    subst hvf
    clear hxn
    have HY1 : Hid (OG 76 2 flC y1 W.heap.size (.slice xa xn xc) (putF (c.take p) ⟨1, 0⟩) ∧ Below W.heap.size W y1) := ⟨hpf1.o, HX5.out.2.grown hpf1.g HX5.out.2.size fun q9 hq9 => (rowBlk HX5.out.1 hq9).1⟩
    have HTB2 : Hid ((putF (c.take p) ⟨1, 0⟩).length ≤ 1000 ∧ ∀ k, k < (putF (c.take p) ⟨1, 0⟩).length → 0 ≤ (fat (putF (c.take p) ⟨1, 0⟩) k).t ∧ (fat (putF (c.take p) ⟨1, 0⟩) k).t ≤ 200000) := by
      refine ⟨Nat.le_trans (putF_len _ _).2 (by have := HTL.out; omega), fun k hk => ?_⟩
      have h9 := putF_tb (M := 100000) (N := 100000) HTB.out.2 (f := ⟨1, 0⟩) (by show (0 : Int) ≤ 0 ∧ 0 ≤ 100000; omega) k hk
      omega
    clear hpf1 HX5 x1 x2
    go_wp2_with (fail)
    refine (spec_put12 2 (O + q) HY1.out.2.size HTB2.out.1 (by omega) (fun k hk => by have := HTB2.out.2 k hk; omega) HY1.out.1).mono ?_
    rintro e y2 ⟨v2, rfl, hpf2⟩
    have HF : Hid (OG 76 2 flC y2 B v2 (grF a c) ∧ Below W.heap.size W y2) := by
      rw [HGF.out]
      exact ⟨hpf2.o.low HBW.out, HY1.out.2.grown hpf2.g HY1.out.2.size fun q9 hq9 => (rowBlk HY1.out.1 hq9).1⟩
    clear hpf2 HY1
    go_wp2
    go_returns
    exact ⟨_, rfl, HF.out.1, HF.out.2⟩
  · have HEQ : Hid (oxE t a = u ∧ oxA t a = a) := by rw [HEA.out.1, HEA.out.2, if_neg hgt, if_neg hgt]; exact ⟨rfl, rfl⟩
    have HGF : Hid (grF a c = putF (putF (c.take p) ⟨1, t - u⟩) ⟨2, O + a⟩) := by unfold Hid; rw [HGR.out, HEQ.out.1, HEQ.out.2]
    have hO1 : IntKind.i64.wrap (O + a : Int) = O + a := by rw [IntKind.wrap_i64]; omega
    have hO2 : IntKind.i64.wrap (t - u : Int) = t - u := by rw [IntKind.wrap_i64]; omega
    have hgt9 : ¬ u > t := by omega
    clear HEA HEQ HGR
    go_enter Try.func59, Try.ntmps59
    go_wp2_with (at_builtin; refine wpList_append_own_at _ rfl _ _ 62 rfl W.heap.size 76 i1 (.agg #[.int .i64 0, .int .i64 0]) 2 16 Try.underlying62 hi1 hy0 hy1 hy2 rfl (by decide) (.slice (some ⟨W.heap.size, 0, none⟩) 0 0) 0 [] rfl HLIT.out ⟨g, 0, none⟩ p cap ((c.take p).flatMap flC) rfl HTK.out.1 HTK.out.2 (flC_ones _) (by unfold maxLen; omega) (by omega) (by simp) ?_; intro v5 w5 hown5 hgrow5 _ _; obtain ⟨va, vc, hv5, ho5, hb5⟩ := grow_row HTK.out.1 hown5 hgrow5 HOW.out; subst hv5; have x1 := (hb5.cell (p := ⟨g, p * 2 + 1, none⟩) HG9.out.1).trans HG9.out.2; have x2 : g < w5.heap.size := Nat.lt_of_lt_of_le HG9.out.1 hb5.size; have HX5 : Hid _ := And.intro ho5 hb5; clear hown5 hgrow5 ho5 hb5)
    refine (spec_put12 1 (t - u) HX5.out.2.size HTB.out.1 (by omega) (fun k hk => by have := HTB.out.2 k hk; omega) HX5.out.1).mono ?_
    rintro e y1 ⟨v1, rfl, hpf1⟩
    obtain ⟨xa, xc, hvf⟩ := hpf1.o.form
    obtain ⟨xn, hxn⟩ : ∃ x, x = (putF (c.take p) ⟨1, t - u⟩).length := ⟨_, rfl⟩
    rw [← hxn] at hvf
    subst hvf
    clear hxn
    have HY1 : Hid (OG 76 2 flC y1 W.heap.size (.slice xa xn xc) (putF (c.take p) ⟨1, t - u⟩) ∧ Below W.heap.size W y1) := ⟨hpf1.o, HX5.out.2.grown hpf1.g HX5.out.2.size fun q9 hq9 => (rowBlk HX5.out.1 hq9).1⟩
    have HTB2 : Hid ((putF (c.take p) ⟨1, t - u⟩).length ≤ 1000 ∧ ∀ k, k < (putF (c.take p) ⟨1, t - u⟩).length → 0 ≤ (fat (putF (c.take p) ⟨1, t - u⟩) k).t ∧ (fat (putF (c.take p) ⟨1, t - u⟩) k).t ≤ 200000) := by
      refine ⟨Nat.le_trans (putF_len _ _).2 (by have := HTL.out; omega), fun k hk => ?_⟩
      have h9 := putF_tb (M := 100000) (N := 100000) HTB.out.2 (f := ⟨1, t - u⟩) (by show (0 : Int) ≤ t - u ∧ t - u ≤ 100000; omega) k hk
      omega
    clear hpf1 HX5 x1 x2
    go_wp2_with (fail)
    refine (spec_put12 2 (O + a) HY1.out.2.size HTB2.out.1 (by omega) (fun k hk => by have := HTB2.out.2 k hk; omega) HY1.out.1).mono ?_
    rintro e y2 ⟨v2, rfl, hpf2⟩
    have HF : Hid (OG 76 2 flC y2 B v2 (grF a c) ∧ Below W.heap.size W y2) := by
      rw [HGF.out]
      exact ⟨hpf2.o.low HBW.out, HY1.out.2.grown hpf2.g HY1.out.2.size fun q9 hq9 => (rowBlk HY1.out.1 hq9).1⟩
    clear hpf2 HY1
    go_wp2
    go_returns
    exact ⟨_, rfl, HF.out.1, HF.out.2⟩

theorem spec_grow {W : World} {B n : Nat} {a : Int} {xa : Option Addr} {cap : Nat} {c : List Flm} (hc : GC c) (ha : 1 ≤ a ∧ a ≤ 100000) (hB : B ≤ W.heap.size) (h : OG 76 2 flC W B (.slice xa n cap) c) :
    Calls Try.prog 59 #[.slice xa n cap, .int .i64 a] W fun e w' => ∃ v', e = .returned v' ∧ OG 76 2 flC w' B v' (grF a c) ∧ Below W.heap.size W w' := by
  by_cases hs : siI c < 0
  · have h1 : siI c = -1 := by
      unfold siI at hs ⊢
      split at hs
      · rw [if_pos (by assumption)]
      · rename_i h0
        rw [if_neg h0]
        split at hs
        · rename_i h2
          rw [if_pos h2]
          split at hs
          · omega
          · rename_i h3; rw [if_neg h3]
        · rename_i h2
          rw [if_neg h2]
          split at hs
          · omega
          · rename_i h3; rw [if_neg h3]
    refine (grow_none (a := a) hc h1 h).mono ?_
    rintro e w' ⟨rfl, rfl⟩
    exact ⟨_, rfl, by rw [grF_none h1]; exact h, Below.refl _ _⟩
  · obtain ⟨p, hp⟩ := si_ok hs
    obtain ⟨g, rfl⟩ : ∃ g, xa = some ⟨g, 0, none⟩ := by
      rcases h.2 with ⟨e, h9⟩ | ⟨g9, cap9, cur, e, _⟩
      · have := hp.lt; omega
      · injection e with e1; exact ⟨g9, e1⟩
    rcases hp.top with ⟨e1, e2⟩ | ⟨e1, e2⟩
    · exact grow_top hc ha hB hp e1 h
    · exact grow_under hc ha hB hp e1 (by rw [show p + 1 = c.length - 1 by omega]; exact e2) h

end Go.Proofs.Ytceljakmjddgbab
