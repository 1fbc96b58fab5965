/- Proved here: putFilm of the program. -/
import Derived.Test.YtceljakmjddgbabLyM
import Derived.Test.YtceljakmjddgbabFloat
import Derived.StillTail
import Derived.Maps.AppendAt
import Derived.Deep.AppendLies
import Derived.Deep.DeepCutAuto
namespace Go.Proofs.Ytceljakmjddgbab
open Go.RowKit
set_option linter.unusedVariables false
set_option linter.unusedSimpArgs false

theorem PF.app {B : Nat} {w w1 w5 : World} {ob ob2 : Obj} {v v5 : Value} {c : List Flm} {m t : Int} (h1 : w.grownBy w1 v.ownBlock) (ho : w5.ownsRow B 76 2 v5 (c.length + 1) (c.flatMap flC ++ [.int .i64 m, .int .i64 t])) (hg : (w1.alloc ob).grownBy w5 v.ownBlock) (hr : v5.ownBlock = v.ownBlock ∨ v5.ownBlock = some (w1.alloc ob).heap.size) : PF B w w5 v v5 (c ++ [⟨m, t⟩]) := by
  have h2 : w.grownBy (w1.alloc ob) v.ownBlock := h1.trans (World.grownBy_alloc w1 ob _)
  refine ⟨?_, h2.trans hg, fun j hj => ?_⟩
  · unfold OG
    rw [flC_fm, List.length_append]
    exact ho
  · rcases hr with h5 | h5
    · exact Or.inr (h5.symm.trans hj)
    · left; rw [h5] at hj; injection hj with hj; have := h2.size; omega

set_option maxRecDepth 10000 in
set_option maxHeartbeats 6400000 in
theorem impl_put {w : World} {B : Nat} {v : Value} {c : List Flm} (m t : Int) (hB : B ≤ w.heap.size) (hl : c.length ≤ 1000) (ht : -1000000000 ≤ t ∧ t ≤ 1000000000) (hc : ∀ k, k < c.length → -1000000000 ≤ (fat c k).t ∧ (fat c k).t ≤ 1000000000) (h : OG 76 2 flC w B v c) :
    Calls Try.prog 76 #[v, .agg #[.int .i64 m, .int .i64 t]] w fun e w' => ∃ v', e = .returned v' ∧ PF B w w' v v' (putF c ⟨m, t⟩) := by
  obtain ⟨a, cp, rfl⟩ := h.form
  obtain ⟨n, hnn⟩ : ∃ n, n = c.length := ⟨_, rfl⟩
  rw [← hnn] at h hl ⊢
  have HS : Hid (B ≤ w.heap.size) := hB
  have H : Hid (n = c.length ∧ ∀ k, k < n → -1000000000 ≤ (fat c k).t ∧ (fat c k).t ≤ 1000000000) := ⟨hnn, by rw [hnn]; exact hc⟩
  have HO : Hid (w.ownsRow B 76 2 (.slice a n cp) n (c.flatMap flC)) := by unfold OG at h; rw [← hnn] at h; exact h
  clear hnn hc hB h
  obtain ⟨i0, hi0, hz0, hz1, hz2⟩ := info_parts info_Film
  obtain ⟨w1, hw1⟩ : ∃ x, x = w.alloc (.cells #[.int .i64 m, .int .i64 t] 76) := ⟨_, rfl⟩
  have hk1 : w1.heap[w.heap.size]? = some (.cells #[.int .i64 m, .int .i64 t] 76) := by rw [hw1]; exact heap_alloc_new _ _
  have q0 : w1.cell? ⟨w.heap.size, 0, none⟩ = some (.int .i64 m) := by simp [World.cell?, hk1]
  have q1 : w1.cell? ⟨w.heap.size, 1, none⟩ = some (.int .i64 t) := by simp [World.cell?, hk1]
  have q2 : w.heap.size < w1.heap.size := by rw [hw1]; simp
  have HO1 : Hid (w1.ownsRow B 76 2 (.slice a n cp) n (c.flatMap flC) ∧ w.grownBy w1 (Value.slice a n cp).ownBlock ∧ Below w.heap.size w w1) := by
    refine ⟨by rw [hw1]; exact World.ownsRow.alloc HO.out _, by rw [hw1]; exact World.grownBy_alloc w _ _, by rw [hw1]; (repeat' (first | (with_reducible exact Below.refl _ _) | (with_reducible assumption) | (with_reducible refine Below.setCell ?_ ?_ _) | (with_reducible refine Below.alloc ?_ ?_ _) | (with_reducible refine below_drewN ?_ _) | (with_reducible refine Below.drew ?_) | (with_reducible exact Nat.le_refl _) | omega | (simp; done) | (simp; omega)))⟩
  have HQ : Hid (w1.cell? ⟨w.heap.size, 0, none⟩ = some (.int .i64 m) ∧ w1.cell? ⟨w.heap.size, 1, none⟩ = some (.int .i64 t) ∧ w.heap.size < w1.heap.size) := ⟨q0, q1, q2⟩
  have HS1 : Hid (B ≤ w1.heap.size) := by have := HS.out; unfold Hid; omega
  clear hk1
  go_enter Try.func76, Try.ntmps76
  go_upto_region 1 with fail
  rw [← hw1]
  clear hw1
  by_cases h0 : t = 0
  · have HE : Hid (PF B w w1 (.slice a n cp) (.slice a n cp) (putF c ⟨m, t⟩)) := by
      unfold Hid putF
      rw [if_pos h0]
      exact ⟨by unfold OG; rw [← H.out.1]; exact HO1.out.1, HO1.out.2.1, fun j hj => Or.inr hj⟩
    subst h0
    go_wp2
    go_returns
    exact ⟨_, rfl, HE.out⟩
  have h0' : (t == 0) = false := by simpa using h0
  rcases Nat.eq_zero_or_pos n with hn0 | hn0
  · subst hn0
    have HE : Hid (putF c ⟨m, t⟩ = c ++ [⟨m, t⟩]) := by unfold Hid putF; rw [if_neg h0, if_neg (fun h => by have := H.out.1; omega)]
    have k1 : IntKind.i64.wrap (-1) = -1 := by decide
    have k2 : ¬ (0 : Int) ≤ -1 := by omega
    go_wp2_with (fail)
    (refine wp_region_und (by kernel_rfl) (by kernel_rfl) (fun hund => ?_); (repeat (go_big_quiet_step (fail))); with_reducible refine wpQuiet_nil ?_; clear hund; intro W1 hb1; obtain ⟨hc1, hf1⟩ := undcell hb1)
    have HW : Hid (W1.ownsRow B 76 2 (.slice a 0 cp) 0 (c.flatMap flC) ∧ w.grownBy W1 ((.slice a 0 cp) : Value).ownBlock ∧ B ≤ W1.heap.size) := ⟨rowKept HO1.out.1 fun q hq => hb1.block q (rowBlk HO1.out.1 hq).2.1, HO1.out.2.1.trans ⟨hb1.os, hb1.tape, hb1.output, hb1.size, fun k hk _ => hb1.block k hk⟩, Nat.le_trans HS1.out hb1.size⟩
    have p0 := (hc1 _ 0 HQ.out.2.2).trans HQ.out.1
    have p1 := (hc1 _ 1 HQ.out.2.2).trans HQ.out.2.1
    have p2 : w.heap.size < W1.heap.size := Nat.lt_of_lt_of_le HQ.out.2.2 hb1.size
    clear hb1 hc1 hf1 q0 q1 q2 
    go_wp2_with (at_builtin; refine wpList_append_own_at _ rfl _ _ 62 rfl B 76 i0 (.agg #[.int .i64 0, .int .i64 0]) 2 16 Try.underlying62 hi0 hz0 hz1 hz2 rfl (by decide) _ _ _ rfl (World.ownsRow.alloc HW.out.1 _) ⟨W1.heap.size, 0, none⟩ 1 1 [.int .i64 m, .int .i64 t] rfl rfl (World.news_of_block (cs := #[.int .i64 m, .int .i64 t]) (t := 76) (fr := (0, 0)) (heap_alloc_new W1 _)) (by simp [Value.oneCell']) (by unfold maxLen; omega) (by omega) (by simp; have := HW.out.2.2; omega) ?_; intro v5 w5 hown5 hgrow5 _ hat5)
    have R : Hid (PF B w w5 (.slice a 0 cp) v5 (c ++ [⟨m, t⟩])) := PF.app (ob2 := .cells #[] 0) HW.out.2.1 (by rw [← H.out.1]; exact hown5) hgrow5 hat5
    clear hown5 hgrow5 hat5
    go_wp2
    go_returns
    exact ⟨_, rfl, by rw [HE.out]; exact R.out⟩

  obtain ⟨p, hp⟩ : ∃ p, n = p + 1 := ⟨n - 1, by omega⟩
  obtain ⟨g, hgo⟩ : ∃ g, a = some ⟨g, 0, none⟩ := by
    rcases HO.out.2 with ⟨e, h9⟩ | ⟨g, cap, cur, e, _⟩
    · omega
    · injection e with e1; exact ⟨g, e1⟩
  subst hgo
  have hpl : p < c.length := by rw [← H.out.1]; omega
  have hOG : OG 76 2 flC w1 B (.slice (some ⟨g, 0, none⟩) n cp) c := by unfold OG; rw [← H.out.1]; exact HO1.out.1
  obtain ⟨g', o', he, hgl, d0, d1⟩ := fl_at (OG.rg flC_len hOG) (show p < n by omega)
  injection he with he1
  injection he1 with he2 he3
  subst he2 he3
  rw [Nat.zero_add] at d0 d1
  obtain ⟨pm, hpm⟩ : ∃ x, x = (fat c p).m := ⟨_, rfl⟩
  obtain ⟨pt, hpt⟩ : ∃ x, x = (fat c p).t := ⟨_, rfl⟩
  rw [← hpm] at d0
  rw [← hpt] at d1
  have HP : Hid (pm = (fat c (c.length - 1)).m ∧ pt = (fat c (c.length - 1)).t ∧ 0 < c.length ∧ c.length - 1 = p) := by
    have e : c.length - 1 = p := by rw [← H.out.1]; omega
    exact ⟨by rw [e]; exact hpm, by rw [e]; exact hpt, by omega, e⟩
  have hptb := H.out.2 p (by omega)
  rw [← hpt] at hptb
  have f0 : w1.frozen? ⟨g, p * 2 + 1, none⟩ = false := World.ownsRow.frozenAt HO1.out.1 _
  have HOG : Hid (OG 76 2 flC w1 B (.slice (some ⟨g, 0, none⟩) n cp) c) := hOG
  clear hOG hpl hpm hpt
  have k1 : IntKind.i64.wrap ((n : Int) - 1) = (p : Int) := by rw [IntKind.wrap_i64]; omega
  have k2 : (n : Int) - 1 = (p : Int) := by omega
  have k3 : (0 : Int) ≤ (p : Int) := by omega
  have k4 : (p : Int) < (n : Int) := by omega
  have k5 : (0 : Int) < (n : Int) := by omega
  clear hp
  by_cases hs : pm = m
  · have HE : Hid (putF c ⟨m, t⟩ = c.set p ⟨(fat c p).m, pt + t⟩) := by
      have h9 := HP.out
      unfold Hid putF
      rw [if_neg h0, if_pos ⟨h9.2.2.1, by rw [← h9.1]; exact hs⟩, h9.2.2.2]
      rw [h9.2.2.2] at h9
      rw [← h9.2.1, ← h9.1, hs]
    have hpl : p < c.length := by rw [← H.out.1]; omega
    have hyx : IntKind.i64.wrap (pt + t) = pt + t := by rw [IntKind.wrap_i64]; omega
    subst hs
    go_wp2_with (fail)
    (refine wp_region_und (by kernel_rfl) (by kernel_rfl) (fun hund => ?_); (repeat (go_big_quiet_step (fail))); with_reducible refine wpQuiet_nil ?_; clear hund; intro W1 hb1; obtain ⟨hc1, hf1⟩ := undcell hb1)
    have HW : Hid (OG 76 2 flC W1 B (.slice (some ⟨g, 0, none⟩) n cp) c ∧ w.grownBy W1 (some g)) := ⟨HOG.out.below hb1, HO1.out.2.1.trans ⟨hb1.os, hb1.tape, hb1.output, hb1.size, fun k hk _ => hb1.block k hk⟩⟩
    have HX : Hid (PF B w (W1.drew.setCell ⟨g, p * 2 + 1, none⟩ (.int .i64 (pt + t))) (.slice (some ⟨g, 0, none⟩) n cp) (.slice (some ⟨g, 0, none⟩) n cp) (c.set p ⟨(fat c p).m, pt + t⟩)) := by
      refine ⟨og_thick (w := W1.drew) HW.out.1 hpl _, ?_, fun j hj => Or.inr hj⟩
      have h8 : w.grownBy W1.drew (some g) := ⟨HW.out.2.os, HW.out.2.tape, HW.out.2.output, HW.out.2.size, HW.out.2.block⟩
      exact ⟨h8.os, h8.tape, h8.output, by simpa using h8.size, fun k hk hne => by
        rw [heap_setCell_other _ _ _ _ (by simp only [ne_eq]; exact fun e => hne (by rw [e]; rfl))]
        exact h8.block k hk hne⟩
    have p1 := (hc1 _ 1 HQ.out.2.2).trans HQ.out.2.1
    have p2 : w.heap.size < W1.heap.size := Nat.lt_of_lt_of_le HQ.out.2.2 hb1.size
    have e0 := (hc1 g (p * 2) hgl).trans d0
    have e1 := (hc1 g (p * 2 + 1) hgl).trans d1
    have e2 : W1.frozen? ⟨g, p * 2 + 1, none⟩ = false := (hf1 g (p * 2 + 1) hgl).trans f0
    have e3 : g < W1.heap.size := Nat.lt_of_lt_of_le hgl hb1.size
    clear hb1 hc1 hf1 q0 q1 q2 d0 d1 f0 hgl
    go_wp2_with (fail)
    refine wp_region_still_tail 10 (by kernel_rfl) (by kernel_rfl) ?_
    have hdw : ({ W1 with drawn := W1.drawn + 1 } : World) = W1.drew := rfl
    rw [hdw]
    clear hdw
    simp only [List.take_succ_cons, List.take_zero, List.drop_succ_cons, List.drop_zero]
    iterate 10 still_step
    refine wpStill_nil ?_
    go_wp2
    go_returns
    exact ⟨_, rfl, by rw [HE.out]; exact HX.out⟩
  · have hs' : (pm == m) = false := by simpa using hs
    have HE : Hid (putF c ⟨m, t⟩ = c ++ [⟨m, t⟩]) := by unfold Hid putF; rw [if_neg h0, if_neg (fun h => hs (by rw [HP.out.1]; exact h.2))]
    go_wp2_with (fail)
    (refine wp_region_und (by kernel_rfl) (by kernel_rfl) (fun hund => ?_); (repeat (go_big_quiet_step (fail))); with_reducible refine wpQuiet_nil ?_; clear hund; intro W1 hb1; obtain ⟨hc1, hf1⟩ := undcell hb1)
    have HW : Hid (W1.ownsRow B 76 2 (.slice (some ⟨g, 0, none⟩) n cp) n (c.flatMap flC) ∧ w.grownBy W1 ((.slice (some ⟨g, 0, none⟩) n cp) : Value).ownBlock ∧ B ≤ W1.heap.size) := ⟨rowKept HO1.out.1 fun q hq => hb1.block q (rowBlk HO1.out.1 hq).2.1, HO1.out.2.1.trans ⟨hb1.os, hb1.tape, hb1.output, hb1.size, fun k hk _ => hb1.block k hk⟩, Nat.le_trans HS1.out hb1.size⟩
    have p0 := (hc1 _ 0 HQ.out.2.2).trans HQ.out.1
    have p1 := (hc1 _ 1 HQ.out.2.2).trans HQ.out.2.1
    have p2 : w.heap.size < W1.heap.size := Nat.lt_of_lt_of_le HQ.out.2.2 hb1.size
    clear hb1 hc1 hf1 q0 q1 q2 d0 d1 f0 hgl
    go_wp2_with (at_builtin; refine wpList_append_own_at _ rfl _ _ 62 rfl B 76 i0 (.agg #[.int .i64 0, .int .i64 0]) 2 16 Try.underlying62 hi0 hz0 hz1 hz2 rfl (by decide) _ _ _ rfl (World.ownsRow.alloc HW.out.1 _) ⟨W1.heap.size, 0, none⟩ 1 1 [.int .i64 m, .int .i64 t] rfl rfl (World.news_of_block (cs := #[.int .i64 m, .int .i64 t]) (t := 76) (fr := (0, 0)) (heap_alloc_new W1 _)) (by simp [Value.oneCell']) (by unfold maxLen; omega) (by omega) (by simp; have := HW.out.2.2; omega) ?_; intro v5 w5 hown5 hgrow5 _ hat5)
    have R : Hid (PF B w w5 (.slice (some ⟨g, 0, none⟩) n cp) v5 (c ++ [⟨m, t⟩])) := PF.app (ob2 := .cells #[] 0) HW.out.2.1 (by rw [← H.out.1]; exact hown5) hgrow5 hat5
    clear hown5 hgrow5 hat5
    go_wp2
    go_returns
    exact ⟨_, rfl, by rw [HE.out]; exact R.out⟩

end Go.Proofs.Ytceljakmjddgbab
