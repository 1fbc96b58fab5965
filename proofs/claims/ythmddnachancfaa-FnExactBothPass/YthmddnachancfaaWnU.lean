/- Proved here: BothPass of the model. -/
import Derived.Test.YthmddnachancfaaWnS
import Derived.Test.YthmddnachancfaaWnP
import Derived.Deep.DeepCutAuto
namespace Go.Proofs.Ythmddnachancfaa
open Go.RowKit
set_option linter.unusedVariables false
set_option linter.unusedSimpArgs false

theorem rdr_keep {w V V' : World} {ag ao n c rg ro rn rc j q : Nat} {ls : List (List Int)} (h : RdR w (.slice (some ⟨ag, ao, none⟩) n c) ls) (hb : Below w.heap.size w V) (hb' : Below w.heap.size w V') (hj : j < n) (a0 : V.cell? ⟨ag, ao + j, none⟩ = some (.slice (some ⟨rg, ro, none⟩) rn rc)) (hq : q < rn) :
    V'.cell? ⟨ag, ao + j, none⟩ = V.cell? ⟨ag, ao + j, none⟩ ∧ V'.cell? ⟨rg, ro + q, none⟩ = V.cell? ⟨rg, ro + q, none⟩ := by
  obtain ⟨g', o', ra', rn', rc', f1, f2, f3, f6, f7⟩ := h.at hj
  injection f1 with f1
  injection f1 with f4 f5
  subst f4 f5
  have g0 := hb.cell (p := ⟨ag, ao + j, none⟩) f2
  have g1 := hb'.cell (p := ⟨ag, ao + j, none⟩) f2
  refine ⟨g1.trans g0.symm, ?_⟩
  rw [a0, f3] at g0
  injection g0 with g0
  injection g0 with e1 e2 e3
  subst e1 e2
  obtain ⟨rg', ro', h1, h2, h3⟩ := rd_at f7 hq
  injection h1 with h1
  injection h1 with h4 h5
  subst h4 h5
  exact (hb'.cell (p := ⟨rg, ro + q, none⟩) h2).trans (hb.cell (p := ⟨rg, ro + q, none⟩) h2).symm
/-- The number of both. -/
def bpT (ls ms : List (List Int)) (j m : Nat) : Int := if (oneP ls j m && oneP ms j m) = true then 1 else 0
theorem bit_mul {ls ms : List (List Int)} (h : GG 1 ls) (h' : GG 1 ms) (j m : Nat) : IntKind.i64.wrap (at2 ls j m * at2 ms j m) = bpT ls ms j m := by
  unfold bpT oneP
  rcases h.bit j m with e | e <;> rcases h'.bit j m with e' | e' <;> simp [e, e', IntKind.wrap_i64]
theorem mp_gg {M : Int} {ls : List (List Int)} (h : GG M ls) (P : Nat → Nat → Bool) : GG 1000000 (mpL ls.length (ls.getD 0 []).length P) := by
  have hl := (mpL_sh ls.length (ls.getD 0 []).length P).len
  have hw := (mpL_sh ls.length (ls.getD 0 []).length P).wd 0 h.h0
  refine ⟨by rw [hl]; exact h.h0, by rw [hl]; exact h.h1, by rw [hw]; exact h.w0, by rw [hw]; exact h.w1, fun r hr => ?_, fun r hr x hx => ?_⟩
  · rw [hw]
    obtain ⟨y, hy, rfl⟩ := List.mem_map.1 hr
    simp
  · obtain ⟨y, hy, rfl⟩ := List.mem_map.1 hr
    obtain ⟨z, hz, rfl⟩ := List.mem_map.1 hx
    split <;> omega

set_option maxRecDepth 10000 in
set_option maxHeartbeats 25600000 in
theorem spec_bp {w : World} {v u : Value} {ls ms : List (List Int)} (hn : SmR ls) (hm : SmR ms) (h : RdR w v ls) (h' : RdR w u ms) :
    Calls Try.prog 18 #[v, u] w fun e w' => ∃ v' vs, e = .returned (.agg #[.int .i64 (bpC ls ms), v', .int .i64 (psV (bpL ls ms))]) ∧ RI w' w.heap.size v' (bpL ls ms) vs ∧ Below w.heap.size w w' := by
  obtain ⟨a, c, rfl⟩ := h.form
  obtain ⟨b, d, rfl⟩ := h'.form
  obtain ⟨n, hnn⟩ : ∃ n, n = ls.length := ⟨_, rfl⟩
  obtain ⟨m, hmm⟩ : ∃ n, n = ms.length := ⟨_, rfl⟩
  obtain ⟨wd, hwd⟩ : ∃ n, n = (ls.getD 0 []).length := ⟨_, rfl⟩
  obtain ⟨wm, hwm⟩ : ∃ n, n = (ms.getD 0 []).length := ⟨_, rfl⟩
  obtain ⟨C, hC⟩ : ∃ C, C = gfC ls 1000000 := ⟨_, rfl⟩
  obtain ⟨E, hE⟩ : ∃ C, C = gfC ms 1000000 := ⟨_, rfl⟩
  obtain ⟨C1, hC1⟩ : ∃ C, C = pmC ls := ⟨_, rfl⟩
  obtain ⟨E1, hE1⟩ : ∃ C, C = pmC ms := ⟨_, rfl⟩
  obtain ⟨D, hD⟩ : ∃ C, C = bpC ls ms := ⟨_, rfl⟩
  obtain ⟨LL, hLL⟩ : ∃ C, C = bpL ls ms := ⟨_, rfl⟩
  rw [← hD, ← hLL]
  have HDE : Hid (D = (if C = 0 then (if E = 0 then (if n = m ∧ wd = wm ∧ C1 = 0 ∧ E1 = 0 then 0 else 1) else E) else C) ∧ LL = if D = 0 then mpL n wd (fun y x => oneP ls y x && oneP ms y x) else []) := ⟨by rw [hD, hC, hE, hnn, hmm, hwd, hwm, hC1, hE1]; rfl, by rw [hLL, hD, hnn, hwd]; rfl⟩
  rw [← hnn] at h ⊢
  rw [← hmm] at h' ⊢
  have HF : Hid (∀ W, Below w.heap.size w W → Calls Try.prog 32 #[.slice a n c] W fun e w' => e = .returned (.int .i64 C) ∧ Below W.heap.size W w') := fun W hW => by rw [hC]; exact spec_gf hn (h.below hW)
  have HF2 : Hid (∀ W, Below w.heap.size w W → Calls Try.prog 32 #[.slice b m d] W fun e w' => e = .returned (.int .i64 E) ∧ Below W.heap.size W w') := fun W hW => by rw [hE]; exact spec_gf hm (h'.below hW)
  have HPW : Hid (∀ W, Below w.heap.size w W → Calls Try.prog 45 #[.slice a n c] W fun e w' => e = .returned (.int .i64 C1) ∧ Below W.heap.size W w') := fun W hW => by rw [hC1]; exact spec_pm hn (h.below hW)
  have HPW2 : Hid (∀ W, Below w.heap.size w W → Calls Try.prog 45 #[.slice b m d] W fun e w' => e = .returned (.int .i64 E1) ∧ Below W.heap.size W w') := fun W hW => by rw [hE1]; exact spec_pm hm (h'.below hW)
  have H : Hid (RdR w (.slice a n c) ls ∧ RdR w (.slice b m d) ms ∧ n = ls.length ∧ m = ms.length ∧ C = gfC ls 1000000 ∧ E = gfC ms 1000000 ∧ wd = (ls.getD 0 []).length ∧ wm = (ms.getD 0 []).length ∧ C1 = pmC ls ∧ E1 = pmC ms) := ⟨h, h', hnn, hmm, hC, hE, hwd, hwm, hC1, hE1⟩
  clear h h' hn hm hC hE hC1 hE1 hnn hmm hwd hwm hD hLL
  go_enter Try.func18, Try.ntmps18
  go_wp2_with (fail)
  refine (HF.out _ (by (repeat' (first | (with_reducible exact Below.refl _ _) | (with_reducible assumption) | (with_reducible refine Below.setCell ?_ ?_ _) | (with_reducible refine Below.alloc ?_ ?_ _) | (with_reducible refine below_drewN ?_ _) | (with_reducible refine Below.drew ?_) | (with_reducible exact Nat.le_refl _) | omega | (simp; done) | (simp; omega))))).mono ?_
  rintro e w1 ⟨rfl, hb1⟩
  have HB : Hid (w1.heap[w.heap.size]? = some (.cells #[.int .i64 0, .slice none 0 0, .int .i64 0] 25) ∧ Below w.heap.size w w1 ∧ w.heap.size < w1.heap.size) := by
    have k2 := (hb1.block w.heap.size (by simp)).trans (heap_alloc_new w (.cells #[.int .i64 0, .slice none 0 0, .int .i64 0] 25))
    exact ⟨k2, (show Below w.heap.size w _ from by (repeat' (first | (with_reducible exact Below.refl _ _) | (with_reducible assumption) | (with_reducible refine Below.setCell ?_ ?_ _) | (with_reducible refine Below.alloc ?_ ?_ _) | (with_reducible refine below_drewN ?_ _) | (with_reducible refine Below.drew ?_) | (with_reducible exact Nat.le_refl _) | omega | (simp; done) | (simp; omega)))).trans (hb1.mono (by simp)), ltOf k2⟩
  clear HF hb1
  by_cases hA0 : C = 0
  case neg =>
    obtain ⟨q0, q1, q2, qf0, qf1, qf2, ql⟩ := three_of HB.out.1
    have HV : Hid (D = C ∧ LL = []) := by
      have := HDE.out; rw [if_neg hA0] at this; refine ⟨this.1, ?_⟩; rw [this.2, if_neg (by rw [this.1]; exact hA0)]
    have hA1 : (C != 0) = true := by simpa using hA0
    go_wp2
    try simp only [Exit.inBlock, Exit.then]
    refine bodyPost_ret (by simp [results, Try.results18, go_sem, q0, q1, q2, ql]; try rfl) rfl ⟨.slice none 0 0, [], by rw [HV.out.1, HV.out.2]; rfl, ?_, ?_⟩
    · rw [HV.out.2]; exact RI.nil _ _
    · have hB := HB.out.2.1
      (repeat' (first | (with_reducible exact Below.refl _ _) | (with_reducible assumption) | (with_reducible refine Below.setCell ?_ ?_ _) | (with_reducible refine Below.alloc ?_ ?_ _) | (with_reducible refine below_drewN ?_ _) | (with_reducible refine Below.drew ?_) | (with_reducible exact Nat.le_refl _) | omega | (simp; done) | (simp; omega)))
  have HDE1 : Hid (D = (if E = 0 then (if n = m ∧ wd = wm ∧ C1 = 0 ∧ E1 = 0 then 0 else 1) else E) ∧ LL = if D = 0 then mpL n wd (fun y x => oneP ls y x && oneP ms y x) else []) := by
    have := HDE.out; rw [if_pos hA0] at this; exact this
  have HCG : Hid (gfC ls 1000000 = 0) := H.out.2.2.2.2.1.symm.trans hA0
  clear HDE
  subst hA0
  obtain ⟨w0, HB0⟩ : ∃ w0, Hid (w0 = w1) := ⟨w1, rfl⟩
  clear HB0
  go_wp2_with (fail)
  refine (HF2.out _ HB.out.2.1).mono ?_
  rintro e w2 ⟨rfl, hb2⟩
  have HB' : Hid (w2.heap[w.heap.size]? = some (.cells #[.int .i64 0, .slice none 0 0, .int .i64 0] 25) ∧ Below w.heap.size w w2 ∧ w.heap.size < w2.heap.size) := ⟨(hb2.block _ HB.out.2.2).trans HB.out.1, HB.out.2.1.trans (hb2.mono HB.out.2.1.size), Nat.lt_of_lt_of_le HB.out.2.2 hb2.size⟩
  clear HF2 hb2 HB
  have HB := HB'
  clear HB'
  by_cases hE0 : E = 0
  case neg =>
    obtain ⟨q0, q1, q2, qf0, qf1, qf2, ql⟩ := three_of HB.out.1
    have HV : Hid (D = E ∧ LL = []) := by
      have := HDE1.out; rw [if_neg hE0] at this; refine ⟨this.1, ?_⟩; rw [this.2, if_neg (by rw [this.1]; exact hE0)]
    have hA1 : (E != 0) = true := by simpa using hE0
    go_wp2
    try simp only [Exit.inBlock, Exit.then]
    refine bodyPost_ret (by simp [results, Try.results18, go_sem, q0, q1, q2, ql]; try rfl) rfl ⟨.slice none 0 0, [], by rw [HV.out.1, HV.out.2]; rfl, ?_, ?_⟩
    · rw [HV.out.2]; exact RI.nil _ _
    · have hB := HB.out.2.1
      (repeat' (first | (with_reducible exact Below.refl _ _) | (with_reducible assumption) | (with_reducible refine Below.setCell ?_ ?_ _) | (with_reducible refine Below.alloc ?_ ?_ _) | (with_reducible refine below_drewN ?_ _) | (with_reducible refine Below.drew ?_) | (with_reducible exact Nat.le_refl _) | omega | (simp; done) | (simp; omega)))
  have hG := gfC_good HCG.out
  have hG' := gfC_good (H.out.2.2.2.2.2.1.symm.trans hE0)
  have hn16 : n ≤ 16 := by rw [H.out.2.2.1]; exact hG.h1
  have hn0 : 0 < n := by rw [H.out.2.2.1]; exact hG.h0
  have hw16 : wd ≤ 16 := by rw [H.out.2.2.2.2.2.2.1]; exact hG.w1
  have hw0 : 0 < wd := by rw [H.out.2.2.2.2.2.2.1]; exact hG.w0
  have hm16 : m ≤ 16 := by rw [H.out.2.2.2.1]; exact hG'.h1
  have hm0 : 0 < m := by rw [H.out.2.2.2.1]; exact hG'.h0
  have HZ0 : Hid (D = (if n = m ∧ wd = wm ∧ C1 = 0 ∧ E1 = 0 then 0 else 1) ∧ LL = if D = 0 then mpL n wd (fun y x => oneP ls y x && oneP ms y x) else []) := by
    have := HDE1.out; rw [if_pos hE0] at this; exact this
  clear HDE1 hG hG' HCG
  subst hE0
  go_upto_region 7 with fail
  have HP : Hid (∀ W, Below w2.heap.size w2 W → Calls Try.prog 45 #[.slice a n c] W fun e w' => e = .returned (.int .i64 C1) ∧ Below W.heap.size W w') := fun W hW => HPW.out W (HB.out.2.1.trans (hW.mono HB.out.2.1.size))
  have HP2 : Hid (∀ W, Below w2.heap.size w2 W → Calls Try.prog 45 #[.slice b m d] W fun e w' => e = .returned (.int .i64 E1) ∧ Below W.heap.size W w') := fun W hW => HPW2.out W (HB.out.2.1.trans (hW.mono HB.out.2.1.size))
  clear HPW HPW2
  obtain ⟨g0, o0, ua, un, uc, rfl, hg0, c0, hun, _⟩ := (H.out.1.below HB.out.2.1).at hn0
  obtain ⟨g1, o1, ub, um, ud, rfl, hg1, c1, hum, _⟩ := (H.out.2.1.below HB.out.2.1).at hm0
  rw [← H.out.2.2.2.2.2.2.1] at hun
  rw [← H.out.2.2.2.2.2.2.2.1] at hum
  subst hun hum
  simp only [Nat.add_zero] at c0 c1
  have z0 : (0 : Int) < (n : Int) := by omega
  have z1 : (0 : Int) < (m : Int) := by omega
  by_cases hnm : n = m
  case neg =>
    have hno : ¬ (n = m ∧ un = um ∧ C1 = 0 ∧ E1 = 0) := fun e => hnm e.1
    have HV : Hid (D = 1 ∧ LL = []) := by
      have := HZ0.out; rw [if_neg hno] at this; refine ⟨this.1, ?_⟩; rw [this.2, if_neg (by rw [this.1]; decide)]
    have hq1 : ((n : Int) == (m : Int)) = false := by simp; omega
    have hq2 : ((n : Int) != (m : Int)) = true := by simp; omega
    clear hno hnm
    (refine wp_region_und (by kernel_rfl) (by kernel_rfl) (fun hund => ?_); (repeat (go_big_quiet_step (first | (go_at_call 45; with_reducible refine und_call ?_ (HP.out _ (Und.below _)); exact Nat.le_refl _) | (go_at_call 45; with_reducible refine und_call ?_ (HP2.out _ (Und.below _)); exact Nat.le_refl _)))); with_reducible refine wpQuiet_nil ?_; clear hund; intro W1 hb1; obtain ⟨hc1, hf1⟩ := undcell hb1)
    have HB2 : Hid (W1.heap[w.heap.size]? = some (.cells #[.int .i64 0, .slice none 0 0, .int .i64 0] 25) ∧ Below w.heap.size w W1) := ⟨(hb1.block _ HB.out.2.2).trans HB.out.1, HB.out.2.1.trans (hb1.mono HB.out.2.1.size)⟩
    obtain ⟨q0, q1, q2, qf0, qf1, qf2, ql⟩ := three_of HB2.out.1
    clear hb1 hc1 hf1
    go_wp2
    try simp only [Exit.inBlock, Exit.then]
    refine bodyPost_ret (by simp [results, Try.results18, go_sem, q0, q1, q2, ql]; try rfl) rfl ?_
    have hB := HB2.out.2
    first
      | exact ⟨.slice none 0 0, [], by rw [HV.out.1, HV.out.2]; rfl, by rw [HV.out.2]; exact RI.nil _ _, by (repeat' (first | (with_reducible exact Below.refl _ _) | (with_reducible assumption) | (with_reducible refine Below.setCell ?_ ?_ _) | (with_reducible refine Below.alloc ?_ ?_ _) | (with_reducible refine below_drewN ?_ _) | (with_reducible refine Below.drew ?_) | (with_reducible exact Nat.le_refl _) | omega | (simp; done) | (simp; omega)))⟩
      | exact ⟨by rw [HV.out.1, HV.out.2]; rfl, ⟨[], by rw [HV.out.2]; exact RI.nil _ _⟩, by (repeat' (first | (with_reducible exact Below.refl _ _) | (with_reducible assumption) | (with_reducible refine Below.setCell ?_ ?_ _) | (with_reducible refine Below.alloc ?_ ?_ _) | (with_reducible refine below_drewN ?_ _) | (with_reducible refine Below.drew ?_) | (with_reducible exact Nat.le_refl _) | omega | (simp; done) | (simp; omega)))⟩
      | exact ⟨.slice none 0 0, by rw [HV.out.1, HV.out.2]; rfl, ⟨[], by rw [HV.out.2]; exact RI.nil _ _⟩, by (repeat' (first | (with_reducible exact Below.refl _ _) | (with_reducible assumption) | (with_reducible refine Below.setCell ?_ ?_ _) | (with_reducible refine Below.alloc ?_ ?_ _) | (with_reducible refine below_drewN ?_ _) | (with_reducible refine Below.drew ?_) | (with_reducible exact Nat.le_refl _) | omega | (simp; done) | (simp; omega)))⟩
  subst hnm
  have hq1 : ((n : Int) == (n : Int)) = true := by simp
  have hq2 : ((n : Int) != (n : Int)) = false := by simp
  by_cases huu : un = um
  case neg =>
    have hno : ¬ (n = n ∧ un = um ∧ C1 = 0 ∧ E1 = 0) := fun e => huu e.2.1
    have HV : Hid (D = 1 ∧ LL = []) := by
      have := HZ0.out; rw [if_neg hno] at this; refine ⟨this.1, ?_⟩; rw [this.2, if_neg (by rw [this.1]; decide)]
    have hq3 : ((un : Int) == (um : Int)) = false := by simp; omega
    have hq4 : ((un : Int) != (um : Int)) = true := by simp; omega
    clear hno huu
    (refine wp_region_und (by kernel_rfl) (by kernel_rfl) (fun hund => ?_); (repeat (go_big_quiet_step (first | (go_at_call 45; with_reducible refine und_call ?_ (HP.out _ (Und.below _)); exact Nat.le_refl _) | (go_at_call 45; with_reducible refine und_call ?_ (HP2.out _ (Und.below _)); exact Nat.le_refl _)))); with_reducible refine wpQuiet_nil ?_; clear hund; intro W1 hb1; obtain ⟨hc1, hf1⟩ := undcell hb1)
    have HB2 : Hid (W1.heap[w.heap.size]? = some (.cells #[.int .i64 0, .slice none 0 0, .int .i64 0] 25) ∧ Below w.heap.size w W1) := ⟨(hb1.block _ HB.out.2.2).trans HB.out.1, HB.out.2.1.trans (hb1.mono HB.out.2.1.size)⟩
    obtain ⟨q0, q1, q2, qf0, qf1, qf2, ql⟩ := three_of HB2.out.1
    clear hb1 hc1 hf1
    go_wp2
    try simp only [Exit.inBlock, Exit.then]
    refine bodyPost_ret (by simp [results, Try.results18, go_sem, q0, q1, q2, ql]; try rfl) rfl ?_
    have hB := HB2.out.2
    first
      | exact ⟨.slice none 0 0, [], by rw [HV.out.1, HV.out.2]; rfl, by rw [HV.out.2]; exact RI.nil _ _, by (repeat' (first | (with_reducible exact Below.refl _ _) | (with_reducible assumption) | (with_reducible refine Below.setCell ?_ ?_ _) | (with_reducible refine Below.alloc ?_ ?_ _) | (with_reducible refine below_drewN ?_ _) | (with_reducible refine Below.drew ?_) | (with_reducible exact Nat.le_refl _) | omega | (simp; done) | (simp; omega)))⟩
      | exact ⟨by rw [HV.out.1, HV.out.2]; rfl, ⟨[], by rw [HV.out.2]; exact RI.nil _ _⟩, by (repeat' (first | (with_reducible exact Below.refl _ _) | (with_reducible assumption) | (with_reducible refine Below.setCell ?_ ?_ _) | (with_reducible refine Below.alloc ?_ ?_ _) | (with_reducible refine below_drewN ?_ _) | (with_reducible refine Below.drew ?_) | (with_reducible exact Nat.le_refl _) | omega | (simp; done) | (simp; omega)))⟩
      | exact ⟨.slice none 0 0, by rw [HV.out.1, HV.out.2]; rfl, ⟨[], by rw [HV.out.2]; exact RI.nil _ _⟩, by (repeat' (first | (with_reducible exact Below.refl _ _) | (with_reducible assumption) | (with_reducible refine Below.setCell ?_ ?_ _) | (with_reducible refine Below.alloc ?_ ?_ _) | (with_reducible refine below_drewN ?_ _) | (with_reducible refine Below.drew ?_) | (with_reducible exact Nat.le_refl _) | omega | (simp; done) | (simp; omega)))⟩
  subst huu
  have hq3 : ((un : Int) == (un : Int)) = true := by simp
  have hq4 : ((un : Int) != (un : Int)) = false := by simp
  by_cases hC1 : C1 = 0
  case neg =>
    have hno : ¬ (n = n ∧ un = un ∧ C1 = 0 ∧ E1 = 0) := fun e => hC1 e.2.2.1
    have HV : Hid (D = 1 ∧ LL = []) := by
      have := HZ0.out; rw [if_neg hno] at this; refine ⟨this.1, ?_⟩; rw [this.2, if_neg (by rw [this.1]; decide)]
    have hq5 : (C1 == 0) = false := by simpa using hC1
    have hq6 : (C1 != 0) = true := by simpa using hC1
    clear hno hC1
    (refine wp_region_und (by kernel_rfl) (by kernel_rfl) (fun hund => ?_); (repeat (go_big_quiet_step (first | (go_at_call 45; with_reducible refine und_call ?_ (HP.out _ (Und.below _)); exact Nat.le_refl _) | (go_at_call 45; with_reducible refine und_call ?_ (HP2.out _ (Und.below _)); exact Nat.le_refl _)))); with_reducible refine wpQuiet_nil ?_; clear hund; intro W1 hb1; obtain ⟨hc1, hf1⟩ := undcell hb1)
    have HB2 : Hid (W1.heap[w.heap.size]? = some (.cells #[.int .i64 0, .slice none 0 0, .int .i64 0] 25) ∧ Below w.heap.size w W1) := ⟨(hb1.block _ HB.out.2.2).trans HB.out.1, HB.out.2.1.trans (hb1.mono HB.out.2.1.size)⟩
    obtain ⟨q0, q1, q2, qf0, qf1, qf2, ql⟩ := three_of HB2.out.1
    clear hb1 hc1 hf1
    go_wp2
    try simp only [Exit.inBlock, Exit.then]
    refine bodyPost_ret (by simp [results, Try.results18, go_sem, q0, q1, q2, ql]; try rfl) rfl ?_
    have hB := HB2.out.2
    first
      | exact ⟨.slice none 0 0, [], by rw [HV.out.1, HV.out.2]; rfl, by rw [HV.out.2]; exact RI.nil _ _, by (repeat' (first | (with_reducible exact Below.refl _ _) | (with_reducible assumption) | (with_reducible refine Below.setCell ?_ ?_ _) | (with_reducible refine Below.alloc ?_ ?_ _) | (with_reducible refine below_drewN ?_ _) | (with_reducible refine Below.drew ?_) | (with_reducible exact Nat.le_refl _) | omega | (simp; done) | (simp; omega)))⟩
      | exact ⟨by rw [HV.out.1, HV.out.2]; rfl, ⟨[], by rw [HV.out.2]; exact RI.nil _ _⟩, by (repeat' (first | (with_reducible exact Below.refl _ _) | (with_reducible assumption) | (with_reducible refine Below.setCell ?_ ?_ _) | (with_reducible refine Below.alloc ?_ ?_ _) | (with_reducible refine below_drewN ?_ _) | (with_reducible refine Below.drew ?_) | (with_reducible exact Nat.le_refl _) | omega | (simp; done) | (simp; omega)))⟩
      | exact ⟨.slice none 0 0, by rw [HV.out.1, HV.out.2]; rfl, ⟨[], by rw [HV.out.2]; exact RI.nil _ _⟩, by (repeat' (first | (with_reducible exact Below.refl _ _) | (with_reducible assumption) | (with_reducible refine Below.setCell ?_ ?_ _) | (with_reducible refine Below.alloc ?_ ?_ _) | (with_reducible refine below_drewN ?_ _) | (with_reducible refine Below.drew ?_) | (with_reducible exact Nat.le_refl _) | omega | (simp; done) | (simp; omega)))⟩
  have HC1 : Hid (GG 1 ls) := pmC_good (H.out.2.2.2.2.2.2.2.2.1.symm.trans hC1)
  have HZ1 : Hid (D = (if E1 = 0 then 0 else 1) ∧ LL = if D = 0 then mpL n un (fun y x => oneP ls y x && oneP ms y x) else []) := by
    have := HZ0.out
    by_cases hE1 : E1 = 0
    · have hall : n = n ∧ un = un ∧ C1 = 0 ∧ E1 = 0 := ⟨rfl, rfl, hC1, hE1⟩
      rw [if_pos hall] at this
      rw [if_pos hE1]; exact this
    · have hno : ¬ (n = n ∧ un = un ∧ C1 = 0 ∧ E1 = 0) := fun e => hE1 e.2.2.2
      rw [if_neg hno] at this
      rw [if_neg hE1]; exact this
  clear HZ0
  subst hC1
  by_cases hE1 : E1 = 0
  case neg =>
    have HV : Hid (D = 1 ∧ LL = []) := by
      have := HZ1.out; rw [if_neg hE1] at this; refine ⟨this.1, ?_⟩; rw [this.2, if_neg (by rw [this.1]; decide)]
    have hq5 : (E1 == 0) = false := by simpa using hE1
    have hq6 : (E1 != 0) = true := by simpa using hE1
    clear hE1
    (refine wp_region_und (by kernel_rfl) (by kernel_rfl) (fun hund => ?_); (repeat (go_big_quiet_step (first | (go_at_call 45; with_reducible refine und_call ?_ (HP.out _ (Und.below _)); exact Nat.le_refl _) | (go_at_call 45; with_reducible refine und_call ?_ (HP2.out _ (Und.below _)); exact Nat.le_refl _)))); with_reducible refine wpQuiet_nil ?_; clear hund; intro W1 hb1; obtain ⟨hc1, hf1⟩ := undcell hb1)
    have HB2 : Hid (W1.heap[w.heap.size]? = some (.cells #[.int .i64 0, .slice none 0 0, .int .i64 0] 25) ∧ Below w.heap.size w W1) := ⟨(hb1.block _ HB.out.2.2).trans HB.out.1, HB.out.2.1.trans (hb1.mono HB.out.2.1.size)⟩
    obtain ⟨q0, q1, q2, qf0, qf1, qf2, ql⟩ := three_of HB2.out.1
    clear hb1 hc1 hf1
    go_wp2
    try simp only [Exit.inBlock, Exit.then]
    refine bodyPost_ret (by simp [results, Try.results18, go_sem, q0, q1, q2, ql]; try rfl) rfl ?_
    have hB := HB2.out.2
    first
      | exact ⟨.slice none 0 0, [], by rw [HV.out.1, HV.out.2]; rfl, by rw [HV.out.2]; exact RI.nil _ _, by (repeat' (first | (with_reducible exact Below.refl _ _) | (with_reducible assumption) | (with_reducible refine Below.setCell ?_ ?_ _) | (with_reducible refine Below.alloc ?_ ?_ _) | (with_reducible refine below_drewN ?_ _) | (with_reducible refine Below.drew ?_) | (with_reducible exact Nat.le_refl _) | omega | (simp; done) | (simp; omega)))⟩
      | exact ⟨by rw [HV.out.1, HV.out.2]; rfl, ⟨[], by rw [HV.out.2]; exact RI.nil _ _⟩, by (repeat' (first | (with_reducible exact Below.refl _ _) | (with_reducible assumption) | (with_reducible refine Below.setCell ?_ ?_ _) | (with_reducible refine Below.alloc ?_ ?_ _) | (with_reducible refine below_drewN ?_ _) | (with_reducible refine Below.drew ?_) | (with_reducible exact Nat.le_refl _) | omega | (simp; done) | (simp; omega)))⟩
      | exact ⟨.slice none 0 0, by rw [HV.out.1, HV.out.2]; rfl, ⟨[], by rw [HV.out.2]; exact RI.nil _ _⟩, by (repeat' (first | (with_reducible exact Below.refl _ _) | (with_reducible assumption) | (with_reducible refine Below.setCell ?_ ?_ _) | (with_reducible refine Below.alloc ?_ ?_ _) | (with_reducible refine below_drewN ?_ _) | (with_reducible refine Below.drew ?_) | (with_reducible exact Nat.le_refl _) | omega | (simp; done) | (simp; omega)))⟩
  have HE1 : Hid (GG 1 ms) := pmC_good (H.out.2.2.2.2.2.2.2.2.2.symm.trans hE1)
  have HZ2 : Hid (D = 0 ∧ LL = mpL n un (fun y x => oneP ls y x && oneP ms y x)) := by
    have := HZ1.out; rw [if_pos hE1] at this; refine ⟨this.1, ?_⟩; rw [this.2, if_pos this.1]
  clear HZ1
  subst hE1
  (refine wp_region_und (by kernel_rfl) (by kernel_rfl) (fun hund => ?_); (repeat (go_big_quiet_step (first | (go_at_call 45; with_reducible refine und_call ?_ (HP.out _ (Und.below _)); exact Nat.le_refl _) | (go_at_call 45; with_reducible refine und_call ?_ (HP2.out _ (Und.below _)); exact Nat.le_refl _)))); with_reducible refine wpQuiet_nil ?_; clear hund; intro W1 hb1; obtain ⟨hc1, hf1⟩ := undcell hb1)
  have HW : Hid (W1.heap[w.heap.size]? = some (.cells #[.int .i64 0, .slice none 0 0, .int .i64 0] 25) ∧ Below w.heap.size w W1 ∧ w.heap.size < W1.heap.size) := ⟨(hb1.block _ HB.out.2.2).trans HB.out.1, HB.out.2.1.trans (hb1.mono HB.out.2.1.size), Nat.lt_of_lt_of_le HB.out.2.2 hb1.size⟩
  clear hb1 hc1 hf1 c0 c1 hg0 hg1 HP HP2 HB
  have HG : Hid (Sh n un ls ∧ Sh n un ms ∧ RdR W1 (.slice (some ⟨g0, o0, none⟩) n c) ls ∧ RdR W1 (.slice (some ⟨g1, o1, none⟩) n d) ms) := by
    refine ⟨?_, ?_, H.out.1.below HW.out.2.1, H.out.2.1.below HW.out.2.1⟩
    · have := HC1.out.sh; rw [← H.out.2.2.1, ← H.out.2.2.2.2.2.2.1] at this; exact this
    · have := HE1.out.sh; rw [← H.out.2.2.2.1, ← H.out.2.2.2.2.2.2.2.1] at this; exact this
  have HCP : Hid (Calls Try.prog 33 #[.slice (some ⟨g0, o0, none⟩) n c] W1 fun e w' => ∃ v' vs, e = .returned v' ∧ RI w' W1.heap.size v' ls vs ∧ Below W1.heap.size W1 w') := spec_copy HC1.out HG.out.2.2.1
  have hlen : n = ls.length := H.out.2.2.1
  have HLN : Hid (n = ls.length ∧ un = (ls.getD 0 []).length) := ⟨hlen, H.out.2.2.2.2.2.2.1⟩
  clear hlen H
  go_wp2_with (fail)
  refine HCP.out.mono ?_
  rintro e w2 ⟨v2, vs, rfl, hri, hb2⟩
  obtain ⟨g, oc, rfl, _, _, _⟩ := hri.pos (by rw [← HLN.out.1]; exact hn0)
  rw [← HLN.out.1] at hri ⊢
  have HS : Hid (GV w2 W1.heap.size g n oc un ls vs ∧ Below W1.heap.size W1 w2) := ⟨⟨hri, HG.out.1, hw0⟩, hb2⟩
  clear hri hb2 HCP
  go_wp2
  go_loopw [8] (fun i wr => ∃ (k : Nat), k ≤ n ∧ i = .int .i64 k ∧ Hid (∃ L, GV wr W1.heap.size g n oc un L vs ∧ (∀ j m, j < n → m < un → at2 L j m = if j < k then bpT ls ms j m else at2 ls j m) ∧ Below W1.heap.size W1 wr)) (fun i _ => n - (intOf i).toNat)
  case atStart => exact ⟨0, Nat.zero_le _, rfl, ls, HS.out.1, fun j m _ _ => by rw [if_neg (by omega)], HS.out.2⟩
  case round =>
    clear HS
    obtain ⟨k, hk, rfl, hR⟩ := hrel
    by_cases hlt : k < n
    · have HR : Hid (∃ L, GV wr W1.heap.size g n oc un L vs ∧ (∀ j m, j < n → m < un → at2 L j m = if j < k ∨ (j = k ∧ m < 0) then bpT ls ms j m else at2 ls j m) ∧ Below W1.heap.size W1 wr) := by
        obtain ⟨L, hGV, hL, hbl⟩ := hR.out
        exact ⟨L, hGV, fun j m hj hm => by rw [hL j m hj hm]; by_cases e : j < k <;> simp [e], hbl⟩
      clear hR
      have b0 : (0 : Int) ≤ (k : Int) := by omega
      have b1 : (k : Int) < (n : Int) := by omega
      go_wp2
      go_loopw [9] (fun i wr => ∃ (q : Nat), q ≤ un ∧ i = .int .i64 q ∧ Hid (∃ L, GV wr W1.heap.size g n oc un L vs ∧ (∀ j m, j < n → m < un → at2 L j m = if j < k ∨ (j = k ∧ m < q) then bpT ls ms j m else at2 ls j m) ∧ Below W1.heap.size W1 wr)) (fun i _ => un - (intOf i).toNat)
      case atStart => exact ⟨0, Nat.zero_le _, rfl, HR.out⟩
      case round =>
        clear HR
        obtain ⟨q, hq, rfl, hR⟩ := hrel
        obtain ⟨L, hGV, hL, hbl⟩ := hR.out
        obtain ⟨gk, ck, hrk, c0, hgl, hgkl, hBk, hBg, hne, hcells⟩ := hGV.at hlt
        by_cases hlt2 : q < un
        · obtain ⟨ag, ao, ra, rn, rc, he, hag, a0, hrn, hrd⟩ := (HG.out.2.2.1.below hbl).at hlt
          injection he with he
          injection he with he1 he2
          subst he1 he2
          rw [HG.out.1.wd k hlt] at hrn
          subst hrn
          obtain ⟨rg, ro, rfl, hrg, r0⟩ := rd_at hrd hlt2
          obtain ⟨bg, bo, sa, sn, sc, he, hbg, a1, hsn, hsd⟩ := (HG.out.2.2.2.below hbl).at hlt
          injection he with he
          injection he with he1 he2
          subst he1 he2
          rw [HG.out.2.1.wd k hlt] at hsn
          obtain ⟨sg, so, rfl, hsg, r1⟩ := rd_at hsd (show q < sn by omega)
          rw [hsn] at a1
          clear hsd hsn
          obtain ⟨d0, d1⟩ := hcells q hlt2
          obtain ⟨x, hx⟩ : ∃ x, x = (ls.getD k []).getD q 0 := ⟨_, rfl⟩
          rw [← hx] at r0
          obtain ⟨z, hz⟩ : ∃ x, x = (ms.getD k []).getD q 0 := ⟨_, rfl⟩
          rw [← hz] at r1
          obtain ⟨y, hy⟩ : ∃ y, y = bpT ls ms k q := ⟨_, rfl⟩
          have hxz : IntKind.i64.wrap (x * z) = y := by rw [hx, hz, hy]; exact bit_mul HC1.out HE1.out k q
          have HY : Hid (y = bpT ls ms k q) := hy
          have HS : Hid (rat vs k = .slice (some ⟨gk, 0, none⟩) rn ck ∧ GV wr W1.heap.size g n oc rn L vs ∧ (∀ j m, j < n → m < rn → at2 L j m = if j < k ∨ (j = k ∧ m < q) then bpT ls ms j m else at2 ls j m) ∧ Below W1.heap.size W1 wr) := ⟨hrk, hGV, hL, hbl⟩
          clear hrd hx hz hy hcells hR hrk hGV hL hbl hBk hBg hne
          have b2 : (0 : Int) ≤ (q : Int) := by omega
          have b3 : (q : Int) < (rn : Int) := by omega
          go_wp2_with (fail)
          refine wp_region_holdsA (S := fun w' => w'.cell? ⟨g, k, none⟩ = some (.slice (some ⟨gk, 0, none⟩) rn ck) ∧ w'.cell? ⟨g0, o0 + k, none⟩ = some (.slice (some ⟨rg, ro, none⟩) rn rc) ∧ w'.cell? ⟨rg, ro + q, none⟩ = some (.int .i64 x) ∧ w'.cell? ⟨g1, o1 + k, none⟩ = some (.slice (some ⟨sg, so, none⟩) rn sc) ∧ w'.cell? ⟨sg, so + q, none⟩ = some (.int .i64 z)) (by kernel_rfl) ⟨c0, a0, r0, a1, r1⟩ (fun hS => ?_)
          refine fl_takeA (i := 0) (d := 66) (v := .slice (some ⟨g, 0, none⟩) n oc) rfl rfl rfl (by kernel_rfl) (by kernel_rfl) (by kernel_rfl) hS ?_ ?_
          · intro w' hk; obtain ⟨hk0, hk1, hk2, hk3, hk4⟩ := hk; go_simp
          simp only [Act.put, List.setIfInBounds_toArray, List.set_cons_zero, List.set_cons_succ]
          refine fl_takeA (i := 1) (d := 67) (v := .int .i64 k) rfl rfl rfl (by kernel_rfl) (by kernel_rfl) (by kernel_rfl) hS ?_ ?_
          · intro w' hk; obtain ⟨hk0, hk1, hk2, hk3, hk4⟩ := hk; go_simp
          simp only [Act.put, List.setIfInBounds_toArray, List.set_cons_zero, List.set_cons_succ]
          refine fl_takeA (i := 2) (d := 68) (v := .pointer (some ⟨g, k, none⟩)) rfl rfl rfl (by kernel_rfl) (by kernel_rfl) (by kernel_rfl) hS ?_ ?_
          · intro w' hk; obtain ⟨hk0, hk1, hk2, hk3, hk4⟩ := hk; go_simp
          simp only [Act.put, List.setIfInBounds_toArray, List.set_cons_zero, List.set_cons_succ]
          refine fl_takeA (i := 3) (d := 69) (v := .slice (some ⟨gk, 0, none⟩) rn ck) rfl rfl rfl (by kernel_rfl) (by kernel_rfl) (by kernel_rfl) hS ?_ ?_
          · intro w' hk; obtain ⟨hk0, hk1, hk2, hk3, hk4⟩ := hk; go_simp
          simp only [Act.put, List.setIfInBounds_toArray, List.set_cons_zero, List.set_cons_succ]
          refine fl_takeA (i := 4) (d := 70) (v := .int .i64 q) rfl rfl rfl (by kernel_rfl) (by kernel_rfl) (by kernel_rfl) hS ?_ ?_
          · intro w' hk; obtain ⟨hk0, hk1, hk2, hk3, hk4⟩ := hk; go_simp
          simp only [Act.put, List.setIfInBounds_toArray, List.set_cons_zero, List.set_cons_succ]
          refine fl_takeA (i := 5) (d := 71) (v := .slice (some ⟨g0, o0, none⟩) n c) rfl rfl rfl (by kernel_rfl) (by kernel_rfl) (by kernel_rfl) hS ?_ ?_
          · intro w' hk; obtain ⟨hk0, hk1, hk2, hk3, hk4⟩ := hk; go_simp
          simp only [Act.put, List.setIfInBounds_toArray, List.set_cons_zero, List.set_cons_succ]
          refine fl_takeA (i := 6) (d := 72) (v := .int .i64 k) rfl rfl rfl (by kernel_rfl) (by kernel_rfl) (by kernel_rfl) hS ?_ ?_
          · intro w' hk; obtain ⟨hk0, hk1, hk2, hk3, hk4⟩ := hk; go_simp
          simp only [Act.put, List.setIfInBounds_toArray, List.set_cons_zero, List.set_cons_succ]
          refine fl_takeA (i := 7) (d := 73) (v := .pointer (some ⟨g0, o0 + k, none⟩)) rfl rfl rfl (by kernel_rfl) (by kernel_rfl) (by kernel_rfl) hS ?_ ?_
          · intro w' hk; obtain ⟨hk0, hk1, hk2, hk3, hk4⟩ := hk; go_simp
          simp only [Act.put, List.setIfInBounds_toArray, List.set_cons_zero, List.set_cons_succ]
          refine fl_takeA (i := 8) (d := 74) (v := .slice (some ⟨rg, ro, none⟩) rn rc) rfl rfl rfl (by kernel_rfl) (by kernel_rfl) (by kernel_rfl) hS ?_ ?_
          · intro w' hk; obtain ⟨hk0, hk1, hk2, hk3, hk4⟩ := hk; go_simp
          simp only [Act.put, List.setIfInBounds_toArray, List.set_cons_zero, List.set_cons_succ]
          refine fl_takeA (i := 9) (d := 75) (v := .int .i64 q) rfl rfl rfl (by kernel_rfl) (by kernel_rfl) (by kernel_rfl) hS ?_ ?_
          · intro w' hk; obtain ⟨hk0, hk1, hk2, hk3, hk4⟩ := hk; go_simp
          simp only [Act.put, List.setIfInBounds_toArray, List.set_cons_zero, List.set_cons_succ]
          refine fl_takeA (i := 10) (d := 76) (v := .pointer (some ⟨rg, ro + q, none⟩)) rfl rfl rfl (by kernel_rfl) (by kernel_rfl) (by kernel_rfl) hS ?_ ?_
          · intro w' hk; obtain ⟨hk0, hk1, hk2, hk3, hk4⟩ := hk; go_simp
          simp only [Act.put, List.setIfInBounds_toArray, List.set_cons_zero, List.set_cons_succ]
          refine fl_takeA (i := 11) (d := 77) (v := .int .i64 x) rfl rfl rfl (by kernel_rfl) (by kernel_rfl) (by kernel_rfl) hS ?_ ?_
          · intro w' hk; obtain ⟨hk0, hk1, hk2, hk3, hk4⟩ := hk; go_simp
          simp only [Act.put, List.setIfInBounds_toArray, List.set_cons_zero, List.set_cons_succ]
          refine fl_takeA (i := 12) (d := 78) (v := .slice (some ⟨g1, o1, none⟩) n d) rfl rfl rfl (by kernel_rfl) (by kernel_rfl) (by kernel_rfl) hS ?_ ?_
          · intro w' hk; obtain ⟨hk0, hk1, hk2, hk3, hk4⟩ := hk; go_simp
          simp only [Act.put, List.setIfInBounds_toArray, List.set_cons_zero, List.set_cons_succ]
          refine fl_takeA (i := 13) (d := 79) (v := .int .i64 k) rfl rfl rfl (by kernel_rfl) (by kernel_rfl) (by kernel_rfl) hS ?_ ?_
          · intro w' hk; obtain ⟨hk0, hk1, hk2, hk3, hk4⟩ := hk; go_simp
          simp only [Act.put, List.setIfInBounds_toArray, List.set_cons_zero, List.set_cons_succ]
          refine fl_takeA (i := 14) (d := 80) (v := .pointer (some ⟨g1, o1 + k, none⟩)) rfl rfl rfl (by kernel_rfl) (by kernel_rfl) (by kernel_rfl) hS ?_ ?_
          · intro w' hk; obtain ⟨hk0, hk1, hk2, hk3, hk4⟩ := hk; go_simp
          simp only [Act.put, List.setIfInBounds_toArray, List.set_cons_zero, List.set_cons_succ]
          refine fl_takeA (i := 15) (d := 81) (v := .slice (some ⟨sg, so, none⟩) rn sc) rfl rfl rfl (by kernel_rfl) (by kernel_rfl) (by kernel_rfl) hS ?_ ?_
          · intro w' hk; obtain ⟨hk0, hk1, hk2, hk3, hk4⟩ := hk; go_simp
          simp only [Act.put, List.setIfInBounds_toArray, List.set_cons_zero, List.set_cons_succ]
          refine fl_takeA (i := 16) (d := 82) (v := .int .i64 q) rfl rfl rfl (by kernel_rfl) (by kernel_rfl) (by kernel_rfl) hS ?_ ?_
          · intro w' hk; obtain ⟨hk0, hk1, hk2, hk3, hk4⟩ := hk; go_simp
          simp only [Act.put, List.setIfInBounds_toArray, List.set_cons_zero, List.set_cons_succ]
          refine fl_takeA (i := 17) (d := 83) (v := .pointer (some ⟨sg, so + q, none⟩)) rfl rfl rfl (by kernel_rfl) (by kernel_rfl) (by kernel_rfl) hS ?_ ?_
          · intro w' hk; obtain ⟨hk0, hk1, hk2, hk3, hk4⟩ := hk; go_simp
          simp only [Act.put, List.setIfInBounds_toArray, List.set_cons_zero, List.set_cons_succ]
          refine fl_takeA (i := 18) (d := 84) (v := .int .i64 z) rfl rfl rfl (by kernel_rfl) (by kernel_rfl) (by kernel_rfl) hS ?_ ?_
          · intro w' hk; obtain ⟨hk0, hk1, hk2, hk3, hk4⟩ := hk; go_simp
          simp only [Act.put, List.setIfInBounds_toArray, List.set_cons_zero, List.set_cons_succ]
          refine fl_takeA (i := 19) (d := 85) (v := .int .i64 y) rfl rfl rfl (by kernel_rfl) (by kernel_rfl) (by kernel_rfl) hS ?_ ?_
          · intro w' hk; obtain ⟨hk0, hk1, hk2, hk3, hk4⟩ := hk; go_simp
          simp only [Act.put, List.setIfInBounds_toArray, List.set_cons_zero, List.set_cons_succ]
          refine fl_takeA (i := 20) (d := 86) (v := .pointer (some ⟨gk, q, none⟩)) rfl rfl rfl (by kernel_rfl) (by kernel_rfl) (by kernel_rfl) hS ?_ ?_
          · intro w' hk; obtain ⟨hk0, hk1, hk2, hk3, hk4⟩ := hk; go_simp
          simp only [Act.put, List.setIfInBounds_toArray, List.set_cons_zero, List.set_cons_succ]
          refine wpAnyH_all (rs := [21]) (by kernel_rfl) (by simp) ?_
          intro i hi9; obtain rfl := List.mem_singleton.1 hi9; clear hi9
          have d0' : wr.drew.cell? ⟨gk, q, none⟩ = some (.int .i64 (at2 L k q)) := d0
          have d1' : wr.drew.frozen? ⟨gk, q, none⟩ = false := d1
          have hgkl' : gk < wr.drew.heap.size := hgkl
          refine op_skipN rfl rfl (w' := wr.drew.setCell ⟨gk, q, none⟩ (.int .i64 y)) (by go_simp; try rfl) ?_
          have HD : Hid (GV wr.drew W1.heap.size g n oc rn L vs ∧ Below W1.heap.size W1 wr.drew) := ⟨HS.out.2.1.below (Below.refl _ _).drew, HS.out.2.2.2.drew⟩
          have hb5 : Below W1.heap.size W1 (wr.drew.setCell ⟨gk, q, none⟩ (.int .i64 y)) := HD.out.1.bel hlt HS.out.1 q y HD.out.2
          have HP : Hid (∃ L, GV (wr.drew.setCell ⟨gk, q, none⟩ (.int .i64 y)) W1.heap.size g n oc rn L vs ∧ (∀ j m, j < n → m < rn → at2 L j m = if j < k ∨ (j = k ∧ m < q + 1) then bpT ls ms j m else at2 ls j m) ∧ Below W1.heap.size W1 (wr.drew.setCell ⟨gk, q, none⟩ (.int .i64 y))) := by
            refine ⟨set2 L k q y, HD.out.1.set hlt HS.out.1 q y, fun j m hj hm => ?_, hb5⟩
            rw [at2_set2 HD.out.1.sh hlt hlt2]
            by_cases e : j = k ∧ m = q
            · rw [if_pos e, if_pos (by omega), HY.out, e.1, e.2]
            · rw [if_neg e, HS.out.2.2.1 j m hj hm]
              by_cases e2 : j < k ∨ (j = k ∧ m < q)
              · rw [if_pos e2, if_pos (by omega)]
              · rw [if_neg e2, if_neg (by omega)]
          obtain ⟨g5, c5, hr5, e0, _⟩ := (HD.out.1.set hlt HS.out.1 q y).at hlt
          rw [HS.out.1] at hr5
          injection hr5 with t1 t2 t3
          injection t1 with t4
          injection t4 with t5
          subst t5 t3
          obtain ⟨f0, f1⟩ := rdr_keep HG.out.2.2.1 HS.out.2.2.2 hb5 hlt a0 hlt2
          obtain ⟨f2, f3⟩ := rdr_keep HG.out.2.2.2 HS.out.2.2.2 hb5 hlt a1 hlt2
          refine ⟨⟨e0, f0.trans a0, f1.trans r0, f2.trans a1, f3.trans r1⟩, wpAnyH_done (by kernel_rfl) (NoPanic.normal ?_) _⟩
          generalize wr.drew.setCell ⟨gk, q, none⟩ (.int .i64 y) = V' at HP ⊢
          clear a0 r0 a1 r1 c0 d0 d1 d0' d1' hgkl hgkl' hgl hag hrg hbg hsg HS HD HY hS e0 f0 f1 f2 f3 t2 hb5 hxz
          go_wp2
          go_roundw
          case rel => exact ⟨q + 1, by omega, by go_num, HP.out⟩
          case measure => simp [intOf]; omega
        · have HP : Hid (∃ L, GV wr W1.heap.size g n oc un L vs ∧ (∀ j m, j < n → m < un → at2 L j m = if j < k + 1 then bpT ls ms j m else at2 ls j m) ∧ Below W1.heap.size W1 wr) := by
            refine ⟨L, hGV, fun j m hj hm => ?_, hbl⟩
            rw [hL j m hj hm]
            by_cases e : j < k + 1
            · rw [if_pos (by omega), if_pos e]
            · rw [if_neg (by omega), if_neg e]
          clear hR hGV hL hbl hrk hBk hBg hne hcells
          go_wp2
          go_roundw
          case rel => exact ⟨k + 1, by omega, by go_num, HP.out⟩
          case measure => simp [intOf]; omega
    · have HP : Hid (RI wr W1.heap.size (.slice (some ⟨g, 0, none⟩) n oc) LL vs ∧ Below w.heap.size w wr ∧ wr.heap[w.heap.size]? = some (.cells #[.int .i64 0, .slice none 0 0, .int .i64 0] 25) ∧ w.heap.size < W1.heap.size) := by
        obtain ⟨L, h1, h2, h3⟩ := hR.out
        refine ⟨?_, HW.out.2.1.trans (h3.mono HW.out.2.1.size), (h3.block _ HW.out.2.2).trans HW.out.1, HW.out.2.2⟩
        have e : L = LL := by
          rw [HZ2.out.2]
          exact grid_ext h1.sh (mpL_sh _ _ _) fun j m hj hm => by
            rw [h2 j m hj hm, if_pos (by omega), mpL_at hj hm]; rfl
        rw [← e]
        exact h1.ri
      obtain ⟨q0, q1, q2, qf0, qf1, qf2, ql⟩ := three_of HP.out.2.2.1
      obtain ⟨Q, hQ⟩ : ∃ Q, Q = psV LL := ⟨_, rfl⟩
      have HSUM : Hid (Calls Try.prog 36 #[.slice (some ⟨g, 0, none⟩) n oc] wr fun e w' => e = .returned (.int .i64 Q) ∧ w' = wr) := by
        rw [hQ]
        refine spec_l9Sum ?_ HP.out.1.rd
        rw [HZ2.out.2, HLN.out.1, HLN.out.2]
        exact mp_gg HC1.out _
      have HQ : Hid (psV LL = Q) := hQ.symm
      clear hR hQ
      go_wp2_with (fail)
      refine HSUM.out.mono ?_
      rintro e w9 ⟨rfl, rfl⟩
      clear HSUM
      go_wp2
      try simp only [Exit.inBlock, Exit.then]
      refine bodyPost_ret (by simp [results, Try.results18, go_sem, q0, q1, q2, ql]; try rfl) rfl ⟨.slice (some ⟨g, 0, none⟩) n oc, vs, by rw [HZ2.out.1, HQ.out], ?_, ?_⟩
      · have hs := HP.out.2.2.2
        refine RI.low (B := W1.heap.size) ?_ (by omega)
        repeat' (refine ri_result (w := w) ?_ (by omega) _ _)
        exact HP.out.1
      · have hB := HP.out.2.1
        (repeat' (first | (with_reducible exact Below.refl _ _) | (with_reducible assumption) | (with_reducible refine Below.setCell ?_ ?_ _) | (with_reducible refine Below.alloc ?_ ?_ _) | (with_reducible refine below_drewN ?_ _) | (with_reducible refine Below.drew ?_) | (with_reducible exact Nat.le_refl _) | omega | (simp; done) | (simp; omega)))

end Go.Proofs.Ythmddnachancfaa
