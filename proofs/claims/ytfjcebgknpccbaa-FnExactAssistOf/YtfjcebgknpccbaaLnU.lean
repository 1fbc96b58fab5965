/- Proved here: PrintOf of both. -/
import Derived.Test.YtfjcebgknpccbaaLnT
namespace Go.Proofs.Ytfjcebgknpccbaa
open Go.RowKit
set_option linter.unusedVariables false
set_option linter.unusedSimpArgs false

def laC (ls : List Ln) : Int := if 12 < ls.length then 2 else 0
def laL (ls : List Ln) : List Ln := if 12 < ls.length then [] else ls
def prF (s : List Ln) (ws : List Int) (K : Int) (L x : Nat) : Bool := decide (K ≤ psum s ws x L)
def plF (s : List Ln) (len : Int) (ws : List Int) (K : Int) : Int := if lpF s len ws K = 0 then laC (rnL (prF s ws K len.toNat) len.toNat) else lpF s len ws K
def plL (s : List Ln) (len : Int) (ws : List Int) (K : Int) : List Ln := if lpF s len ws K = 0 then laL (rnL (prF s ws K len.toNat) len.toNat) else []
theorem laL_len (ls : List Ln) : (laL ls).length ≤ 12 := by
  unfold laL
  split
  · simp
  · omega
theorem plL_len (s : List Ln) (len : Int) (ws : List Int) (K : Int) : (plL s len ws K).length ≤ 12 := by
  unfold plL
  split
  · exact laL_len _
  · simp

set_option maxHeartbeats 6400000 in
theorem impl_la {w : World} {v : Value} {ls : List Ln} (hn : ls.length ≤ 1000) (h : RdI w v (flL ls)) :
    Calls Try.prog 49 #[v] w fun e w' => ∃ r, e = .returned (.agg #[.int .i64 (laC ls), r]) ∧ OG 60 2 lnC w' w.heap.size r (laL ls) ∧ Below w.heap.size w w' := by
  obtain ⟨a, c, rfl⟩ := h.form
  obtain ⟨m, hmm⟩ : ∃ m, m = (flL ls).length := ⟨_, rfl⟩
  rw [← hmm] at h ⊢
  have hm2 : m = 2 * ls.length := by rw [hmm, flL_len]
  have HB : Hid (∀ W, Below w.heap.size w W → Calls Try.prog 61 #[.slice a m c] W fun e w' => ∃ r, e = .returned r ∧ OG 60 2 lnC w' W.heap.size r ls ∧ Below W.heap.size W w') := fun W hW => impl_lb hn (h.below hW)
  clear h hmm
  by_cases hb : 12 < ls.length
  · have h24 : (24 : Int) < (m : Int) := by omega
    have HC : Hid (laC ls = 2 ∧ laL ls = []) := ⟨by unfold laC; rw [if_pos hb], by unfold laL; rw [if_pos hb]⟩
    clear hb hm2 hn
    go_enter Try.func49, Try.ntmps49
    go_wp2
    go_returns
    exact ⟨_, by rw [HC.out.1], by rw [HC.out.2]; exact World.ownsRow_nil _ _ _ _, by (repeat' (first | (with_reducible exact Below.refl _ _) | (with_reducible assumption) | (with_reducible refine Below.setCell ?_ ?_ _) | (with_reducible refine Below.alloc ?_ ?_ _) | (with_reducible refine below_drewN ?_ _) | (with_reducible refine Below.drew ?_) | (with_reducible exact Nat.le_refl _) | omega | (simp; done) | (simp; omega)))⟩
  · have h24 : ¬ (24 : Int) < (m : Int) := by omega
    have HC : Hid (laC ls = 0 ∧ laL ls = ls) := ⟨by unfold laC; rw [if_neg hb], by unfold laL; rw [if_neg hb]⟩
    clear hb hm2 hn
    go_enter Try.func49, Try.ntmps49
    go_wp2_with (fail)
    refine (HB.out _ (by (repeat' (first | (with_reducible exact Below.refl _ _) | (with_reducible assumption) | (with_reducible refine Below.setCell ?_ ?_ _) | (with_reducible refine Below.alloc ?_ ?_ _) | (with_reducible refine below_drewN ?_ _) | (with_reducible refine Below.drew ?_) | (with_reducible exact Nat.le_refl _) | omega | (simp; done) | (simp; omega))))).mono ?_
    rintro e w1 ⟨r, rfl, hr, hb1⟩
    have k1 := (hb1.block w.heap.size (by simp)).trans (heap_alloc_new w _)
    obtain ⟨va, vc, rfl⟩ := (OG.rg lnC_len hr).form
    have HR : Hid (OG 60 2 lnC w1 (w.heap.size + 1) (.slice va ls.length vc) ls ∧ Below w.heap.size w w1) := ⟨by simpa using hr, (show Below w.heap.size w _ from by (repeat' (first | (with_reducible exact Below.refl _ _) | (with_reducible assumption) | (with_reducible refine Below.setCell ?_ ?_ _) | (with_reducible refine Below.alloc ?_ ?_ _) | (with_reducible refine below_drewN ?_ _) | (with_reducible refine Below.drew ?_) | (with_reducible exact Nat.le_refl _) | omega | (simp; done) | (simp; omega)))).trans (hb1.mono (by simp))⟩
    obtain ⟨q0, q1, qf, ql⟩ := kn_two k1
    have qf0 := qf 0
    have qf1 := qf 1
    clear hr hb1 k1 qf
    go_wp2
    try simp only [Exit.inBlock, Exit.then]
    refine bodyPost_ret (by simp [results, Try.results49, go_sem, q0, q1]; try rfl) rfl ⟨_, by rw [HC.out.1], ?_, ?_⟩
    · rw [HC.out.2]
      refine World.ownsRow.kept (row := some w.heap.size) (OG.low HR.out.1 (by omega)) ⟨rfl, rfl, rfl, by simp, fun k hk hne => ?_⟩ (Or.inr fun e => ?_)
      · rw [heap_setCell_other _ _ _ _ (fun e => hne (by rw [e])), heap_setCell_other _ _ _ _ (fun e => hne (by rw [e]))]
      · have := (OG.lt HR.out.1 _ e).1; omega
    · have hB := HR.out.2
      (repeat' (first | (with_reducible exact Below.refl _ _) | (with_reducible assumption) | (with_reducible refine Below.setCell ?_ ?_ _) | (with_reducible refine Below.alloc ?_ ?_ _) | (with_reducible refine below_drewN ?_ _) | (with_reducible refine Below.drew ?_) | (with_reducible exact Nat.le_refl _) | omega | (simp; done) | (simp; omega)))

set_option maxRecDepth 10000 in
set_option maxHeartbeats 6400000 in
theorem impl_po (K len : Int) {w : World} {v u : Value} {s : List Ln} {ws : List Int} (hn : s.length ≤ 1048576) (h : RG 2 lnC w v s) (hu : RdI w u ws) :
    Calls Try.prog 27 #[v, .int .i64 len, .agg #[u, .int .i64 K]] w fun e w' => ∃ r, e = .returned (.agg #[.int .i64 (plF s len ws K), r]) ∧ OG 60 2 lnC w' w.heap.size r (plL s len ws K) ∧ Below w.heap.size w w' := by
  obtain ⟨a, c, rfl⟩ := h.form
  obtain ⟨b, d, rfl⟩ := hu.form
  obtain ⟨n, hnn⟩ : ∃ n, n = s.length := ⟨_, rfl⟩
  obtain ⟨m, hmm⟩ : ∃ m, m = ws.length := ⟨_, rfl⟩
  rw [← hnn] at h ⊢
  rw [← hmm] at hu ⊢
  obtain ⟨C, hC⟩ : ∃ C, C = lpF s len ws K := ⟨_, rfl⟩
  obtain ⟨CC, hCC⟩ : ∃ C, C = plF s len ws K := ⟨_, rfl⟩
  obtain ⟨LL, hLL⟩ : ∃ C, C = plL s len ws K := ⟨_, rfl⟩
  rw [← hCC, ← hLL]
  have H : Hid (RG 2 lnC w (.slice a n c) s ∧ RdI w (.slice b m d) ws ∧ C = lpF s len ws K ∧ CC = plF s len ws K ∧ LL = plL s len ws K) := ⟨h, hu, hC, hCC, hLL⟩
  have HL : Hid (∀ W, Below w.heap.size w W → Calls Try.prog 45 #[.slice a n c, .int .i64 len, .agg #[.slice b m d, .int .i64 K]] W fun e w' => e = .returned (.int .i64 C) ∧ Below W.heap.size W w') := fun W hW => by rw [hC]; exact impl_pf8 K len hn (h.below hW) (hu.below hW)
  clear h hu hn hC hnn hmm hCC hLL
  go_enter Try.func27, Try.ntmps27
  go_wp2_with (fail)
  refine (HL.out _ (by (repeat' (first | (with_reducible exact Below.refl _ _) | (with_reducible assumption) | (with_reducible refine Below.setCell ?_ ?_ _) | (with_reducible refine Below.alloc ?_ ?_ _) | (with_reducible refine below_drewN ?_ _) | (with_reducible refine Below.drew ?_) | (with_reducible exact Nat.le_refl _) | omega | (simp; done) | (simp; omega))))).mono ?_
  rintro e w1 ⟨rfl, hb1⟩
  have k1 := (hb1.block w.heap.size (by simp; omega)).trans ((Below.heap_alloc _ _ _ (by simp)).trans (heap_alloc_new w _))
  have k2 := (hb1.block (w.heap.size + 1) (by simp)).trans (kn_at1 w _ _)
  have HB : Hid (Below w.heap.size w w1) := (show Below w.heap.size w _ from by (repeat' (first | (with_reducible exact Below.refl _ _) | (with_reducible assumption) | (with_reducible refine Below.setCell ?_ ?_ _) | (with_reducible refine Below.alloc ?_ ?_ _) | (with_reducible refine below_drewN ?_ _) | (with_reducible refine Below.drew ?_) | (with_reducible exact Nat.le_refl _) | omega | (simp; done) | (simp; omega)))).trans (hb1.mono (by simp; omega))
  have HK2 : Hid (w1.heap[w.heap.size + 1]? = some (.cells #[.int .i64 0, .slice none 0 0] 47)) := k2
  obtain ⟨p0, p1, pf, pl⟩ := kn_two k1
  obtain ⟨q0, q1, qf, ql⟩ := kn_two k2
  have qf0 := qf 0
  have qf1 := qf 1
  clear hb1 k1 k2 pf qf
  by_cases hC0 : C = 0
  · obtain ⟨h1, h2⟩ := lpF_good (H.out.2.2.1.symm.trans hC0)
    obtain ⟨L, hL⟩ : ∃ L : Nat, len = (L : Int) := ⟨len.toNat, by omega⟩
    have hLb : L ≤ 60 := by omega
    obtain ⟨f, hf⟩ : ∃ f, f = prF s ws K L := ⟨_, rfl⟩
    have HQ : Hid (∀ W, Below w.heap.size w W → Calls Try.prog 51 #[.slice a n c, .int .i64 len, .agg #[.slice b m d, .int .i64 K]] W fun e w' => ∃ r, e = .returned r ∧ BO w' W.heap.size r (prK s ws K L) ∧ Below W.heap.size W w') := fun W hW => impl_pr K hL hLb h1.2.2.1 h1.2.2.2 h2.1 (H.out.1.below hW) (H.out.2.1.below hW)
    have HE : Hid (CC = laC (rnL f L) ∧ LL = laL (rnL f L) ∧ L ≤ 60 ∧ ∀ x, x < L → (prK s ws K L).getD x false = f x) := by
      have e0 : len.toNat = L := by omega
      refine ⟨?_, ?_, hLb, fun x hx => by rw [prK_at hx, hf]; rfl⟩
      · rw [H.out.2.2.2.1, plF, if_pos (H.out.2.2.1.symm.trans hC0), e0, hf]
      · rw [H.out.2.2.2.2, plL, if_pos (H.out.2.2.1.symm.trans hC0), e0, hf]
    clear h1 h2 hL hLb hf
    subst hC0
    go_wp2_with (fail)
    refine (HQ.out _ HB.out).mono ?_
    rintro e w2 ⟨r2, rfl, hr2, hb2⟩
    go_wp2_with (fail)
    refine (impl_re (f := f) (prK_len s ws K L).symm HE.out.2.2.1 HE.out.2.2.2 hr2).mono ?_
    rintro e w3 ⟨r3, rfl, hr3, hb3⟩
    go_wp2_with (fail)
    refine (impl_la (ls := rnL f L) (by have := rnL_len f L; have := HE.out.2.2.1; omega) hr3.rg).mono ?_
    rintro e w4 ⟨r4, rfl, hr4, hb4⟩
    have hB4 : Below w1.heap.size w1 w4 := (hb2.trans (hb3.mono hb2.size)).trans (hb4.mono (Nat.le_trans hb2.size hb3.size))
    have k2 := (hB4.block (w.heap.size + 1) ql).trans HK2.out
    obtain ⟨va, vc, rfl⟩ := (OG.rg lnC_len hr4).form
    rw [← HE.out.1]
    rw [← HE.out.2.1] at hr4 ⊢
    have HR : Hid (OG 60 2 lnC w4 w1.heap.size (.slice va LL.length vc) LL ∧ Below w.heap.size w w4 ∧ w.heap.size + 1 < w1.heap.size) := ⟨OG.low hr4 (Nat.le_trans hb2.size hb3.size), HB.out.trans (hB4.mono HB.out.size), ql⟩
    obtain ⟨t0, t1, tf, tl⟩ := kn_two k2
    have tf0 := tf 0
    have tf1 := tf 1
    clear hr2 hb2 hr3 hb3 hr4 hb4 hB4 k2 tf p0 p1 pl q0 q1 qf0 qf1
    go_wp2
    try simp only [Exit.inBlock, Exit.then]
    refine bodyPost_ret (by simp [results, Try.results27, go_sem, t0, t1]; try rfl) rfl ⟨_, rfl, ?_, ?_⟩
    · refine World.ownsRow.kept (row := some (w.heap.size + 1)) (OG.low HR.out.1 HB.out.size) ⟨rfl, rfl, rfl, by simp, fun k hk hne => ?_⟩ (Or.inr fun e => ?_)
      · rw [heap_setCell_other _ _ _ _ (fun e => hne (by rw [e])), heap_setCell_other _ _ _ _ (fun e => hne (by rw [e]))]
      · have := (OG.lt HR.out.1 _ e).1; have := HR.out.2.2; omega
    · have hB := HR.out.2.1
      (repeat' (first | (with_reducible exact Below.refl _ _) | (with_reducible assumption) | (with_reducible refine Below.setCell ?_ ?_ _) | (with_reducible refine Below.alloc ?_ ?_ _) | (with_reducible refine below_drewN ?_ _) | (with_reducible refine Below.drew ?_) | (with_reducible exact Nat.le_refl _) | omega | (simp; done) | (simp; omega)))
  · have hC1 : (C != 0) = true := by simpa using hC0
    have HN : Hid (CC = C ∧ LL = []) := by
      refine ⟨?_, ?_⟩
      · rw [H.out.2.2.2.1, plF, ← H.out.2.2.1, if_neg hC0]
      · rw [H.out.2.2.2.2, plL, ← H.out.2.2.1, if_neg hC0]
    go_wp2
    try simp only [Exit.inBlock, Exit.then]
    refine bodyPost_ret (by simp [results, Try.results27, go_sem, q0, q1]; try rfl) rfl ⟨_, by rw [HN.out.1], ?_, ?_⟩
    · rw [HN.out.2]; exact World.ownsRow_nil _ _ _ _
    · have hB := HB.out
      (repeat' (first | (with_reducible exact Below.refl _ _) | (with_reducible assumption) | (with_reducible refine Below.setCell ?_ ?_ _) | (with_reducible refine Below.alloc ?_ ?_ _) | (with_reducible refine below_drewN ?_ _) | (with_reducible refine Below.drew ?_) | (with_reducible exact Nat.le_refl _) | omega | (simp; done) | (simp; omega)))

end Go.Proofs.Ytfjcebgknpccbaa
