/- Proved here: a lot's fault of the program: loC. -/
import Derived.Test.YtcfjanignfbidaaQbI
namespace Go.Proofs.Ytcfjanignfbidaa
open Go.RowKit Go.Maps
set_option linter.unusedVariables false
set_option linter.unusedSimpArgs false

set_option maxRecDepth 10000 in
set_option maxHeartbeats 6400000 in
theorem impl_lof {w : World} {b bn : Nat} {f : Int → Option Int} (r : Lr) (l : Lo) (st : Int) (hl : smLo 1048576 l) (h1 : Lr1 w r l) (h : IM 3 w b bn f) :
    Calls Try.prog 83 #[.agg #[.int .i64 r.id, .int .i64 r.pa, .slice r.wa r.wn r.wc, .bool r.hd, .slice r.da r.dn r.dc], .int .i64 st, .map (some b)] w fun e w' => e = .returned (.int .i64 (loC st (fun x => (f x).isSome) l)) ∧ Below w.heap.size w w' := by
  obtain ⟨ri, rp, wa, wn, wc, D, da, dn, dc⟩ := r
  have e1 := h1.id; have e3 := h1.pa; have e5 := h1.hd
  simp only at e1 e3 e5
  subst ri rp
  clear e5
  obtain ⟨I, hI⟩ : ∃ I, I = l.id := ⟨_, rfl⟩
  obtain ⟨P, hP⟩ : ∃ I, I = l.pa := ⟨_, rfl⟩
  obtain ⟨dd, hdd⟩ : ∃ I, I = l.dn := ⟨_, rfl⟩
  obtain ⟨K, hK⟩ : ∃ K, K = loC st (fun x => (f x).isSome) l := ⟨_, rfl⟩
  obtain ⟨p, hp⟩ : ∃ p, p = (f P).isSome := ⟨_, rfl⟩
  have hwn : wn = l.ws.length := h1.ws.len
  have hdn : dn = dd.length := by rw [hdd]; exact h1.dn.len
  have hwP : (Lit.int .i64 P).wf = true := by rw [hP]; exact hl.2.2
  have H : Hid (RdI w (.slice wa wn wc) l.ws ∧ RdI w (.slice da dn dc) dd) := ⟨h1.ws, by rw [hdd]; exact h1.dn⟩
  have hns : wn ≤ 1048576 ∧ dn ≤ 1048576 := by have := hl.1; have := hl.2.1; rw [hdd] at hdn; omega
  obtain ⟨m, hm⟩ : ∃ m, m = (decide (1 ≤ I ∧ I ≤ 1000000) && !(f I).isSome) := ⟨_, rfl⟩
  have HM : Hid (∀ W, Below w.heap.size w W → Calls Try.prog 43 #[.map (some b), .int .i64 I] W fun e w' => e = .returned (.bool m) ∧ w' = W) := fun W hb => impl_mbn (h.below hb) m hm
  have HH : Hid (∀ W, Below w.heap.size w W → Calls Try.prog 73 #[.map (some b), .int .i64 P] W fun e w' => e = .returned (.bool p) ∧ w' = W) := fun W hb => by rw [hp]; exact impl_has hwP (h.below hb)
  have HI : Hid (∀ (y : Int) W q, q = decide (0 ≤ y ∧ y ≤ 1000000000) → Calls Try.prog 62 #[.int .i64 y, .int .i64 0, .int .i64 1000000000] W fun e w' => e = .returned (.bool q) ∧ w' = W) := fun y W q hq => impl_insC y 0 1000000000 q hq W
  have HK0 : Hid ((m = false → K = 1) ∧ (m = true → P ≠ 0 → p = false → K = 4) ∧ (m = true → (P = 0 ∨ p = true) → ((25 < wn ∨ st < (dn : Int)) → K = 2) ∧ (¬ (25 < wn ∨ st < (dn : Int)) → K = frm (dnK dd) 0 (dn - 0)))) := by
    have hmm : m = true ↔ (1 ≤ I ∧ I ≤ 1000000) ∧ (f I).isSome = false := by rw [hm]; simp
    unfold Hid
    unfold loC at hK
    simp only [← hI, ← hP, ← hdd, ← hwn, ← hdn, ← hp] at hK
    refine ⟨fun h => ?_, fun h1 h2 h3 => ?_, fun h1 h2 => ⟨fun h3 => ?_, fun h3 => ?_⟩⟩
    · rw [if_neg (fun e => by rw [hmm.2 e] at h; cases h)] at hK; exact hK
    · rw [if_pos (hmm.1 h1), if_pos ⟨h2, h3⟩] at hK; exact hK
    · rw [if_pos (hmm.1 h1), if_neg (fun e => by rcases h2 with e2 | e2; exact e.1 e2; rw [e2] at e; cases e.2), if_pos h3] at hK; exact hK
    · rw [if_pos (hmm.1 h1), if_neg (fun e => by rcases h2 with e2 | e2; exact e.1 e2; rw [e2] at e; cases e.2), if_neg h3] at hK; exact hK
  rw [← hI, ← hP, ← hK]
  clear hI hP hdd hK hp hwn hdn hwP hm h1 h hl
  cases m
  · have HR : Hid (K = 1) := HK0.out.1 rfl
    clear HK0
    go_enter Try.func83, Try.ntmps83
    go_wp2_with (fail)
    refine (HM.out _ (by (repeat' (first | (with_reducible exact Below.refl _ _) | (with_reducible assumption) | (with_reducible refine Below.setCell ?_ ?_ _) | (with_reducible refine Below.alloc ?_ ?_ _) | (with_reducible refine below_drewN ?_ _) | (with_reducible refine Below.drew ?_) | (with_reducible exact Nat.le_refl _) | omega | (simp; done) | (simp; omega))))).mono ?_
    rintro e w1 ⟨rfl, hw1⟩
    subst w1
    go_wp2
    go_returns
    exact ⟨by rw [HR.out]; rfl, by (repeat' (first | (with_reducible exact Below.refl _ _) | (with_reducible assumption) | (with_reducible refine Below.setCell ?_ ?_ _) | (with_reducible refine Below.alloc ?_ ?_ _) | (with_reducible refine below_drewN ?_ _) | (with_reducible refine Below.drew ?_) | (with_reducible exact Nat.le_refl _) | omega | (simp; done) | (simp; omega)))⟩
  by_cases hP0 : P = 0
  · have HK : Hid (((25 < wn ∨ st < (dn : Int)) → K = 2) ∧ (¬ (25 < wn ∨ st < (dn : Int)) → K = frm (dnK dd) 0 (dn - 0))) := HK0.out.2.2 rfl (Or.inl hP0)
    subst hP0
    clear HK0
    by_cases h3 : 25 < (wn : Int)
    · have HR : Hid (K = 2) := HK.out.1 (Or.inl (by omega))
      clear HK
      go_enter Try.func83, Try.ntmps83
      go_wp2_with (fail)
      refine (HM.out _ (by (repeat' (first | (with_reducible exact Below.refl _ _) | (with_reducible assumption) | (with_reducible refine Below.setCell ?_ ?_ _) | (with_reducible refine Below.alloc ?_ ?_ _) | (with_reducible refine below_drewN ?_ _) | (with_reducible refine Below.drew ?_) | (with_reducible exact Nat.le_refl _) | omega | (simp; done) | (simp; omega))))).mono ?_
      rintro e w1 ⟨rfl, hw1⟩
      subst w1
      go_wp2
      go_returns
      exact ⟨by rw [HR.out]; rfl, by (repeat' (first | (with_reducible exact Below.refl _ _) | (with_reducible assumption) | (with_reducible refine Below.setCell ?_ ?_ _) | (with_reducible refine Below.alloc ?_ ?_ _) | (with_reducible refine below_drewN ?_ _) | (with_reducible refine Below.drew ?_) | (with_reducible exact Nat.le_refl _) | omega | (simp; done) | (simp; omega)))⟩
    by_cases h4 : st < (dn : Int)
    · have HR : Hid (K = 2) := HK.out.1 (Or.inr h4)
      clear HK
      go_enter Try.func83, Try.ntmps83
      go_wp2_with (fail)
      refine (HM.out _ (by (repeat' (first | (with_reducible exact Below.refl _ _) | (with_reducible assumption) | (with_reducible refine Below.setCell ?_ ?_ _) | (with_reducible refine Below.alloc ?_ ?_ _) | (with_reducible refine below_drewN ?_ _) | (with_reducible refine Below.drew ?_) | (with_reducible exact Nat.le_refl _) | omega | (simp; done) | (simp; omega))))).mono ?_
      rintro e w1 ⟨rfl, hw1⟩
      subst w1
      go_wp2
      go_returns
      exact ⟨by rw [HR.out]; rfl, by (repeat' (first | (with_reducible exact Below.refl _ _) | (with_reducible assumption) | (with_reducible refine Below.setCell ?_ ?_ _) | (with_reducible refine Below.alloc ?_ ?_ _) | (with_reducible refine below_drewN ?_ _) | (with_reducible refine Below.drew ?_) | (with_reducible exact Nat.le_refl _) | omega | (simp; done) | (simp; omega)))⟩
    have HF : Hid (K = frm (dnK dd) 0 (dn - 0)) := HK.out.2 (by omega)
    clear HK
    go_enter Try.func83, Try.ntmps83
    go_wp2_with (fail)
    refine (HM.out _ (by (repeat' (first | (with_reducible exact Below.refl _ _) | (with_reducible assumption) | (with_reducible refine Below.setCell ?_ ?_ _) | (with_reducible refine Below.alloc ?_ ?_ _) | (with_reducible refine below_drewN ?_ _) | (with_reducible refine Below.drew ?_) | (with_reducible exact Nat.le_refl _) | omega | (simp; done) | (simp; omega))))).mono ?_
    rintro e w1 ⟨rfl, hw1⟩
    subst w1
    go_wp2
    obtain ⟨W, hW⟩ : ∃ W, W = w.alloc (.cells #[.int .i64 I, .int .i64 0, .slice wa wn wc, .bool D, .slice da dn dc] 61) := ⟨_, rfl⟩
    have HW : Hid (Below w.heap.size w W ∧ W.heap[w.heap.size]? = some (.cells #[.int .i64 I, .int .i64 0, .slice wa wn wc, .bool D, .slice da dn dc] 61)) := by rw [hW]; exact ⟨by (repeat' (first | (with_reducible exact Below.refl _ _) | (with_reducible assumption) | (with_reducible refine Below.setCell ?_ ?_ _) | (with_reducible refine Below.alloc ?_ ?_ _) | (with_reducible refine below_drewN ?_ _) | (with_reducible refine Below.drew ?_) | (with_reducible exact Nat.le_refl _) | omega | (simp; done) | (simp; omega))), heap_alloc_new _ _⟩
    rw [← hW]
    clear hW HM
    have hkk := cellOfQ HW.out.2 4 rfl
    have hkl := ltOfQ HW.out.2
    go_loopw [38] (fun i wr => ∃ j : Nat, j ≤ dn ∧ i = .int .i64 j ∧ Hid (frm (dnK dd) j (dn - j) = K) ∧ wr = W) (fun i _ => dn - (intOf i).toNat)
    case atStart => exact ⟨0, Nat.zero_le _, rfl, HF.out.symm, rfl⟩
    case round =>
      obtain ⟨j, hjn, rfl, hR, rfl⟩ := hrel
      by_cases hlt : j < dn
      · obtain ⟨g, o, rfl, hg, hc⟩ := rd_at (H.out.2.below HW.out.1) hlt
        obtain ⟨y, hy⟩ : ∃ y, y = dd.getD j 0 := ⟨_, rfl⟩
        rw [← hy] at hc
        have hstep : Hid ((¬ (0 ≤ y ∧ y ≤ 1000000000) → 3 = K) ∧ ((0 ≤ y ∧ y ≤ 1000000000) → (0 < j ∧ y < dd.getD (j - 1) 0) → 1 = K) ∧ ((0 ≤ y ∧ y ≤ 1000000000) → ¬ (0 < j ∧ y < dd.getD (j - 1) 0) → frm (dnK dd) (j + 1) (dn - (j + 1)) = K)) := by
          have e : dnK dd j = if 0 ≤ y ∧ y ≤ 1000000000 then (if 0 < j ∧ y < dd.getD (j - 1) 0 then 1 else 0) else 3 := by rw [hy]; rfl
          refine ⟨fun h => ?_, fun h1 h2 => ?_, fun h1 h2 => ?_⟩
          · rw [if_neg h] at e; rw [← hR.out]; exact (frm_hit hlt e (by decide)).symm
          · rw [if_pos h1, if_pos h2] at e; rw [← hR.out]; exact (frm_hit hlt e (by decide)).symm
          · rw [if_pos h1, if_neg h2] at e; rw [← hR.out]; exact (frm_miss hlt e).symm
        clear hy hR
        have b0 : (0 : Int) ≤ (j : Int) := by omega
        have b1 : (j : Int) < (dn : Int) := by omega
        by_cases h5 : 0 ≤ y ∧ y ≤ 1000000000
        · have HD : Hid (true = decide (0 ≤ y ∧ y ≤ 1000000000)) := by unfold Hid; rw [decide_eq_true h5]
          rcases Nat.eq_zero_or_pos j with h0 | h0
          · have HN : Hid (frm (dnK dd) (j + 1) (dn - (j + 1)) = K) := hstep.out.2.2 h5 (by omega)
            have h6 : ¬ (0 : Int) < (j : Int) := by omega
            clear hstep h5 h0
            go_wp2_with (fail)
            refine (HI.out y _ true HD.out).mono ?_
            rintro e w2 ⟨rfl, hw2⟩
            subst w2
            go_wp2
            go_roundw
            case rel => exact ⟨j + 1, by omega, by go_num, HN.out, trivial⟩
            case measure => simp [intOf]; omega
          · have h6 : (0 : Int) < (j : Int) := by omega
            obtain ⟨g', o', he', hg', hc'⟩ := rd_at (H.out.2.below HW.out.1) (show j - 1 < dn by omega)
            injection he' with he'
            injection he' with he1 he2
            subst he1 he2
            obtain ⟨z, hz⟩ : ∃ y, y = dd.getD (j - 1) 0 := ⟨_, rfl⟩
            rw [← hz] at hc' hstep
            have hix : ((j : Int) - 1).toNat = j - 1 := by omega
            have b2 : (0 : Int) ≤ (j : Int) - 1 := by omega
            have b3 : (j : Int) - 1 < (dn : Int) := by omega
            by_cases h7 : y < z
            · have HN : Hid (1 = K) := hstep.out.2.1 h5 ⟨h0, h7⟩
              clear hstep h5 hz
              go_wp2_with (fail)
              refine (HI.out y _ true HD.out).mono ?_
              rintro e w2 ⟨rfl, hw2⟩
              subst w2
              go_wp2
              go_returns
              exact ⟨by rw [← HN.out]; rfl, HW.out.1⟩
            · have HN : Hid (frm (dnK dd) (j + 1) (dn - (j + 1)) = K) := hstep.out.2.2 h5 (by omega)
              clear hstep h5 hz
              go_wp2_with (fail)
              refine (HI.out y _ true HD.out).mono ?_
              rintro e w2 ⟨rfl, hw2⟩
              subst w2
              go_wp2
              go_roundw
              case rel => exact ⟨j + 1, by omega, by go_num, HN.out, trivial⟩
              case measure => simp [intOf]; omega
        · have HD : Hid (false = decide (0 ≤ y ∧ y ≤ 1000000000)) := by unfold Hid; rw [decide_eq_false h5]
          have HN : Hid (3 = K) := hstep.out.1 h5
          clear hstep h5
          go_wp2_with (fail)
          refine (HI.out y _ false HD.out).mono ?_
          rintro e w2 ⟨rfl, hw2⟩
          subst w2
          go_wp2
          go_returns
          exact ⟨by rw [← HN.out]; rfl, HW.out.1⟩
      · obtain rfl : j = dn := by omega
        have HN : Hid (0 = K) := by rw [frm_end] at hR; exact hR.out
        clear hR
        go_wp2
        go_returns
        exact ⟨by rw [← HN.out]; rfl, HW.out.1⟩
  have hP1 : (P == 0) = false := beq_eq_false_iff_ne.2 hP0
  cases p
  · have HR : Hid (K = 4) := HK0.out.2.1 rfl hP0 rfl
    clear HK0
    go_enter Try.func83, Try.ntmps83
    go_wp2_with (fail)
    refine (HM.out _ (by (repeat' (first | (with_reducible exact Below.refl _ _) | (with_reducible assumption) | (with_reducible refine Below.setCell ?_ ?_ _) | (with_reducible refine Below.alloc ?_ ?_ _) | (with_reducible refine below_drewN ?_ _) | (with_reducible refine Below.drew ?_) | (with_reducible exact Nat.le_refl _) | omega | (simp; done) | (simp; omega))))).mono ?_
    rintro e w1 ⟨rfl, hw1⟩
    subst w1
    go_wp2_with (fail)
    refine (HH.out _ (by (repeat' (first | (with_reducible exact Below.refl _ _) | (with_reducible assumption) | (with_reducible refine Below.setCell ?_ ?_ _) | (with_reducible refine Below.alloc ?_ ?_ _) | (with_reducible refine below_drewN ?_ _) | (with_reducible refine Below.drew ?_) | (with_reducible exact Nat.le_refl _) | omega | (simp; done) | (simp; omega))))).mono ?_
    rintro e w1 ⟨rfl, hw1⟩
    subst w1
    go_wp2
    go_returns
    exact ⟨by rw [HR.out]; rfl, by (repeat' (first | (with_reducible exact Below.refl _ _) | (with_reducible assumption) | (with_reducible refine Below.setCell ?_ ?_ _) | (with_reducible refine Below.alloc ?_ ?_ _) | (with_reducible refine below_drewN ?_ _) | (with_reducible refine Below.drew ?_) | (with_reducible exact Nat.le_refl _) | omega | (simp; done) | (simp; omega)))⟩
  have HK : Hid (((25 < wn ∨ st < (dn : Int)) → K = 2) ∧ (¬ (25 < wn ∨ st < (dn : Int)) → K = frm (dnK dd) 0 (dn - 0))) := HK0.out.2.2 rfl (Or.inr rfl)
  clear HK0
  by_cases h3 : 25 < (wn : Int)
  · have HR : Hid (K = 2) := HK.out.1 (Or.inl (by omega))
    clear HK
    go_enter Try.func83, Try.ntmps83
    go_wp2_with (fail)
    refine (HM.out _ (by (repeat' (first | (with_reducible exact Below.refl _ _) | (with_reducible assumption) | (with_reducible refine Below.setCell ?_ ?_ _) | (with_reducible refine Below.alloc ?_ ?_ _) | (with_reducible refine below_drewN ?_ _) | (with_reducible refine Below.drew ?_) | (with_reducible exact Nat.le_refl _) | omega | (simp; done) | (simp; omega))))).mono ?_
    rintro e w1 ⟨rfl, hw1⟩
    subst w1
    go_wp2_with (fail)
    refine (HH.out _ (by (repeat' (first | (with_reducible exact Below.refl _ _) | (with_reducible assumption) | (with_reducible refine Below.setCell ?_ ?_ _) | (with_reducible refine Below.alloc ?_ ?_ _) | (with_reducible refine below_drewN ?_ _) | (with_reducible refine Below.drew ?_) | (with_reducible exact Nat.le_refl _) | omega | (simp; done) | (simp; omega))))).mono ?_
    rintro e w1 ⟨rfl, hw1⟩
    subst w1
    go_wp2
    go_returns
    exact ⟨by rw [HR.out]; rfl, by (repeat' (first | (with_reducible exact Below.refl _ _) | (with_reducible assumption) | (with_reducible refine Below.setCell ?_ ?_ _) | (with_reducible refine Below.alloc ?_ ?_ _) | (with_reducible refine below_drewN ?_ _) | (with_reducible refine Below.drew ?_) | (with_reducible exact Nat.le_refl _) | omega | (simp; done) | (simp; omega)))⟩
  by_cases h4 : st < (dn : Int)
  · have HR : Hid (K = 2) := HK.out.1 (Or.inr h4)
    clear HK
    go_enter Try.func83, Try.ntmps83
    go_wp2_with (fail)
    refine (HM.out _ (by (repeat' (first | (with_reducible exact Below.refl _ _) | (with_reducible assumption) | (with_reducible refine Below.setCell ?_ ?_ _) | (with_reducible refine Below.alloc ?_ ?_ _) | (with_reducible refine below_drewN ?_ _) | (with_reducible refine Below.drew ?_) | (with_reducible exact Nat.le_refl _) | omega | (simp; done) | (simp; omega))))).mono ?_
    rintro e w1 ⟨rfl, hw1⟩
    subst w1
    go_wp2_with (fail)
    refine (HH.out _ (by (repeat' (first | (with_reducible exact Below.refl _ _) | (with_reducible assumption) | (with_reducible refine Below.setCell ?_ ?_ _) | (with_reducible refine Below.alloc ?_ ?_ _) | (with_reducible refine below_drewN ?_ _) | (with_reducible refine Below.drew ?_) | (with_reducible exact Nat.le_refl _) | omega | (simp; done) | (simp; omega))))).mono ?_
    rintro e w1 ⟨rfl, hw1⟩
    subst w1
    go_wp2
    go_returns
    exact ⟨by rw [HR.out]; rfl, by (repeat' (first | (with_reducible exact Below.refl _ _) | (with_reducible assumption) | (with_reducible refine Below.setCell ?_ ?_ _) | (with_reducible refine Below.alloc ?_ ?_ _) | (with_reducible refine below_drewN ?_ _) | (with_reducible refine Below.drew ?_) | (with_reducible exact Nat.le_refl _) | omega | (simp; done) | (simp; omega)))⟩
  have HF : Hid (K = frm (dnK dd) 0 (dn - 0)) := HK.out.2 (by omega)
  clear HK
  go_enter Try.func83, Try.ntmps83
  go_wp2_with (fail)
  refine (HM.out _ (by (repeat' (first | (with_reducible exact Below.refl _ _) | (with_reducible assumption) | (with_reducible refine Below.setCell ?_ ?_ _) | (with_reducible refine Below.alloc ?_ ?_ _) | (with_reducible refine below_drewN ?_ _) | (with_reducible refine Below.drew ?_) | (with_reducible exact Nat.le_refl _) | omega | (simp; done) | (simp; omega))))).mono ?_
  rintro e w1 ⟨rfl, hw1⟩
  subst w1
  go_wp2_with (fail)
  refine (HH.out _ (by (repeat' (first | (with_reducible exact Below.refl _ _) | (with_reducible assumption) | (with_reducible refine Below.setCell ?_ ?_ _) | (with_reducible refine Below.alloc ?_ ?_ _) | (with_reducible refine below_drewN ?_ _) | (with_reducible refine Below.drew ?_) | (with_reducible exact Nat.le_refl _) | omega | (simp; done) | (simp; omega))))).mono ?_
  rintro e w1 ⟨rfl, hw1⟩
  subst w1
  go_wp2
  obtain ⟨W, hW⟩ : ∃ W, W = w.alloc (.cells #[.int .i64 I, .int .i64 P, .slice wa wn wc, .bool D, .slice da dn dc] 61) := ⟨_, rfl⟩
  have HW : Hid (Below w.heap.size w W ∧ W.heap[w.heap.size]? = some (.cells #[.int .i64 I, .int .i64 P, .slice wa wn wc, .bool D, .slice da dn dc] 61)) := by rw [hW]; exact ⟨by (repeat' (first | (with_reducible exact Below.refl _ _) | (with_reducible assumption) | (with_reducible refine Below.setCell ?_ ?_ _) | (with_reducible refine Below.alloc ?_ ?_ _) | (with_reducible refine below_drewN ?_ _) | (with_reducible refine Below.drew ?_) | (with_reducible exact Nat.le_refl _) | omega | (simp; done) | (simp; omega))), heap_alloc_new _ _⟩
  rw [← hW]
  clear hW HM
  have hkk := cellOfQ HW.out.2 4 rfl
  have hkl := ltOfQ HW.out.2
  go_loopw [38] (fun i wr => ∃ j : Nat, j ≤ dn ∧ i = .int .i64 j ∧ Hid (frm (dnK dd) j (dn - j) = K) ∧ wr = W) (fun i _ => dn - (intOf i).toNat)
  case atStart => exact ⟨0, Nat.zero_le _, rfl, HF.out.symm, rfl⟩
  case round =>
    obtain ⟨j, hjn, rfl, hR, rfl⟩ := hrel
    by_cases hlt : j < dn
    · obtain ⟨g, o, rfl, hg, hc⟩ := rd_at (H.out.2.below HW.out.1) hlt
      obtain ⟨y, hy⟩ : ∃ y, y = dd.getD j 0 := ⟨_, rfl⟩
      rw [← hy] at hc
      have hstep : Hid ((¬ (0 ≤ y ∧ y ≤ 1000000000) → 3 = K) ∧ ((0 ≤ y ∧ y ≤ 1000000000) → (0 < j ∧ y < dd.getD (j - 1) 0) → 1 = K) ∧ ((0 ≤ y ∧ y ≤ 1000000000) → ¬ (0 < j ∧ y < dd.getD (j - 1) 0) → frm (dnK dd) (j + 1) (dn - (j + 1)) = K)) := by
        have e : dnK dd j = if 0 ≤ y ∧ y ≤ 1000000000 then (if 0 < j ∧ y < dd.getD (j - 1) 0 then 1 else 0) else 3 := by rw [hy]; rfl
        refine ⟨fun h => ?_, fun h1 h2 => ?_, fun h1 h2 => ?_⟩
        · rw [if_neg h] at e; rw [← hR.out]; exact (frm_hit hlt e (by decide)).symm
        · rw [if_pos h1, if_pos h2] at e; rw [← hR.out]; exact (frm_hit hlt e (by decide)).symm
        · rw [if_pos h1, if_neg h2] at e; rw [← hR.out]; exact (frm_miss hlt e).symm
      clear hy hR
      have b0 : (0 : Int) ≤ (j : Int) := by omega
      have b1 : (j : Int) < (dn : Int) := by omega
      by_cases h5 : 0 ≤ y ∧ y ≤ 1000000000
      · have HD : Hid (true = decide (0 ≤ y ∧ y ≤ 1000000000)) := by unfold Hid; rw [decide_eq_true h5]
        rcases Nat.eq_zero_or_pos j with h0 | h0
        · have HN : Hid (frm (dnK dd) (j + 1) (dn - (j + 1)) = K) := hstep.out.2.2 h5 (by omega)
          have h6 : ¬ (0 : Int) < (j : Int) := by omega
          clear hstep h5 h0
          go_wp2_with (fail)
          refine (HI.out y _ true HD.out).mono ?_
          rintro e w2 ⟨rfl, hw2⟩
          subst w2
          go_wp2
          go_roundw
          case rel => exact ⟨j + 1, by omega, by go_num, HN.out, trivial⟩
          case measure => simp [intOf]; omega
        · have h6 : (0 : Int) < (j : Int) := by omega
          obtain ⟨g', o', he', hg', hc'⟩ := rd_at (H.out.2.below HW.out.1) (show j - 1 < dn by omega)
          injection he' with he'
          injection he' with he1 he2
          subst he1 he2
          obtain ⟨z, hz⟩ : ∃ y, y = dd.getD (j - 1) 0 := ⟨_, rfl⟩
          rw [← hz] at hc' hstep
          have hix : ((j : Int) - 1).toNat = j - 1 := by omega
          have b2 : (0 : Int) ≤ (j : Int) - 1 := by omega
          have b3 : (j : Int) - 1 < (dn : Int) := by omega
          by_cases h7 : y < z
          · have HN : Hid (1 = K) := hstep.out.2.1 h5 ⟨h0, h7⟩
            clear hstep h5 hz
            go_wp2_with (fail)
            refine (HI.out y _ true HD.out).mono ?_
            rintro e w2 ⟨rfl, hw2⟩
            subst w2
            go_wp2
            go_returns
            exact ⟨by rw [← HN.out]; rfl, HW.out.1⟩
          · have HN : Hid (frm (dnK dd) (j + 1) (dn - (j + 1)) = K) := hstep.out.2.2 h5 (by omega)
            clear hstep h5 hz
            go_wp2_with (fail)
            refine (HI.out y _ true HD.out).mono ?_
            rintro e w2 ⟨rfl, hw2⟩
            subst w2
            go_wp2
            go_roundw
            case rel => exact ⟨j + 1, by omega, by go_num, HN.out, trivial⟩
            case measure => simp [intOf]; omega
      · have HD : Hid (false = decide (0 ≤ y ∧ y ≤ 1000000000)) := by unfold Hid; rw [decide_eq_false h5]
        have HN : Hid (3 = K) := hstep.out.1 h5
        clear hstep h5
        go_wp2_with (fail)
        refine (HI.out y _ false HD.out).mono ?_
        rintro e w2 ⟨rfl, hw2⟩
        subst w2
        go_wp2
        go_returns
        exact ⟨by rw [← HN.out]; rfl, HW.out.1⟩
    · obtain rfl : j = dn := by omega
      have HN : Hid (0 = K) := by rw [frm_end] at hR; exact hR.out
      clear hR
      go_wp2
      go_returns
      exact ⟨by rw [← HN.out]; rfl, HW.out.1⟩

end Go.Proofs.Ytcfjanignfbidaa
