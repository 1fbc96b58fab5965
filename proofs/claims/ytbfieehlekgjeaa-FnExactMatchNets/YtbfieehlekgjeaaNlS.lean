/- Proved here: the model's fault of a netlist: nlF. -/
import Derived.Test.YtbfieehlekgjeaaNlF
namespace Go.Proofs.Ytbfieehlekgjeaa
open Go.RowKit
set_option linter.unusedVariables false
set_option linter.unusedSimpArgs false

set_option maxRecDepth 10000 in
set_option maxHeartbeats 6400000 in
theorem spec_nl (N : Int) {w : World} {v : Value} {s : List Dv} (hn : s.length ≤ 1048576) (hsm : ∀ j (h : j < s.length), smD 1048576 s[j]) (h : RD w v s) :
    Calls Try.prog 14 #[.agg #[.int .i64 N, v]] w fun e w' => e = .returned (.int .i64 (nlF N s)) ∧ Below w.heap.size w w' := by
  obtain ⟨a, c, rfl⟩ := h.form
  obtain ⟨n, hnn⟩ : ∃ n, n = s.length := ⟨_, rfl⟩
  obtain ⟨C, hC⟩ : ∃ C, C = nlF N s := ⟨_, rfl⟩
  rw [← hnn] at hn h ⊢
  rw [← hC]
  have H : Hid (RD w (.slice a n c) s ∧ n = s.length ∧ C = nlF N s ∧ ∀ j (h : j < s.length), smD 1048576 s[j]) := ⟨h, hnn, hC, hsm⟩
  clear h hnn hC hsm
  by_cases h7 : (7 : Int) < N
  · have HC : Hid (C = 2) := by unfold Hid; rw [H.out.2.2.1, nlF, if_pos (Or.inl h7)]
    go_enter Try.func14, Try.ntmps14
    go_wp2
    go_returns
    exact ⟨by rw [HC.out]; rfl, by (repeat' (first | (with_reducible exact Below.refl _ _) | (with_reducible assumption) | (with_reducible refine Below.setCell ?_ ?_ _) | (with_reducible refine Below.alloc ?_ ?_ _) | (with_reducible refine below_drewN ?_ _) | (with_reducible refine Below.drew ?_) | (with_reducible exact Nat.le_refl _) | omega | (simp; done) | (simp; omega)))⟩
  by_cases h12 : (12 : Int) < (n : Int)
  · have HC : Hid (C = 2) := by unfold Hid; rw [H.out.2.2.1, nlF, if_pos (Or.inr (by rw [← H.out.2.1]; omega))]
    go_enter Try.func14, Try.ntmps14
    go_wp2
    go_returns
    exact ⟨by rw [HC.out]; rfl, by (repeat' (first | (with_reducible exact Below.refl _ _) | (with_reducible assumption) | (with_reducible refine Below.setCell ?_ ?_ _) | (with_reducible refine Below.alloc ?_ ?_ _) | (with_reducible refine below_drewN ?_ _) | (with_reducible refine Below.drew ?_) | (with_reducible exact Nat.le_refl _) | omega | (simp; done) | (simp; omega)))⟩
  have HG : Hid (¬ (7 < N ∨ 12 < s.length)) := by unfold Hid; rw [← H.out.2.1]; omega
  by_cases h0 : N < 0
  · have HC : Hid (C = 1) := by unfold Hid; rw [H.out.2.2.1, nlF, if_neg HG.out, if_pos h0]
    go_enter Try.func14, Try.ntmps14
    go_wp2
    go_returns
    exact ⟨by rw [HC.out]; rfl, by (repeat' (first | (with_reducible exact Below.refl _ _) | (with_reducible assumption) | (with_reducible refine Below.setCell ?_ ?_ _) | (with_reducible refine Below.alloc ?_ ?_ _) | (with_reducible refine below_drewN ?_ _) | (with_reducible refine Below.drew ?_) | (with_reducible exact Nat.le_refl _) | omega | (simp; done) | (simp; omega)))⟩
  have HC : Hid (C = firstD N s) := by unfold Hid; rw [H.out.2.2.1, nlF, if_neg HG.out, if_neg h0]
  go_enter Try.func14, Try.ntmps14
  go_wp2
  go_loopw [3] (fun i wr => ∃ k : Nat, k ≤ n ∧ i = .int .i64 k ∧ Hid (firstD N (s.drop k) = firstD N s ∧ Below w.heap.size w wr ∧ wr.heap[w.heap.size]? = some (.cells #[.int .i64 N, .slice a n c] 42))) (fun i _ => n - (intOf i).toNat)
  case atStart => exact ⟨0, Nat.zero_le _, rfl, rfl, by (repeat' (first | (with_reducible exact Below.refl _ _) | (with_reducible assumption) | (with_reducible refine Below.setCell ?_ ?_ _) | (with_reducible refine Below.alloc ?_ ?_ _) | (with_reducible refine below_drewN ?_ _) | (with_reducible refine Below.drew ?_) | (with_reducible exact Nat.le_refl _) | omega | (simp; done) | (simp; omega))), heap_alloc_new w _⟩
  case round =>
    obtain ⟨k, hk, rfl, hR⟩ := hrel
    obtain ⟨p0, p1, pf, plt⟩ := two_at hR.out.2.2
    by_cases hlt : k < n
    · have hkl : k < s.length := by rw [← H.out.2.1]; exact hlt
      obtain ⟨g, o, c2, he, hg, x, hx, c0, c1⟩ := (H.out.1.below hR.out.2.1).at hkl
      simp only [Value.slice.injEq] at he
      obtain ⟨rfl, hx1, hx2⟩ := he
      clear hx1 hx2
      obtain ⟨K, A, m, cc⟩ := x
      dsimp only at c0 c1
      have hm : m = (s[k]).p.length := hx.p.len
      have hmm : m ≤ 1048576 := by have := H.out.2.2.2 k hkl; unfold smD at this; omega
      have HX : Hid (RdI wr (.slice A m cc) s[k].p ∧ m = s[k].p.length ∧ K = s[k].k ∧ k < s.length) := ⟨hx.p, hm, hx.k, hkl⟩
      have HR : Hid (firstD N (s.drop k) = firstD N s ∧ Below w.heap.size w wr ∧ wr.heap[w.heap.size]? = some (.cells #[.int .i64 N, .slice (some ⟨g, o, none⟩) n c] 42)) := hR.out
      clear hx hm hR
      have b0 : (0 : Int) ≤ (k : Int) := by omega
      have b1 : (k : Int) < (n : Int) := by omega
      by_cases hk0 : K < 0
      · have HE : Hid (C = 1) := by
          have : dvF N s[k] = 1 := by rw [dvF, if_pos (by rw [← HX.out.2.2.1]; omega)]
          unfold Hid; rw [HC.out, firstD_hit hkl (by rw [this]; omega) HR.out.1, this]
        have HB := HR.out.2.1
        go_wp2
        go_returns
        exact ⟨by rw [HE.out]; rfl, by (repeat' (first | (with_reducible exact Below.refl _ _) | (with_reducible assumption) | (with_reducible refine Below.setCell ?_ ?_ _) | (with_reducible refine Below.alloc ?_ ?_ _) | (with_reducible refine below_drewN ?_ _) | (with_reducible refine Below.drew ?_) | (with_reducible exact Nat.le_refl _) | omega | (simp; done) | (simp; omega)))⟩
      by_cases hk1 : (100 : Int) < K
      · have HE : Hid (C = 1) := by
          have : dvF N s[k] = 1 := by rw [dvF, if_pos (by rw [← HX.out.2.2.1]; omega)]
          unfold Hid; rw [HC.out, firstD_hit hkl (by rw [this]; omega) HR.out.1, this]
        have HB := HR.out.2.1
        go_wp2
        go_returns
        exact ⟨by rw [HE.out]; rfl, by (repeat' (first | (with_reducible exact Below.refl _ _) | (with_reducible assumption) | (with_reducible refine Below.setCell ?_ ?_ _) | (with_reducible refine Below.alloc ?_ ?_ _) | (with_reducible refine below_drewN ?_ _) | (with_reducible refine Below.drew ?_) | (with_reducible exact Nat.le_refl _) | omega | (simp; done) | (simp; omega)))⟩
      have HK : Hid (¬ (s[k].k < 0 ∨ 100 < s[k].k)) := by unfold Hid; rw [← HX.out.2.2.1]; omega
      by_cases h4 : (4 : Int) < (m : Int)
      · have HE : Hid (C = 2) := by
          have : dvF N s[k] = 2 := by rw [dvF, if_neg HK.out, if_pos (by rw [← HX.out.2.1]; omega)]
          unfold Hid; rw [HC.out, firstD_hit hkl (by rw [this]; omega) HR.out.1, this]
        have HB := HR.out.2.1
        go_wp2
        go_returns
        exact ⟨by rw [HE.out]; rfl, by (repeat' (first | (with_reducible exact Below.refl _ _) | (with_reducible assumption) | (with_reducible refine Below.setCell ?_ ?_ _) | (with_reducible refine Below.alloc ?_ ?_ _) | (with_reducible refine below_drewN ?_ _) | (with_reducible refine Below.drew ?_) | (with_reducible exact Nat.le_refl _) | omega | (simp; done) | (simp; omega)))⟩
      have HD : Hid (dvF N s[k] = if s[k].p.any (pinBad N) then 1 else 0) := by
        unfold Hid; rw [dvF, if_neg HK.out, if_neg (by rw [← HX.out.2.1]; omega)]
      go_wp2
      go_loopw [5] (fun i wq => ∃ j : Nat, j ≤ m ∧ i = .int .i64 j ∧ Hid (Below wr.heap.size wr wq ∧ wq.heap[wr.heap.size]? = some (.cells #[.int .i64 K, .slice A m cc] 82) ∧ ∀ k', k' < j → pinBad N (s[k].p.getD k' 0) = false)) (fun i _ => m - (intOf i).toNat)
      case atStart =>
        refine ⟨0, Nat.zero_le _, rfl, by (repeat' (first | (with_reducible exact Below.refl _ _) | (with_reducible assumption) | (with_reducible refine Below.setCell ?_ ?_ _) | (with_reducible refine Below.alloc ?_ ?_ _) | (with_reducible refine below_drewN ?_ _) | (with_reducible refine Below.drew ?_) | (with_reducible exact Nat.le_refl _) | omega | (simp; done) | (simp; omega))), ?_, fun k hk => by omega⟩
        exact heap_alloc_new _ _
      case round =>
        obtain ⟨j, hjm, rfl, hQ⟩ := hrel
        clear c0 c1
        have p2 := (hQ.out.1.block _ plt).trans HR.out.2.2
        clear p0 p1 pf plt
        obtain ⟨p0, p1, pf, plt⟩ := two_at p2
        obtain ⟨d0, d1, df, dlt⟩ := two_at hQ.out.2.1
        have HB : Hid (Below w.heap.size w wr) := HR.out.2.1.trans (hQ.out.1.mono HR.out.2.1.size)
        have HP2 : Hid _ := p2
        clear p2
        by_cases hjlt : j < m
        · have hjl : j < s[k].p.length := by rw [← HX.out.2.1]; exact hjlt
          obtain ⟨g2, o2, c2, he, hg2, hj⟩ := (HX.out.1.below hQ.out.1).ri (by rw [← HX.out.2.1]; omega)
          simp only [Value.slice.injEq] at he
          obtain ⟨rfl, hx1, hx2⟩ := he
          clear hx1 hx2
          have c0 := hj j hjl
          obtain ⟨x, hx⟩ : ∃ x, x = s[k].p.getD j 0 := ⟨_, rfl⟩
          rw [← hx] at c0
          have HJ : Hid (x = s[k].p.getD j 0 ∧ j < s[k].p.length) := ⟨hx, hjl⟩
          have HQ : Hid _ := hQ.out
          clear hx hj hjl hQ
          have b2 : (0 : Int) ≤ (j : Int) := by omega
          have b3 : (j : Int) < (m : Int) := by omega
          by_cases hneg : x < 0
          · have HE : Hid (C = 1) := by
              have : dvF N s[k] = 1 := by rw [HD.out, if_pos (any_hit HJ.out.2 (by rw [← HJ.out.1]; unfold pinBad; simp [hneg]))]
              unfold Hid; rw [HC.out, firstD_hit hkl (by rw [this]; omega) HR.out.1, this]
            have hdec : decide (x < 0) = true := decide_eq_true hneg
            go_wp2
            go_quiet (fail)
            go_wp2
            go_returns
            exact ⟨by rw [HE.out]; rfl, below_drewN HB.out _⟩
          have hdec : decide (x < 0) = false := decide_eq_false hneg
          by_cases hge : N ≤ x
          · have HE : Hid (C = 1) := by
              have : dvF N s[k] = 1 := by rw [HD.out, if_pos (any_hit HJ.out.2 (by rw [← HJ.out.1]; unfold pinBad; simp; omega))]
              unfold Hid; rw [HC.out, firstD_hit hkl (by rw [this]; omega) HR.out.1, this]
            have hdec2 : decide (N ≤ x) = true := decide_eq_true hge
            go_wp2
            go_quiet (fail)
            go_wp2
            go_returns
            exact ⟨by rw [HE.out]; rfl, below_drewN HB.out _⟩
          have hdec2 : decide (N ≤ x) = false := decide_eq_false hge
          have HP : Hid (∀ k', k' < j + 1 → pinBad N (s[k].p.getD k' 0) = false) := fun k' hk' => by
            rcases (by omega : k' < j ∨ k' = j) with e | rfl
            · exact HQ.out.2.2 k' e
            · rw [← HJ.out.1]; unfold pinBad; simp; omega
          go_wp2
          go_quiet (fail)
          go_wp2
          go_roundw
          case rel => exact ⟨j + 1, by omega, by go_num, below_drewN HQ.out.1 _, HQ.out.2.1, HP.out⟩
          case measure => simp [intOf]; omega
        · have HM : Hid (firstD N (s.drop (k + 1)) = firstD N s) := firstD_miss hkl (by
            rw [HD.out, any_all (fun k' hk' => hQ.out.2.2 k' (by rw [← HX.out.2.1] at hk'; omega))]; rfl) HR.out.1
          clear hQ
          go_wp2
          go_roundw
          case rel => exact ⟨k + 1, by omega, by go_num, HM.out, HB.out, HP2.out⟩
          case measure => simp [intOf]; omega
    · have e : Hid (C = 0) := by
        unfold Hid
        rw [HC.out, ← hR.out.1, List.drop_eq_nil_of_le (by rw [← H.out.2.1]; omega)]
        rfl
      have HB : Hid (Below w.heap.size w wr) := hR.out.2.1
      clear hR
      go_wp2
      go_returns
      exact ⟨by rw [e.out]; rfl, HB.out⟩

end Go.Proofs.Ytbfieehlekgjeaa
