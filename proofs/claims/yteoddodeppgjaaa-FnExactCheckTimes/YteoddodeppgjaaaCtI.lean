/- Proved here: CheckTimes of the program. -/
import Derived.Test.YteoddodeppgjaaaDtJ
import Derived.Test.YteoddodeppgjaaaDtX
import Derived.Test.YteoddodeppgjaaaSlE
namespace Go.Proofs.Yteoddodeppgjaaa
open Go.RowKit
set_option linter.unusedVariables false
set_option linter.unusedSimpArgs false

theorem rows_ext {p q : List (List Int)} (hl : p.length = q.length) (h : ∀ k, k < p.length → p.getD k [] = q.getD k []) : p = q := by
  apply List.ext_getElem hl
  intro j h1 h2
  have := h j h1
  rw [getD_lt h1, getD_lt h2] at this
  exact this

set_option maxRecDepth 10000 in
set_option maxHeartbeats 3200000 in
theorem sl_equalR {w : World} {va vb : Value} {p q : List (List Int)} (hp : SmR p) (hq : SmR q) (ha : RdR w va p) (hb : RdR w vb q) :
    Calls Try.prog 49 #[va, vb, .func (Fn.func 50) #[] #[]] w fun e w' => e = .returned (.bool (decide (p = q))) ∧ Below w.heap.size w w' := by
  obtain ⟨a1, c1', rfl⟩ := ha.form
  obtain ⟨a2, c2', rfl⟩ := hb.form
  obtain ⟨n, hnn⟩ : ∃ n, n = p.length := ⟨_, rfl⟩
  obtain ⟨m, hmm⟩ : ∃ m, m = q.length := ⟨_, rfl⟩
  obtain ⟨D, hD⟩ : ∃ D, D = decide (p = q) := ⟨_, rfl⟩
  rw [← hnn] at ha ⊢
  rw [← hmm] at hb ⊢
  rw [← hD]
  have hp' : n ≤ 1048576 := by rw [hnn]; exact hp.len
  have hq' : m ≤ 1048576 := by rw [hmm]; exact hq.len
  have H : Hid (RdR w (.slice a1 n c1') p ∧ RdR w (.slice a2 m c2') q ∧ n = p.length ∧ m = q.length ∧ D = decide (p = q) ∧ SmR p ∧ SmR q) := ⟨ha, hb, hnn, hmm, hD, hp, hq⟩
  clear ha hb hnn hmm hD hp hq
  by_cases hnm : n = m
  case neg =>
    have HE : Hid (D = false) := by
      unfold Hid; rw [H.out.2.2.2.2.1]
      exact decide_eq_false (fun e => hnm (by rw [H.out.2.2.1, H.out.2.2.2.1, e]))
    have hi : ¬ (n : Int) = (m : Int) := by omega
    go_enter Try.func49, Try.ntmps49
    go_wp2
    go_returns
    exact ⟨by rw [HE.out]; rfl, Below.refl _ _⟩
  subst hnm
  go_enter Try.func49, Try.ntmps49
  go_wp2
  go_loopw [17] (fun i wr => ∃ j : Nat, j ≤ n ∧ i = .int .i64 j ∧ Hid (Below w.heap.size w wr ∧ ∀ k, k < j → p.getD k [] = q.getD k [])) (fun i _ => n - (intOf i).toNat)
  case atStart => exact ⟨0, Nat.zero_le _, rfl, Below.refl _ _, fun k hk => by omega⟩
  case round =>
    obtain ⟨j, hjn, rfl, hR⟩ := hrel
    by_cases hlt : j < n
    · obtain ⟨g, o, ua, un, uc, rfl, hg, c0, hun, hrd⟩ := (H.out.1.below hR.out.1).at hlt
      obtain ⟨g', o', ub, um, ud, rfl, hg', c0', hun', hrd'⟩ := (H.out.2.1.below hR.out.1).at hlt
      obtain ⟨E, hE⟩ : ∃ E, E = decide (p.getD j [] = q.getD j []) := ⟨_, rfl⟩
      have HC : Hid (∀ W, Below wr.heap.size wr W → Calls Try.prog 50 #[.slice ua un uc, .slice ub um ud] W fun e w' => e = .returned (.bool E) ∧ Below W.heap.size W w') := fun W hW => by
        rw [hE]
        exact sl_equal (H.out.2.2.2.2.2.1.row j) (H.out.2.2.2.2.2.2.row j) (hrd.below hW) (hrd'.below hW)
      have HE : Hid (E = decide (p.getD j [] = q.getD j [])) := hE
      clear hrd hrd' hun hun' hE
      have b0 : (0 : Int) ≤ (j : Int) := by omega
      have b1 : (j : Int) < (n : Int) := by omega
      go_wp2_with (fail)
      refine (HC.out _ (Below.refl _ _)).mono ?_
      rintro e w3 ⟨rfl, hb3⟩
      have HB3 : Hid (Below w.heap.size w w3 ∧ ∀ k, k < j → p.getD k [] = q.getD k []) := ⟨hR.out.1.trans (hb3.mono hR.out.1.size), hR.out.2⟩
      clear hb3 hR HC c0 c0' hg hg'
      cases E with
      | true =>
        have HP : Hid (Below w.heap.size w w3 ∧ ∀ k, k < j + 1 → p.getD k [] = q.getD k []) := ⟨HB3.out.1, fun k hk => by
          by_cases e : k = j
          · rw [e]; exact of_decide_eq_true HE.out.symm
          · exact HB3.out.2 k (by omega)⟩
        clear HB3
        go_wp2
        go_roundw
        case rel => exact ⟨j + 1, by omega, by go_num, HP.out⟩
        case measure => simp [intOf]; omega
      | false =>
        have HF : Hid (D = false) := by
          unfold Hid; rw [H.out.2.2.2.2.1]
          exact decide_eq_false fun e => (of_decide_eq_false HE.out.symm) (by rw [e])
        go_wp2
        go_returns
        exact ⟨by rw [HF.out]; rfl, HB3.out.1⟩
    · have HF : Hid (D = true ∧ Below w.heap.size w wr) := by
        refine ⟨?_, hR.out.1⟩
        rw [H.out.2.2.2.2.1]
        exact decide_eq_true (rows_ext (by rw [← H.out.2.2.1]; exact H.out.2.2.2.1) fun k hk => hR.out.2 k (by have := H.out.2.2.1; omega))
      clear hR
      go_wp2
      go_returns
      exact ⟨by rw [HF.out.1]; rfl, HF.out.2⟩

set_option maxRecDepth 10000 in
set_option maxHeartbeats 3200000 in
theorem impl_ct {w : World} {v u : Value} {r t : List (List Int)} (hr : SmR r) (ht : SmR t) (h : RdR w v r) (h' : RdR w u t) :
    Calls Try.prog 31 #[v, u] w fun e w' => e = .returned (.bool (ctB r t)) ∧ Below w.heap.size w w' := by
  obtain ⟨a1, c1', rfl⟩ := h.form
  obtain ⟨a2, c2', rfl⟩ := h'.form
  obtain ⟨n, hnn⟩ : ∃ n, n = r.length := ⟨_, rfl⟩
  obtain ⟨m, hmm⟩ : ∃ m, m = t.length := ⟨_, rfl⟩
  obtain ⟨D, hD⟩ : ∃ D, D = ctB r t := ⟨_, rfl⟩
  obtain ⟨A, hA⟩ : ∃ A, A = gfC r 1000000 := ⟨_, rfl⟩
  rw [← hnn] at h ⊢
  rw [← hmm] at h' ⊢
  rw [← hD]
  have HC : Hid (Calls Try.prog 48 #[.slice a1 n c1'] w fun e w' => ∃ v' vs, e = .returned (.agg #[.int .i64 A, v']) ∧ RI w' w.heap.size v' (dtL r) vs ∧ Below w.heap.size w w') := by rw [hA]; exact impl_dt hr h
  have H : Hid (RdR w (.slice a2 m c2') t ∧ SmR t ∧ D = decide (A = 0 ∧ t = dtL r)) := ⟨h', ht, by rw [hD, hA]; rfl⟩
  clear h h' hr ht hnn hmm hD hA
  go_enter Try.func31, Try.ntmps31
  go_wp2_with (fail)
  refine HC.out.mono ?_
  rintro e w1 ⟨v1, vs, rfl, hri, hb1⟩
  obtain ⟨va, vc, rfl⟩ := hri.form
  obtain ⟨nn, hnn⟩ : ∃ x, x = (dtL r).length := ⟨_, rfl⟩
  rw [← hnn] at hri ⊢
  have HR : Hid (RI w1 w.heap.size (.slice va nn vc) (dtL r) vs ∧ Below w.heap.size w w1) := ⟨hri, hb1⟩
  clear HC hri hb1 hnn
  by_cases hA0 : A = 0
  case neg =>
    have HD : Hid (D = false) := by unfold Hid; rw [H.out.2.2]; exact decide_eq_false fun e => hA0 e.1
    have hA1 : (A == 0) = false := by simpa using hA0
    go_wp2
    go_returns
    exact ⟨by rw [HD.out]; rfl, by have hB := HR.out.2; have hs := hB.size; (repeat' (first | (with_reducible exact Below.refl _ _) | (with_reducible assumption) | (with_reducible refine Below.setCell ?_ ?_ _) | (with_reducible refine Below.alloc ?_ ?_ _) | (with_reducible refine below_drewN ?_ _) | (with_reducible refine Below.drew ?_) | (with_reducible exact Nat.le_refl _) | omega | (simp; done) | (simp; omega)))⟩
  subst hA0
  have HE : Hid (∀ W, Below w1.heap.size w1 W → Calls Try.prog 49 #[.slice a2 m c2', .slice va nn vc, .func (Fn.func 50) #[] #[]] W fun e w' => e = .returned (.bool D) ∧ Below W.heap.size W w') := fun W hW => by
    have e : D = decide (t = dtL r) := by rw [H.out.2.2]; simp
    rw [e]
    exact sl_equalR H.out.2.1 (dtL_sm r) ((H.out.1.below HR.out.2).below hW) (HR.out.1.rd.below hW)
  go_wp2_with (fail)
  refine (HE.out _ (by (repeat' (first | (with_reducible exact Below.refl _ _) | (with_reducible assumption) | (with_reducible refine Below.setCell ?_ ?_ _) | (with_reducible refine Below.alloc ?_ ?_ _) | (with_reducible refine below_drewN ?_ _) | (with_reducible refine Below.drew ?_) | (with_reducible exact Nat.le_refl _) | omega | (simp; done) | (simp; omega))))).mono ?_
  rintro e w3 ⟨rfl, hb3⟩
  have HB : Hid (Below w.heap.size w w3) := HR.out.2.trans ((show Below w1.heap.size w1 w3 from Below.trans (by (repeat' (first | (with_reducible exact Below.refl _ _) | (with_reducible assumption) | (with_reducible refine Below.setCell ?_ ?_ _) | (with_reducible refine Below.alloc ?_ ?_ _) | (with_reducible refine below_drewN ?_ _) | (with_reducible refine Below.drew ?_) | (with_reducible exact Nat.le_refl _) | omega | (simp; done) | (simp; omega)))) (hb3.mono (by simp))).mono HR.out.2.size)
  clear hb3 HE
  cases D with
  | true =>
    go_wp2
    go_returns
    exact ⟨rfl, HB.out⟩
  | false =>
    go_wp2
    go_returns
    exact ⟨rfl, HB.out⟩

end Go.Proofs.Yteoddodeppgjaaa
