/- Proved here: ProfileFault of the model. -/
import Derived.Test.YtfjfogiohijkkabPfM
import Derived.Test.YtfjfogiohijkkabNlJ
import Derived.Test.YtfjfogiohijkkabLwS
import Derived.Test.YtfjfogiohijkkabIns
namespace Go.Proofs.Ytfjfogiohijkkab
open Go.RowKit
set_option linter.unusedVariables false
set_option linter.unusedSimpArgs false

set_option maxRecDepth 10000 in
set_option maxHeartbeats 3200000 in
theorem spec_pf (o : Int) {W : World} {v : Value} {s : List Int} (hn : s.length ≤ 1048576) (h : RdI W v s) :
    Calls Try.prog 18 #[.agg #[v, .int .i64 o]] W fun e w' => e = .returned (.int .i64 (pfC s o)) ∧ Below W.heap.size W w' := by
  obtain ⟨ua, uc, rfl⟩ := h.form
  obtain ⟨n, hnn⟩ : ∃ n, n = s.length := ⟨_, rfl⟩
  rw [← hnn] at h hn ⊢
  have HN : Hid (n = s.length) := hnn
  have H : Hid (RdI W (.slice ua n uc) s) := h
  obtain ⟨C, hC⟩ : ∃ C, C = pfC s o := ⟨_, rfl⟩
  rw [← hC]
  by_cases h0 : n = 0
  · have e : C = 1 := by rw [hC]; exact pfC_0 (by omega)
    subst e
    clear hC hnn h
    subst h0
    go_enter Try.func18, Try.ntmps18
    go_wp2
    go_returns
    exact ⟨rfl, by (repeat' (first | (with_reducible exact Below.refl _ _) | (with_reducible assumption) | (with_reducible refine Below.setCell ?_ ?_ _) | (with_reducible refine Below.alloc ?_ ?_ _) | (with_reducible refine below_drewN ?_ _) | (with_reducible refine Below.drew ?_) | (with_reducible exact Nat.le_refl _) | omega | (simp; done) | (simp; omega)))⟩
  have b0 : ¬ (n : Int) = 0 := by omega
  have b1 : ((n : Int) == 0) = false := by simpa using b0
  by_cases h1 : 40 < n
  · have e : C = 2 := by rw [hC]; exact pfC_many (by omega)
    subst e
    have b2 : (40 : Int) < (n : Int) := by omega
    clear hC hnn h
    go_enter Try.func18, Try.ntmps18
    go_wp2
    go_returns
    exact ⟨rfl, by (repeat' (first | (with_reducible exact Below.refl _ _) | (with_reducible assumption) | (with_reducible refine Below.setCell ?_ ?_ _) | (with_reducible refine Below.alloc ?_ ?_ _) | (with_reducible refine below_drewN ?_ _) | (with_reducible refine Below.drew ?_) | (with_reducible exact Nat.le_refl _) | omega | (simp; done) | (simp; omega)))⟩
  have b2 : ¬ (40 : Int) < (n : Int) := by omega
  have HC : Hid (C = pfC s o ∧ s.length ≠ 0 ∧ ¬ 40 < s.length) := ⟨hC, by omega, by omega⟩
  clear hC hnn h h0
  obtain ⟨V, hV⟩ : ∃ V, V = W.alloc (.cells #[.slice ua n uc, .int .i64 o] 29) := ⟨_, rfl⟩
  have k0 : V.heap[W.heap.size]? = some (.cells #[.slice ua n uc, .int .i64 o] 29) := by rw [hV]; exact heap_alloc_new W _
  have c0 := cellOf k0 0 rfl
  have c1 := cellOf k0 1 rfl
  have cl := ltOf k0
  have HB : Hid (Below W.heap.size W V) := by unfold Hid; rw [hV]; (repeat' (first | (with_reducible exact Below.refl _ _) | (with_reducible assumption) | (with_reducible refine Below.setCell ?_ ?_ _) | (with_reducible refine Below.alloc ?_ ?_ _) | (with_reducible refine below_drewN ?_ _) | (with_reducible refine Below.drew ?_) | (with_reducible exact Nat.le_refl _) | omega | (simp; done) | (simp; omega)))
  clear k0
  go_enter Try.func18, Try.ntmps18
  go_wp2_with (fail)
  rw [← hV]
  clear hV
  go_loop [3] (fun i => ∃ k : Nat, k ≤ n ∧ i = .int .i64 k ∧ Hid (∀ j, j < k → inA (s.getD j 0) = true)) (fun i => n - (intOf i).toNat)
  case atStart => exact ⟨0, Nat.zero_le _, rfl, fun j hj => by omega⟩
  case round =>
    obtain ⟨k, hk, rfl, hR⟩ := hrel
    by_cases hlt : k < n
    · obtain ⟨g, oo, rfl, hg, d0⟩ := rd_at (H.out.below HB.out) hlt
      obtain ⟨x, hx⟩ : ∃ x, x = s.getD k 0 := ⟨_, rfl⟩
      obtain ⟨r, hr⟩ : ∃ r, r = inA x := ⟨_, rfl⟩
      rw [← hx] at d0
      have HR : Hid (r = inA x ∧ x = s.getD k 0) := ⟨hr, hx⟩
      clear hr hx
      have b3 : (0 : Int) ≤ (k : Int) := by omega
      have b4 : (k : Int) < (n : Int) := by omega
      go_wp2_with (fail)
      refine (spec_ins x 0 1000000000 r HR.out.1 _).mono ?_
      rintro e w3 ⟨rfl, hw⟩
      obtain rfl : V = w3 := hw.symm
      cases r with
      | true =>
        go_wp2
        go_round
        case rel =>
          refine ⟨k + 1, by omega, by go_num, ?_⟩
          intro j hj
          by_cases e : j = k
          · rw [e, ← HR.out.2]; exact HR.out.1.symm
          · exact hR.out j (by omega)
        case measure => simp [intOf] <;> omega
      | false =>
        have e : C = 3 := by rw [HC.out.1]; exact pfC_at HC.out.2.1 HC.out.2.2 (show k < s.length by rw [← HN.out]; exact hlt) (by rw [← HR.out.2]; exact HR.out.1.symm)
        subst e
        go_wp2
        go_returns
        exact ⟨rfl, HB.out⟩
    · obtain ⟨r, hr⟩ : ∃ r, r = inA o := ⟨_, rfl⟩
      have HR : Hid (r = inA o) := hr
      clear hr
      have HK : Hid (k = n) := by unfold Hid; omega
      go_wp2_with (fail)
      refine (spec_ins o 0 1000000000 r HR.out _).mono ?_
      rintro e w3 ⟨rfl, hw⟩
      obtain rfl : V = w3 := hw.symm
      cases r with
      | true =>
        have e : C = 0 := by rw [HC.out.1]; exact pfC_good HC.out.2.1 HC.out.2.2 (fun i hi => hR.out i (by rw [HK.out, HN.out]; exact hi)) HR.out.symm
        subst e
        go_wp2
        go_returns
        exact ⟨rfl, HB.out⟩
      | false =>
        have e : C = 3 := by rw [HC.out.1]; exact pfC_out HC.out.2.1 HC.out.2.2 HR.out.symm
        subst e
        go_wp2
        go_returns
        exact ⟨rfl, HB.out⟩

end Go.Proofs.Ytfjfogiohijkkab
