/- Proved here: implantFault of the program. -/
import Derived.Test.YtfjfogiohijkkaaItM
import Derived.Test.YtfjfogiohijkkaaIns
namespace Go.Proofs.Ytfjfogiohijkkaa
open Go.RowKit
set_option linter.unusedVariables false
set_option linter.unusedSimpArgs false

set_option maxRecDepth 10000 in
set_option maxHeartbeats 3200000 in
theorem impl_itf (d f : Int) {W : World} {v2 : Value} {sh : List Int} (hm : sh.length ≤ 1048576) (hb : RdI W v2 sh) :
    Calls Try.prog 38 #[.int .i64 d, v2, .int .i64 f] W fun e w' => e = .returned (.int .i64 (itF d sh f)) ∧ w' = W := by
  obtain ⟨sa, sc, rfl⟩ := hb.form
  obtain ⟨m, hmm⟩ : ∃ m, m = sh.length := ⟨_, rfl⟩
  rw [← hmm] at hb hm ⊢
  have HN : Hid (m = sh.length) := hmm
  have H : Hid (RdI W (.slice sa m sc) sh) := hb
  obtain ⟨C, hC⟩ : ∃ C, C = itF d sh f := ⟨_, rfl⟩
  rw [← hC]
  by_cases h0 : m = 0
  · have e : C = 1 := by rw [hC]; exact itF_0 (by omega)
    subst e
    clear hC hmm hb
    subst h0
    go_enter Try.func38, Try.ntmps38
    go_wp2
    go_returns
    exact ⟨rfl, rfl⟩
  have b0 : ¬ (m : Int) = 0 := by omega
  have b1 : ((m : Int) == 0) = false := by simpa using b0
  by_cases h1 : 40 < m
  · have e : C = 2 := by rw [hC]; exact itF_many (by omega)
    subst e
    have b2 : (40 : Int) < (m : Int) := by omega
    clear hC hmm hb
    go_enter Try.func38, Try.ntmps38
    go_wp2
    go_returns
    exact ⟨rfl, rfl⟩
  have b2 : ¬ (40 : Int) < (m : Int) := by omega
  have HC : Hid (C = itF d sh f ∧ sh.length ≠ 0 ∧ ¬ 40 < sh.length) := ⟨hC, by omega, by omega⟩
  obtain ⟨r1, hr1⟩ : ∃ r, r = decide (0 ≤ d ∧ d ≤ 1000000) := ⟨_, rfl⟩
  obtain ⟨r2, hr2⟩ : ∃ r, r = decide (0 ≤ f ∧ f ≤ 40) := ⟨_, rfl⟩
  have HR : Hid (r1 = decide (0 ≤ d ∧ d ≤ 1000000) ∧ r2 = decide (0 ≤ f ∧ f ≤ 40) ∧ itD d f = (r1 && r2)) := ⟨hr1, hr2, by rw [hr1, hr2, itD]; exact Bool.decide_and _ _⟩
  clear hC hmm hb h0 hr1 hr2
  go_enter Try.func38, Try.ntmps38
  go_wp2_with (fail)
  refine (impl_ins d 0 1000000 r1 HR.out.1 _).mono ?_
  rintro e w3 ⟨rfl, hw⟩
  obtain rfl : W = w3 := hw.symm
  clear hw
  cases r1 with
  | false =>
    have e : C = 3 := by rw [HC.out.1]; exact itF_d HC.out.2.1 HC.out.2.2 (by rw [HR.out.2.2]; rfl)
    subst e
    go_wp2
    go_returns
    exact ⟨rfl, rfl⟩
  | true =>
  go_wp2_with (fail)
  refine (impl_ins f 0 40 r2 HR.out.2.1 _).mono ?_
  rintro e w3 ⟨rfl, hw⟩
  obtain rfl : W = w3 := hw.symm
  clear hw
  cases r2 with
  | false =>
    have e : C = 3 := by rw [HC.out.1]; exact itF_d HC.out.2.1 HC.out.2.2 (by rw [HR.out.2.2]; rfl)
    subst e
    go_wp2
    go_returns
    exact ⟨rfl, rfl⟩
  | true =>
  go_wp2_with (fail)
  go_loop [7, 9, 26] (fun q _ i => ∃ (k : Nat) (S : Int), k ≤ m ∧ i = .int .i64 k ∧ q = .int .i64 S ∧ 0 ≤ S ∧ S ≤ 1000000 ∧ Hid (S = suL (sh.take k) ∧ ∀ j, j < k → inS (sh.getD j 0) = true)) (fun _ _ i => m - (intOf i).toNat)
  case atStart => exact ⟨0, 0, Nat.zero_le _, rfl, rfl, by omega, by omega, by simp [suL], fun j hj => by omega⟩
  case round =>
    obtain ⟨k, S, hk, rfl, rfl, hS0, hS1, hR⟩ := hrel
    by_cases hlt : k < m
    · obtain ⟨g, oo, rfl, hg, d0⟩ := rd_at H.out hlt
      obtain ⟨x, hx⟩ : ∃ x, x = sh.getD k 0 := ⟨_, rfl⟩
      obtain ⟨r, hr⟩ : ∃ r, r = inS x := ⟨_, rfl⟩
      rw [← hx] at d0
      have HX : Hid (r = inS x ∧ x = sh.getD k 0) := ⟨hr, hx⟩
      clear hr hx
      have b3 : (0 : Int) ≤ (k : Int) := by omega
      have b4 : (k : Int) < (m : Int) := by omega
      go_wp2_with (fail)
      refine (impl_ins x 0 1000 r HX.out.1 _).mono ?_
      rintro e w3 ⟨rfl, hw⟩
      obtain rfl : W = w3 := hw.symm
      clear hw
      cases r with
      | true =>
        have hks : k < sh.length := by rw [← HN.out]; exact hlt
        have hal : ∀ j, j < k + 1 → inS (sh.getD j 0) = true := by
          intro j hj
          by_cases e : j = k
          · rw [e, ← HX.out.2]; exact HX.out.1.symm
          · exact hR.out.2 j (by omega)
        have hq := suS_bd (k + 1) hks hal
        have hS2 : S + x = suL (sh.take (k + 1)) := by rw [suL_take hks, hR.out.1, HX.out.2]
        have HS : Hid (S + x = suL (sh.take (k + 1)) ∧ (∀ j, j < k + 1 → inS (sh.getD j 0) = true) ∧ 0 ≤ S + x ∧ S + x ≤ 1000000) := ⟨hS2, hal, by omega, by omega⟩
        have k1 : IntKind.i64.wrap (S + x) = S + x := by rw [IntKind.wrap_i64]; omega
        clear hq hS2 hal hks hR
        go_wp2
        go_round
        case rel => exact ⟨k + 1, S + x, by omega, by go_num, rfl, HS.out.2.2.1, HS.out.2.2.2, HS.out.1, HS.out.2.1⟩
        case measure => simp [intOf] <;> omega
      | false =>
        have e : C = 3 := by rw [HC.out.1]; exact itF_at HC.out.2.1 HC.out.2.2 (show k < sh.length by rw [← HN.out]; exact hlt) (by rw [← HX.out.2]; exact HX.out.1.symm)
        subst e
        clear hR
        go_wp2
        go_returns
        exact ⟨rfl, rfl⟩
    · have hkm : k = sh.length := by rw [← HN.out]; omega
      have hS2 : S = suL sh := by rw [hR.out.1, hkm, List.take_length]
      by_cases hb : 1000 < S
      · have e : C = 3 := by rw [HC.out.1]; exact itF_sum HC.out.2.1 HC.out.2.2 (by omega)
        subst e
        clear hkm hS2 hR
        go_wp2
        go_returns
        exact ⟨rfl, rfl⟩
      · have e : C = 0 := by rw [HC.out.1]; exact itF_good HC.out.2.1 HC.out.2.2 (by rw [HR.out.2.2]; rfl) (fun i hi => hR.out.2 i (by omega)) (by omega)
        subst e
        clear hkm hS2 hR
        go_wp2
        go_returns
        exact ⟨rfl, rfl⟩

end Go.Proofs.Ytfjfogiohijkkaa
