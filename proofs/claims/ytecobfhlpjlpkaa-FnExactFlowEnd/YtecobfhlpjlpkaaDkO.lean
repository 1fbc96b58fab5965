/- Proved here: l22Order of the model: ordB. -/
import Derived.Test.YtecobfhlpjlpkaaDkM
import Derived.Test.YtecobfhlpjlpkaaDjS
import Derived.Test.YtecobfhlpjlpkaaHnS
namespace Go.Proofs.Ytecobfhlpjlpkaa
open Go.RowKit
set_option linter.unusedVariables false
set_option linter.unusedSimpArgs false


set_option maxRecDepth 10000 in
set_option maxHeartbeats 6400000 in
theorem spec_ord {W : World} {a : Option Addr} {n c : Nat} {vi : Value} {s : List Jb} {is : List Int} (hn : n ≤ 1048576) (hi : is.length ≤ 1048576) (hs : RG 7 jbC W (.slice a n c) s) (hv : RdI W vi is) :
    Calls Try.prog 36 #[.slice a n c, vi] W fun e w' => e = .returned (.bool (ordB s is)) ∧ w' = W := by
  obtain ⟨b, d, rfl⟩ := hv.form
  obtain ⟨m, hmm⟩ : ∃ n, n = is.length := ⟨_, rfl⟩
  obtain ⟨D, hD⟩ : ∃ D, D = ordB s is := ⟨_, rfl⟩
  rw [← hmm] at hi hv ⊢
  rw [← hD]
  have hns : n = s.length := hs.len
  by_cases hmn : m = n
  case neg =>
    have HR : Hid (D = false) := by unfold Hid; rw [hD]; exact ordB_len (by rw [← hmm, ← hns]; exact hmn)
    have h1 : ¬ (m : Int) = (n : Int) := by omega
    have h2 : ((m : Int) != (n : Int)) = true := by simpa using h1
    clear hs hv hmm hD hns hmn
    go_enter Try.func36, Try.ntmps36
    go_wp2
    go_returns
    exact ⟨by rw [HR.out]; rfl, rfl⟩
  subst hmn
  have H : Hid (RG 7 jbC W (.slice a m c) s ∧ RdI W (.slice b m d) is ∧ m = s.length ∧ m = is.length ∧ D = ordB s is) := ⟨hs, hv, hns, hmm, hD⟩
  clear hs hv hmm hD hns
  go_enter Try.func36, Try.ntmps36
  go_wp2
  go_loopw [5] (fun i wr => ∃ k : Nat, k ≤ m ∧ i = .int .i64 k ∧ Hid (∀ i, i < k → inO s is i = true) ∧ wr = W) (fun i _ => m - (intOf i).toNat)
  case atStart => exact ⟨0, Nat.zero_le _, rfl, fun i h => by omega, rfl⟩
  case round =>
    obtain ⟨k, hk, rfl, hR, rfl⟩ := hrel
    by_cases hlt : k < m
    · obtain ⟨gi, oi, rfl, hgi, hci⟩ := rd_at H.out.2.1 hlt
      obtain ⟨u, hu⟩ : ∃ u, u = is.getD k 0 := ⟨_, rfl⟩
      obtain ⟨f, hf⟩ : ∃ f, f = fdI (jdA s) u m := ⟨_, rfl⟩
      obtain ⟨q, hq⟩ : ∃ q, q = decide (u ∈ is.take k) := ⟨_, rfl⟩
      have HI : Hid (inO s is k = (decide (0 ≤ f) && !q)) := by
        unfold Hid inO; rw [← hu, ← H.out.2.2.1, ← hf, hq]
        by_cases h : u ∈ is.take k <;> simp [h]
      rw [← hu] at hci
      have HF : Hid (Calls Try.prog 31 #[.slice a m c, .int .i64 u] wr fun e w' => e = .returned (.int .i64 f) ∧ w' = wr) := by rw [hf]; exact spec_jfd s u (by omega) H.out.1
      have HH : Hid (Calls Try.prog 65 #[.slice (some ⟨gi, oi, none⟩) m d, .int .i64 k, .int .i64 u] wr fun e w' => e = .returned (.bool q) ∧ w' = wr) := spec_hn k u q hq (by rw [← H.out.2.2.2.1]; exact hk) (by rw [← H.out.2.2.2.1]; exact hi) H.out.2.1
      have b0 : (0 : Int) ≤ (k : Int) := by omega
      have b1 : (k : Int) < (m : Int) := by omega
      clear hf hq hu
      by_cases hf0 : 0 ≤ f
      case neg =>
        have HR : Hid (D = false) := by
          unfold Hid; rw [H.out.2.2.2.2]
          exact ordB_no (i := k) (by rw [← H.out.2.2.2.1]; exact hlt) (by rw [HI.out, decide_eq_false hf0]; rfl)
        have h1 : f < 0 := by omega
        have h2 : decide (f < 0) = true := decide_eq_true h1
        clear HI HH hR
        go_wp2_with (fail)
        refine HF.out.mono ?_
        rintro e w5 ⟨rfl, hw5⟩
        subst w5
        go_wp2
        go_returns
        exact ⟨by rw [HR.out]; rfl, rfl⟩
      have h1 : ¬ f < 0 := by omega
      have h2 : decide (f < 0) = false := decide_eq_false h1
      go_wp2_with (fail)
      refine HF.out.mono ?_
      rintro e w5 ⟨rfl, hw5⟩
      subst w5
      go_wp2_with (fail)
      refine HH.out.mono ?_
      rintro e w5 ⟨rfl, hw5⟩
      subst w5
      clear HF HH
      cases q
      · have HN : Hid (∀ i, i < k + 1 → inO s is i = true) := fun i h => by
          rcases (by omega : i < k ∨ i = k) with e | e
          · exact hR.out i e
          · rw [e, HI.out, decide_eq_true hf0]; rfl
        clear HI hR
        go_wp2
        go_roundw
        case rel => exact ⟨k + 1, by omega, by go_num, HN.out, trivial⟩
        case measure => simp [intOf]; omega
      · have HR : Hid (D = false) := by
          unfold Hid; rw [H.out.2.2.2.2]
          exact ordB_no (i := k) (by rw [← H.out.2.2.2.1]; exact hlt) (by rw [HI.out, decide_eq_true hf0]; rfl)
        clear HI hR
        go_wp2
        go_returns
        exact ⟨by rw [HR.out]; rfl, rfl⟩
    · obtain rfl : k = m := by omega
      have HN : Hid (D = true) := by
        unfold Hid; rw [H.out.2.2.2.2]
        exact ordB_of (by rw [← H.out.2.2.2.1, ← H.out.2.2.1]) (fun i h => hR.out i (by rw [H.out.2.2.2.1]; exact h))
      clear hR
      go_wp2
      go_returns
      exact ⟨by rw [HN.out]; rfl, rfl⟩

end Go.Proofs.Ytecobfhlpjlpkaa
