/- Proved here: l21Has of the model: is a number among the first of a list. -/
import Derived.Test.YtecobfhlpjlpkaaNlJ
namespace Go.Proofs.Ytecobfhlpjlpkaa
open Go.RowKit
set_option linter.unusedVariables false
set_option linter.unusedSimpArgs false

set_option maxHeartbeats 1600000 in
theorem spec_hn {w : World} {v : Value} {xs : List Int} (n : Nat) (y : Int) (r : Bool) (hr : r = decide (y ∈ xs.take n)) (hn : n ≤ xs.length) (hs : xs.length ≤ 1048576) (h : RdI w v xs) :
    Calls Try.prog 65 #[v, .int .i64 n, .int .i64 y] w fun e w' => e = .returned (.bool r) ∧ w' = w := by
  obtain ⟨a, c, rfl⟩ := h.form
  obtain ⟨m, hm⟩ : ∃ m, m = xs.length := ⟨_, rfl⟩
  rw [← hm] at h hn hs ⊢
  have H : Hid (RdI w (.slice a m c) xs ∧ m = xs.length ∧ r = decide (y ∈ xs.take n)) := ⟨h, hm, hr⟩
  clear h hm hr
  go_enter Try.func65, Try.ntmps65
  go_wp2
  go_loopw [7] (fun i wr => ∃ j : Nat, j ≤ n ∧ i = .int .i64 j ∧ Hid (y ∉ xs.take j) ∧ wr = w) (fun i _ => n - (intOf i).toNat)
  case atStart => exact ⟨0, Nat.zero_le _, rfl, (by unfold Hid; simp), rfl⟩
  case round =>
    obtain ⟨j, hjn, rfl, hR, rfl⟩ := hrel
    by_cases hlt : j < n
    · obtain ⟨g, o, rfl, hg, hc⟩ := rd_at H.out.1 (show j < m by omega)
      have hjl : j < xs.length := by rw [← H.out.2.1]; omega
      obtain ⟨z, hz⟩ : ∃ z, z = xs.getD j 0 := ⟨_, rfl⟩
      have hzj : xs[j] = z := by rw [hz]; simp [List.getD, hjl]
      rw [← hz] at hc
      have b0 : (0 : Int) ≤ (j : Int) := by omega
      have b1 : (j : Int) < (n : Int) := by omega
      have b2 : (j : Int) < (m : Int) := by omega
      by_cases h1 : z = y
      · have HR : Hid (r = true) := by
          unfold Hid; rw [H.out.2.2, decide_eq_true_iff]
          refine List.mem_of_getElem? (i := j) ?_
          rw [List.getElem?_take, if_pos hlt, List.getElem?_eq_getElem hjl, hzj, h1]
        subst h1
        clear hz hzj
        go_wp2
        go_returns
        exact ⟨by rw [HR.out]; rfl, rfl⟩
      · have HN : Hid (y ∉ xs.take (j + 1)) := by
          unfold Hid
          rw [← List.take_append_getElem hjl, hzj]
          simp only [List.mem_append, List.mem_singleton, not_or]
          exact ⟨hR.out, fun e => h1 e.symm⟩
        have h2 : (z == y) = false := beq_eq_false_iff_ne.2 h1
        clear hz hzj hR
        go_wp2
        go_roundw
        case rel => exact ⟨j + 1, by omega, by go_num, HN.out, trivial⟩
        case measure => simp [intOf]; omega
    · obtain rfl : j = n := by omega
      have HR : Hid (r = false) := by unfold Hid; rw [H.out.2.2, decide_eq_false_iff_not]; exact hR.out
      clear hR
      go_wp2
      go_returns
      exact ⟨by rw [HR.out]; rfl, rfl⟩

end Go.Proofs.Ytecobfhlpjlpkaa
