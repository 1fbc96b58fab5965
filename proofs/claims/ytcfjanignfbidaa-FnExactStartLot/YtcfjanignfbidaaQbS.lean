/- Proved here: small functions of the model of lots: is a number an id, where a lot is, is a number in a list, the first fault among wafers. (And ahead of it: Proved here: l21Has of the model: is a number among the first of a list. (And ahead of it: Proved here: 'inside' of the program and 'l4In' of the model.)) -/
import Derived.Test.YtcfjanignfbidaaIntsBase
import Derived.Test.YtcfjanignfbidaaNlJ
import Derived.Test.YtcfjanignfbidaaQbM
namespace Go.Proofs.Ytcfjanignfbidaa
open Go.RowKit
set_option linter.unusedVariables false
set_option linter.unusedSimpArgs false

set_option maxHeartbeats 800000 in
theorem impl_ins (n a b : Int) (r : Bool) (hr : r = decide (a ≤ n ∧ n ≤ b)) (w : World) : Calls Try.prog 62 #[.int .i64 n, .int .i64 a, .int .i64 b] w fun e w' => e = .returned (.bool r) ∧ w' = w := by
  have H : Hid ((¬ a ≤ n → r = false) ∧ (a ≤ n → n ≤ b → r = true) ∧ (a ≤ n → ¬ n ≤ b → r = false)) := by
    unfold Hid; rw [hr]
    exact ⟨fun h => by simp [h], fun h1 h2 => by simp [h1, h2], fun h1 h2 => by simp [h1, h2]⟩
  clear hr
  by_cases h1 : a ≤ n
  · by_cases h2 : n ≤ b
    · obtain rfl := H.out.2.1 h1 h2
      go_enter Try.func62, Try.ntmps62
      go_wp2
      go_returns
      exact ⟨rfl, rfl⟩
    · obtain rfl := H.out.2.2 h1 h2
      go_enter Try.func62, Try.ntmps62
      go_wp2
      go_returns
      exact ⟨rfl, rfl⟩
  · obtain rfl := H.out.1 h1
    go_enter Try.func62, Try.ntmps62
    go_wp2
    go_returns
    exact ⟨rfl, rfl⟩

set_option maxHeartbeats 800000 in
theorem spec_ins (n a b : Int) (r : Bool) (hr : r = decide (a ≤ n ∧ n ≤ b)) (w : World) : Calls Try.prog 61 #[.int .i64 n, .int .i64 a, .int .i64 b] w fun e w' => e = .returned (.bool r) ∧ w' = w := by
  have H : Hid ((¬ a ≤ n → r = false) ∧ (a ≤ n → n ≤ b → r = true) ∧ (a ≤ n → ¬ n ≤ b → r = false)) := by
    unfold Hid; rw [hr]
    exact ⟨fun h => by simp [h], fun h1 h2 => by simp [h1, h2], fun h1 h2 => by simp [h1, h2]⟩
  clear hr
  by_cases h1 : a ≤ n
  · by_cases h2 : n ≤ b
    · obtain rfl := H.out.2.1 h1 h2
      go_enter Try.func61, Try.ntmps61
      go_wp2
      go_returns
      exact ⟨rfl, rfl⟩
    · obtain rfl := H.out.2.2 h1 h2
      go_enter Try.func61, Try.ntmps61
      go_wp2
      go_returns
      exact ⟨rfl, rfl⟩
  · obtain rfl := H.out.1 h1
    go_enter Try.func61, Try.ntmps61
    go_wp2
    go_returns
    exact ⟨rfl, rfl⟩

end Go.Proofs.Ytcfjanignfbidaa

namespace Go.Proofs.Ytcfjanignfbidaa
open Go.RowKit
set_option linter.unusedVariables false
set_option linter.unusedSimpArgs false

set_option maxHeartbeats 1600000 in
theorem spec_hn {w : World} {v : Value} {xs : List Int} (n : Nat) (y : Int) (r : Bool) (hr : r = decide (y ∈ xs.take n)) (hn : n ≤ xs.length) (hs : xs.length ≤ 1048576) (h : RdI w v xs) :
    Calls Try.prog 54 #[v, .int .i64 n, .int .i64 y] w fun e w' => e = .returned (.bool r) ∧ w' = w := by
  obtain ⟨a, c, rfl⟩ := h.form
  obtain ⟨m, hm⟩ : ∃ m, m = xs.length := ⟨_, rfl⟩
  rw [← hm] at h hn hs ⊢
  have H : Hid (RdI w (.slice a m c) xs ∧ m = xs.length ∧ r = decide (y ∈ xs.take n)) := ⟨h, hm, hr⟩
  clear h hm hr
  go_enter Try.func54, Try.ntmps54
  go_wp2
  go_loopw [7] (fun i wr => ∃ j : Nat, j ≤ n ∧ i = .int .i64 j ∧ Hid (y ∉ xs.take j) ∧ wr = w) (fun i _ => n - (intOf i).toNat)
  case atStart => exact ⟨0, Nat.zero_le _, rfl, (by unfold Hid; simp), rfl⟩
  case round =>
    obtain ⟨j, hjn, rfl, hR, rfl⟩ := hrel
    by_cases hlt : j < n
    · obtain ⟨g, o, rfl, hg, hc⟩ := rd_at H.out.1 (show j < m by omega)
      have hjl : j < xs.length := by rw [← H.out.2.1]; omega
      obtain ⟨z, hz⟩ : ∃ z, z = xs.getD j 0 := ⟨_, rfl⟩
      have hzj : xs[j] = z := by rw [hz]; simp [List.getD, hjl]
      rw [← hz] at hc
      have b0 : (0 : Int) ≤ (j : Int) := by omega
      have b1 : (j : Int) < (n : Int) := by omega
      have b2 : (j : Int) < (m : Int) := by omega
      by_cases h1 : z = y
      · have HR : Hid (r = true) := by
          unfold Hid; rw [H.out.2.2, decide_eq_true_iff]
          refine List.mem_of_getElem? (i := j) ?_
          rw [List.getElem?_take, if_pos hlt, List.getElem?_eq_getElem hjl, hzj, h1]
        subst h1
        clear hz hzj
        go_wp2
        go_returns
        exact ⟨by rw [HR.out]; rfl, rfl⟩
      · have HN : Hid (y ∉ xs.take (j + 1)) := by
          unfold Hid
          rw [← List.take_append_getElem hjl, hzj]
          simp only [List.mem_append, List.mem_singleton, not_or]
          exact ⟨hR.out, fun e => h1 e.symm⟩
        have h2 : (z == y) = false := beq_eq_false_iff_ne.2 h1
        clear hz hzj hR
        go_wp2
        go_roundw
        case rel => exact ⟨j + 1, by omega, by go_num, HN.out, trivial⟩
        case measure => simp [intOf]; omega
    · obtain rfl : j = n := by omega
      have HR : Hid (r = false) := by unfold Hid; rw [H.out.2.2, decide_eq_false_iff_not]; exact hR.out
      clear hR
      go_wp2
      go_returns
      exact ⟨by rw [HR.out]; rfl, rfl⟩

end Go.Proofs.Ytcfjanignfbidaa

namespace Go.Proofs.Ytcfjanignfbidaa
open Go.RowKit Go.Maps
set_option linter.unusedVariables false
set_option linter.unusedSimpArgs false

theorem spec_id (x : Int) (r : Bool) (hr : r = decide (1 ≤ x ∧ x ≤ 1000000)) (w : World) : Calls Try.prog 66 #[.int .i64 x] w fun e w' => e = .returned (.bool r) ∧ w' = w := by
  have HI : Hid (Calls Try.prog 61 #[.int .i64 x, .int .i64 1, .int .i64 1000000] w fun e w' => e = .returned (.bool r) ∧ w' = w) := spec_ins x 1 1000000 r hr w
  clear hr
  go_enter Try.func66, Try.ntmps66
  go_wp2_with (fail)
  refine HI.out.mono ?_
  rintro e w1 ⟨rfl, hw1⟩
  subst w1
  go_wp2
  go_returns
  exact ⟨rfl, rfl⟩

set_option maxHeartbeats 1600000 in
theorem spec_fd {w : World} {v : Value} {s : List Lo} (n : Nat) (id : Int) (hn : n ≤ s.length) (hs : s.length ≤ 1048576) (h : RLo w v s) :
    Calls Try.prog 67 #[v, .int .i64 n, .int .i64 id] w fun e w' => e = .returned (.int .i64 (fdI (idA s) id n)) ∧ w' = w := by
  obtain ⟨a, c, rfl⟩ := h.form
  obtain ⟨m, hm⟩ : ∃ m, m = s.length := ⟨_, rfl⟩
  obtain ⟨K, hK⟩ : ∃ K, K = fdI (idA s) id n := ⟨_, rfl⟩
  rw [← hm] at h hn hs ⊢
  rw [← hK]
  have H : Hid (RLo w (.slice a m c) s ∧ m = s.length ∧ K = fdI (idA s) id n) := ⟨h, hm, hK⟩
  clear h hm hK
  go_enter Try.func67, Try.ntmps67
  go_wp2
  go_loopw [7] (fun i wr => ∃ j : Nat, j ≤ n ∧ i = .int .i64 j ∧ Hid (∀ k, k < j → idA s k ≠ id) ∧ wr = w) (fun i _ => n - (intOf i).toNat)
  case atStart => exact ⟨0, Nat.zero_le _, rfl, (fun k hk => by omega), rfl⟩
  case round =>
    obtain ⟨j, hjn, rfl, hR, rfl⟩ := hrel
    by_cases hlt : j < n
    · have hjl : j < s.length := by rw [← H.out.2.1]; omega
      obtain ⟨g, o, c2, he, hg, x, hx, c0, _, _, _, _⟩ := H.out.1.at hjl
      simp only [Value.slice.injEq] at he
      obtain ⟨rfl, hx1, hx2⟩ := he
      clear hx1 hx2
      have hxi : x.id = idA s j := by rw [idA_at hjl]; exact hx.id
      obtain ⟨y, hy⟩ : ∃ y, y = idA s j := ⟨_, rfl⟩
      rw [← hy] at hxi
      rw [hxi] at c0
      clear hx hxi
      have b0 : (0 : Int) ≤ (j : Int) := by omega
      have b1 : (j : Int) < (n : Int) := by omega
      have b2 : (j : Int) < (m : Int) := by omega
      by_cases h1 : y = id
      · have HR : Hid (K = (j : Int)) := by unfold Hid; rw [H.out.2.2]; exact fdI_is hlt (hy.symm.trans h1) hR.out
        subst h1
        clear hy
        go_wp2
        go_returns
        exact ⟨by rw [HR.out]; rfl, rfl⟩
      · have HN : Hid (∀ k, k < j + 1 → idA s k ≠ id) := fun k hk => by
          rcases (by omega : k < j ∨ k = j) with e | e
          · exact hR.out k e
          · subst e; rw [← hy]; exact h1
        have h2 : (y == id) = false := beq_eq_false_iff_ne.2 h1
        clear hy hR
        go_wp2
        go_roundw
        case rel => exact ⟨j + 1, by omega, by go_num, HN.out, trivial⟩
        case measure => simp [intOf]; omega
    · obtain rfl : j = n := by omega
      have HR : Hid (K = -1) := by unfold Hid; rw [H.out.2.2]; exact fdI_no hR.out
      clear hR
      go_wp2
      go_returns
      exact ⟨by rw [HR.out]; rfl, rfl⟩

set_option maxHeartbeats 1600000 in
theorem spec_waf {w : World} {v : Value} {pre ys : List Int} (hs : (pre ++ ys).length ≤ 1048576) (h : RdI w v (pre ++ ys)) (m0 : Nat) (hm0 : m0 = pre.length) :
    Calls Try.prog 38 #[v, .int .i64 m0] w fun e w' => e = .returned (.int .i64 (wfC pre ys)) ∧ w' = w := by
  obtain ⟨a, c, rfl⟩ := h.form
  obtain ⟨xs, hxs⟩ : ∃ xs, xs = pre ++ ys := ⟨_, rfl⟩
  obtain ⟨m, hm⟩ : ∃ m, m = xs.length := ⟨_, rfl⟩
  obtain ⟨K, hK⟩ : ∃ K, K = wfC pre ys := ⟨_, rfl⟩
  have hK0 : wfC (xs.take m0) (xs.drop m0) = K := by rw [hxs, hm0, List.take_left' rfl, List.drop_left' rfl, hK]
  have hmm : m0 ≤ m := by rw [hm, hxs, hm0, List.length_append]; omega
  rw [← hxs, ← hm] at h hs ⊢
  rw [← hK]
  have H : Hid (RdI w (.slice a m c) xs ∧ m = xs.length ∧ wfC (xs.take m0) (xs.drop m0) = K) := ⟨h, hm, hK0⟩
  clear h hm hK hK0 hxs hm0
  have HD : Hid (∀ (y : Int) W q, q = decide (1 ≤ y ∧ y ≤ 1000000) → Calls Try.prog 66 #[.int .i64 y] W fun e w' => e = .returned (.bool q) ∧ w' = W) := fun y W q hq => spec_id y q hq W
  go_enter Try.func38, Try.ntmps38
  go_wp2
  go_loopw [5] (fun i wr => ∃ j : Nat, j ≤ m ∧ i = .int .i64 j ∧ Hid (wfC (xs.take j) (xs.drop j) = K) ∧ wr = w) (fun i _ => m - (intOf i).toNat)
  case atStart => exact ⟨m0, hmm, rfl, H.out.2.2, rfl⟩
  case round =>
    obtain ⟨j, hjn, rfl, hR, rfl⟩ := hrel
    by_cases hlt : j < m
    · obtain ⟨g, o, rfl, hg, hc⟩ := rd_at H.out.1 hlt
      have hjl : j < xs.length := by rw [← H.out.2.1]; omega
      obtain ⟨y, hy⟩ : ∃ y, y = xs.getD j 0 := ⟨_, rfl⟩
      have hyj : xs[j] = y := by rw [hy]; simp [List.getD, hjl]
      rw [← hy] at hc
      have hK := hR.out
      rw [List.drop_eq_getElem_cons hjl, wfC, hyj, show xs.take j ++ [y] = xs.take (j + 1) from by rw [← hyj, List.take_append_getElem]] at hK
      have b0 : (0 : Int) ≤ (j : Int) := by omega
      have b1 : (j : Int) < (m : Int) := by omega
      clear hy hyj hR
      by_cases h1 : 1 ≤ y ∧ y ≤ 1000000
      · rw [if_pos h1] at hK
        have HT : Hid (true = decide (1 ≤ y ∧ y ≤ 1000000)) := by unfold Hid; rw [decide_eq_true h1]
        obtain ⟨q, hq⟩ : ∃ q, q = decide (y ∈ xs.take j) := ⟨_, rfl⟩
        have HH : Hid (Calls Try.prog 54 #[.slice (some ⟨g, o, none⟩) m c, .int .i64 j, .int .i64 y] wr fun e w' => e = .returned (.bool q) ∧ w' = wr) := spec_hn j y q hq (by omega) (by rw [← H.out.2.1]; exact hs) H.out.1
        clear h1
        cases q
        · have HK : Hid (wfC (xs.take (j + 1)) (xs.drop (j + 1)) = K) := by
            rw [if_neg (of_decide_eq_false hq.symm)] at hK; exact hK
          clear hK hq
          go_wp2_with (fail)
          refine (HD.out y _ true HT.out).mono ?_
          rintro e w2 ⟨rfl, hw2⟩
          subst w2
          go_wp2_with (fail)
          refine HH.out.mono ?_
          rintro e w2 ⟨rfl, hw2⟩
          subst w2
          go_wp2
          go_roundw
          case rel => exact ⟨j + 1, by omega, by go_num, HK.out, trivial⟩
          case measure => simp [intOf]; omega
        · have HK : Hid (7 = K) := by
            rw [if_pos (of_decide_eq_true hq.symm)] at hK; exact hK
          clear hK hq
          go_wp2_with (fail)
          refine (HD.out y _ true HT.out).mono ?_
          rintro e w2 ⟨rfl, hw2⟩
          subst w2
          go_wp2_with (fail)
          refine HH.out.mono ?_
          rintro e w2 ⟨rfl, hw2⟩
          subst w2
          go_wp2
          go_returns
          exact ⟨by rw [← HK.out]; rfl, rfl⟩
      · rw [if_neg h1] at hK
        have HT : Hid (false = decide (1 ≤ y ∧ y ≤ 1000000)) := by unfold Hid; rw [decide_eq_false h1]
        have HK : Hid (3 = K) := hK
        clear h1 hK
        go_wp2_with (fail)
        refine (HD.out y _ false HT.out).mono ?_
        rintro e w2 ⟨rfl, hw2⟩
        subst w2
        go_wp2
        go_returns
        exact ⟨by rw [← HK.out]; rfl, rfl⟩
    · obtain rfl : j = m := by omega
      have HK : Hid (0 = K) := by
        have e := hR.out
        rw [show xs.drop j = [] from by rw [H.out.2.1]; exact List.drop_length, wfC] at e
        exact e
      clear hR
      go_wp2
      go_returns
      exact ⟨by rw [← HK.out]; rfl, rfl⟩

end Go.Proofs.Ytcfjanignfbidaa
