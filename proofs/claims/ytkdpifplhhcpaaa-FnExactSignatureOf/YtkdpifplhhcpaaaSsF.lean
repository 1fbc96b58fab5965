/- Proved here: scanFault of the program. -/
import Derived.Test.YtkdpifplhhcpaaaSsM
import Derived.Test.YtkdpifplhhcpaaaPbI
import Derived.Test.YtkdpifplhhcpaaaUnd
namespace Go.Proofs.Ytkdpifplhhcpaaa
open Go.RowKit
set_option linter.unusedVariables false
set_option linter.unusedSimpArgs false

set_option maxRecDepth 10000 in
set_option maxHeartbeats 3200000 in
theorem impl_scf {W : World} {vs vt vi : Value} {st tp inn : List Int} (h0 : st.length ≤ 1048576) (hs : RdI W vs st) (h1 : tp.length ≤ 1048576) (ht : RdI W vt tp) (h2 : inn.length ≤ 1048576) (hi : RdI W vi inn) :
    Calls Try.prog 53 #[vs, vt, vi] W fun e w' => e = .returned (.int .i64 (scC st tp inn)) ∧ Below W.heap.size W w' := by
  obtain ⟨a, c, rfl⟩ := hs.form
  obtain ⟨ta, tc, rfl⟩ := ht.form
  obtain ⟨ia, ic, rfl⟩ := hi.form
  obtain ⟨n, hn⟩ : ∃ n, n = st.length := ⟨_, rfl⟩
  obtain ⟨m, hm⟩ : ∃ m, m = tp.length := ⟨_, rfl⟩
  obtain ⟨k, hk⟩ : ∃ k, k = inn.length := ⟨_, rfl⟩
  obtain ⟨q1, hq1⟩ : ∃ q, q = st.any (oo 0 1) := ⟨_, rfl⟩
  obtain ⟨q2, hq2⟩ : ∃ q, q = inn.any (oo 0 1) := ⟨_, rfl⟩
  obtain ⟨q3, hq3⟩ : ∃ q, q = tp.any (oo 0 ((n : Int) - 1)) := ⟨_, rfl⟩
  obtain ⟨R, hR⟩ : ∃ R, R = scC st tp inn := ⟨_, rfl⟩
  have HR : Hid (R = if n = 0 then 1 else if 32 < n ∨ 200 < k then 2 else if q1 = true then 3 else if q2 = true then 3 else if q3 = true then 3 else if 32 < m then 2 else 0) := by
    unfold Hid; rw [hR, scC, ← hn, ← hm, ← hk, ← hq1, ← hq2, ← hq3]
  have H1 : Hid (∀ X, Below W.heap.size W X → Calls Try.prog 47 #[.slice a n c, .int .i64 0, .int .i64 1] X fun e w' => e = .returned (.bool q1) ∧ Below X.heap.size X w') := fun X hb => by rw [hq1, hn]; exact impl_any 0 1 (by omega) (hs.below hb)
  have H2 : Hid (∀ X, Below W.heap.size W X → Calls Try.prog 47 #[.slice ia k ic, .int .i64 0, .int .i64 1] X fun e w' => e = .returned (.bool q2) ∧ Below X.heap.size X w') := fun X hb => by rw [hq2, hk]; exact impl_any 0 1 (by omega) (hi.below hb)
  have H3 : Hid (∀ X, Below W.heap.size W X → Calls Try.prog 47 #[.slice ta m tc, .int .i64 0, .int .i64 ((n : Int) - 1)] X fun e w' => e = .returned (.bool q3) ∧ Below X.heap.size X w') := fun X hb => by rw [hq3, hm]; exact impl_any 0 _ (by omega) (ht.below hb)
  rw [← hR, ← hn, ← hm, ← hk]
  have hm20 : m ≤ 1048576 := by omega
  clear hR hq1 hq2 hq3 hs ht hi hn hm hk h0 h1 h2
  by_cases h0 : n = 0
  · have HN : Hid (R = 1) := by unfold Hid; rw [HR.out, if_pos h0]
    clear HR
    subst h0
    go_enter Try.func53, Try.ntmps53
    go_wp2
    go_returns
    exact ⟨by rw [HN.out]; rfl, Below.refl _ _⟩
  have h0i : ¬ (n : Int) = 0 := by omega
  have h0b : ((n : Int) == 0) = false := by simpa using h0i
  by_cases h32 : (32 : Int) < (n : Int)
  · have HN : Hid (R = 2) := by unfold Hid; rw [HR.out, if_neg h0, if_pos (Or.inl (by omega))]
    clear HR
    go_enter Try.func53, Try.ntmps53
    go_wp2
    go_returns
    exact ⟨by rw [HN.out]; rfl, Below.refl _ _⟩
  by_cases h200 : (200 : Int) < (k : Int)
  · have HN : Hid (R = 2) := by unfold Hid; rw [HR.out, if_neg h0, if_pos (Or.inr (by omega))]
    clear HR
    go_enter Try.func53, Try.ntmps53
    go_wp2
    go_returns
    exact ⟨by rw [HN.out]; rfl, Below.refl _ _⟩
  have HR1 : Hid (R = if q1 = true then 3 else if q2 = true then 3 else if q3 = true then 3 else if 32 < m then 2 else 0) := by unfold Hid; rw [HR.out, if_neg h0, if_neg (by omega)]
  clear HR
  have hn1 : n ≤ 32 := by omega
  go_enter Try.func53, Try.ntmps53
  go_wp2_with (fail)
  refine (H1.out _ (Below.refl _ _)).mono ?_
  rintro e w1 ⟨rfl, hb1⟩
  have HB1 : Hid (Below W.heap.size W w1) := hb1
  clear hb1 H1
  cases q1
  case true =>
    have HN : Hid (R = 3) := by unfold Hid; rw [HR1.out, if_pos rfl]
    clear HR1
    go_wp2
    go_returns
    exact ⟨by rw [HN.out]; rfl, HB1.out⟩
  have HR2 : Hid (R = if q2 = true then 3 else if q3 = true then 3 else if 32 < m then 2 else 0) := by unfold Hid; rw [HR1.out, if_neg (by decide)]
  clear HR1
  go_wp2_with (fail)
  refine (H2.out _ HB1.out).mono ?_
  rintro e w2 ⟨rfl, hb2⟩
  have HB2 : Hid (Below W.heap.size W w2) := HB1.out.trans (hb2.mono HB1.out.size)
  clear hb2 H2 HB1
  cases q2
  case true =>
    have HN : Hid (R = 3) := by unfold Hid; rw [HR2.out, if_pos rfl]
    clear HR2
    go_wp2
    go_returns
    exact ⟨by rw [HN.out]; rfl, HB2.out⟩
  have HR3 : Hid (R = if q3 = true then 3 else if 32 < m then 2 else 0) := by unfold Hid; rw [HR2.out, if_neg (by decide)]
  clear HR2
  go_wp2_with (fail)
  refine (H3.out _ HB2.out).mono ?_
  rintro e w3 ⟨rfl, hb3⟩
  have HB3 : Hid (Below W.heap.size W w3) := HB2.out.trans (hb3.mono HB2.out.size)
  clear hb3 H3 HB2
  cases q3
  case true =>
    have HN : Hid (R = 3) := by unfold Hid; rw [HR3.out, if_pos rfl]
    clear HR3
    go_wp2
    go_returns
    exact ⟨by rw [HN.out]; rfl, HB3.out⟩
  have HR4 : Hid (R = if 32 < m then 2 else 0) := by unfold Hid; rw [HR3.out, if_neg (by decide)]
  clear HR3
  by_cases h3 : (32 : Int) < (m : Int)
  · have HN : Hid (R = 2) := by unfold Hid; rw [HR4.out, if_pos (by omega)]
    clear HR4
    go_wp2
    go_returns
    exact ⟨by rw [HN.out]; rfl, HB3.out⟩
  · have HN : Hid (R = 0) := by unfold Hid; rw [HR4.out, if_neg (by omega)]
    clear HR4
    go_wp2
    go_returns
    exact ⟨by rw [HN.out]; rfl, HB3.out⟩

end Go.Proofs.Ytkdpifplhhcpaaa
