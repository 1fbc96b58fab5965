/- Proved here: lists of lists of numbers compared, in the laws. -/
import Derived.Test.YtkdpifplhhcpaaaGrC
import Derived.Test.YtkdpifplhhcpaaaNlQ
namespace Go.Proofs.Ytkdpifplhhcpaaa
open Go.ChangeShapes Go.WideShapes Go.ChangeAt Go.RowKit Go.Joins Go.Deep
set_option linter.unusedVariables false
set_option linter.unusedSimpArgs false

set_option maxRecDepth 10000 in
set_option maxHeartbeats 3200000 in
theorem eqInt64SS_same {w : World} {va vb : Value} {ls : List (List Int)} (hn : SmR ls) (ha : RdR w va ls) (hb : RdR w vb ls) :
    Calls Try.prog 37 #[va, vb] w fun e w' => e = .returned (.bool true) ∧ Below w.heap.size w w' := by
  obtain ⟨a, c, rfl⟩ := ha.form
  obtain ⟨b, d, rfl⟩ := hb.form
  obtain ⟨n, hnn⟩ : ∃ n, n = ls.length := ⟨_, rfl⟩
  rw [← hnn] at ha hb ⊢
  have hn' : n ≤ 1048576 := by rw [hnn]; exact hn.len
  have H : Hid (RdR w (.slice a n c) ls ∧ RdR w (.slice b n d) ls ∧ SmR ls) := ⟨ha, hb, hn⟩
  clear ha hb hnn hn
  go_enter Try.func37, Try.ntmps37
  go_wp2_with (fail)
  go_loopw [5] (fun i wr => ∃ j : Nat, j ≤ n ∧ i = .int .i64 j ∧ Hid (Below w.heap.size w wr)) (fun i _ => n - (intOf i).toNat)
  case atStart => exact ⟨0, Nat.zero_le _, rfl, Below.refl _ _⟩
  case round =>
    obtain ⟨j, hjn, rfl, hR⟩ := hrel
    by_cases hlt : j < n
    · obtain ⟨g, o, ua, un, uc, rfl, hg, c0, hun, hrd⟩ := (H.out.1.below hR.out).at hlt
      obtain ⟨g', o', ub, um, ud, rfl, hg', c0', hun', hrd'⟩ := (H.out.2.1.below hR.out).at hlt
      have hlr := H.out.2.2.row j
      rw [← hun] at hun'
      rw [hun'] at c0' hrd'
      clear hun'
      have HC : Hid (∀ W, Below wr.heap.size wr W → Calls Try.prog 15 #[.slice ua un uc, .slice ub un ud] W fun e w' => e = .returned (.bool true) ∧ Below W.heap.size W w') := fun W hW => eqInt64S_same (by omega) (hrd.below hW) (hrd'.below hW)
      clear hrd hrd' hun hlr
      have b0 : (0 : Int) ≤ (j : Int) := by omega
      have b1 : (j : Int) < (n : Int) := by omega
      go_wp2_with (fail)
      (refine wp_region_und (by kernel_rfl) (by kernel_rfl) (fun hund => ?_); (repeat (go_big_quiet_step (first | (go_at_call 15; with_reducible refine und_call ?_ (HC.out _ (Und.below _)); exact Nat.le_refl _)))); with_reducible refine wpQuiet_nil ?_; clear hund; intro W1 hb1; obtain ⟨hc1, hf1⟩ := undcell hb1)
      have HB3 : Hid (Below w.heap.size w W1) := hR.out.trans (hb1.mono hR.out.size)
      clear hb1 hc1 hf1
      go_wp2
      go_roundw
      case rel => exact ⟨j + 1, by omega, by go_num, HB3.out⟩
      case measure => simp [intOf]; omega
    · have HB : Hid (Below w.heap.size w wr) := hR.out
      clear hR
      go_wp2
      go_returns
      exact ⟨rfl, HB.out⟩

end Go.Proofs.Ytkdpifplhhcpaaa
