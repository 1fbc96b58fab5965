/- Proved here: the fault of asking for a column, of the program. -/
import Derived.Test.YtceljakmjddgbaaScI
namespace Go.Proofs.Ytceljakmjddgbaa
open Go.RowKit
set_option linter.unusedVariables false
set_option linter.unusedSimpArgs false

set_option maxRecDepth 10000 in
set_option maxHeartbeats 3200000 in
theorem impl_ask {w : World} {v : Value} {s : List (List Flm)} (i : Int) (hn : SmF s) (h : RsF w v s) :
    Calls Try.prog 62 #[.agg #[v], .int .i64 i] w fun e w' => e = .returned (.int .i64 (toC s i)) ∧ Below w.heap.size w w' := by
  obtain ⟨a, c, rfl⟩ := h.form
  obtain ⟨n, hnn⟩ : ∃ n, n = s.length := ⟨_, rfl⟩
  obtain ⟨C, hC⟩ : ∃ C, C = toC s i := ⟨_, rfl⟩
  obtain ⟨F, hF⟩ : ∃ F, F = secF s := ⟨_, rfl⟩
  rw [← hnn] at h ⊢
  rw [← hC]
  have hn' : n ≤ 1048576 := by rw [hnn]; exact hn.len
  have HS : Hid (∀ W, Below w.heap.size w W → Calls Try.prog 25 #[.agg #[.slice a n c]] W fun e w' => e = .returned (.int .i64 F) ∧ Below W.heap.size W w') := fun W hW => by rw [hF]; exact impl_secF hn (h.below hW)
  have HC : Hid (C = if F = 0 then (if 0 ≤ i ∧ i ≤ (n : Int) - 1 then 0 else 4) else F) := by
    unfold Hid; rw [hC, toC, ← hF, ← hnn]
    by_cases h1 : 0 ≤ i ∧ i < (n : Int)
    · rw [if_pos h1, if_pos (show 0 ≤ i ∧ i ≤ (n : Int) - 1 by omega)]
    · rw [if_neg h1, if_neg (show ¬ (0 ≤ i ∧ i ≤ (n : Int) - 1) by omega)]
  clear h hnn hn hC hF
  go_enter Try.func62, Try.ntmps62
  go_wp2_with (fail)
  refine (HS.out _ (by (repeat' (first | (with_reducible exact Below.refl _ _) | (with_reducible assumption) | (with_reducible refine Below.setCell ?_ ?_ _) | (with_reducible refine Below.alloc ?_ ?_ _) | (with_reducible refine below_drewN ?_ _) | (with_reducible refine Below.drew ?_) | (with_reducible exact Nat.le_refl _) | omega | (simp; done) | (simp; omega))))).mono ?_
  rintro e w1 ⟨rfl, hb1⟩
  have k1 := (hb1.block w.heap.size (by simp)).trans (heap_alloc_new w _)
  have q0 : w1.cell? ⟨w.heap.size, 0, none⟩ = some (.slice a n c) := by simp [World.cell?, k1]
  have q1 : w.heap.size < w1.heap.size := by have := hb1.size; simp at this; omega
  have HB : Hid (Below w.heap.size w w1) := (show Below w.heap.size w _ from by (repeat' (first | (with_reducible exact Below.refl _ _) | (with_reducible assumption) | (with_reducible refine Below.setCell ?_ ?_ _) | (with_reducible refine Below.alloc ?_ ?_ _) | (with_reducible refine below_drewN ?_ _) | (with_reducible refine Below.drew ?_) | (with_reducible exact Nat.le_refl _) | omega | (simp; done) | (simp; omega)))).trans (hb1.mono (by simp))
  clear hb1 k1 HS
  by_cases hF : F = 0
  · have HC2 : Hid (C = if 0 ≤ i ∧ i ≤ (n : Int) - 1 then 0 else 4) := by unfold Hid; rw [HC.out, if_pos hF]
    subst hF
    clear HC
    obtain ⟨r, hr⟩ : ∃ r, r = decide (0 ≤ i ∧ i ≤ (n : Int) - 1) := ⟨_, rfl⟩
    have HI : Hid (∀ W, Calls Try.prog 94 #[.int .i64 i, .int .i64 0, .int .i64 ((n : Int) - 1)] W fun e w' => e = .returned (.bool r) ∧ w' = W) := fun W => impl_insC i 0 ((n : Int) - 1) r hr W
    have HX : Hid (C = if r = true then 0 else 4) := by unfold Hid; rw [HC2.out, hr]; simp
    clear hr HC2
    have hw : IntKind.i64.wrap ((n : Int) - 1) = (n : Int) - 1 := by rw [IntKind.wrap_i64]; omega
    go_wp2_with (fail)
    refine (HI.out _).mono ?_
    rintro e w2 ⟨rfl, rfl⟩
    clear HI hw
    cases r with
    | true =>
      go_wp2
      go_returns
      exact ⟨by rw [HX.out]; rfl, HB.out⟩
    | false =>
      go_wp2
      go_returns
      exact ⟨by rw [HX.out]; rfl, HB.out⟩
  · have HX : Hid (C = F) := by unfold Hid; rw [HC.out, if_neg hF]
    have hF' : (F == 0) = false := by simpa using hF
    clear HC
    go_wp2
    go_returns
    exact ⟨by rw [HX.out]; rfl, HB.out⟩

end Go.Proofs.Ytceljakmjddgbaa
