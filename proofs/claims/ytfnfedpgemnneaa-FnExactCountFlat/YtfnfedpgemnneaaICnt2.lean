/- Proved here: CountFlat of the program: cfC, cfV. -/
import Derived.Test.YtfnfedpgemnneaaICnt
import Derived.Test.YtfnfedpgemnneaaSCnt2
namespace Go.Proofs.Ytfnfedpgemnneaa
open Go.RowKit
set_option linter.unusedVariables false
set_option linter.unusedSimpArgs false

set_option maxRecDepth 10000 in
set_option maxHeartbeats 6400000 in
theorem impl_countFlat (a : Option Addr) (m c : Nat) (s : List Cl) (q : ByteArray) (w : World) (hq : q.size ≤ maxLen) (hm : m ≤ 2000000) (h : RK w (.slice a m c) s) (hsm : ∀ j (h : j < s.length), smC 1048576 s[j]) :
    Calls Try.prog 14 #[.slice a m c, .string q] w fun e w' => e = .returned (.agg #[.int .i64 (cfC s q), .int .i64 (cfV s q)]) ∧ Below w.heap.size w w' := by
  have H : Hid (RK w (.slice a m c) s ∧ q.size ≤ maxLen ∧ ∀ j (h : j < s.length), smC 1048576 s[j]) := ⟨h, hq, hsm⟩
  obtain ⟨z, hz⟩ : ∃ z, z = libK s := ⟨_, rfl⟩
  have HZ : Hid (z = libK s) := hz
  have HL : Hid (∀ W, Below w.heap.size w W → Calls Try.prog 11 #[.slice a m c] W fun e w' => e = .returned (.int .i64 z) ∧ Below W.heap.size W w') := fun W hW => by rw [hz]; exact impl_lib a m c s W hm (h.below hW) hsm
  obtain ⟨C, hC⟩ : ∃ C, C = cfC s q := ⟨_, rfl⟩
  obtain ⟨V, hV⟩ : ∃ V, V = cfV s q := ⟨_, rfl⟩
  rw [← hC, ← hV]
  clear h hq hsm hz
  by_cases hz0 : z = 0
  · have hl0 : libK s = 0 := by rw [← HZ.out]; exact hz0
    have ho := libK_zero hl0
    obtain ⟨A, hA⟩ : ∃ A, A = ahB s s.length q := ⟨_, rfl⟩
    obtain ⟨U, hU⟩ : ∃ U, U = vmap cfG s s.length q := ⟨_, rfl⟩
    have HUB : 0 ≤ U ∧ U ≤ 401 := by rw [hU]; exact cf_bound ho _ _
    have HE : Hid (C = (if A = true then (if 400 < U then 2 else 0) else 4) ∧ V = if A = true ∧ ¬ 400 < U then U else 0) := by
      unfold Hid; rw [hC, hV, hA, hU]; unfold cfC cfV; simp [hl0]
    have HD : Hid (∀ W, Below w.heap.size w W → Calls Try.prog 36 #[.slice a m c] W fun e w' => ∃ b, e = .returned (.map (some b)) ∧ (Instr.lookup 56 (.map (some b)) (.string q) true).run Try.prog w' = .ok (.tuple #[.int .i64 U, .bool A]) w' ∧ Below W.heap.size W w') := fun W hW => (impl_counts a m c s W ho (H.out.1.below hW) H.out.2.2).mono (by
        rintro e w' ⟨b, n, rfl, hM, hb⟩
        refine ⟨b, rfl, ?_, hb⟩
        rw [hA, hU]
        exact hM.look H.out.2.1)
    subst hz0
    clear hC hV hl0 ho hA hU
    go_enter Try.func14, Try.ntmps14
    go_wp2_with (fail)
    refine (HL.out _ ((Below.refl _ _).alloc (Nat.le_refl _) _)).mono ?_
    rintro e w1 ⟨rfl, hb1⟩
    obtain ⟨hk1, hlt1, hB1⟩ := resD hb1
    have HB1 : Hid (Below w.heap.size w w1) := hB1
    have HK1 : Hid _ := hk1
    clear hb1 hk1 hB1
    go_wp2_with (fail)
    refine (HD.out _ HB1.out).mono ?_
    rintro e w3 ⟨b, rfl, hlook, hb3⟩
    have hk3 := (hb3.block _ hlt1).trans HK1.out
    obtain ⟨r0, r1, f0, f1, hlt2⟩ := cellsD hk3
    have HB3 : Hid (Below w.heap.size w w3) := HB1.out.trans (hb3.mono (Nat.le_of_lt hlt1))
    clear hb3 hk3
    cases A with
    | false =>
      go_wp2
      refine bodyPost_ret (by simp [results, Try.results14, go_sem, r0, r1, hlt2]; rfl) rfl ⟨?_, ?_⟩
      · rw [HE.out.1, HE.out.2]; simp
      · have hb := HB3.out
        (repeat' (first | (with_reducible exact Below.refl _ _) | (with_reducible assumption) | (with_reducible refine Below.setCell ?_ ?_ _) | (with_reducible refine Below.alloc ?_ ?_ _) | (with_reducible refine below_drewN ?_ _) | (with_reducible refine Below.drew ?_) | (with_reducible exact Nat.le_refl _) | omega | (simp; done) | (simp; omega)))
    | true =>
      by_cases h4 : 400 < U
      · go_wp2
        refine bodyPost_ret (by simp [results, Try.results14, go_sem, r0, r1, hlt2]; rfl) rfl ⟨?_, ?_⟩
        · rw [HE.out.1, HE.out.2, if_pos trivial, if_pos (by omega), if_neg (by omega)]
        · have hb := HB3.out
          (repeat' (first | (with_reducible exact Below.refl _ _) | (with_reducible assumption) | (with_reducible refine Below.setCell ?_ ?_ _) | (with_reducible refine Below.alloc ?_ ?_ _) | (with_reducible refine below_drewN ?_ _) | (with_reducible refine Below.drew ?_) | (with_reducible exact Nat.le_refl _) | omega | (simp; done) | (simp; omega)))
      · go_wp2
        refine bodyPost_ret (by simp [results, Try.results14, go_sem, r0, r1, hlt2]; rfl) rfl ⟨?_, ?_⟩
        · rw [HE.out.1, HE.out.2, if_pos trivial, if_neg (by omega), if_pos ⟨trivial, by omega⟩]
        · have hb := HB3.out
          (repeat' (first | (with_reducible exact Below.refl _ _) | (with_reducible assumption) | (with_reducible refine Below.setCell ?_ ?_ _) | (with_reducible refine Below.alloc ?_ ?_ _) | (with_reducible refine below_drewN ?_ _) | (with_reducible refine Below.drew ?_) | (with_reducible exact Nat.le_refl _) | omega | (simp; done) | (simp; omega)))
  · have HE : Hid (C = z ∧ V = 0) := by
      have hne : ¬ libK s = 0 := fun e => hz0 (HZ.out.trans e)
      unfold Hid; rw [hC, hV]; unfold cfC cfV; rw [if_neg hne, if_neg (fun e => hne e.1)]; exact ⟨HZ.out.symm, rfl⟩
    clear hC hV
    go_enter Try.func14, Try.ntmps14
    go_wp2_with (fail)
    refine (HL.out _ ((Below.refl _ _).alloc (Nat.le_refl _) _)).mono ?_
    rintro e w1 ⟨rfl, hb1⟩
    obtain ⟨hk1, hlt1, hB1⟩ := resD hb1
    have HB1 : Hid (Below w.heap.size w w1) := hB1
    obtain ⟨r0, r1, f0, f1, hlt2⟩ := cellsD hk1
    clear hb1 hk1 hB1
    go_wp2
    refine bodyPost_ret (by simp [results, Try.results14, go_sem, r0, r1, hlt2]; rfl) rfl ⟨?_, ?_⟩
    · rw [HE.out.1, HE.out.2]
    · have hb := HB1.out
      (repeat' (first | (with_reducible exact Below.refl _ _) | (with_reducible assumption) | (with_reducible refine Below.setCell ?_ ?_ _) | (with_reducible refine Below.alloc ?_ ?_ _) | (with_reducible refine below_drewN ?_ _) | (with_reducible refine Below.drew ?_) | (with_reducible exact Nat.le_refl _) | omega | (simp; done) | (simp; omega)))

end Go.Proofs.Ytfnfedpgemnneaa
