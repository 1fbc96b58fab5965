/- Proved here: CountFlat of the model: cfC, cfV. -/
import Derived.Test.YtfnfedpgemnneaaSCnt
namespace Go.Proofs.Ytfnfedpgemnneaa
open Go.RowKit
set_option linter.unusedVariables false
set_option linter.unusedSimpArgs false

set_option maxRecDepth 10000 in
set_option maxHeartbeats 6400000 in
theorem spec_countFlat (a : Option Addr) (m c : Nat) (s : List Cl) (q : ByteArray) (w : World) (hm : m ≤ 2000000) (h : RK w (.slice a m c) s) (hsm : ∀ j (h : j < s.length), smC 1048576 s[j]) :
    Calls Try.prog 13 #[.slice a m c, .string q] w fun e w' => e = .returned (.agg #[.int .i64 (cfC s q), .int .i64 (cfV s q)]) ∧ Below w.heap.size w w' := by
  have hms : m = s.length := by obtain ⟨rs, hrs, hrel⟩ := h; exact hrs.len.trans hrel.len
  have H : Hid (RK w (.slice a m c) s ∧ m = s.length ∧ ∀ j (h : j < s.length), smC 1048576 s[j]) := ⟨h, hms, hsm⟩
  obtain ⟨z, hz⟩ : ∃ z, z = libK s := ⟨_, rfl⟩
  have HZ : Hid (z = libK s) := hz
  have HL : Hid (∀ W, Below w.heap.size w W → Calls Try.prog 9 #[.slice a m c] W fun e w' => e = .returned (.int .i64 z) ∧ Below W.heap.size W w') := fun W hW => by rw [hz]; exact spec_lib a m c s W hm (h.below hW) hsm
  obtain ⟨C, hC⟩ : ∃ C, C = cfC s q := ⟨_, rfl⟩
  obtain ⟨V, hV⟩ : ∃ V, V = cfV s q := ⟨_, rfl⟩
  rw [← hC, ← hV]
  clear h hms hsm hz
  by_cases hz0 : z = 0
  · have hl0 : libK s = 0 := by rw [← HZ.out]; exact hz0
    have ho := libK_zero hl0
    cases hah : ahB s s.length q with
    | false =>
      have HE : Hid (C = 4 ∧ V = 0) := by
        unfold Hid; rw [hC, hV]; unfold cfC cfV; simp [hl0, hah]
      have HFI : Hid (∀ W, Below w.heap.size w W → Calls Try.prog 34 #[.slice a m c, .int .i64 (m : Int), .string q] W fun e w' => ∃ r, e = .returned (.int .i64 r) ∧ r < 0 ∧ w' = W) := fun W hW => (spec_find a m c m s q W hm (Nat.le_refl _) (H.out.1.below hW)).mono (by
        rintro e w' ⟨r, rfl, hr, rfl⟩
        refine ⟨r, rfl, ?_, rfl⟩
        rcases hr with ⟨rfl, _⟩ | ⟨i, rfl, h2, _⟩
        · omega
        · rw [H.out.2.1, hah] at h2; cases h2)
      subst hz0
      clear hC hV hl0 ho hah
      go_enter Try.func13, Try.ntmps13
      go_wp2_with (fail)
      refine (HL.out _ ((Below.refl _ _).alloc (Nat.le_refl _) _)).mono ?_
      rintro e w1 ⟨rfl, hb1⟩
      obtain ⟨hk1, hlt1, hB1⟩ := resD hb1
      have HB1 : Hid (Below w.heap.size w w1) := hB1
      obtain ⟨r0, r1, f0, f1, hlt2⟩ := cellsD hk1
      clear hb1 hk1 hB1
      go_wp2_with (fail)
      refine (HFI.out _ HB1.out).mono ?_
      rintro e w2 ⟨r, rfl, hr, rfl⟩
      go_wp2
      refine bodyPost_ret (by simp [results, Try.results13, go_sem, r0, r1, hlt2]; rfl) rfl ⟨?_, ?_⟩
      · rw [HE.out.1, HE.out.2]
      · have hb := HB1.out
        (repeat' (first | (with_reducible exact Below.refl _ _) | (with_reducible assumption) | (with_reducible refine Below.setCell ?_ ?_ _) | (with_reducible refine Below.alloc ?_ ?_ _) | (with_reducible refine below_drewN ?_ _) | (with_reducible refine Below.drew ?_) | (with_reducible exact Nat.le_refl _) | omega | (simp; done) | (simp; omega)))
    | true =>
      obtain ⟨U, hU⟩ : ∃ U, U = vmap cfG s s.length q := ⟨_, rfl⟩
      have HUB : 0 ≤ U ∧ U ≤ 401 := by rw [hU]; exact cf_bound ho _ _
      have HE : Hid (C = (if 400 < U then 2 else 0) ∧ V = (if 400 < U then 0 else U)) := by
        unfold Hid; rw [hC, hV]; unfold cfC cfV; rw [← hU]; simp only [hl0, hah]
        by_cases h4 : 400 < U <;> simp [h4]
      obtain ⟨VL, hVL⟩ : ∃ VL, VL = vlist cfG s s.length := ⟨_, rfl⟩
      have HVm : Hid (VL.length = m) := by unfold Hid; rw [hVL, vlist_length, H.out.2.1]
      have HFI : Hid (∀ W, Below w.heap.size w W → Calls Try.prog 34 #[.slice a m c, .int .i64 (m : Int), .string q] W fun e w' => ∃ i : Nat, e = .returned (.int .i64 (i : Int)) ∧ (i < m ∧ VL.getD i 0 = U) ∧ w' = W) := fun W hW => (spec_find a m c m s q W hm (Nat.le_refl _) (H.out.1.below hW)).mono (by
        rintro e w' ⟨r, rfl, hr, rfl⟩
        rcases hr with ⟨_, h2⟩ | ⟨i, rfl, _, h2, h3, h4, _⟩
        · rw [H.out.2.1, hah] at h2; cases h2
        · refine ⟨i, rfl, ⟨h3, ?_⟩, rfl⟩
          rw [hVL, vlist_get h2 s.length h2, hU, ← h4, vmap_find ho h2 s.length h2 (Nat.le_refl _)])
      have HD : Hid (∀ W, Below w.heap.size w W → Calls Try.prog 35 #[.slice a m c] W fun e w' => ∃ v, e = .returned v ∧ IS w' W.heap.size v VL ∧ Below W.heap.size W w') := fun W hW => by rw [hVL]; exact spec_counts a m c s W ho (H.out.1.below hW) H.out.2.2
      subst hz0
      clear hC hV hl0 ho hah hVL hU
      go_enter Try.func13, Try.ntmps13
      go_wp2_with (fail)
      refine (HL.out _ ((Below.refl _ _).alloc (Nat.le_refl _) _)).mono ?_
      rintro e w1 ⟨rfl, hb1⟩
      obtain ⟨hk1, hlt1, hB1⟩ := resD hb1
      have HB1 : Hid (Below w.heap.size w w1) := hB1
      have HK1 : Hid _ := hk1
      clear hb1 hk1 hB1
      go_wp2_with (fail)
      refine (HFI.out _ HB1.out).mono ?_
      rintro e w2 ⟨i, rfl, hiv, rfl⟩
      have hi0 : ¬ (i : Int) < 0 := by omega
      have HIV : Hid _ := hiv
      clear hiv
      go_wp2_with (fail)
      refine (HD.out _ HB1.out).mono ?_
      rintro e w3 ⟨v, rfl, his, hb3⟩
      obtain ⟨og, ocap, hoe, _, hogl, hoc⟩ := his.pos (by rw [HVm.out]; have := HIV.out.1; omega)
      subst hoe
      rw [HVm.out] at hoc ⊢
      have hcell := hoc i HIV.out.1
      rw [HIV.out.2] at hcell
      have hk3 := (hb3.block _ hlt1).trans HK1.out
      obtain ⟨r0, r1, f0, f1, hlt2⟩ := cellsD hk3
      have HB3 : Hid (Below w.heap.size w w3) := HB1.out.trans (hb3.mono (Nat.le_of_lt hlt1))
      have hi1 : (0 : Int) ≤ (i : Int) := by omega
      have hi2 : (i : Int) < (m : Int) := by have := HIV.out.1; omega
      clear hb3 hk3 his hoc
      by_cases h4 : 400 < U
      · go_wp2
        refine bodyPost_ret (by simp [results, Try.results13, go_sem, r0, r1, hlt2]; rfl) rfl ⟨?_, ?_⟩
        · rw [HE.out.1, HE.out.2, if_pos h4, if_pos h4]
        · have hb := HB3.out
          (repeat' (first | (with_reducible exact Below.refl _ _) | (with_reducible assumption) | (with_reducible refine Below.setCell ?_ ?_ _) | (with_reducible refine Below.alloc ?_ ?_ _) | (with_reducible refine below_drewN ?_ _) | (with_reducible refine Below.drew ?_) | (with_reducible exact Nat.le_refl _) | omega | (simp; done) | (simp; omega)))
      · go_wp2
        refine bodyPost_ret (by simp [results, Try.results13, go_sem, r0, r1, hlt2]; rfl) rfl ⟨?_, ?_⟩
        · rw [HE.out.1, HE.out.2, if_neg (by omega), if_neg (by omega)]
        · have hb := HB3.out
          (repeat' (first | (with_reducible exact Below.refl _ _) | (with_reducible assumption) | (with_reducible refine Below.setCell ?_ ?_ _) | (with_reducible refine Below.alloc ?_ ?_ _) | (with_reducible refine below_drewN ?_ _) | (with_reducible refine Below.drew ?_) | (with_reducible exact Nat.le_refl _) | omega | (simp; done) | (simp; omega)))
  · have HE : Hid (C = z ∧ V = 0) := by
      have hne : ¬ libK s = 0 := fun e => hz0 (HZ.out.trans e)
      unfold Hid; rw [hC, hV]; unfold cfC cfV; rw [if_neg hne, if_neg (fun e => hne e.1)]; exact ⟨HZ.out.symm, rfl⟩
    clear hC hV
    go_enter Try.func13, Try.ntmps13
    go_wp2_with (fail)
    refine (HL.out _ ((Below.refl _ _).alloc (Nat.le_refl _) _)).mono ?_
    rintro e w1 ⟨rfl, hb1⟩
    obtain ⟨hk1, hlt1, hB1⟩ := resD hb1
    have HB1 : Hid (Below w.heap.size w w1) := hB1
    obtain ⟨r0, r1, f0, f1, hlt2⟩ := cellsD hk1
    clear hb1 hk1 hB1
    go_wp2
    refine bodyPost_ret (by simp [results, Try.results13, go_sem, r0, r1, hlt2]; rfl) rfl ⟨?_, ?_⟩
    · rw [HE.out.1, HE.out.2]
    · have hb := HB1.out
      (repeat' (first | (with_reducible exact Below.refl _ _) | (with_reducible assumption) | (with_reducible refine Below.setCell ?_ ?_ _) | (with_reducible refine Below.alloc ?_ ?_ _) | (with_reducible refine below_drewN ?_ _) | (with_reducible refine Below.drew ?_) | (with_reducible exact Nat.le_refl _) | omega | (simp; done) | (simp; omega)))

end Go.Proofs.Ytfnfedpgemnneaa
