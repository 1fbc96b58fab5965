/- Proved here: DrawModImage: three lists of numbers in memory of the call's own, few enough. -/
import Derived.Test.YtcplddblfhbejaaDrI
namespace Go.Proofs.Ytcplddblfhbejaa
open Go.RowKit
set_option linter.unusedVariables false
set_option linter.unusedSimpArgs false

set_option maxRecDepth 10000 in
set_option maxHeartbeats 6400000 in
theorem drawMi_any (ca : Option Addr) (n cap : Nat) (bs : Nat → Int) (w : World) (hn : n ≤ 140737488351232) (hb : ∀ j, 0 ≤ bs j ∧ bs j ≤ 255)
    (hl : 0 < n → ∃ g off, ca = some ⟨g, off, none⟩ ∧ g < w.heap.size ∧ ∀ j, j < n → w.cell? ⟨g, off + j, none⟩ = some (.int .u8 (bs j))) :
    Calls Try.prog 9 #[.slice ca n cap] w fun e w' => ∃ v1 v2 v3 s1 s2 s3, e = .returned (.tuple #[v1, v2, v3]) ∧ IS w' w.heap.size v1 s1 ∧ IS w' w.heap.size v2 s2 ∧ IS w' w.heap.size v3 s3 ∧ s1.length ≤ 64 ∧ s2.length ≤ 65 ∧ s3.length ≤ 13 ∧ Below w.heap.size w w' := by
  obtain ⟨b, hbb⟩ : ∃ b, b = w.heap.size := ⟨_, rfl⟩
  have S0 : Hid (Src (w.alloc (.cells #[.slice ca n cap, .int .i64 0] 120)) b ca n cap bs 0) := by
    rw [hbb]
    refine ⟨heap_alloc_new _ _, hb, fun hp => ?_, hn, by omega⟩
    obtain ⟨g, off, e, hg, hc⟩ := hl hp
    exact ⟨g, off, e, by omega, fun j hj => (World.cell?_of_block (Below.heap_alloc w _ g hg)).trans (hc j hj)⟩
  clear hl hb
  go_enter Try.func9, Try.ntmps9
  go_wp2_with (fail)
  refine (source_anyI _ _ _ _).mono ?_
  rintro e w0 ⟨rfl, hw0⟩
  have HBB : Hid (b = w.heap.size) := hbb
  rw [← HBB.out]
  have D0 : Hid (DSi w0 w0 b ca n cap bs 0 ∧ b < w0.heap.size ∧ Below w.heap.size w w0) := by
    refine ⟨DSi.start (by rw [hw0]; exact S0.out), by rw [hw0, hbb]; simp, by rw [hw0]; exact (Below.refl _ _).alloc (Nat.le_refl _) _⟩
  clear hw0 S0 hbb
  have hne0 : ¬ w0.heap.size = b := by have := D0.out.2.1; omega
  go_wp2_with (fail)
  refine (pick_in w0.heap.size 10 10 (fun j => ([1, 2, 4, 8, 4, 8, 16, 3, 0, 64] : List Int).getD j 0) (D0.out.1.alloc _).src (by omega) (by omega) (by omega) hne0 (ten_at (heap_alloc_new w0 _))).mono ?_
  rintro e w1 ⟨j, hj, rfl, hS1, hO1⟩
  obtain ⟨N, hN, hN64⟩ := ten_bd hj
  simp only [hN]
  have D1 : Hid (DSi w0 w1 b ca n cap bs 1) := by
    have := (D0.out.1.alloc (.cells #[.int .i64 1, .int .i64 2, .int .i64 4, .int .i64 8, .int .i64 4, .int .i64 8, .int .i64 16, .int .i64 3, .int .i64 0, .int .i64 64] 2)).only hS1 hO1
    rw [show (0 : Int) + 1 = 1 from rfl] at this
    exact this
  clear hS1 hO1 hj hN hne0
  go_wp2_with (fail)
  refine (resid_any N D1.out.src (by omega) (by omega)).mono ?_
  rintro e w2 ⟨v1, s1, rfl, hi1, hl1, hD2⟩
  obtain ⟨a1, c1, rfl⟩ := hi1.form
  have D2 : Hid (DSi w0 w2 b ca n cap bs (1 + 3 * (N : Int)) ∧ IS w2 w1.heap.size (.slice a1 s1.length c1) s1 ∧ s1.length = N ∧ w0.heap.size ≤ w1.heap.size) := ⟨D1.out.trans hD2, hi1, hl1, D1.out.save.size⟩
  clear D1 hi1 hl1 hD2
  go_wp2_with (fail)
  refine (chance_any 16 D2.out.1.src (by omega) (by omega) (by omega)).mono ?_
  rintro e w3 ⟨r, rfl, hS3, hO3⟩
  have hsz2 := D2.out.1.save.size
  have D3 : Hid (DSi w0 w3 b ca n cap bs (2 + 3 * (N : Int)) ∧ IS w3 w1.heap.size (.slice a1 s1.length c1) s1 ∧ s1.length = N ∧ w0.heap.size ≤ w1.heap.size) := by
    refine ⟨?_, D2.out.2.1.saveI (by have := D0.out.2.1; have := D2.out.2.2.2; omega) ((SaveBut.refl _ _).only hO3), D2.out.2.2⟩
    have := D2.out.1.only hS3 hO3
    rw [show 1 + 3 * (N : Int) + 1 = 2 + 3 * (N : Int) by omega] at this
    exact this
  clear D2 hS3 hO3 hsz2
  obtain ⟨M, hM, hM65⟩ : ∃ M : Nat, (if r then (N : Int) + 1 else (N : Int)) = (M : Int) ∧ M ≤ 65 := by
    cases r with
    | false => exact ⟨N, rfl, by omega⟩
    | true => exact ⟨N + 1, by simp, by omega⟩
  have e1 : IntKind.i64.wrap ((N : Int) + 1) = (N : Int) + 1 := by rw [IntKind.wrap_i64]; omega
  have REST : Hid (∀ V : World, V = w3 → Calls Try.prog 41 #[.pointer (some ⟨b, 0, none⟩), .int .i64 (M : Int)] V fun e w' => ∃ v s, e = .returned v ∧ IS w' V.heap.size v s ∧ s.length = M ∧ DSi V w' b ca n cap bs (2 + 3 * (N : Int) + 3 * (M : Int))) := fun V hV => by rw [hV]; exact resid_any M D3.out.1.src (by omega) (by omega)
  cases r with
  | false =>
    have hM' : (N : Int) = (M : Int) := by simpa using hM
    obtain rfl : N = M := by omega
    go_wp2_with (fail)
    refine (REST.out _ rfl).mono ?_
    rintro e w4 ⟨v2, s2, rfl, hi2, hl2, hD4⟩
    obtain ⟨a2, c2, rfl⟩ := hi2.form
    have hb0 := D0.out.2.1
    have D4 : Hid (DSi w0 w4 b ca n cap bs (2 + 3 * (N : Int) + 3 * (N : Int)) ∧ IS w4 w1.heap.size (.slice a1 s1.length c1) s1 ∧ IS w4 w3.heap.size (.slice a2 s2.length c2) s2 ∧ s1.length ≤ 64 ∧ s2.length ≤ 65 ∧ w0.heap.size ≤ w1.heap.size ∧ w0.heap.size ≤ w3.heap.size) :=
      ⟨D3.out.1.trans hD4, D3.out.2.1.saveI (by have := D3.out.2.2.2; omega) hD4.save, hi2, by have := D3.out.2.2.1; omega, by omega, D3.out.2.2.2, D3.out.1.save.size⟩
    have hne4 : ¬ w4.heap.size = b := by have := D4.out.1.save.size; omega
    clear D3 hi2 hl2 hD4 REST
    go_wp2_with (fail)
    refine (pick_in w4.heap.size 6 6 (fun j => ([1, 2, 3, 1, 0, 13] : List Int).getD j 0) (D4.out.1.alloc _).src (by omega) (by omega) (by omega) hne4 (six_at (heap_alloc_new w4 _))).mono ?_
    rintro e w5 ⟨j, hj, rfl, hS5, hO5⟩
    obtain ⟨P, hP, hP13⟩ := six_bd hj
    simp only [hP]
    have D5 : Hid (DSi w0 w5 b ca n cap bs (3 + 3 * (N : Int) + 3 * (N : Int)) ∧ IS w5 w1.heap.size (.slice a1 s1.length c1) s1 ∧ IS w5 w3.heap.size (.slice a2 s2.length c2) s2 ∧ s1.length ≤ 64 ∧ s2.length ≤ 65 ∧ w0.heap.size ≤ w1.heap.size ∧ w0.heap.size ≤ w3.heap.size) := by
      refine ⟨?_, (D4.out.2.1.bel ((Below.refl _ _).alloc (Nat.le_refl _) _)).saveI (by have := D4.out.2.2.2.2.2.1; omega) ((SaveBut.refl _ _).only hO5), (D4.out.2.2.1.bel ((Below.refl _ _).alloc (Nat.le_refl _) _)).saveI (by have := D4.out.2.2.2.2.2.2; omega) ((SaveBut.refl _ _).only hO5), D4.out.2.2.2⟩
      have := (D4.out.1.alloc (.cells #[.int .i64 1, .int .i64 2, .int .i64 3, .int .i64 1, .int .i64 0, .int .i64 13] 2)).only hS5 hO5
      rw [show 2 + 3 * (N : Int) + 3 * (N : Int) + 1 = 3 + 3 * (N : Int) + 3 * (N : Int) by omega] at this
      exact this
    clear hS5 hO5 hj hP hne4 D4
    go_wp2_with (fail)
    refine (resid_any P D5.out.1.src (by omega) (by omega)).mono ?_
    rintro e w6 ⟨v3, s3, rfl, hi3, hl3, hD6⟩
    obtain ⟨a3, c3, rfl⟩ := hi3.form
    have D6 : Hid (IS w6 w.heap.size (.slice a1 s1.length c1) s1 ∧ IS w6 w.heap.size (.slice a2 s2.length c2) s2 ∧ IS w6 w.heap.size (.slice a3 s3.length c3) s3 ∧ s1.length ≤ 64 ∧ s2.length ≤ 65 ∧ s3.length ≤ 13 ∧ Below w.heap.size w w6) := by
      have hbw := D0.out.2.2.size
      have hbe := HBB.out
      have h51 := D5.out.1.save.size
      refine ⟨(D5.out.2.1.saveI (by have := D5.out.2.2.2.2.2.1; omega) hD6.save).low (by have := D5.out.2.2.2.2.2.1; omega), (D5.out.2.2.1.saveI (by have := D5.out.2.2.2.2.2.2; omega) hD6.save).low (by have := D5.out.2.2.2.2.2.2; omega), hi3.low (by omega), D5.out.2.2.2.1, D5.out.2.2.2.2.1, by omega, ?_⟩
      exact D0.out.2.2.trans ((D5.out.1.trans hD6).save.below (by omega) (by omega))
    clear D5 hi3 hl3 hD6
    go_wp2
    go_returns
    exact ⟨_, _, _, s1, s2, s3, rfl, D6.out⟩
  | true =>
    have hM' : (N : Int) + 1 = (M : Int) := by simpa using hM
    have HM' : Hid ((N : Int) + 1 = (M : Int)) := hM'
    clear hM hM'
    go_wp2_with (fail)
    rw [HM'.out]
    refine (REST.out _ rfl).mono ?_
    rintro e w4 ⟨v2, s2, rfl, hi2, hl2, hD4⟩
    obtain ⟨a2, c2, rfl⟩ := hi2.form
    have hb0 := D0.out.2.1
    have D4 : Hid (DSi w0 w4 b ca n cap bs (2 + 3 * (N : Int) + 3 * (M : Int)) ∧ IS w4 w1.heap.size (.slice a1 s1.length c1) s1 ∧ IS w4 w3.heap.size (.slice a2 s2.length c2) s2 ∧ s1.length ≤ 64 ∧ s2.length ≤ 65 ∧ w0.heap.size ≤ w1.heap.size ∧ w0.heap.size ≤ w3.heap.size) :=
      ⟨D3.out.1.trans hD4, D3.out.2.1.saveI (by have := D3.out.2.2.2; omega) hD4.save, hi2, by have := D3.out.2.2.1; omega, by omega, D3.out.2.2.2, D3.out.1.save.size⟩
    have hne4 : ¬ w4.heap.size = b := by have := D4.out.1.save.size; omega
    clear D3 hi2 hl2 hD4 REST
    go_wp2_with (fail)
    refine (pick_in w4.heap.size 6 6 (fun j => ([1, 2, 3, 1, 0, 13] : List Int).getD j 0) (D4.out.1.alloc _).src (by omega) (by omega) (by omega) hne4 (six_at (heap_alloc_new w4 _))).mono ?_
    rintro e w5 ⟨j, hj, rfl, hS5, hO5⟩
    obtain ⟨P, hP, hP13⟩ := six_bd hj
    simp only [hP]
    have D5 : Hid (DSi w0 w5 b ca n cap bs (3 + 3 * (N : Int) + 3 * (M : Int)) ∧ IS w5 w1.heap.size (.slice a1 s1.length c1) s1 ∧ IS w5 w3.heap.size (.slice a2 s2.length c2) s2 ∧ s1.length ≤ 64 ∧ s2.length ≤ 65 ∧ w0.heap.size ≤ w1.heap.size ∧ w0.heap.size ≤ w3.heap.size) := by
      refine ⟨?_, (D4.out.2.1.bel ((Below.refl _ _).alloc (Nat.le_refl _) _)).saveI (by have := D4.out.2.2.2.2.2.1; omega) ((SaveBut.refl _ _).only hO5), (D4.out.2.2.1.bel ((Below.refl _ _).alloc (Nat.le_refl _) _)).saveI (by have := D4.out.2.2.2.2.2.2; omega) ((SaveBut.refl _ _).only hO5), D4.out.2.2.2⟩
      have := (D4.out.1.alloc (.cells #[.int .i64 1, .int .i64 2, .int .i64 3, .int .i64 1, .int .i64 0, .int .i64 13] 2)).only hS5 hO5
      rw [show 2 + 3 * (N : Int) + 3 * (M : Int) + 1 = 3 + 3 * (N : Int) + 3 * (M : Int) by omega] at this
      exact this
    clear hS5 hO5 hj hP hne4 D4
    go_wp2_with (fail)
    refine (resid_any P D5.out.1.src (by omega) (by omega)).mono ?_
    rintro e w6 ⟨v3, s3, rfl, hi3, hl3, hD6⟩
    obtain ⟨a3, c3, rfl⟩ := hi3.form
    have D6 : Hid (IS w6 w.heap.size (.slice a1 s1.length c1) s1 ∧ IS w6 w.heap.size (.slice a2 s2.length c2) s2 ∧ IS w6 w.heap.size (.slice a3 s3.length c3) s3 ∧ s1.length ≤ 64 ∧ s2.length ≤ 65 ∧ s3.length ≤ 13 ∧ Below w.heap.size w w6) := by
      have hbw := D0.out.2.2.size
      have hbe := HBB.out
      have h51 := D5.out.1.save.size
      refine ⟨(D5.out.2.1.saveI (by have := D5.out.2.2.2.2.2.1; omega) hD6.save).low (by have := D5.out.2.2.2.2.2.1; omega), (D5.out.2.2.1.saveI (by have := D5.out.2.2.2.2.2.2; omega) hD6.save).low (by have := D5.out.2.2.2.2.2.2; omega), hi3.low (by omega), D5.out.2.2.2.1, D5.out.2.2.2.2.1, by omega, ?_⟩
      exact D0.out.2.2.trans ((D5.out.1.trans hD6).save.below (by omega) (by omega))
    clear D5 hi3 hl3 hD6
    go_wp2
    go_returns
    exact ⟨_, _, _, s1, s2, s3, rfl, D6.out⟩

end Go.Proofs.Ytcplddblfhbejaa
