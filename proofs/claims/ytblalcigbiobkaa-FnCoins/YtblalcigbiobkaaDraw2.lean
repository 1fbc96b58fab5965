/- Proved here: the draw of three numbers for coins ends with three numbers, and turns no old memory; the laws' small choices and comparisons. -/
import Derived.Test.YtblalcigbiobkaaDraw
namespace Go.Proofs.Ytblalcigbiobkaa
open Go.RowKit
set_option linter.unusedVariables false
set_option linter.unusedSimpArgs false

theorem cells_lit (w : World) (T : TypeId) (xs : List Int) : ∀ j, j < xs.length → (w.alloc (.cells (xs.map (Value.int .i64)).toArray T)).cell? ⟨w.heap.size, j, none⟩ = some (.int .i64 (xs.getD j 0)) := by
  intro j hj
  have h := heap_alloc_new w (.cells (xs.map (Value.int .i64)).toArray T)
  simp only [World.cell?, h]
  simp [hj]

theorem source_any (ca : Option Addr) (n cap : Nat) (w : World) :
    Calls Try.prog 10 #[.slice ca n cap] w fun e w' => e = .returned (.pointer (some ⟨w.heap.size, 0, none⟩)) ∧ w' = w.alloc (.cells #[.slice ca n cap, .int .i64 0] 41) := by
  go_enter Try.func10, Try.ntmps10
  go_wp2
  go_returns
  exact ⟨rfl, rfl⟩

set_option maxHeartbeats 800000 in
theorem seed_any {w : World} {b : Nat} {ca : Option Addr} {n cap : Nat} {bs : Nat → Int} {t : Int} (h : Src w b ca n cap bs t) (h1 : t ≤ 900) :
    Calls Try.prog 11 #[.pointer (some ⟨b, 0, none⟩)] w fun e w' => ∃ r, e = .returned (.int .i64 r) ∧ Src w' b ca n cap bs (t + 2) ∧ SaveBut b w w' := by
  have H : Hid (Src w b ca n cap bs t) := h
  clear h
  go_enter Try.func11, Try.ntmps11
  go_wp2_with (fail)
  refine (next_any _ H.out (by omega) (by omega) (by omega)).mono ?_
  rintro e w1 ⟨r, rfl, r0, r1, hS, hO⟩
  have HS : Hid (Src w1 b ca n cap bs (t + 1)) := hS
  have HO : Hid (Only b w w1) := hO
  clear hS hO
  go_wp2_with (fail)
  refine (pick_any w1.heap.size 7 7 _ (HS.out.mono (fun k hk => Below.heap_alloc _ _ _ hk)) (by omega) (by omega) (by omega) (by have := lt_of_blk HS.out.blk; omega) (cells_lit w1 _ [1 + r, 1, 2147483646, 7, 12345, 0, 2147483647])).mono ?_
  rintro e w2 ⟨r', rfl, hS2, hO2⟩
  have HS2 : Hid (Src w2 b ca n cap bs (t + 1 + 1)) := hS2
  have HO2 : Hid (SaveBut b w w2) := (((SaveBut.refl b w).only HO.out).alloc _).only hO2
  clear hS2 hO2
  go_wp2
  go_returns
  exact ⟨_, rfl, by have := HS2.out; rwa [show t + 1 + 1 = t + 2 by omega] at this, HO2.out⟩

set_option maxHeartbeats 1600000 in
theorem draw_any (ca : Option Addr) (n cap : Nat) (bs : Nat → Int) (w : World) (hn : n ≤ 140737488351232) (hb : ∀ j, 0 ≤ bs j ∧ bs j ≤ 255)
    (hl : 0 < n → ∃ g off, ca = some ⟨g, off, none⟩ ∧ g < w.heap.size ∧ ∀ j, j < n → w.cell? ⟨g, off + j, none⟩ = some (.int .u8 (bs j))) :
    Calls Try.prog 5 #[.slice ca n cap] w fun e w' => ∃ x y z, e = .returned (.tuple #[.int .i64 x, .int .i64 y, .int .i64 z]) ∧ Below w.heap.size w w' := by
  have S0 : Hid (Src (w.alloc (.cells #[.slice ca n cap, .int .i64 0] 41)) w.heap.size ca n cap bs 0) := by
    refine ⟨heap_alloc_new _ _, hb, fun hp => ?_, hn, by omega⟩
    obtain ⟨g, off, e, hg, hc⟩ := hl hp
    exact ⟨g, off, e, by omega, fun j hj => (World.cell?_of_block (Below.heap_alloc w _ g hg)).trans (hc j hj)⟩
  clear hl hb
  go_enter Try.func5, Try.ntmps5
  go_wp2_with (fail)
  refine (source_any _ _ _ _).mono ?_
  rintro e w0 ⟨rfl, rfl⟩
  go_wp2_with (fail)
  refine (seed_any S0.out (by omega)).mono ?_
  rintro e w1 ⟨x, rfl, hS1, hV1⟩
  have HS1 : Hid (Src w1 w.heap.size ca n cap bs (0 + 2)) := hS1
  have HV1 : Hid (SaveBut w.heap.size w w1) := ((SaveBut.refl _ w).alloc _).trans hV1
  clear hS1 hV1 S0
  go_wp2_with (fail)
  refine (next_any _ HS1.out (by omega) (by omega) (by omega)).mono ?_
  rintro e w2 ⟨r, rfl, r0, r1, hS, hO⟩
  have HS2 : Hid (Src w2 w.heap.size ca n cap bs (0 + 2 + 1)) := hS
  have HV2 : Hid (SaveBut w.heap.size w w2) := HV1.out.only hO
  clear hS hO HS1 HV1
  go_wp2_with (fail)
  refine (pick_any w2.heap.size 6 6 _ (HS2.out.mono (fun k hk => Below.heap_alloc _ _ _ hk)) (by omega) (by omega) (by omega) (by have := lt_of_blk HS2.out.blk; omega) (cells_lit w2 _ [r, 1, 0, 5000, 5001, -1])).mono ?_
  rintro e w3 ⟨y, rfl, hS, hO⟩
  have HS3 : Hid (Src w3 w.heap.size ca n cap bs (0 + 2 + 1 + 1)) := hS
  have HV3 : Hid (SaveBut w.heap.size w w3) := (HV2.out.alloc _).only hO
  clear hS hO HS2 HV2
  go_wp2_with (fail)
  refine (next_any _ HS3.out (by omega) (by omega) (by omega)).mono ?_
  rintro e w4 ⟨q, rfl, q0, q1, hS, hO⟩
  have HS4 : Hid (Src w4 w.heap.size ca n cap bs (0 + 2 + 1 + 1 + 1)) := hS
  have HV4 : Hid (SaveBut w.heap.size w w4) := HV3.out.only hO
  clear hS hO HS3 HV3
  go_wp2_with (fail)
  refine (pick_any w4.heap.size 6 6 _ (HS4.out.mono (fun k hk => Below.heap_alloc _ _ _ hk)) (by omega) (by omega) (by omega) (by have := lt_of_blk HS4.out.blk; omega) (cells_lit w4 _ [1 + q, 2, 6, 1000000, 1000001, 0])).mono ?_
  rintro e w5 ⟨z, rfl, hS, hO⟩
  have HV5 : Hid (SaveBut w.heap.size w w5) := (HV4.out.alloc _).only hO
  clear hS hO HS4 HV4
  go_wp2
  go_returns
  exact ⟨_, _, _, rfl, HV5.out.below (Nat.le_refl _) (Nat.le_refl _)⟩

end Go.Proofs.Ytblalcigbiobkaa
