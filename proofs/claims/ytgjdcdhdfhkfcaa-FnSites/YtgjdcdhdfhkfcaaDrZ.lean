/- Proved here: DrawSitesOf: two numbers. -/
import Derived.Test.YtgjdcdhdfhkfcaaDrV
namespace Go.Proofs.Ytgjdcdhdfhkfcaa
open Go.RowKit
set_option linter.unusedVariables false
set_option linter.unusedSimpArgs false

set_option maxRecDepth 10000 in
set_option maxHeartbeats 3200000 in
theorem drawS_any (ca : Option Addr) (n cap : Nat) (bs : Nat → Int) (w : World) (hn : n ≤ 140737488351232) (hb : ∀ j, 0 ≤ bs j ∧ bs j ≤ 255) (hl : 0 < n → ∃ g off, ca = some ⟨g, off, none⟩ ∧ ∀ j, j < n → w.cell? ⟨g, off + j, none⟩ = some (.int .u8 (bs j))) :
    Calls Try.prog 10 #[.slice ca n cap] w fun e w' => ∃ x y : Int, e = .returned (.tuple #[.int .i64 x, .int .i64 y]) ∧ Below w.heap.size w w' := by
  have S0 : Hid (Src (w.alloc (.cells #[.slice ca n cap, .int .i64 0] 86)) w.heap.size ca n cap bs 0) := by
    refine ⟨heap_alloc_new _ _, hb, fun h => ?_, hn, by omega⟩
    obtain ⟨g, off, hc, hj⟩ := hl h
    have hg := lt_of_cell (hj 0 h)
    refine ⟨g, off, hc, by omega, fun j hjn => ?_⟩
    exact (((Below.refl w.heap.size w).alloc (Nat.le_refl _) _).cell (p := ⟨g, off + j, none⟩) hg).trans (hj j hjn)
  clear hn hb hl
  obtain ⟨b, hbb⟩ : ∃ b, b = w.heap.size := ⟨_, rfl⟩
  go_enter Try.func10, Try.ntmps10
  go_wp2_with (fail)
  refine (source_anyI _ _ _ _).mono ?_
  rintro e w0 ⟨rfl, hw0⟩
  have HBB : Hid (b = w.heap.size) := hbb
  rw [← HBB.out]
  have D0 : Hid (DSi w0 w0 b ca n cap bs 0 ∧ Below w.heap.size w w0) := ⟨DSi.start (by rw [hw0, hbb]; exact S0.out), by rw [hw0]; exact (Below.refl _ _).alloc (Nat.le_refl _) _⟩
  have hb0 : b < w0.heap.size := by rw [hw0, hbb]; simp
  clear hw0 S0 hbb
  go_wp2_with (fail)
  refine (next_any _ D0.out.1.src (by omega) (by omega) (by omega)).mono ?_
  rintro e w1 ⟨r, rfl, r0, r1, hS, hO⟩
  have D1 : Hid (DSi w0 w1 b ca n cap bs (0 + 1)) := D0.out.1.only hS hO
  have hz1 : w0.heap.size ≤ w1.heap.size := D1.out.save.size
  have hne1 : w1.heap.size ≠ b := by omega
  clear hS hO
  go_wp2_with (fail)
  refine (pick_in w1.heap.size 6 6 (fun j => [r, 10, 0, 50, 51, -1].getD j 0) (D1.out.alloc _).src (by omega) (by omega) (by omega) hne1 (six_at (heap_alloc_new w1 _))).mono ?_
  rintro e w2 ⟨j, hj, rfl, hS, hO⟩
  have D2 : Hid (DSi w0 w2 b ca n cap bs (0 + 1 + 1)) := (D1.out.alloc _).only hS hO
  obtain ⟨X, hX⟩ : ∃ X : Int, X = [r, 10, 0, 50, 51, -1].getD j 0 := ⟨_, rfl⟩
  rw [← hX]
  clear hS hO hX hne1
  have hz2 : w0.heap.size ≤ w2.heap.size := D2.out.save.size
  go_wp2_with (fail)
  refine (next_any _ D2.out.src (by omega) (by omega) (by omega)).mono ?_
  rintro e w3 ⟨q, rfl, q0, q1, hS, hO⟩
  have D3 : Hid (DSi w0 w3 b ca n cap bs (0 + 1 + 1 + 1)) := D2.out.only hS hO
  have hz3 : w0.heap.size ≤ w3.heap.size := D3.out.save.size
  have hne3 : w3.heap.size ≠ b := by omega
  have e1 : IntKind.i64.wrap (1 + q) = 1 + q := by rw [IntKind.wrap_i64]; omega
  obtain ⟨P, hP⟩ : ∃ P : Int, P = 1 + q := ⟨_, rfl⟩
  rw [← hP] at e1
  clear hS hO
  go_wp2_with (fail)
  refine (pick_in w3.heap.size 6 6 (fun j => [1 + q, 5, 1, 50, 0, 51].getD j 0) (D3.out.alloc _).src (by omega) (by omega) (by omega) hne3 (by first | exact six_at (heap_alloc_new w3 _) | (rw [← hP]; exact six_at (heap_alloc_new w3 _)))).mono ?_
  rintro e w4 ⟨j2, hj2, rfl, hS, hO⟩
  have D4 : Hid (DSi w0 w4 b ca n cap bs (0 + 1 + 1 + 1 + 1)) := (D3.out.alloc _).only hS hO
  have HB : Hid (Below w.heap.size w w4) := D0.out.2.trans (D4.out.save.below (by have := HBB.out; omega) (by have := HBB.out; omega))
  clear hS hO
  go_wp2
  go_returns
  exact ⟨_, _, rfl, HB.out⟩

end Go.Proofs.Ytgjdcdhdfhkfcaa
