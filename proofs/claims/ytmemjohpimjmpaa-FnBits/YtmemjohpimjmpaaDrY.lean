/- Proved here: DrawBitsOf and DrawFloatFrom: a float, and 64 bits. -/
import Derived.Test.YtmemjohpimjmpaaDrX
import Derived.Test.YtmemjohpimjmpaaFbS
namespace Go.Proofs.Ytmemjohpimjmpaa
open Go.RowKit
set_option linter.unusedVariables false
set_option linter.unusedSimpArgs false

theorem src_new {ca : Option Addr} {n cap : Nat} {bs : Nat → Int} {w : World} (hn : n ≤ 140737488351232) (hb : ∀ j, 0 ≤ bs j ∧ bs j ≤ 255) (hl : 0 < n → ∃ g off, ca = some ⟨g, off, none⟩ ∧ ∀ j, j < n → w.cell? ⟨g, off + j, none⟩ = some (.int .u8 (bs j))) :
    Src (w.alloc (.cells #[.slice ca n cap, .int .i64 0] 56)) w.heap.size ca n cap bs 0 := by
  refine ⟨heap_alloc_new _ _, hb, fun h => ?_, hn, by omega⟩
  obtain ⟨g, off, hc, hj⟩ := hl h
  have hg := lt_of_cell (hj 0 h)
  refine ⟨g, off, hc, by omega, fun j hjn => ?_⟩
  exact (((Below.refl w.heap.size w).alloc (Nat.le_refl _) _).cell (p := ⟨g, off + j, none⟩) hg).trans (hj j hjn)
set_option maxHeartbeats 1600000 in
theorem drawB_any (ca : Option Addr) (n cap : Nat) (bs : Nat → Int) (w : World) (hn : n ≤ 140737488351232) (hb : ∀ j, 0 ≤ bs j ∧ bs j ≤ 255) (hl : 0 < n → ∃ g off, ca = some ⟨g, off, none⟩ ∧ ∀ j, j < n → w.cell? ⟨g, off + j, none⟩ = some (.int .u8 (bs j))) :
    Calls Try.prog 10 #[.slice ca n cap] w fun e w' => ∃ x : Nat, e = .returned (.float .f64 x) ∧ x < 18446744073709551616 ∧ Below w.heap.size w w' := by
  have HS : Hid (Src (w.alloc (.cells #[.slice ca n cap, .int .i64 0] 56)) w.heap.size ca n cap bs 0) := src_new hn hb hl
  clear hn hb hl
  go_enter Try.func10, Try.ntmps10
  go_wp2_with (fail)
  refine (source_anyI _ _ _ _).mono ?_
  rintro e w1 ⟨rfl, hw1⟩
  subst w1
  go_wp2_with (fail)
  refine (float_any HS.out (by omega)).mono ?_
  rintro e w2 ⟨x, t, rfl, hx, ht, hS, hv⟩
  have HB : Hid (x < 18446744073709551616 ∧ Below w.heap.size w w2) := ⟨hx, Below.trans (by (repeat' (first | (with_reducible exact Below.refl _ _) | (with_reducible assumption) | (with_reducible refine Below.setCell ?_ ?_ _) | (with_reducible refine Below.alloc ?_ ?_ _) | (with_reducible refine below_drewN ?_ _) | (with_reducible refine Below.drew ?_) | (with_reducible exact Nat.le_refl _) | omega | (simp; done) | (simp; omega)))) (hv.below (Nat.le_refl _) (by simp))⟩
  clear hx ht hS hv
  go_wp2
  go_returns
  exact ⟨_, rfl, HB.out.1, HB.out.2⟩
theorem bt_in {x : Nat} (h : x < 18446744073709551616) : 0 ≤ btV x ∧ btV x < 18446744073709551616 := by
  unfold btV; split <;> omega
set_option maxRecDepth 10000 in
set_option maxHeartbeats 3200000 in
theorem drawF_any (ca : Option Addr) (n cap : Nat) (bs : Nat → Int) (w : World) (hn : n ≤ 140737488351232) (hb : ∀ j, 0 ≤ bs j ∧ bs j ≤ 255) (hl : 0 < n → ∃ g off, ca = some ⟨g, off, none⟩ ∧ ∀ j, j < n → w.cell? ⟨g, off + j, none⟩ = some (.int .u8 (bs j))) :
    Calls Try.prog 14 #[.slice ca n cap] w fun e w' => ∃ x : Int, e = .returned (.int .u64 x) ∧ 0 ≤ x ∧ x < 18446744073709551616 ∧ Below w.heap.size w w' := by
  have HS : Hid (Src (w.alloc (.cells #[.slice ca n cap, .int .i64 0] 56)) w.heap.size ca n cap bs 0) := src_new hn hb hl
  clear hn hb hl
  go_enter Try.func14, Try.ntmps14
  go_wp2_with (fail)
  refine (source_anyI _ _ _ _).mono ?_
  rintro e w1 ⟨rfl, hw1⟩
  subst w1
  go_wp2_with (fail)
  refine (chance_any 3 HS.out (by omega) (by omega) (by omega)).mono ?_
  rintro e w2 ⟨r, rfl, hS, hO⟩
  have H2 : Hid (Src w2 w.heap.size ca n cap bs (0 + 1) ∧ SaveBut w.heap.size (w.alloc (.cells #[.slice ca n cap, .int .i64 0] 56)) w2) := ⟨hS, (SaveBut.refl _ _).only hO⟩
  clear hS hO
  cases r
  · go_wp2_with (fail)
    refine (next_any 65536 H2.out.1 (by omega) (by omega) (by omega)).mono ?_
    rintro e w3 ⟨a, rfl, a0, a1, hS, hO⟩
    have H3 : Hid (Src w3 w.heap.size ca n cap bs (0 + 1 + 1) ∧ SaveBut w.heap.size (w.alloc (.cells #[.slice ca n cap, .int .i64 0] 56)) w3) := ⟨hS, H2.out.2.only hO⟩
    clear hS hO
    go_wp2_with (fail)
    refine (next_any 65536 H3.out.1 (by omega) (by omega) (by omega)).mono ?_
    rintro e w4 ⟨b, rfl, b0, b1, hS, hO⟩
    have H4 : Hid (Src w4 w.heap.size ca n cap bs (0 + 1 + 1 + 1) ∧ SaveBut w.heap.size (w.alloc (.cells #[.slice ca n cap, .int .i64 0] 56)) w4) := ⟨hS, H3.out.2.only hO⟩
    clear hS hO
    go_wp2_with (fail)
    refine (next_any 65536 H4.out.1 (by omega) (by omega) (by omega)).mono ?_
    rintro e w5 ⟨c, rfl, d0, d1, hS, hO⟩
    have H5 : Hid (Src w5 w.heap.size ca n cap bs (0 + 1 + 1 + 1 + 1) ∧ SaveBut w.heap.size (w.alloc (.cells #[.slice ca n cap, .int .i64 0] 56)) w5) := ⟨hS, H4.out.2.only hO⟩
    clear hS hO
    go_wp2_with (fail)
    refine (next_any 65536 H5.out.1 (by omega) (by omega) (by omega)).mono ?_
    rintro e w6 ⟨d, rfl, e0, e1, hS, hO⟩
    have HB : Hid (Below w.heap.size w w6) := Below.trans (by (repeat' (first | (with_reducible exact Below.refl _ _) | (with_reducible assumption) | (with_reducible refine Below.setCell ?_ ?_ _) | (with_reducible refine Below.alloc ?_ ?_ _) | (with_reducible refine below_drewN ?_ _) | (with_reducible refine Below.drew ?_) | (with_reducible exact Nat.le_refl _) | omega | (simp; done) | (simp; omega)))) ((H5.out.2.only hO).below (Nat.le_refl _) (by simp))
    clear hS hO
    go_wp2
    go_returns
    refine ⟨_, rfl, ?_, ?_, HB.out⟩
    · exact (bits_within .or .u64 _ _).1
    · exact Int.lt_of_le_of_lt (bits_within .or .u64 _ _).2 (by decide)
  · go_wp2_with (fail)
    refine (float_any H2.out.1 (by omega)).mono ?_
    rintro e w3 ⟨x, t, rfl, hx, ht, hS, hv⟩
    have HB : Hid (x < 18446744073709551616 ∧ Below w.heap.size w w3) := ⟨hx, Below.trans (by (repeat' (first | (with_reducible exact Below.refl _ _) | (with_reducible assumption) | (with_reducible refine Below.setCell ?_ ?_ _) | (with_reducible refine Below.alloc ?_ ?_ _) | (with_reducible refine below_drewN ?_ _) | (with_reducible refine Below.drew ?_) | (with_reducible exact Nat.le_refl _) | omega | (simp; done) | (simp; omega)))) ((H2.out.2.trans hv).below (Nat.le_refl _) (by simp))⟩
    clear hx ht hS hv
    go_wp2_with (fail)
    refine (spec_bits x HB.out.1 _).mono ?_
    rintro e w4 ⟨rfl, k, hw4⟩
    subst w4
    go_wp2
    go_returns
    exact ⟨_, rfl, (bt_in HB.out.1).1, (bt_in HB.out.1).2, below_drewN HB.out.2 _⟩

end Go.Proofs.Ytmemjohpimjmpaa
