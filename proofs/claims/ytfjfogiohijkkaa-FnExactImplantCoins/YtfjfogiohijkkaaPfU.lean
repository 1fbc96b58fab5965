/- Proved here: (*Profile).put of the program. -/
import Derived.Test.YtfjfogiohijkkaaPfW
namespace Go.Proofs.Ytfjfogiohijkkaa
open Go.RowKit
set_option linter.unusedVariables false
set_option linter.unusedSimpArgs false

set_option maxRecDepth 10000 in
set_option maxHeartbeats 3200000 in
theorem impl_put {B K g n c : Nat} {L : List Int} {O : Int} {W : World} (d : Nat) (a : Int) (hd : d ≤ 1000000) (ha : 0 ≤ a ∧ a ≤ 1000000000000000) (hn : n ≤ 1048576) (hL : -1000000000000000 ≤ L.getD d 0 ∧ L.getD d 0 ≤ 1000000000000000) (hO : 0 ≤ O ∧ O ≤ 1000000000000000) (h : MP B K g n c L O W) :
    Calls Try.prog 40 #[.pointer (some ⟨K, 0, none⟩), .int .i64 d, .int .i64 a] W fun e w' => (∃ v, e = .returned v) ∧ MP B K g n c (ptL L d a) (ptO L O d a) w' ∧ PU K g W w' := by
  have c0 := cellOf h.bx 0 rfl
  have c1 := cellOf h.bx 1 rfl
  have cf := frozOf h.bx 1
  have cl := ltOf h.bx
  have H : Hid (MP B K g n c L O W) := h
  by_cases hlt : d < n
  · obtain ⟨d0, d1⟩ := h.cell hlt
    obtain ⟨x, hx⟩ : ∃ x, x = L.getD d 0 := ⟨_, rfl⟩
    rw [← hx] at d0 hL
    have R : Hid (MP B K g n c (ptL L d a) (ptO L O d a) (W.setCell ⟨g, d, none⟩ (.int .i64 (x + a)))) := by
      have h1 := h.setL d (x + a)
      unfold Hid ptL ptO
      rw [if_pos (by rw [← h.len]; exact hlt), ← hx]; exact h1
    clear hx h
    have b0 : (0 : Int) ≤ (d : Int) := by omega
    have b1 : (d : Int) < (n : Int) := by omega
    have gl : g < W.heap.size := H.out.lt.1
    have k1 : IntKind.i64.wrap (x + a) = x + a := by rw [IntKind.wrap_i64]; omega
    go_enter Try.func40, Try.ntmps40
    go_wp2
    go_end0
    exact ⟨⟨_, rfl⟩, R.out, PU.setG _ _⟩
  · have R : Hid (MP B K g n c (ptL L d a) (ptO L O d a) (W.setCell ⟨K, 1, none⟩ (.int .i64 (O + a)))) := by
      have h1 := h.setO (O + a)
      unfold Hid ptL ptO
      rw [if_neg (by rw [← h.len]; exact hlt), List.set_eq_of_length_le (by rw [← h.len]; omega)]; exact h1
    clear h
    have b1 : ¬ (d : Int) < (n : Int) := by omega
    have k1 : IntKind.i64.wrap (O + a) = O + a := by rw [IntKind.wrap_i64]; omega
    go_enter Try.func40, Try.ntmps40
    go_wp2
    go_end0
    exact ⟨⟨_, rfl⟩, R.out, PU.setK _ _⟩

end Go.Proofs.Ytfjfogiohijkkaa
