/- Proved here: how the laws' package marks a list of numbers. -/
import Derived.Test.YtkdpifplhhcpaaaIntsBase
namespace Go.Proofs.Ytkdpifplhhcpaaa
open Go.RowKit
set_option linter.unusedVariables false

/-- The numbers k, k + 1, .. -/
def marks (k : Int) (n : Nat) : List Int := (List.range n).map fun j : Nat => k + (j : Int)
theorem marks_length (k : Int) (n : Nat) : (marks k n).length = n := by simp [marks]
theorem marks_get (k : Int) (n j : Nat) (h : j < n) : (marks k n).getD j 0 = k + j := by simp [marks, h]
theorem marks_of {k : Int} {n : Nat} {ys : List Value} (hl : ys.length = n) (h : ∀ t, t < n → ys[t]? = some (.int .i64 (k + (t : Int)))) : ys = (marks k n).map (Value.int .i64) := by
  apply List.ext_getElem?
  intro j
  by_cases hj : j < n
  · rw [h j hj]; simp [marks, hj]
  · rw [List.getElem?_eq_none (by omega), List.getElem?_eq_none (by simp [marks]; omega)]

set_option maxHeartbeats 400000 in
theorem markI_zero (a : Option Addr) (c : Nat) (k : Int) (w : World) :
    Calls Try.prog 27 #[.slice a 0 c, .int .i64 k] w fun e w' => e = .returned (.int .i64 k) ∧ w' = w := by
  go_enter Try.func27, Try.ntmps27
  go_wp2
  refine wp_loop_rounds 1 ?_
  rw [rounds_succ]
  go_wp2
  go_returns
  exact ⟨rfl, rfl⟩

set_option maxHeartbeats 800000 in
theorem markI_pos (g c n B : Nat) (xs : List Value) (k : Int) (w : World) (hn : n ≤ 1099511627776) (hk0 : 0 ≤ k) (hk1 : k ≤ 1125899906842624) (h : w.ownsRow B 2 1 (.slice (some ⟨g, 0, none⟩) n c) n xs) :
    Calls Try.prog 27 #[.slice (some ⟨g, 0, none⟩) n c, .int .i64 k] w fun e w' => e = .returned (.int .i64 (k + n)) ∧ w'.ownsRow B 2 1 (.slice (some ⟨g, 0, none⟩) n c) n ((marks k n).map (Value.int .i64)) ∧ Only g w w' := by
  have H : Hid _ := h
  clear h
  go_enter Try.func27, Try.ntmps27
  go_wp2
  go_loopw [1, 5] (fun q i wr => ∃ j : Nat, j ≤ n ∧ i = .int .i64 j ∧ q = .int .i64 (k + j) ∧ Hid (∃ ys : List Value, ys.length = n ∧ (∀ t, t < j → ys[t]? = some (.int .i64 (k + (t : Int)))) ∧ wr.ownsRow B 2 1 (.slice (some ⟨g, 0, none⟩) n c) n ys ∧ Only g w wr)) (fun _ i _ => n - (intOf i).toNat)
  case atStart => exact ⟨0, Nat.zero_le _, rfl, by simp, xs, by simpa using H.out.1, fun t ht => by omega, H.out, Only.refl _ _⟩
  case round =>
    obtain ⟨j, hj, rfl, rfl, hR⟩ := hrel
    by_cases hlt : j < n
    · obtain ⟨ys, hl, hys, hown, honly⟩ := hR.out
      have hc := hown.cellAt j (by omega)
      have hc' : wr.cell? ⟨g, j, none⟩ = some ys[j] := by rw [hc, List.getElem?_eq_getElem (by omega)]
      have hf := hown.frozenAt j
      have hst := hown.stored j (.int .i64 (k + (j : Int)))
      have R : Hid (∃ ys : List Value, ys.length = n ∧ (∀ t, t < j + 1 → ys[t]? = some (.int .i64 (k + (t : Int)))) ∧ (wr.setCell ⟨g, j, none⟩ (.int .i64 (k + (j : Int)))).ownsRow B 2 1 (.slice (some ⟨g, 0, none⟩) n c) n ys ∧ Only g w (wr.setCell ⟨g, j, none⟩ (.int .i64 (k + (j : Int))))) := by
        refine ⟨ys.set j _, by simpa using hl, fun t ht => ?_, hst.1, honly.set _ _⟩
        by_cases e : t = j
        · subst e; simp [hl, hlt]
        · rw [List.getElem?_set_ne (by omega)]; exact hys t (by omega)
      clear hR hown honly hys hst hc
      have b0 : (0 : Int) ≤ (j : Int) := by omega
      have b1 : (j : Int) < (n : Int) := by omega
      go_wp2
      go_roundw
      case rel => exact ⟨j + 1, by omega, by go_num, by go_num, R.out⟩
      case measure => simp [intOf]; omega
    · have e : j = n := by omega
      subst e
      go_wp2
      go_returns
      obtain ⟨ys, hl, hys, hown, honly⟩ := hR.out
      refine ⟨rfl, ?_, honly⟩
      rw [← marks_of hl hys]; exact hown

/-- The numbers k, k + 1, .. are written; nothing else turns. -/
theorem markI {w : World} {B : Nat} {v : Value} {xs : List Int} (k : Int) (hn : xs.length ≤ 1099511627776) (hk0 : 0 ≤ k) (hk1 : k ≤ 1125899906842624) (h : IS w B v xs) :
    Calls Try.prog 27 #[v, .int .i64 k] w fun e w' => e = .returned (.int .i64 (k + xs.length)) ∧ IS w' B v (marks k xs.length) ∧ ∃ g, B ≤ g ∧ (v.ownBlock = some g ∨ w' = w) ∧ Only g w w' := by
  rcases Nat.eq_zero_or_pos xs.length with h0 | hp
  · obtain rfl : xs = [] := List.length_eq_zero_iff.1 h0
    obtain ⟨a1, c1, rfl⟩ := h.zero
    refine (markI_zero a1 c1 k w).mono ?_
    rintro e w' ⟨rfl, rfl⟩
    exact ⟨by simp, h, B, Nat.le_refl _, Or.inr rfl, Only.refl _ _⟩
  · obtain ⟨g1, c1, rfl, hB, _, k1⟩ := h.pos hp
    refine (markI_pos g1 c1 _ B _ k w hn hk0 hk1 h).mono ?_
    rintro e w' ⟨rfl, ho, hon⟩
    refine ⟨rfl, ?_, g1, hB, Or.inl rfl, hon⟩
    unfold IS
    rw [marks_length]; exact ho

end Go.Proofs.Ytkdpifplhhcpaaa
