/- Proved here: the cells of a list of up to 45000 boxes, by program and model. -/
import Derived.Test.YtlnhfgacgbdjaaaRimA
namespace Go.Proofs.Ytlnhfgacgbdjaaa
open Go.RowKit
set_option linter.unusedVariables false
set_option linter.unusedSimpArgs false

def areaB (b : Bx) : Int := (b.x1 - b.x0) * (b.y1 - b.y0)
def areaS : List Bx → Int
  | [] => 0
  | b :: t => areaB b + areaS t
theorem areaS_append (s t : List Bx) : areaS (s ++ t) = areaS s + areaS t := by
  induction s with
  | nil => simp [areaS]
  | cons b u ih => simp only [List.cons_append, areaS, ih]; omega
theorem areaB_bd {b : Bx} (h : b.x0 < b.x1 ∧ b.y0 < b.y1 ∧ -10000 ≤ b.x0 ∧ -10000 ≤ b.y0 ∧ b.x1 ≤ 10000 ∧ b.y1 ≤ 10000) : 0 ≤ areaB b ∧ areaB b ≤ 400000000 := by
  unfold areaB
  have h1 : 0 ≤ b.x1 - b.x0 := by omega
  have h2 : 0 ≤ b.y1 - b.y0 := by omega
  refine ⟨Int.mul_nonneg h1 h2, ?_⟩
  have h3 := Int.mul_le_mul (show b.x1 - b.x0 ≤ 20000 by omega) (show b.y1 - b.y0 ≤ 20000 by omega) h2 (by omega)
  omega
theorem areaS_bd : ∀ (s : List Bx), Good s → 0 ≤ areaS s ∧ areaS s ≤ 400000000 * (s.length : Int) := by
  intro s
  induction s with
  | nil => intro _; simp [areaS]
  | cons b t ih =>
    intro h
    have h1 := areaB_bd (h b (by simp))
    have h2 := ih (fun q hq => h q (by simp [hq]))
    simp only [areaS, List.length_cons]
    omega
theorem areaS_step {s : List Bx} {k : Nat} (h : Good s) (hk : k < s.length) (hl : s.length ≤ 45000) {b : Bx} (hb : b = bat s k) : areaS (s.take (k + 1)) = areaS (s.take k) + (b.x1 - b.x0) * (b.y1 - b.y0) ∧ 0 ≤ areaS (s.take k) ∧ areaS (s.take k) ≤ 18000000000000 ∧ 0 ≤ (b.x1 - b.x0) * (b.y1 - b.y0) ∧ (b.x1 - b.x0) * (b.y1 - b.y0) ≤ 400000000 := by
  have h1 := areaS_bd (s.take k) (fun q hq => h q (List.mem_of_mem_take hq))
  have h2 := areaB_bd (h.at hk hb)
  have h3 : (s.take k).length ≤ 45000 := by simp; omega
  refine ⟨?_, h1.1, by omega, h2.1, h2.2⟩
  rw [take_bat hk, areaS_append, ← hb]; simp [areaS, areaB]

set_option maxHeartbeats 800000 in
theorem spec_area_zero (a : Option Addr) (c : Nat) (w : World) :
    Calls Try.prog 28 #[.slice a 0 c] w fun e w' => e = .returned (.int .i64 0) ∧ Below w.heap.size w w' := by
  go_enter Try.func28, Try.ntmps28
  go_wp2
  refine wp_loop_rounds 1 ?_
  rw [rounds_succ]
  go_wp2
  go_returns
  exact ⟨rfl, Below.refl _ _⟩

set_option maxHeartbeats 1600000 in
theorem spec_area_pos (g o c n : Nat) (s : List Bx) (w : World) (hl : Hid (s.length = n)) (hn : n ≤ 45000) (hgd : Hid (Good s)) (h : ∀ j, j < n → BAt w g (o + j * 4) (bat s j)) :
    Calls Try.prog 28 #[.slice (some ⟨g, o, none⟩) n c] w fun e w' => e = .returned (.int .i64 (areaS s)) ∧ Below w.heap.size w w' := by
  have H : Hid _ := h
  clear h
  go_enter Try.func28, Try.ntmps28
  go_wp2
  go_loopw [3, 4] (fun v i wr => ∃ (k m : Nat) (z : Int), k ≤ n ∧ i = .int .i64 k ∧ v = .int .i64 z ∧ wr = w.drewN m ∧ Hid (z = areaS (s.take k))) (fun _ i _ => n - (intOf i).toNat)
  case atStart => exact ⟨0, 0, 0, Nat.zero_le _, rfl, rfl, rfl, rfl⟩
  case round =>
    obtain ⟨k, m, z, hk, rfl, rfl, rfl, hZ⟩ := hrel
    by_cases hlt : k < n
    · obtain ⟨c0, c1, c2, c3⟩ := H.out k hlt
      obtain ⟨b, hb⟩ : ∃ b, b = bat s k := ⟨_, rfl⟩
      rw [← hb] at c0 c1 c2 c3
      have hgb := hgd.out.at (by rw [hl.out]; exact hlt) hb
      have hst := areaS_step hgd.out (by rw [hl.out]; exact hlt) (by rw [hl.out]; omega) hb
      rw [← hZ.out] at hst
      have hw1 : IntKind.i64.wrap (b.x1 - b.x0) = b.x1 - b.x0 := by rw [IntKind.wrap_i64]; omega
      have hw2 : IntKind.i64.wrap (b.y1 - b.y0) = b.y1 - b.y0 := by rw [IntKind.wrap_i64]; omega
      have hw3 : IntKind.i64.wrap ((b.x1 - b.x0) * (b.y1 - b.y0)) = (b.x1 - b.x0) * (b.y1 - b.y0) := by rw [IntKind.wrap_i64]; omega
      have hw4 : IntKind.i64.wrap (z + (b.x1 - b.x0) * (b.y1 - b.y0)) = z + (b.x1 - b.x0) * (b.y1 - b.y0) := by rw [IntKind.wrap_i64]; omega
      have HST : Hid (areaS (s.take (k + 1)) = z + (b.x1 - b.x0) * (b.y1 - b.y0)) := hst.1
      clear hb hgb hst
      have b0 : (0 : Int) ≤ (k : Int) := by omega
      have b1 : (k : Int) < (n : Int) := by omega
      go_wp2_with (fail)
      go_quiet (fail)
      go_wp2
      go_roundw
      case rel => exact ⟨k + 1, m + nq, _, by omega, by go_num, rfl, rfl, HST.out.symm⟩
      case measure => simp [intOf]; omega
    · have e : Hid (z = areaS s) := by unfold Hid; rw [hZ.out, List.take_of_length_le (by rw [hl.out]; omega)]
      go_wp2
      go_returns
      exact ⟨by rw [← e.out]; rfl, below_drewN (Below.refl _ _) m⟩

theorem spec_area {w : World} {v : Value} {s : List Bx} (hl : s.length ≤ 45000) (hg : Good s) (h : RB w v s) :
    Calls Try.prog 28 #[v] w fun e w' => e = .returned (.int .i64 (areaS s)) ∧ Below w.heap.size w w' := by
  rcases Nat.eq_zero_or_pos s.length with h0 | hp
  · obtain rfl : s = [] := List.length_eq_zero_iff.1 h0
    obtain ⟨a, c, rfl⟩ := h.form
    exact spec_area_zero a c w
  · obtain ⟨g, o, c, rfl, _, hj⟩ := h.pos hp
    exact spec_area_pos g o c _ s w rfl hl hg hj

set_option maxHeartbeats 800000 in
theorem impl_cells_zero (a : Option Addr) (c : Nat) (w : World) :
    Calls Try.prog 32 #[.slice a 0 c] w fun e w' => e = .returned (.int .i64 0) ∧ Below w.heap.size w w' := by
  go_enter Try.func32, Try.ntmps32
  go_wp2
  refine wp_loop_rounds 1 ?_
  rw [rounds_succ]
  go_wp2
  go_returns
  exact ⟨rfl, Below.refl _ _⟩

set_option maxHeartbeats 1600000 in
theorem impl_cells_pos (g o c n : Nat) (s : List Bx) (w : World) (hl : Hid (s.length = n)) (hn : n ≤ 45000) (hgd : Hid (Good s)) (hg : g < w.heap.size) (h : ∀ j, j < n → BAt w g (o + j * 4) (bat s j)) :
    Calls Try.prog 32 #[.slice (some ⟨g, o, none⟩) n c] w fun e w' => e = .returned (.int .i64 (areaS s)) ∧ Below w.heap.size w w' := by
  have H : Hid _ := h
  clear h
  go_enter Try.func32, Try.ntmps32
  go_wp2
  go_loopw [3, 8] (fun v i wr => ∃ (k : Nat) (z : Int), k ≤ n ∧ i = .int .i64 k ∧ v = .int .i64 z ∧ Hid (z = areaS (s.take k) ∧ Below w.heap.size w wr)) (fun _ i _ => n - (intOf i).toNat)
  case atStart => exact ⟨0, 0, Nat.zero_le _, rfl, rfl, rfl, Below.refl _ _⟩
  case round =>
    obtain ⟨k, z, hk, rfl, rfl, hR⟩ := hrel
    by_cases hlt : k < n
    · obtain ⟨c0, c1, c2, c3⟩ := (H.out k hlt).below hg hR.out.2
      obtain ⟨b, hb⟩ : ∃ b, b = bat s k := ⟨_, rfl⟩
      rw [← hb] at c0 c1 c2 c3
      have hgb := hgd.out.at (by rw [hl.out]; exact hlt) hb
      have hst := areaS_step hgd.out (by rw [hl.out]; exact hlt) (by rw [hl.out]; omega) hb
      rw [← hR.out.1] at hst
      have hw1 : IntKind.i64.wrap (b.x1 - b.x0) = b.x1 - b.x0 := by rw [IntKind.wrap_i64]; omega
      have hw2 : IntKind.i64.wrap (b.y1 - b.y0) = b.y1 - b.y0 := by rw [IntKind.wrap_i64]; omega
      have hw3 : IntKind.i64.wrap ((b.x1 - b.x0) * (b.y1 - b.y0)) = (b.x1 - b.x0) * (b.y1 - b.y0) := by rw [IntKind.wrap_i64]; omega
      have hw4 : IntKind.i64.wrap (z + (b.x1 - b.x0) * (b.y1 - b.y0)) = z + (b.x1 - b.x0) * (b.y1 - b.y0) := by rw [IntKind.wrap_i64]; omega
      have HST : Hid (areaS (s.take (k + 1)) = z + (b.x1 - b.x0) * (b.y1 - b.y0)) := hst.1
      have HBL : Hid (Below w.heap.size w wr) := hR.out.2
      have hsz := hR.out.2.size
      clear hb hgb hst hR
      have b0 : (0 : Int) ≤ (k : Int) := by omega
      have b1 : (k : Int) < (n : Int) := by omega
      go_wp2
      go_roundw
      case rel =>
        have hbl := HBL.out
        exact ⟨k + 1, _, by omega, by go_num, rfl, HST.out.symm, by (repeat' (first | (with_reducible exact Below.refl _ _) | (with_reducible assumption) | (with_reducible refine Below.setCell ?_ ?_ _) | (with_reducible refine Below.alloc ?_ ?_ _) | (with_reducible refine below_drewN ?_ _) | (with_reducible refine Below.drew ?_) | (with_reducible exact Nat.le_refl _) | omega | (simp; done) | (simp; omega)))⟩
      case measure => simp [intOf]; omega
    · have e : Hid (z = areaS s) := by unfold Hid; rw [hR.out.1, List.take_of_length_le (by rw [hl.out]; omega)]
      go_wp2
      go_returns
      exact ⟨by rw [← e.out]; rfl, hR.out.2⟩

theorem impl_cells {w : World} {v : Value} {s : List Bx} (hl : s.length ≤ 45000) (hg : Good s) (h : RB w v s) :
    Calls Try.prog 32 #[v] w fun e w' => e = .returned (.int .i64 (areaS s)) ∧ Below w.heap.size w w' := by
  rcases Nat.eq_zero_or_pos s.length with h0 | hp
  · obtain rfl : s = [] := List.length_eq_zero_iff.1 h0
    obtain ⟨a, c, rfl⟩ := h.form
    exact impl_cells_zero a c w
  · obtain ⟨g, o, c, rfl, hg', hj⟩ := h.pos hp
    exact impl_cells_pos g o c _ s w rfl hl hg hg' hj

def areaV (s : List Bx) : Int := if shapeK s = 0 then areaS s else 0


end Go.Proofs.Ytlnhfgacgbdjaaa
