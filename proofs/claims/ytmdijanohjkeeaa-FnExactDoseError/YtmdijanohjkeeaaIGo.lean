/- Proved here: goesOn of the program. -/
import Derived.Test.YtmdijanohjkeeaaBxEq
import Derived.Test.YtmdijanohjkeeaaShMath2
namespace Go.Proofs.Ytmdijanohjkeeaa
open Go.RowKit
set_option linter.unusedVariables false
set_option linter.unusedSimpArgs false

theorem goesOnK_len : ∀ (a b : List Bx), a.length ≠ b.length → goesOnK a b = false := by
  intro a
  induction a with
  | nil => intro b h; cases b with
    | nil => simp at h
    | cons x t => rfl
  | cons x t ih => intro b h; cases b with
    | nil => rfl
    | cons y u => simp only [goesOnK]; rw [ih u (by simpa using h)]; simp
theorem goesOnK_step {a b : List Bx} {k : Nat} {x y : Bx} (ha : k < a.length) (hb : k < b.length) (hx : bat a k = x) (hy : bat b k = y) : goesOnK (a.drop k) (b.drop k) = (x.same ⟨y.x0, y.y1, y.x1, x.y1⟩ && goesOnK (a.drop (k + 1)) (b.drop (k + 1))) := by
  rw [drop_bat ha, drop_bat hb, hx, hy]; rfl

set_option maxHeartbeats 800000 in
theorem impl_goesOn_len (a b : Option Addr) (n m c d : Nat) (w : World) (h : ¬ (n : Int) = (m : Int)) :
    Calls Try.prog 59 #[.slice a n c, .slice b m d] w fun e w' => e = .returned (.bool false) ∧ Below w.heap.size w w' := by
  go_enter Try.func59, Try.ntmps59
  go_wp2
  go_returns
  exact ⟨rfl, Below.refl _ _⟩

set_option maxHeartbeats 800000 in
theorem impl_goesOn_zero (a b : Option Addr) (c d : Nat) (w : World) :
    Calls Try.prog 59 #[.slice a 0 c, .slice b 0 d] w fun e w' => e = .returned (.bool true) ∧ Below w.heap.size w w' := by
  go_enter Try.func59, Try.ntmps59
  go_wp2
  refine wp_loop_rounds 1 ?_
  rw [rounds_succ]
  go_wp2
  go_returns
  exact ⟨rfl, Below.refl _ _⟩

set_option maxHeartbeats 1600000 in
theorem impl_goesOn_pos (g o c g' o' c' n : Nat) (a b : List Bx) (w : World) (hla : Hid (a.length = n)) (hlb : Hid (b.length = n)) (hn : n ≤ 1099511627776) (hg : g < w.heap.size) (hg' : g' < w.heap.size) (h : ∀ j, j < n → BAt w g (o + j * 4) (bat a j)) (h' : ∀ j, j < n → BAt w g' (o' + j * 4) (bat b j)) :
    Calls Try.prog 59 #[.slice (some ⟨g, o, none⟩) n c, .slice (some ⟨g', o', none⟩) n c'] w fun e w' => e = .returned (.bool (goesOnK a b)) ∧ Below w.heap.size w w' := by
  have H : Hid _ := h
  have H' : Hid _ := h'
  clear h h'
  have hgd := box_guard
  go_enter Try.func59, Try.ntmps59
  go_wp2
  go_loopw [15] (fun i wr => ∃ k : Nat, k ≤ n ∧ i = .int .i64 k ∧ Hid (goesOnK (a.drop k) (b.drop k) = goesOnK a b ∧ Below w.heap.size w wr)) (fun i _ => n - (intOf i).toNat)
  case atStart => exact ⟨0, Nat.zero_le _, rfl, rfl, Below.refl _ _⟩
  case round =>
    obtain ⟨k, hk, rfl, hR⟩ := hrel
    by_cases hlt : k < n
    · obtain ⟨c0, c1, c2, c3⟩ := (H.out k hlt).below hg hR.out.2
      obtain ⟨e0, e1, e2, e3⟩ := (H'.out k hlt).below hg' hR.out.2
      obtain ⟨x, hx⟩ : ∃ x, x = bat a k := ⟨_, rfl⟩
      obtain ⟨y, hy⟩ : ∃ y, y = bat b k := ⟨_, rfl⟩
      rw [← hx] at c0 c1 c2 c3
      rw [← hy] at e0 e1 e2 e3
      have HS : Hid (goesOnK a b = (x.same ⟨y.x0, y.y1, y.x1, x.y1⟩ && goesOnK (a.drop (k + 1)) (b.drop (k + 1)))) := by
        unfold Hid; rw [← hR.out.1]; exact goesOnK_step (by rw [hla.out]; exact hlt) (by rw [hlb.out]; exact hlt) hx.symm hy.symm
      have hbl := hR.out.2
      have hsz := hbl.size
      have hgr : g < wr.heap.size := by omega
      have hgr' : g' < wr.heap.size := by omega
      have HBL : Hid (Below w.heap.size w wr) := hbl
      clear hx hy hR hbl
      have b0 : (0 : Int) ≤ (k : Int) := by omega
      have b1 : (k : Int) < (n : Int) := by omega
      cases d1 : x.same ⟨y.x0, y.y1, y.x1, x.y1⟩ with
      | false =>
        have hq := box_neq x.x0 x.y0 x.x1 x.y1 y.x0 y.y1 y.x1 x.y1 false d1
        have HD : Hid (x.same ⟨y.x0, y.y1, y.x1, x.y1⟩ = false) := d1
        clear d1
        go_wp2
        go_returns
        refine ⟨by rw [HS.out, HD.out]; rfl, ?_⟩
        have hbl := HBL.out
        (repeat' (first | (with_reducible exact Below.refl _ _) | (with_reducible assumption) | (with_reducible refine Below.setCell ?_ ?_ _) | (with_reducible refine Below.alloc ?_ ?_ _) | (with_reducible refine below_drewN ?_ _) | (with_reducible refine Below.drew ?_) | (with_reducible exact Nat.le_refl _) | omega | (simp; done) | (simp; omega)))
      | true =>
        have hq := box_neq x.x0 x.y0 x.x1 x.y1 y.x0 y.y1 y.x1 x.y1 true d1
        have HD : Hid (x.same ⟨y.x0, y.y1, y.x1, x.y1⟩ = true) := d1
        clear d1
        go_wp2
        go_roundw
        case rel =>
          have hbl := HBL.out
          exact ⟨k + 1, by omega, by go_num, by rw [HS.out, HD.out]; rfl, by (repeat' (first | (with_reducible exact Below.refl _ _) | (with_reducible assumption) | (with_reducible refine Below.setCell ?_ ?_ _) | (with_reducible refine Below.alloc ?_ ?_ _) | (with_reducible refine below_drewN ?_ _) | (with_reducible refine Below.drew ?_) | (with_reducible exact Nat.le_refl _) | omega | (simp; done) | (simp; omega)))⟩
        case measure => simp [intOf]; omega
    · have e : Hid (goesOnK a b = true) := by
        unfold Hid
        rw [← hR.out.1, List.drop_eq_nil_of_le (by rw [hla.out]; omega), List.drop_eq_nil_of_le (by rw [hlb.out]; omega)]; rfl
      go_wp2
      go_returns
      exact ⟨by rw [e.out]; rfl, hR.out.2⟩

theorem impl_goesOn {w : World} {va vb : Value} {a b : List Bx} (hn : a.length ≤ 1099511627776) (ha : RB w va a) (hb : RB w vb b) :
    Calls Try.prog 59 #[va, vb] w fun e w' => e = .returned (.bool (goesOnK a b)) ∧ Below w.heap.size w w' := by
  by_cases hl : a.length = b.length
  · rcases Nat.eq_zero_or_pos a.length with h0 | hp
    · obtain rfl : a = [] := List.length_eq_zero_iff.1 h0
      obtain rfl : b = [] := List.length_eq_zero_iff.1 (by omega)
      obtain ⟨x, c, rfl⟩ := ha.form
      obtain ⟨y, d, rfl⟩ := hb.form
      exact impl_goesOn_zero x y c d w
    · obtain ⟨g, o, c, rfl, hg, hj⟩ := ha.pos hp
      obtain ⟨g', o', c', rfl, hg', hj'⟩ := hb.pos (by omega)
      rw [← hl] at hj' ⊢
      exact impl_goesOn_pos g o c g' o' c' _ a b w rfl hl.symm hn hg hg' hj hj'
  · obtain ⟨x, c, rfl⟩ := ha.form
    obtain ⟨y, d, rfl⟩ := hb.form
    rw [goesOnK_len a b hl]
    exact impl_goesOn_len x y _ _ c d w (by omega)

end Go.Proofs.Ytmdijanohjkeeaa
