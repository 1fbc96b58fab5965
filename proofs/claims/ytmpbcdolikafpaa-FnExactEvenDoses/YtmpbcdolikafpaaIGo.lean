/- Proved here: goesOn of the program. (And ahead of it: Proved here: two boxes compared. No condition. (And ahead of it: Proved here: the program's list of the edges that cross a row.)) -/
import Derived.Test.YtmpbcdolikafpaaEdBase
import Derived.Deep.AppendLies
import Derived.Test.YtmpbcdolikafpaaBoxBase
import Derived.Laws.StructEq
import Derived.Test.YtmpbcdolikafpaaShMath2
namespace Go.Proofs.Ytmpbcdolikafpaa
open Go.RowKit
set_option linter.unusedVariables false
set_option linter.unusedSimpArgs false

theorem cross_hit {s : List Ed} {y z : Int} {k : Nat} {b : Ed} (h : k < s.length) (hb : eat s k = b) (h0 : b.y0 ≤ y) (h1 : z ≤ b.y1) : crossK y z (s.take (k + 1)) = crossK y z (s.take k) ++ [b] := by
  rw [take_eat h, hb]; simp [crossK, List.filter_append, h0, h1]
theorem cross_miss {s : List Ed} {y z : Int} {k : Nat} {b : Ed} (h : k < s.length) (hb : eat s k = b) (h0 : ¬ (b.y0 ≤ y ∧ z ≤ b.y1)) : crossK y z (s.take (k + 1)) = crossK y z (s.take k) := by
  rw [take_eat h, hb]; simp [crossK, List.filter_append]
  omega
theorem crossK_length (s : List Ed) (y z : Int) : (crossK y z s).length ≤ s.length := List.length_filter_le _ _

set_option maxHeartbeats 800000 in
theorem impl_cross_zero (a : Option Addr) (c : Nat) (y z : Int) (w : World) :
    Calls Try.prog 53 #[.slice a 0 c, .int .i64 y, .int .i64 z] w fun e w' => ∃ v, e = .returned v ∧ ES w' w.heap.size v [] ∧ Below w.heap.size w w' := by
  go_enter Try.func53, Try.ntmps53
  go_wp2
  refine wp_loop_rounds 1 ?_
  rw [rounds_succ]
  go_wp2
  go_returns
  exact ⟨_, rfl, ES.nil w _, by (repeat' (first | (with_reducible exact Below.refl _ _) | (with_reducible assumption) | (with_reducible refine Below.setCell ?_ ?_ _) | (with_reducible refine Below.alloc ?_ ?_ _) | (with_reducible refine below_drewN ?_ _) | (with_reducible refine Below.drew ?_) | (with_reducible exact Nat.le_refl _) | omega | (simp; done) | (simp; omega)))⟩

set_option maxRecDepth 10000 in
set_option maxHeartbeats 1600000 in
theorem impl_cross_pos (g o c n : Nat) (s : List Ed) (y z : Int) (w : World) (hl : Hid (s.length = n)) (hn : n ≤ 1000000) (hg : g < w.heap.size) (h : ∀ j, j < n → EAt w g (o + j * 5) (eat s j)) :
    Calls Try.prog 53 #[.slice (some ⟨g, o, none⟩) n c, .int .i64 y, .int .i64 z] w fun e w' => ∃ v, e = .returned v ∧ ES w' w.heap.size v (crossK y z s) ∧ Below w.heap.size w w' := by
  have H : Hid _ := h
  clear h
  obtain ⟨i0, hi, hz0, hz1, hz2⟩ := info_parts info_edge
  go_enter Try.func53, Try.ntmps53
  go_wp2
  go_loopw [7, 12] (fun v i wr => ∃ k : Nat, k ≤ n ∧ i = .int .i64 k ∧ Hid (ES wr w.heap.size v (crossK y z (s.take k)) ∧ Below w.heap.size w wr)) (fun _ i _ => n - (intOf i).toNat)
  case atStart => exact ⟨0, Nat.zero_le _, rfl, ES.nil w _, Below.refl _ _⟩
  case round =>
    obtain ⟨k, hk, rfl, hR⟩ := hrel
    obtain ⟨hbs, hbl⟩ := hR.out
    clear hR
    by_cases hlt : k < n
    · have hk' : Hid (k < s.length) := by unfold Hid; rw [hl.out]; exact hlt
      obtain ⟨c0, c1, c2, c3, c4⟩ := (H.out k hlt).below hg hbl
      generalize hb : eat s k = b at c0 c1 c2 c3 c4
      have HB : Hid (eat s k = b) := hb
      clear hb
      have hlen : (crossK y z (s.take k)).length ≤ n := Nat.le_trans (crossK_length _ _ _) (by rw [List.length_take]; omega)
      have hsz := hbl.size
      have hgr : g < wr.heap.size := by omega
      have b0 : (0 : Int) ≤ (k : Int) := by omega
      have b1 : (k : Int) < (n : Int) := by omega
      have HBS : Hid (ES wr w.heap.size _ (crossK y z (s.take k))) := hbs
      have HBL : Hid (Below w.heap.size w wr) := hbl
      clear hbs hbl
      go_wp2_with (at_builtin; refine wpList_append_own _ rfl _ _ 83 rfl w.heap.size 94 i0 (.agg #[.int .i64 0, .int .i64 0, .int .i64 0, .int .i64 0, .int .i64 0]) 5 40 Try.underlying83 hi hz0 hz1 hz2 rfl (by decide) _ _ _ rfl (World.ownsRow.alloc (World.ownsRow.alloc HBS.out _) _) ⟨wr.heap.size + 1, 0, none⟩ 1 1 (ecells b) rfl rfl (World.news_of_block (cs := #[.int .i64 b.x, .int .i64 b.y0, .int .i64 b.y1, .int .i64 b.f, .int .i64 b.s]) (t := 94) (fr := (0, 0)) (by have := heap_alloc_new (wr.alloc (.cells #[.int .i64 b.x, .int .i64 b.y0, .int .i64 b.y1, .int .i64 b.f, .int .i64 b.s] 94)) (.cells #[.int .i64 b.x, .int .i64 b.y0, .int .i64 b.y1, .int .i64 b.f, .int .i64 b.s] 94); simpa using this)) (by simp [ecells, Value.oneCell']) (by unfold maxLen; omega) (by omega) (by simp; omega) ?_; intro v' w1 hown1 hgrow1 _)
      · have R : Hid (ES w1 w.heap.size v' (crossK y z (s.take (k + 1))) ∧ Below w.heap.size w w1) := by
          unfold Hid
          rw [cross_hit hk'.out HB.out (by assumption) (by assumption)]
          exact pushE (World.ownsRow.alloc HBS.out _) (Nat.le_refl _) (HBL.out.alloc hsz _) (by simp; omega) hown1 hgrow1
        clear hown1 hgrow1
        go_roundw
        case rel => exact ⟨k + 1, by omega, by go_num, R.out⟩
        case measure => simp [intOf]; omega
      all_goals
        go_roundw
        case rel => exact ⟨k + 1, by omega, by go_num, by rw [cross_miss hk'.out HB.out (by omega)]; exact World.ownsRow.alloc HBS.out _, HBL.out.alloc hsz _⟩
        case measure => simp [intOf]; omega
    · have HR : Hid (ES wr w.heap.size _ (crossK y z (s.take k)) ∧ Below w.heap.size w wr) := ⟨hbs, hbl⟩
      have e : Hid (s.take k = s) := List.take_of_length_le (by rw [hl.out]; omega)
      clear hbs hbl
      go_wp2
      go_returns
      rw [← e.out]
      exact ⟨_, rfl, HR.out.1, HR.out.2⟩

theorem impl_cross {w : World} {v : Value} {s : List Ed} (y z : Int) (hn : s.length ≤ 1000000) (h : RE w v s) :
    Calls Try.prog 53 #[v, .int .i64 y, .int .i64 z] w fun e w' => ∃ v', e = .returned v' ∧ ES w' w.heap.size v' (crossK y z s) ∧ Below w.heap.size w w' := by
  rcases Nat.eq_zero_or_pos s.length with h0 | hp
  · obtain rfl : s = [] := List.length_eq_zero_iff.1 h0
    obtain ⟨a, c, rfl⟩ := h.form
    exact impl_cross_zero a c y z w
  · obtain ⟨g, o, c, rfl, hg, hj⟩ := h.pos hp
    exact impl_cross_pos g o c _ s y z w rfl hn hg hj

end Go.Proofs.Ytmpbcdolikafpaa

namespace Go.Proofs.Ytmpbcdolikafpaa
open Go.RowKit
set_option linter.unusedVariables false
set_option linter.unusedSimpArgs false

def bagg (b : Bx) : Value := .agg #[.int .i64 b.x0, .int .i64 b.y0, .int .i64 b.x1, .int .i64 b.y1]
theorem box_guard : Try.prog.eqGuardType Try.prog.depth 34 = false := by kernel_rfl
theorem box_neq (a b c d e f g h : Int) (r : Bool) (hr : Bx.same ⟨a, b, c, d⟩ ⟨e, f, g, h⟩ = r) (w : World) : (binOp .neq 34 (.agg #[.int .i64 a, .int .i64 b, .int .i64 c, .int .i64 d]) (.agg #[.int .i64 e, .int .i64 f, .int .i64 g, .int .i64 h])).run Try.prog w = .ok (.bool (!r)) w := by
  have u3 := Try.underlying2
  have a3 := Try.isAgg2
  have z3 := Try.sizeOf2
  have hS : Try.prog.underlying 34 = some (.struct (Try.prog.fieldsOf 34)) := by kernel_rfl
  have hp : Try.prog.stoodInHeld 34 = false := by kernel_rfl
  subst hr
  rw [run_neq_struct, show (10000 : Nat) = 9999 + 1 from rfl, run_equalIn_agg w 9999 34 _ _ hS hp]
  simp only [Program.fieldsOf, Try.underlying34]
  unfold Bx.same
  go_simp
  by_cases h1 : a = e <;> by_cases h2 : b = f <;> by_cases h3 : c = g <;> by_cases h4 : d = h <;> simp [h1, h2, h3, h4]


end Go.Proofs.Ytmpbcdolikafpaa

namespace Go.Proofs.Ytmpbcdolikafpaa
open Go.RowKit
set_option linter.unusedVariables false
set_option linter.unusedSimpArgs false

theorem goesOnK_len : ∀ (a b : List Bx), a.length ≠ b.length → goesOnK a b = false := by
  intro a
  induction a with
  | nil => intro b h; cases b with
    | nil => simp at h
    | cons x t => rfl
  | cons x t ih => intro b h; cases b with
    | nil => rfl
    | cons y u => simp only [goesOnK]; rw [ih u (by simpa using h)]; simp
theorem goesOnK_step {a b : List Bx} {k : Nat} {x y : Bx} (ha : k < a.length) (hb : k < b.length) (hx : bat a k = x) (hy : bat b k = y) : goesOnK (a.drop k) (b.drop k) = (x.same ⟨y.x0, y.y1, y.x1, x.y1⟩ && goesOnK (a.drop (k + 1)) (b.drop (k + 1))) := by
  rw [drop_bat ha, drop_bat hb, hx, hy]; rfl

set_option maxHeartbeats 800000 in
theorem impl_goesOn_len (a b : Option Addr) (n m c d : Nat) (w : World) (h : ¬ (n : Int) = (m : Int)) :
    Calls Try.prog 54 #[.slice a n c, .slice b m d] w fun e w' => e = .returned (.bool false) ∧ Below w.heap.size w w' := by
  go_enter Try.func54, Try.ntmps54
  go_wp2
  go_returns
  exact ⟨rfl, Below.refl _ _⟩

set_option maxHeartbeats 800000 in
theorem impl_goesOn_zero (a b : Option Addr) (c d : Nat) (w : World) :
    Calls Try.prog 54 #[.slice a 0 c, .slice b 0 d] w fun e w' => e = .returned (.bool true) ∧ Below w.heap.size w w' := by
  go_enter Try.func54, Try.ntmps54
  go_wp2
  refine wp_loop_rounds 1 ?_
  rw [rounds_succ]
  go_wp2
  go_returns
  exact ⟨rfl, Below.refl _ _⟩

set_option maxHeartbeats 1600000 in
theorem impl_goesOn_pos (g o c g' o' c' n : Nat) (a b : List Bx) (w : World) (hla : Hid (a.length = n)) (hlb : Hid (b.length = n)) (hn : n ≤ 1099511627776) (hg : g < w.heap.size) (hg' : g' < w.heap.size) (h : ∀ j, j < n → BAt w g (o + j * 4) (bat a j)) (h' : ∀ j, j < n → BAt w g' (o' + j * 4) (bat b j)) :
    Calls Try.prog 54 #[.slice (some ⟨g, o, none⟩) n c, .slice (some ⟨g', o', none⟩) n c'] w fun e w' => e = .returned (.bool (goesOnK a b)) ∧ Below w.heap.size w w' := by
  have H : Hid _ := h
  have H' : Hid _ := h'
  clear h h'
  have hgd := box_guard
  go_enter Try.func54, Try.ntmps54
  go_wp2
  go_loopw [15] (fun i wr => ∃ k : Nat, k ≤ n ∧ i = .int .i64 k ∧ Hid (goesOnK (a.drop k) (b.drop k) = goesOnK a b ∧ Below w.heap.size w wr)) (fun i _ => n - (intOf i).toNat)
  case atStart => exact ⟨0, Nat.zero_le _, rfl, rfl, Below.refl _ _⟩
  case round =>
    obtain ⟨k, hk, rfl, hR⟩ := hrel
    by_cases hlt : k < n
    · obtain ⟨c0, c1, c2, c3⟩ := (H.out k hlt).below hg hR.out.2
      obtain ⟨e0, e1, e2, e3⟩ := (H'.out k hlt).below hg' hR.out.2
      obtain ⟨x, hx⟩ : ∃ x, x = bat a k := ⟨_, rfl⟩
      obtain ⟨y, hy⟩ : ∃ y, y = bat b k := ⟨_, rfl⟩
      rw [← hx] at c0 c1 c2 c3
      rw [← hy] at e0 e1 e2 e3
      have HS : Hid (goesOnK a b = (x.same ⟨y.x0, y.y1, y.x1, x.y1⟩ && goesOnK (a.drop (k + 1)) (b.drop (k + 1)))) := by
        unfold Hid; rw [← hR.out.1]; exact goesOnK_step (by rw [hla.out]; exact hlt) (by rw [hlb.out]; exact hlt) hx.symm hy.symm
      have hbl := hR.out.2
      have hsz := hbl.size
      have hgr : g < wr.heap.size := by omega
      have hgr' : g' < wr.heap.size := by omega
      have HBL : Hid (Below w.heap.size w wr) := hbl
      clear hx hy hR hbl
      have b0 : (0 : Int) ≤ (k : Int) := by omega
      have b1 : (k : Int) < (n : Int) := by omega
      cases d1 : x.same ⟨y.x0, y.y1, y.x1, x.y1⟩ with
      | false =>
        have hq := box_neq x.x0 x.y0 x.x1 x.y1 y.x0 y.y1 y.x1 x.y1 false d1
        have HD : Hid (x.same ⟨y.x0, y.y1, y.x1, x.y1⟩ = false) := d1
        clear d1
        go_wp2
        go_returns
        refine ⟨by rw [HS.out, HD.out]; rfl, ?_⟩
        have hbl := HBL.out
        (repeat' (first | (with_reducible exact Below.refl _ _) | (with_reducible assumption) | (with_reducible refine Below.setCell ?_ ?_ _) | (with_reducible refine Below.alloc ?_ ?_ _) | (with_reducible refine below_drewN ?_ _) | (with_reducible refine Below.drew ?_) | (with_reducible exact Nat.le_refl _) | omega | (simp; done) | (simp; omega)))
      | true =>
        have hq := box_neq x.x0 x.y0 x.x1 x.y1 y.x0 y.y1 y.x1 x.y1 true d1
        have HD : Hid (x.same ⟨y.x0, y.y1, y.x1, x.y1⟩ = true) := d1
        clear d1
        go_wp2
        go_roundw
        case rel =>
          have hbl := HBL.out
          exact ⟨k + 1, by omega, by go_num, by rw [HS.out, HD.out]; rfl, by (repeat' (first | (with_reducible exact Below.refl _ _) | (with_reducible assumption) | (with_reducible refine Below.setCell ?_ ?_ _) | (with_reducible refine Below.alloc ?_ ?_ _) | (with_reducible refine below_drewN ?_ _) | (with_reducible refine Below.drew ?_) | (with_reducible exact Nat.le_refl _) | omega | (simp; done) | (simp; omega)))⟩
        case measure => simp [intOf]; omega
    · have e : Hid (goesOnK a b = true) := by
        unfold Hid
        rw [← hR.out.1, List.drop_eq_nil_of_le (by rw [hla.out]; omega), List.drop_eq_nil_of_le (by rw [hlb.out]; omega)]; rfl
      go_wp2
      go_returns
      exact ⟨by rw [e.out]; rfl, hR.out.2⟩

theorem impl_goesOn {w : World} {va vb : Value} {a b : List Bx} (hn : a.length ≤ 1099511627776) (ha : RB w va a) (hb : RB w vb b) :
    Calls Try.prog 54 #[va, vb] w fun e w' => e = .returned (.bool (goesOnK a b)) ∧ Below w.heap.size w w' := by
  by_cases hl : a.length = b.length
  · rcases Nat.eq_zero_or_pos a.length with h0 | hp
    · obtain rfl : a = [] := List.length_eq_zero_iff.1 h0
      obtain rfl : b = [] := List.length_eq_zero_iff.1 (by omega)
      obtain ⟨x, c, rfl⟩ := ha.form
      obtain ⟨y, d, rfl⟩ := hb.form
      exact impl_goesOn_zero x y c d w
    · obtain ⟨g, o, c, rfl, hg, hj⟩ := ha.pos hp
      obtain ⟨g', o', c', rfl, hg', hj'⟩ := hb.pos (by omega)
      rw [← hl] at hj' ⊢
      exact impl_goesOn_pos g o c g' o' c' _ a b w rfl hl.symm hn hg hg' hj hj'
  · obtain ⟨x, c, rfl⟩ := ha.form
    obtain ⟨y, d, rfl⟩ := hb.form
    rw [goesOnK_len a b hl]
    exact impl_goesOn_len x y _ _ c d w (by omega)

end Go.Proofs.Ytmpbcdolikafpaa
