/- Proved here: two boxes compared. No condition. (And ahead of it: Proved here: the model's list of the boxes that have a row.) (And ahead of it: Proved here: the program's list of the edges that cross a row.) -/
import Derived.Test.YtmdijanohjkeeaaEdBase
import Derived.Deep.AppendLies
import Derived.Test.YtmdijanohjkeeaaBxL
import Derived.Laws.StructEq
namespace Go.Proofs.Ytmdijanohjkeeaa
open Go.RowKit
set_option linter.unusedVariables false
set_option linter.unusedSimpArgs false

theorem cross_hit {s : List Ed} {y z : Int} {k : Nat} {b : Ed} (h : k < s.length) (hb : eat s k = b) (h0 : b.y0 ≤ y) (h1 : z ≤ b.y1) : crossK y z (s.take (k + 1)) = crossK y z (s.take k) ++ [b] := by
  rw [take_eat h, hb]; simp [crossK, List.filter_append, h0, h1]
theorem cross_miss {s : List Ed} {y z : Int} {k : Nat} {b : Ed} (h : k < s.length) (hb : eat s k = b) (h0 : ¬ (b.y0 ≤ y ∧ z ≤ b.y1)) : crossK y z (s.take (k + 1)) = crossK y z (s.take k) := by
  rw [take_eat h, hb]; simp [crossK, List.filter_append]
  omega
theorem crossK_length (s : List Ed) (y z : Int) : (crossK y z s).length ≤ s.length := List.length_filter_le _ _

set_option maxHeartbeats 800000 in
theorem impl_cross_zero (a : Option Addr) (c : Nat) (y z : Int) (w : World) :
    Calls Try.prog 58 #[.slice a 0 c, .int .i64 y, .int .i64 z] w fun e w' => ∃ v, e = .returned v ∧ ES w' w.heap.size v [] ∧ Below w.heap.size w w' := by
  go_enter Try.func58, Try.ntmps58
  go_wp2
  refine wp_loop_rounds 1 ?_
  rw [rounds_succ]
  go_wp2
  go_returns
  exact ⟨_, rfl, ES.nil w _, by (repeat' (first | (with_reducible exact Below.refl _ _) | (with_reducible assumption) | (with_reducible refine Below.setCell ?_ ?_ _) | (with_reducible refine Below.alloc ?_ ?_ _) | (with_reducible refine below_drewN ?_ _) | (with_reducible refine Below.drew ?_) | (with_reducible exact Nat.le_refl _) | omega | (simp; done) | (simp; omega)))⟩

set_option maxRecDepth 10000 in
set_option maxHeartbeats 1600000 in
theorem impl_cross_pos (g o c n : Nat) (s : List Ed) (y z : Int) (w : World) (hl : Hid (s.length = n)) (hn : n ≤ 1000000) (hg : g < w.heap.size) (h : ∀ j, j < n → EAt w g (o + j * 5) (eat s j)) :
    Calls Try.prog 58 #[.slice (some ⟨g, o, none⟩) n c, .int .i64 y, .int .i64 z] w fun e w' => ∃ v, e = .returned v ∧ ES w' w.heap.size v (crossK y z s) ∧ Below w.heap.size w w' := by
  have H : Hid _ := h
  clear h
  obtain ⟨i0, hi, hz0, hz1, hz2⟩ := info_parts info_edge
  go_enter Try.func58, Try.ntmps58
  go_wp2
  go_loopw [7, 12] (fun v i wr => ∃ k : Nat, k ≤ n ∧ i = .int .i64 k ∧ Hid (ES wr w.heap.size v (crossK y z (s.take k)) ∧ Below w.heap.size w wr)) (fun _ i _ => n - (intOf i).toNat)
  case atStart => exact ⟨0, Nat.zero_le _, rfl, ES.nil w _, Below.refl _ _⟩
  case round =>
    obtain ⟨k, hk, rfl, hR⟩ := hrel
    obtain ⟨hbs, hbl⟩ := hR.out
    clear hR
    by_cases hlt : k < n
    · have hk' : Hid (k < s.length) := by unfold Hid; rw [hl.out]; exact hlt
      obtain ⟨c0, c1, c2, c3, c4⟩ := (H.out k hlt).below hg hbl
      generalize hb : eat s k = b at c0 c1 c2 c3 c4
      have HB : Hid (eat s k = b) := hb
      clear hb
      have hlen : (crossK y z (s.take k)).length ≤ n := Nat.le_trans (crossK_length _ _ _) (by rw [List.length_take]; omega)
      have hsz := hbl.size
      have hgr : g < wr.heap.size := by omega
      have b0 : (0 : Int) ≤ (k : Int) := by omega
      have b1 : (k : Int) < (n : Int) := by omega
      have HBS : Hid (ES wr w.heap.size _ (crossK y z (s.take k))) := hbs
      have HBL : Hid (Below w.heap.size w wr) := hbl
      clear hbs hbl
      go_wp2_with (at_builtin; refine wpList_append_own _ rfl _ _ 86 rfl w.heap.size 96 i0 (.agg #[.int .i64 0, .int .i64 0, .int .i64 0, .int .i64 0, .int .i64 0]) 5 40 Try.underlying86 hi hz0 hz1 hz2 rfl (by decide) _ _ _ rfl (World.ownsRow.alloc (World.ownsRow.alloc HBS.out _) _) ⟨wr.heap.size + 1, 0, none⟩ 1 1 (ecells b) rfl rfl (World.news_of_block (cs := #[.int .i64 b.x, .int .i64 b.y0, .int .i64 b.y1, .int .i64 b.f, .int .i64 b.s]) (t := 96) (fr := (0, 0)) (by have := heap_alloc_new (wr.alloc (.cells #[.int .i64 b.x, .int .i64 b.y0, .int .i64 b.y1, .int .i64 b.f, .int .i64 b.s] 96)) (.cells #[.int .i64 b.x, .int .i64 b.y0, .int .i64 b.y1, .int .i64 b.f, .int .i64 b.s] 96); simpa using this)) (by simp [ecells, Value.oneCell']) (by unfold maxLen; omega) (by omega) (by simp; omega) ?_; intro v' w1 hown1 hgrow1 _)
      · have R : Hid (ES w1 w.heap.size v' (crossK y z (s.take (k + 1))) ∧ Below w.heap.size w w1) := by
          unfold Hid
          rw [cross_hit hk'.out HB.out (by assumption) (by assumption)]
          exact pushE (World.ownsRow.alloc HBS.out _) (Nat.le_refl _) (HBL.out.alloc hsz _) (by simp; omega) hown1 hgrow1
        clear hown1 hgrow1
        go_roundw
        case rel => exact ⟨k + 1, by omega, by go_num, R.out⟩
        case measure => simp [intOf]; omega
      all_goals
        go_roundw
        case rel => exact ⟨k + 1, by omega, by go_num, by rw [cross_miss hk'.out HB.out (by omega)]; exact World.ownsRow.alloc HBS.out _, HBL.out.alloc hsz _⟩
        case measure => simp [intOf]; omega
    · have HR : Hid (ES wr w.heap.size _ (crossK y z (s.take k)) ∧ Below w.heap.size w wr) := ⟨hbs, hbl⟩
      have e : Hid (s.take k = s) := List.take_of_length_le (by rw [hl.out]; omega)
      clear hbs hbl
      go_wp2
      go_returns
      rw [← e.out]
      exact ⟨_, rfl, HR.out.1, HR.out.2⟩

theorem impl_cross {w : World} {v : Value} {s : List Ed} (y z : Int) (hn : s.length ≤ 1000000) (h : RE w v s) :
    Calls Try.prog 58 #[v, .int .i64 y, .int .i64 z] w fun e w' => ∃ v', e = .returned v' ∧ ES w' w.heap.size v' (crossK y z s) ∧ Below w.heap.size w w' := by
  rcases Nat.eq_zero_or_pos s.length with h0 | hp
  · obtain rfl : s = [] := List.length_eq_zero_iff.1 h0
    obtain ⟨a, c, rfl⟩ := h.form
    exact impl_cross_zero a c y z w
  · obtain ⟨g, o, c, rfl, hg, hj⟩ := h.pos hp
    exact impl_cross_pos g o c _ s y z w rfl hn hg hj

end Go.Proofs.Ytmdijanohjkeeaa

namespace Go.Proofs.Ytmdijanohjkeeaa
open Go.RowKit
set_option linter.unusedVariables false
set_option linter.unusedSimpArgs false

theorem row_hit {s : List Bx} {y : Int} {k : Nat} {b : Bx} (h : k < s.length) (hb : bat s k = b) (h0 : b.y0 ≤ y) (h1 : y < b.y1) : rowK (s.take (k + 1)) y = rowK (s.take k) y ++ [b] := by
  rw [take_bat h, hb]; simp [rowK, List.filter_append, h0, h1]
theorem row_miss {s : List Bx} {y : Int} {k : Nat} {b : Bx} (h : k < s.length) (hb : bat s k = b) (h0 : ¬ (b.y0 ≤ y ∧ y < b.y1)) : rowK (s.take (k + 1)) y = rowK (s.take k) y := by
  rw [take_bat h, hb]; simp [rowK, List.filter_append]
  omega
theorem rowK_length (s : List Bx) (y : Int) : (rowK s y).length ≤ s.length := List.length_filter_le _ _

/-- Behind the append of one box. -/
theorem push_step {w wr w1 : World} {A B : Nat} {v v' : Value} {s : List Bx} {b : Bx} {ob : Obj} (hbs : BS wr A v s) (hab : B ≤ A) (hbl : Below B w wr) (hs : B ≤ wr.heap.size)
    (h : w1.ownsRow A 33 4 v' (s.length + 1) (bflat s ++ bcells b)) (hg : (wr.alloc ob).grownBy w1 v.ownBlock) : BS w1 A v' (s ++ [b]) ∧ Below B w w1 := by
  refine ⟨?_, (hbl.alloc hs ob).grown hg (by simp; omega) (fun k hk => Nat.le_trans hab (World.ownsRow.lt hbs k hk).1)⟩
  unfold BS
  rw [bflat_append, List.length_append]
  exact h

set_option maxHeartbeats 800000 in
theorem spec_row_zero (a : Option Addr) (c : Nat) (y : Int) (w : World) :
    Calls Try.prog 37 #[.slice a 0 c, .int .i64 y] w fun e w' => ∃ v, e = .returned v ∧ BS w' w.heap.size v [] ∧ Below w.heap.size w w' := by
  go_enter Try.func37, Try.ntmps37
  go_wp2
  refine wp_loop_rounds 1 ?_
  rw [rounds_succ]
  go_wp2
  go_returns
  exact ⟨_, rfl, BS.lit0 w _ (Nat.le_refl _), by (repeat' (first | (with_reducible exact Below.refl _ _) | (with_reducible assumption) | (with_reducible refine Below.setCell ?_ ?_ _) | (with_reducible refine Below.alloc ?_ ?_ _) | (with_reducible refine below_drewN ?_ _) | (with_reducible refine Below.drew ?_) | (with_reducible exact Nat.le_refl _) | omega | (simp; done) | (simp; omega)))⟩

set_option maxRecDepth 10000 in
set_option maxHeartbeats 1600000 in
theorem spec_row_pos (g o c n : Nat) (s : List Bx) (y : Int) (w : World) (hl : Hid (s.length = n)) (hn : n ≤ 1000000) (hg : g < w.heap.size) (h : ∀ j, j < n → BAt w g (o + j * 4) (bat s j)) :
    Calls Try.prog 37 #[.slice (some ⟨g, o, none⟩) n c, .int .i64 y] w fun e w' => ∃ v, e = .returned v ∧ BS w' w.heap.size v (rowK s y) ∧ Below w.heap.size w w' := by
  have H : Hid _ := h
  clear h
  obtain ⟨i0, hi, hz0, hz1, hz2⟩ := info_parts info_box
  go_enter Try.func37, Try.ntmps37
  go_wp2
  go_loopw [5, 6] (fun v i wr => ∃ k : Nat, k ≤ n ∧ i = .int .i64 k ∧ Hid (BS wr w.heap.size v (rowK (s.take k) y) ∧ Below w.heap.size w wr)) (fun _ i _ => n - (intOf i).toNat)
  case atStart => exact ⟨0, Nat.zero_le _, rfl, BS.lit0 w _ (Nat.le_refl _), by (repeat' (first | (with_reducible exact Below.refl _ _) | (with_reducible assumption) | (with_reducible refine Below.setCell ?_ ?_ _) | (with_reducible refine Below.alloc ?_ ?_ _) | (with_reducible refine below_drewN ?_ _) | (with_reducible refine Below.drew ?_) | (with_reducible exact Nat.le_refl _) | omega | (simp; done) | (simp; omega)))⟩
  case round =>
    obtain ⟨k, hk, rfl, hR⟩ := hrel
    obtain ⟨hbs, hbl⟩ := hR.out
    clear hR
    by_cases hlt : k < n
    · have hk' : Hid (k < s.length) := by unfold Hid; rw [hl.out]; exact hlt
      obtain ⟨c0, c1, c2, c3⟩ := (H.out k hlt).below hg hbl
      generalize hb : bat s k = b at c0 c1 c2 c3
      have HB : Hid (bat s k = b) := hb
      clear hb
      have hlen : (rowK (s.take k) y).length ≤ n := Nat.le_trans (rowK_length _ _) (by rw [List.length_take]; omega)
      have hsz := hbl.size
      have b0 : (0 : Int) ≤ (k : Int) := by omega
      have b1 : (k : Int) < (n : Int) := by omega
      have HBS : Hid (BS wr w.heap.size _ (rowK (s.take k) y)) := hbs
      have HBL : Hid (Below w.heap.size w wr) := hbl
      clear hbs hbl
      go_wp2_with (at_builtin; refine wpList_append_own _ rfl _ _ 69 rfl w.heap.size 33 i0 (.agg #[.int .i64 0, .int .i64 0, .int .i64 0, .int .i64 0]) 4 32 Try.underlying69 hi hz0 hz1 hz2 rfl (by decide) _ _ _ rfl (World.ownsRow.alloc HBS.out _) ⟨wr.heap.size, 0, none⟩ 1 1 (bcells b) rfl rfl (World.news_of_block (cs := #[.int .i64 b.x0, .int .i64 b.y0, .int .i64 b.x1, .int .i64 b.y1]) (t := 33) (fr := (0, 0)) (heap_alloc_new wr _)) (by simp [bcells, Value.oneCell']) (by unfold maxLen; omega) (by omega) (by simp; omega) ?_; intro v' w1 hown1 hgrow1 _)
      · have R : Hid (BS w1 w.heap.size v' (rowK (s.take (k + 1)) y) ∧ Below w.heap.size w w1) := by
          unfold Hid
          rw [row_hit hk'.out HB.out (by assumption) (by assumption)]
          exact push_step HBS.out (Nat.le_refl _) HBL.out hsz hown1 hgrow1
        clear hown1 hgrow1
        go_wp2
        go_roundw
        case rel => exact ⟨k + 1, by omega, by go_num, R.out⟩
        case measure => simp [intOf]; omega
      all_goals
        go_roundw
        case rel => exact ⟨k + 1, by omega, by go_num, by rw [row_miss hk'.out HB.out (by omega)]; exact HBS.out, HBL.out⟩
        case measure => simp [intOf]; omega
    · have HR : Hid (BS wr w.heap.size _ (rowK (s.take k) y) ∧ Below w.heap.size w wr) := ⟨hbs, hbl⟩
      have e : Hid (s.take k = s) := List.take_of_length_le (by rw [hl.out]; omega)
      clear hbs hbl
      go_wp2
      go_returns
      rw [← e.out]
      exact ⟨_, rfl, HR.out.1, HR.out.2⟩

theorem spec_row {w : World} {v : Value} {s : List Bx} (y : Int) (hn : s.length ≤ 1000000) (h : RB w v s) :
    Calls Try.prog 37 #[v, .int .i64 y] w fun e w' => ∃ v', e = .returned v' ∧ BS w' w.heap.size v' (rowK s y) ∧ Below w.heap.size w w' := by
  rcases Nat.eq_zero_or_pos s.length with h0 | hp
  · obtain rfl : s = [] := List.length_eq_zero_iff.1 h0
    obtain ⟨a, c, rfl⟩ := h.form
    exact spec_row_zero a c y w
  · obtain ⟨g, o, c, rfl, hg, hj⟩ := h.pos hp
    exact spec_row_pos g o c _ s y w rfl hn hg hj

end Go.Proofs.Ytmdijanohjkeeaa

namespace Go.Proofs.Ytmdijanohjkeeaa
open Go.RowKit
set_option linter.unusedVariables false
set_option linter.unusedSimpArgs false

def bagg (b : Bx) : Value := .agg #[.int .i64 b.x0, .int .i64 b.y0, .int .i64 b.x1, .int .i64 b.y1]
theorem box_guard : Try.prog.eqGuardType Try.prog.depth 33 = false := by kernel_rfl
theorem box_neq (a b c d e f g h : Int) (r : Bool) (hr : Bx.same ⟨a, b, c, d⟩ ⟨e, f, g, h⟩ = r) (w : World) : (binOp .neq 33 (.agg #[.int .i64 a, .int .i64 b, .int .i64 c, .int .i64 d]) (.agg #[.int .i64 e, .int .i64 f, .int .i64 g, .int .i64 h])).run Try.prog w = .ok (.bool (!r)) w := by
  have u3 := Try.underlying2
  have a3 := Try.isAgg2
  have z3 := Try.sizeOf2
  have hS : Try.prog.underlying 33 = some (.struct (Try.prog.fieldsOf 33)) := by kernel_rfl
  have hp : Try.prog.stoodInHeld 33 = false := by kernel_rfl
  subst hr
  rw [run_neq_struct, show (10000 : Nat) = 9999 + 1 from rfl, run_equalIn_agg w 9999 33 _ _ hS hp]
  simp only [Program.fieldsOf, Try.underlying33]
  unfold Bx.same
  go_simp
  by_cases h1 : a = e <;> by_cases h2 : b = f <;> by_cases h3 : c = g <;> by_cases h4 : d = h <;> simp [h1, h2, h3, h4]


end Go.Proofs.Ytmdijanohjkeeaa
