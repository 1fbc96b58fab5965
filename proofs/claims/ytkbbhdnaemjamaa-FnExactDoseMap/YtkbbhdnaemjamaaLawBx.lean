/- Proved here: what the laws' package's small functions on boxes do (hand a box on, copy a list of them, count, compare). -/
import Derived.Test.YtkbbhdnaemjamaaBoxBase
import Derived.OpenShut
import Derived.Lib.SmallJoins
namespace Go.Proofs.Ytkbbhdnaemjamaa
open Go.ChangeShapes Go.WideShapes Go.ChangeAt Go.RowKit Go.Joins
set_option linter.unusedVariables false
set_option linter.unusedSimpArgs false

set_option maxHeartbeats 1600000 in
theorem toBox_any (b : Bx) (w : World) :
    Calls Try.prog 28 #[.agg #[.int .i64 b.x0, .int .i64 b.y0, .int .i64 b.x1, .int .i64 b.y1]] w fun e w' => e = .returned (.agg #[.int .i64 b.x0, .int .i64 b.y0, .int .i64 b.x1, .int .i64 b.y1]) ∧ Below w.heap.size w w' := by
  go_enter Try.func28, Try.ntmps28
  go_wp2
  go_returns
  exact ⟨rfl, by (repeat' (first | (with_reducible exact Below.refl _ _) | (with_reducible assumption) | (with_reducible refine Below.setCell ?_ ?_ _) | (with_reducible refine Below.alloc ?_ ?_ _) | (with_reducible refine below_drewN ?_ _) | (with_reducible refine Below.drew ?_) | (with_reducible exact Nat.le_refl _) | omega | (simp; done) | (simp; omega)))⟩

set_option maxHeartbeats 800000 in
theorem szBoxS_many (a : Option Addr) (n c : Nat) (w : World) (h : (1048576 : Int) < (n : Int)) (h2 : (n : Int) ≤ 9223372036854775807) :
    Calls Try.prog 16 #[.slice a n c, .int .i64 1048576] w fun e w' => e = .returned (.int .i64 (-1)) ∧ w' = w := by
  have hw : IntKind.i64.wrap (1048576 - (n : Int)) = 1048576 - (n : Int) := by rw [IntKind.wrap_i64]; omega
  have hn : 1048576 - (n : Int) < 0 := by omega
  go_enter Try.func16, Try.ntmps16
  go_wp2
  go_returns
  exact ⟨rfl, rfl⟩
set_option maxHeartbeats 800000 in
theorem szBoxS_few (a : Option Addr) (n c : Nat) (w : World) (h : (n : Int) ≤ 1048576) :
    Calls Try.prog 16 #[.slice a n c, .int .i64 1048576] w fun e w' => e = .returned (.int .i64 (1048576 - n)) ∧ w' = w := by
  have hw : IntKind.i64.wrap (1048576 - (n : Int)) = 1048576 - (n : Int) := by rw [IntKind.wrap_i64]; omega
  have hn : ¬ 1048576 - (n : Int) < 0 := by omega
  go_enter Try.func16, Try.ntmps16
  go_wp2
  go_returns
  exact ⟨rfl, rfl⟩

set_option maxHeartbeats 1600000 in
theorem eqBox_same (b : Bx) (w : World) :
    Calls Try.prog 47 #[.agg #[.int .i64 b.x0, .int .i64 b.y0, .int .i64 b.x1, .int .i64 b.y1], .agg #[.int .i64 b.x0, .int .i64 b.y0, .int .i64 b.x1, .int .i64 b.y1]] w fun e w' => e = .returned (.bool true) ∧ Below w.heap.size w w' := by
  go_enter Try.func47, Try.ntmps47
  go_wp2
  go_returns
  exact ⟨rfl, by (repeat' (first | (with_reducible exact Below.refl _ _) | (with_reducible assumption) | (with_reducible refine Below.setCell ?_ ?_ _) | (with_reducible refine Below.alloc ?_ ?_ _) | (with_reducible refine below_drewN ?_ _) | (with_reducible refine Below.drew ?_) | (with_reducible exact Nat.le_refl _) | omega | (simp; done) | (simp; omega)))⟩

theorem four_sets {w : World} {B g n T : Nat} {ys : List Value} (h : w.ownsRow B T 4 (.slice (some ⟨g, 0, none⟩) n n) n ys) (k : Nat) (a b c d : Value) :
    ((((w.setCell ⟨g, k * 4, none⟩ a).setCell ⟨g, k * 4 + 1, none⟩ b).setCell ⟨g, k * 4 + 2, none⟩ c).setCell ⟨g, k * 4 + 3, none⟩ d).ownsRow B T 4 (.slice (some ⟨g, 0, none⟩) n n) n ((((ys.set (k * 4) a).set (k * 4 + 1) b).set (k * 4 + 2) c).set (k * 4 + 3) d) :=
  ((((h.stored (k * 4) a).1.stored (k * 4 + 1) b).1.stored (k * 4 + 2) c).1.stored (k * 4 + 3) d).1
theorem four_get {ys : List Value} {s : List Bx} {n k : Nat} {b : Bx} (hl : ys.length = n * 4) (hk : k < s.length) (hn : n = s.length) (hb : b = bat s k) (h : ∀ t, t < k * 4 → ys[t]? = (bflat s)[t]?) :
    ∀ t, t < (k + 1) * 4 → ((((ys.set (k * 4) (.int .i64 b.x0)).set (k * 4 + 1) (.int .i64 b.y0)).set (k * 4 + 2) (.int .i64 b.x1)).set (k * 4 + 3) (.int .i64 b.y1))[t]? = (bflat s)[t]? := by
  intro t ht
  rcases Nat.lt_or_ge t (k * 4) with h1 | h1
  · rw [List.getElem?_set_ne (by omega), List.getElem?_set_ne (by omega), List.getElem?_set_ne (by omega), List.getElem?_set_ne (by omega)]
    exact h t h1
  · obtain ⟨i, hi, rfl⟩ : ∃ i, i < 4 ∧ t = k * 4 + i := ⟨t - k * 4, by omega, by omega⟩
    rw [bflat_get s k i hk hi, ← hb]
    have hlt : k * 4 + 3 < ys.length := by omega
    rcases (by omega : i = 0 ∨ i = 1 ∨ i = 2 ∨ i = 3) with rfl | rfl | rfl | rfl
    · rw [List.getElem?_set_ne (by omega), List.getElem?_set_ne (by omega), List.getElem?_set_ne (by omega), Nat.add_zero, List.getElem?_set_self (by omega)]; rfl
    · rw [List.getElem?_set_ne (by omega), List.getElem?_set_ne (by omega), List.getElem?_set_self (by simp; omega)]; rfl
    · rw [List.getElem?_set_ne (by omega), List.getElem?_set_self (by simp; omega)]; rfl
    · rw [List.getElem?_set_self (by simp; omega)]; rfl

set_option maxRecDepth 10000 in
set_option maxHeartbeats 1600000 in
theorem toBoxS_any {w : World} {v : Value} {s : List Bx} (hn : s.length ≤ 1048576) (h : RB w v s) :
    Calls Try.prog 18 #[v] w fun e w' => ∃ g, e = .returned (.slice (some ⟨g, 0, none⟩) s.length s.length) ∧ BS w' w.heap.size (.slice (some ⟨g, 0, none⟩) s.length s.length) s ∧ Below w.heap.size w w' := by
  obtain ⟨a, c, rfl⟩ := h.form
  have H : Hid (RB w (.slice a s.length c) s) := h
  clear h
  obtain ⟨i0, hi, hz0, hz1, hz2⟩ := info_parts info_box
  obtain ⟨n, hnn⟩ : ∃ n, n = s.length := ⟨_, rfl⟩
  have HN : Hid (n = s.length) := hnn
  rw [← hnn] at hn H ⊢
  clear hnn
  go_enter Try.func18, Try.ntmps18
  go_wp2_with (at_make; refine wpList_make_full _ rfl _ _ 41 rfl w.heap.size 34 i0 (.agg #[.int .i64 0, .int .i64 0, .int .i64 0, .int .i64 0]) 4 Try.underlying41 hi hz0 hz1 _ _ _ _ n rfl rfl rfl rfl (by rw [hz2]; omega) (by unfold maxLen; omega) (Nat.le_refl _) ?_; intro w2 hown2 hgrow2)
  have hb2 : Below w.heap.size w w2 := (Below.refl _ _).grown hgrow2 (Nat.le_refl _) (fun k h => by cases h)
  go_loopw [4] (fun i wr => ∃ k : Nat, k ≤ n ∧ i = .int .i64 k ∧ Hid (∃ ys : List Value, ys.length = n * 4 ∧ (∀ t, t < k * 4 → ys[t]? = (bflat s)[t]?) ∧ wr.ownsRow w.heap.size 34 4 (.slice (some ⟨w.heap.size, 0, none⟩) n n) n ys ∧ Below w.heap.size w wr)) (fun i _ => n - (intOf i).toNat)
  case atStart => exact ⟨0, Nat.zero_le _, rfl, _, hown2.1, fun t ht => by omega, hown2, hb2⟩
  case round =>
    clear hown2 hgrow2 hb2
    obtain ⟨k, hk, rfl, hR⟩ := hrel
    by_cases hlt : k < n
    · obtain ⟨ys, hyl, hyt, hown, hbl⟩ := hR.out
      obtain ⟨g, o, c2, he, hg, hj⟩ := H.out.pos (by rw [← HN.out]; omega)
      injection he with e1 e2 e3
      clear e2
      subst e1 e3
      obtain ⟨c0, c1, c2, c3⟩ := (hj k (by rw [← HN.out]; exact hlt)).below hg hbl
      obtain ⟨b, hb⟩ : ∃ b, b = bat s k := ⟨_, rfl⟩
      rw [← hb] at c0 c1 c2 c3
      have HB : Hid (b = bat s k) := hb
      clear hb hR hj
      have HO : Hid (ys.length = n * 4 ∧ (∀ t, t < k * 4 → ys[t]? = (bflat s)[t]?) ∧ wr.ownsRow w.heap.size 34 4 (.slice (some ⟨w.heap.size, 0, none⟩) n n) n ys ∧ Below w.heap.size w wr) := ⟨hyl, hyt, hown, hbl⟩
      clear hyl hyt hown hbl
      have b0 : (0 : Int) ≤ (k : Int) := by omega
      have b1 : (k : Int) < (n : Int) := by omega
      go_wp2_with (fail)
      refine (toBox_any b _).mono ?_
      rintro e w3 ⟨rfl, hb3⟩
      have hbl3 : Below w.heap.size w w3 := HO.out.2.2.2.trans (hb3.mono HO.out.2.2.2.size)
      have hown3 : w3.ownsRow w.heap.size 34 4 (.slice (some ⟨w.heap.size, 0, none⟩) n n) n ys := HO.out.2.2.1.kept (row := none) ⟨hb3.os, hb3.tape, hb3.output, hb3.size, fun k hk _ => hb3.block k hk⟩ (Or.inr (by simp [Value.ownBlock]))
      have f0 := hown3.frozenAt (k * 4)
      have f1 := hown3.frozenAt (k * 4 + 1)
      have f2 := hown3.frozenAt (k * 4 + 2)
      have f3 := hown3.frozenAt (k * 4 + 3)
      have g0 : w3.cell? ⟨w.heap.size, k * 4, none⟩ = some (ys.getD (k * 4) (.bool false)) := by rw [hown3.cellAt _ (by omega)]; simp [HO.out.1, show k * 4 < n * 4 by omega]
      have g1 : w3.cell? ⟨w.heap.size, k * 4 + 1, none⟩ = some (ys.getD (k * 4 + 1) (.bool false)) := by rw [hown3.cellAt _ (by omega)]; simp [HO.out.1, show k * 4 + 1 < n * 4 by omega]
      have g2 : w3.cell? ⟨w.heap.size, k * 4 + 2, none⟩ = some (ys.getD (k * 4 + 2) (.bool false)) := by rw [hown3.cellAt _ (by omega)]; simp [HO.out.1, show k * 4 + 2 < n * 4 by omega]
      have g3 : w3.cell? ⟨w.heap.size, k * 4 + 3, none⟩ = some (ys.getD (k * 4 + 3) (.bool false)) := by rw [hown3.cellAt _ (by omega)]; simp [HO.out.1, show k * 4 + 3 < n * 4 by omega]
      have HO3 : Hid (w3.ownsRow w.heap.size 34 4 (.slice (some ⟨w.heap.size, 0, none⟩) n n) n ys ∧ Below w.heap.size w w3) := ⟨hown3, hbl3⟩
      clear hown3 hbl3 hb3 c0 c1 c2 c3
      go_wp2
      go_roundw
      case rel =>
        refine ⟨k + 1, by omega, by go_num, _, ?_, ?_, four_sets HO3.out.1 k _ _ _ _, ?_⟩
        · simpa using HO.out.1
        · exact four_get HO.out.1 (by rw [← HN.out]; exact hlt) (by rw [HN.out]) HB.out HO.out.2.1
        · exact (((HO3.out.2.setCell (Nat.le_refl _) _).setCell (Nat.le_refl _) _).setCell (Nat.le_refl _) _).setCell (Nat.le_refl _) _
      case measure => simp [intOf]; omega
    · go_wp2
      go_returns
      obtain ⟨ys, hyl, hyt, hown, hbl⟩ := hR.out
      refine ⟨w.heap.size, rfl, ?_, hbl⟩
      have e : ys = bflat s := by
        apply List.ext_getElem?
        intro t
        rcases Nat.lt_or_ge t (n * 4) with ht | ht
        · exact hyt t (by omega)
        · rw [List.getElem?_eq_none (by omega), List.getElem?_eq_none (by rw [bflat_length, ← HN.out]; exact ht)]
      unfold BS
      rw [← e, ← HN.out]
      exact hown

set_option maxHeartbeats 800000 in
theorem eqBoxS_zero (a b : Option Addr) (c d : Nat) (w : World) :
    Calls Try.prog 21 #[.slice a 0 c, .slice b 0 d] w fun e w' => e = .returned (.bool true) ∧ Below w.heap.size w w' := by
  go_enter Try.func21, Try.ntmps21
  go_wp2
  refine wp_loop_rounds 1 ?_
  rw [rounds_succ]
  go_wp2
  go_returns
  exact ⟨rfl, Below.refl _ _⟩

set_option maxHeartbeats 1600000 in
theorem eqBoxS_pos (g o c g' o' c' n : Nat) (s : List Bx) (w : World) (hl : Hid (s.length = n)) (hn : n ≤ 1099511627776) (hg : g < w.heap.size) (hg' : g' < w.heap.size) (h : ∀ j, j < n → BAt w g (o + j * 4) (bat s j)) (h' : ∀ j, j < n → BAt w g' (o' + j * 4) (bat s j)) :
    Calls Try.prog 21 #[.slice (some ⟨g, o, none⟩) n c, .slice (some ⟨g', o', none⟩) n c'] w fun e w' => e = .returned (.bool true) ∧ Below w.heap.size w w' := by
  have H : Hid _ := h
  have H' : Hid _ := h'
  clear h h'
  go_enter Try.func21, Try.ntmps21
  go_wp2
  go_loopw [5] (fun i wr => ∃ k : Nat, k ≤ n ∧ i = .int .i64 k ∧ Hid (Below w.heap.size w wr)) (fun i _ => n - (intOf i).toNat)
  case atStart => exact ⟨0, Nat.zero_le _, rfl, Below.refl _ _⟩
  case round =>
    obtain ⟨k, hk, rfl, hR⟩ := hrel
    by_cases hlt : k < n
    · obtain ⟨c0, c1, c2, c3⟩ := (H.out k hlt).below hg hR.out
      obtain ⟨e0, e1, e2, e3⟩ := (H'.out k hlt).below hg' hR.out
      obtain ⟨x, hx⟩ : ∃ x, x = bat s k := ⟨_, rfl⟩
      rw [← hx] at c0 c1 c2 c3 e0 e1 e2 e3
      have hsz := hR.out.size
      have hgr : g < wr.heap.size := by omega
      have hgr' : g' < wr.heap.size := by omega
      have hcall : Hid (∀ W, Calls Try.prog 47 #[.agg #[.int .i64 x.x0, .int .i64 x.y0, .int .i64 x.x1, .int .i64 x.y1], .agg #[.int .i64 x.x0, .int .i64 x.y0, .int .i64 x.x1, .int .i64 x.y1]] W fun e w' => e = .returned (.bool true) ∧ Below W.heap.size W w') := eqBox_same x
      clear hx
      have b0 : (0 : Int) ≤ (k : Int) := by omega
      have b1 : (k : Int) < (n : Int) := by omega
      go_wp2_with (fail)
      (refine wp_region_und (by kernel_rfl) (by kernel_rfl) (fun hund => ?_); (repeat (go_big_quiet_step (first | (go_at_call 47; with_reducible refine und_call ?_ (hcall.out _); exact Nat.le_refl _)))); with_reducible refine wpQuiet_nil ?_; clear hund; intro W1 hb1; obtain ⟨hc1, hf1⟩ := bcell hb1)
      have HB : Hid (Below w.heap.size w W1) := hR.out.trans (hb1.mono hR.out.size)
      clear hb1 hc1 hf1
      go_wp2
      go_roundw
      case rel => exact ⟨k + 1, by omega, by go_num, HB.out⟩
      case measure => simp [intOf]; omega
    · go_wp2
      go_returns
      exact ⟨rfl, hR.out⟩

theorem eqBoxS_same {w : World} {va vb : Value} {s : List Bx} (hn : s.length ≤ 1099511627776) (ha : RB w va s) (hb : RB w vb s) :
    Calls Try.prog 21 #[va, vb] w fun e w' => e = .returned (.bool true) ∧ Below w.heap.size w w' := by
  rcases Nat.eq_zero_or_pos s.length with h0 | hp
  · obtain rfl : s = [] := List.length_eq_zero_iff.1 h0
    obtain ⟨x, c, rfl⟩ := ha.form
    obtain ⟨y, d, rfl⟩ := hb.form
    exact eqBoxS_zero x y c d w
  · obtain ⟨g, o, c, rfl, hg, hj⟩ := ha.pos hp
    obtain ⟨g', o', c', rfl, hg', hj'⟩ := hb.pos hp
    exact eqBoxS_pos g o c g' o' c' _ s w rfl hn hg hg' hj hj'

theorem own : ownKnob Try.prog.godebug = none := by kernel_rfl
theorem laidOut : laidOutB Try.prog = true := by kernel_rfl

end Go.Proofs.Ytkbbhdnaemjamaa
