/- Proved here: l6Error of the model: erA. (And ahead of it: Proved here: the model's list of the boxes that have a row. (And ahead of it: Proved here: the model's test whether a place is in a row.)) -/
import Derived.Test.YtmpbcdolikafpaaBoxBase
import Derived.Deep.AppendLies
import Derived.Test.YtmpbcdolikafpaaSeM
import Derived.Test.YtmpbcdolikafpaaSpS
namespace Go.Proofs.Ytmpbcdolikafpaa
open Go.RowKit
set_option linter.unusedVariables false
set_option linter.unusedSimpArgs false

theorem in_hit {s : List Bx} {x : Int} {k : Nat} {b : Bx} (h : k < s.length) (hb : bat s k = b) (hK : inK (s.drop k) x = inK s x) (h0 : b.x0 ≤ x) (h1 : x < b.x1) : inK s x = true := by
  rw [← hK, drop_bat h, hb]; simp [inK, h0, h1]
theorem in_miss {s : List Bx} {x : Int} {k : Nat} {b : Bx} (h : k < s.length) (hb : bat s k = b) (hK : inK (s.drop k) x = inK s x) (h0 : ¬ (b.x0 ≤ x ∧ x < b.x1)) : inK (s.drop (k + 1)) x = inK s x := by
  have e : (decide (b.x0 ≤ x) && decide (x < b.x1)) = false := by
    rw [Bool.eq_false_iff]; simpa using h0
  rw [← hK, drop_bat h, hb]; simp [inK, e]

set_option maxHeartbeats 800000 in
theorem spec_in_zero (a : Option Addr) (c : Nat) (x : Int) (w : World) :
    Calls Try.prog 31 #[.slice a 0 c, .int .i64 x] w fun e w' => e = .returned (.bool false) ∧ w' = w := by
  go_enter Try.func31, Try.ntmps31
  go_wp2
  refine wp_loop_rounds 1 ?_
  rw [rounds_succ]
  go_wp2
  go_returns
  exact ⟨rfl, rfl⟩

set_option maxHeartbeats 800000 in
theorem spec_in_pos (g o c n : Nat) (s : List Bx) (x : Int) (w : World) (hl : Hid (s.length = n)) (hn : n ≤ 1099511627776) (h : ∀ j, j < n → BAt w g (o + j * 4) (bat s j)) :
    Calls Try.prog 31 #[.slice (some ⟨g, o, none⟩) n c, .int .i64 x] w fun e w' => e = .returned (.bool (inK s x)) ∧ w' = w := by
  have H : Hid _ := h
  clear h
  go_enter Try.func31, Try.ntmps31
  go_wp2
  go_loop [5] (fun i => ∃ k : Nat, k ≤ n ∧ i = .int .i64 k ∧ Hid (inK (s.drop k) x = inK s x)) (fun i => n - (intOf i).toNat)
  case atStart => exact ⟨0, Nat.zero_le _, rfl, rfl⟩
  case round =>
    obtain ⟨k, hk, rfl, hK⟩ := hrel
    by_cases hlt : k < n
    · obtain ⟨c0, c1, c2, c3⟩ := H.out k hlt
      have hk' : Hid (k < s.length) := by unfold Hid; rw [hl.out]; exact hlt
      generalize hb : bat s k = b at c0 c1 c2 c3
      have HB : Hid (bat s k = b) := hb
      clear hb
      have b0 : (0 : Int) ≤ (k : Int) := by omega
      have b1 : (k : Int) < (n : Int) := by omega
      go_wp2
      all_goals first
        | (go_returns; exact ⟨by rw [in_hit hk'.out HB.out hK.out (by assumption) (by assumption)]; rfl, rfl⟩)
        | (go_round
           case rel => exact ⟨k + 1, by omega, by go_num, in_miss hk'.out HB.out hK.out (by omega)⟩
           case measure => simp [intOf]; omega)
    · have e : Hid (inK s x = false) := by
        unfold Hid
        rw [← hK.out, List.drop_eq_nil_of_le (by rw [hl.out]; omega)]; rfl
      go_wp2
      go_returns
      exact ⟨by rw [e.out]; rfl, rfl⟩

theorem spec_in {w : World} {v : Value} {s : List Bx} (x : Int) (hn : s.length ≤ 1099511627776) (h : RB w v s) :
    Calls Try.prog 31 #[v, .int .i64 x] w fun e w' => e = .returned (.bool (inK s x)) ∧ w' = w := by
  rcases Nat.eq_zero_or_pos s.length with h0 | hp
  · obtain rfl : s = [] := List.length_eq_zero_iff.1 h0
    obtain ⟨a, c, rfl⟩ := h.form
    exact spec_in_zero a c x w
  · obtain ⟨g, o, c, rfl, _, hj⟩ := h.pos hp
    exact spec_in_pos g o c _ s x w rfl hn hj

end Go.Proofs.Ytmpbcdolikafpaa

namespace Go.Proofs.Ytmpbcdolikafpaa
open Go.RowKit
set_option linter.unusedVariables false
set_option linter.unusedSimpArgs false

theorem row_hit {s : List Bx} {y : Int} {k : Nat} {b : Bx} (h : k < s.length) (hb : bat s k = b) (h0 : b.y0 ≤ y) (h1 : y < b.y1) : rowK (s.take (k + 1)) y = rowK (s.take k) y ++ [b] := by
  rw [take_bat h, hb]; simp [rowK, List.filter_append, h0, h1]
theorem row_miss {s : List Bx} {y : Int} {k : Nat} {b : Bx} (h : k < s.length) (hb : bat s k = b) (h0 : ¬ (b.y0 ≤ y ∧ y < b.y1)) : rowK (s.take (k + 1)) y = rowK (s.take k) y := by
  rw [take_bat h, hb]; simp [rowK, List.filter_append]
  omega
theorem rowK_length (s : List Bx) (y : Int) : (rowK s y).length ≤ s.length := List.length_filter_le _ _

/-- Behind the append of one box. -/
theorem push_step {w wr w1 : World} {A B : Nat} {v v' : Value} {s : List Bx} {b : Bx} {ob : Obj} (hbs : BS wr A v s) (hab : B ≤ A) (hbl : Below B w wr) (hs : B ≤ wr.heap.size)
    (h : w1.ownsRow A 34 4 v' (s.length + 1) (bflat s ++ bcells b)) (hg : (wr.alloc ob).grownBy w1 v.ownBlock) : BS w1 A v' (s ++ [b]) ∧ Below B w w1 := by
  refine ⟨?_, (hbl.alloc hs ob).grown hg (by simp; omega) (fun k hk => Nat.le_trans hab (World.ownsRow.lt hbs k hk).1)⟩
  unfold BS
  rw [bflat_append, List.length_append]
  exact h

set_option maxHeartbeats 800000 in
theorem spec_row_zero (a : Option Addr) (c : Nat) (y : Int) (w : World) :
    Calls Try.prog 32 #[.slice a 0 c, .int .i64 y] w fun e w' => ∃ v, e = .returned v ∧ BS w' w.heap.size v [] ∧ Below w.heap.size w w' := by
  go_enter Try.func32, Try.ntmps32
  go_wp2
  refine wp_loop_rounds 1 ?_
  rw [rounds_succ]
  go_wp2
  go_returns
  exact ⟨_, rfl, BS.lit0 w _ (Nat.le_refl _), by (repeat' (first | (with_reducible exact Below.refl _ _) | (with_reducible assumption) | (with_reducible refine Below.setCell ?_ ?_ _) | (with_reducible refine Below.alloc ?_ ?_ _) | (with_reducible refine below_drewN ?_ _) | (with_reducible refine Below.drew ?_) | (with_reducible exact Nat.le_refl _) | omega | (simp; done) | (simp; omega)))⟩

set_option maxRecDepth 10000 in
set_option maxHeartbeats 1600000 in
theorem spec_row_pos (g o c n : Nat) (s : List Bx) (y : Int) (w : World) (hl : Hid (s.length = n)) (hn : n ≤ 1000000) (hg : g < w.heap.size) (h : ∀ j, j < n → BAt w g (o + j * 4) (bat s j)) :
    Calls Try.prog 32 #[.slice (some ⟨g, o, none⟩) n c, .int .i64 y] w fun e w' => ∃ v, e = .returned v ∧ BS w' w.heap.size v (rowK s y) ∧ Below w.heap.size w w' := by
  have H : Hid _ := h
  clear h
  obtain ⟨i0, hi, hz0, hz1, hz2⟩ := info_parts info_box
  go_enter Try.func32, Try.ntmps32
  go_wp2
  go_loopw [5, 6] (fun v i wr => ∃ k : Nat, k ≤ n ∧ i = .int .i64 k ∧ Hid (BS wr w.heap.size v (rowK (s.take k) y) ∧ Below w.heap.size w wr)) (fun _ i _ => n - (intOf i).toNat)
  case atStart => exact ⟨0, Nat.zero_le _, rfl, BS.lit0 w _ (Nat.le_refl _), by (repeat' (first | (with_reducible exact Below.refl _ _) | (with_reducible assumption) | (with_reducible refine Below.setCell ?_ ?_ _) | (with_reducible refine Below.alloc ?_ ?_ _) | (with_reducible refine below_drewN ?_ _) | (with_reducible refine Below.drew ?_) | (with_reducible exact Nat.le_refl _) | omega | (simp; done) | (simp; omega)))⟩
  case round =>
    obtain ⟨k, hk, rfl, hR⟩ := hrel
    obtain ⟨hbs, hbl⟩ := hR.out
    clear hR
    by_cases hlt : k < n
    · have hk' : Hid (k < s.length) := by unfold Hid; rw [hl.out]; exact hlt
      obtain ⟨c0, c1, c2, c3⟩ := (H.out k hlt).below hg hbl
      generalize hb : bat s k = b at c0 c1 c2 c3
      have HB : Hid (bat s k = b) := hb
      clear hb
      have hlen : (rowK (s.take k) y).length ≤ n := Nat.le_trans (rowK_length _ _) (by rw [List.length_take]; omega)
      have hsz := hbl.size
      have b0 : (0 : Int) ≤ (k : Int) := by omega
      have b1 : (k : Int) < (n : Int) := by omega
      have HBS : Hid (BS wr w.heap.size _ (rowK (s.take k) y)) := hbs
      have HBL : Hid (Below w.heap.size w wr) := hbl
      clear hbs hbl
      go_wp2_with (at_builtin; refine wpList_append_own _ rfl _ _ 66 rfl w.heap.size 34 i0 (.agg #[.int .i64 0, .int .i64 0, .int .i64 0, .int .i64 0]) 4 32 Try.underlying66 hi hz0 hz1 hz2 rfl (by decide) _ _ _ rfl (World.ownsRow.alloc HBS.out _) ⟨wr.heap.size, 0, none⟩ 1 1 (bcells b) rfl rfl (World.news_of_block (cs := #[.int .i64 b.x0, .int .i64 b.y0, .int .i64 b.x1, .int .i64 b.y1]) (t := 34) (fr := (0, 0)) (heap_alloc_new wr _)) (by simp [bcells, Value.oneCell']) (by unfold maxLen; omega) (by omega) (by simp; omega) ?_; intro v' w1 hown1 hgrow1 _)
      · have R : Hid (BS w1 w.heap.size v' (rowK (s.take (k + 1)) y) ∧ Below w.heap.size w w1) := by
          unfold Hid
          rw [row_hit hk'.out HB.out (by assumption) (by assumption)]
          exact push_step HBS.out (Nat.le_refl _) HBL.out hsz hown1 hgrow1
        clear hown1 hgrow1
        go_wp2
        go_roundw
        case rel => exact ⟨k + 1, by omega, by go_num, R.out⟩
        case measure => simp [intOf]; omega
      all_goals
        go_roundw
        case rel => exact ⟨k + 1, by omega, by go_num, by rw [row_miss hk'.out HB.out (by omega)]; exact HBS.out, HBL.out⟩
        case measure => simp [intOf]; omega
    · have HR : Hid (BS wr w.heap.size _ (rowK (s.take k) y) ∧ Below w.heap.size w wr) := ⟨hbs, hbl⟩
      have e : Hid (s.take k = s) := List.take_of_length_le (by rw [hl.out]; omega)
      clear hbs hbl
      go_wp2
      go_returns
      rw [← e.out]
      exact ⟨_, rfl, HR.out.1, HR.out.2⟩

theorem spec_row {w : World} {v : Value} {s : List Bx} (y : Int) (hn : s.length ≤ 1000000) (h : RB w v s) :
    Calls Try.prog 32 #[v, .int .i64 y] w fun e w' => ∃ v', e = .returned v' ∧ BS w' w.heap.size v' (rowK s y) ∧ Below w.heap.size w w' := by
  rcases Nat.eq_zero_or_pos s.length with h0 | hp
  · obtain rfl : s = [] := List.length_eq_zero_iff.1 h0
    obtain ⟨a, c, rfl⟩ := h.form
    exact spec_row_zero a c y w
  · obtain ⟨g, o, c, rfl, hg, hj⟩ := h.pos hp
    exact spec_row_pos g o c _ s y w rfl hn hg hj

end Go.Proofs.Ytmpbcdolikafpaa

namespace Go.Proofs.Ytmpbcdolikafpaa
open Go.RowKit
set_option linter.unusedVariables false
set_option linter.unusedSimpArgs false

set_option maxHeartbeats 800000 in
theorem spec_abs6 (n : Int) (h1 : -1000000000000 ≤ n) (h2 : n ≤ 1000000000000) (w : World) : Calls Try.prog 33 #[.int .i64 n] w fun e w' => e = .returned (.int .i64 (n.natAbs : Nat)) ∧ w' = w := by
  have hw : IntKind.i64.wrap (-n) = -n := by rw [IntKind.wrap_i64]; omega
  by_cases h : n < 0
  · go_enter Try.func33, Try.ntmps33
    go_wp2
    go_returns
    exact ⟨by rw [show ((n.natAbs : Nat) : Int) = -n by omega]; rfl, rfl⟩
  · go_enter Try.func33, Try.ntmps33
    go_wp2
    go_returns
    exact ⟨by rw [show ((n.natAbs : Nat) : Int) = n by omega]; rfl, rfl⟩

set_option maxRecDepth 10000 in
set_option maxHeartbeats 12800000 in
theorem spec_er (l : List Sh) (f : Bx) (o s : Int) (r : Nat) (z : Int) {w : World} {v : Value} (hl : l.length ≤ 40) (hd : ∀ x ∈ l, 0 ≤ x.d ∧ x.d ≤ 1000) (hf : frF f = 0) (ho : 0 ≤ o ∧ o ≤ 1000) (hs : 0 ≤ s ∧ s ≤ 1000) (hr : r ≤ 4) (hz : 0 ≤ z ∧ z ≤ 1000000000) (h : RG 5 shC w v l) :
    Calls Try.prog 16 #[v, .agg #[.int .i64 f.x0, .int .i64 f.y0, .int .i64 f.x1, .int .i64 f.y1, .int .i64 o, .int .i64 s, .int .i64 r], .int .i64 z] w fun e w' => e = .returned (.int .i64 (erA l f (spV (mapG l f) (htN f) (wdN f) r o s) z (wdN f) (htN f))) ∧ Below w.heap.size w w' := by
  have hfb := frF_box hf
  obtain ⟨n, hnn⟩ : ∃ n, n = htN f := ⟨_, rfl⟩
  obtain ⟨W, hWW⟩ : ∃ W, W = wdN f := ⟨_, rfl⟩
  obtain ⟨G, hG⟩ : ∃ G, G = spV (mapG l f) (htN f) (wdN f) r o s := ⟨_, rfl⟩
  have hnb : n ≤ 24 ∧ 0 < n := by rw [hnn]; unfold htN; omega
  have hWb : W ≤ 24 ∧ 0 < W := by rw [hWW]; unfold wdN; omega
  have hw1 : f.x1 = f.x0 + (W : Int) := by rw [hWW]; unfold wdN; omega
  have hh1 : f.y1 = f.y0 + (n : Int) := by rw [hnn]; unfold htN; omega
  have HF : Hid (f.x1 = f.x0 + (W : Int) ∧ f.y1 = f.y0 + (n : Int) ∧ -10000 ≤ f.x0 ∧ f.x0 ≤ 10000 ∧ -10000 ≤ f.y0 ∧ f.y0 ≤ 10000) := ⟨hw1, hh1, by omega, by omega, by omega, by omega⟩
  rw [← hG, ← hnn, ← hWW]
  obtain ⟨a, c, rfl⟩ := h.form
  obtain ⟨ln, hln⟩ : ∃ ln, ln = l.length := ⟨_, rfl⟩
  have HRW : Hid (∀ V, Below w.heap.size w V → Calls Try.prog 30 #[.slice a l.length c, .agg #[.int .i64 f.x0, .int .i64 f.y0, .int .i64 f.x1, .int .i64 f.y1, .int .i64 o, .int .i64 s, .int .i64 r]] V fun e w' => ∃ v' vs, e = .returned v' ∧ RI w' V.heap.size v' (gridL G n W) vs ∧ Below V.heap.size V w') := fun V hV => by
    have h9 := spec_sp l f o s r hl hd hf ho hs hr (h.below hV)
    unfold spL at h9
    rw [← hG, ← hnn, ← hWW] at h9
    exact h9
  have HGB : Hid (∀ j i, j < n → i < W → 0 ≤ G j i ∧ G j i ≤ 24000000000) := fun j i hj hi => by
    rw [hG, ← hnn, ← hWW]; exact spV_bd (mapG_bd hl hd) hnb.1 hWb.1 ho hs hj hi
  have H : Hid (RG 5 shC w (.slice a ln c) l ∧ ln = l.length) := ⟨by rw [hln]; exact h, hln⟩
  rw [← hln] at HRW hl ⊢
  clear h hf hfb hnn hWW hd hG hln hw1 hh1
  obtain ⟨i0, hi0, hz0', hz1, hz2⟩ := info_parts info_box
  go_enter Try.func16, Try.ntmps16
  go_wp2_with (fail)
  refine (HRW.out _ (by (repeat' (first | (with_reducible exact Below.refl _ _) | (with_reducible assumption) | (with_reducible refine Below.setCell ?_ ?_ _) | (with_reducible refine Below.alloc ?_ ?_ _) | (with_reducible refine below_drewN ?_ _) | (with_reducible refine Below.drew ?_) | (with_reducible exact Nat.le_refl _) | omega | (simp; done) | (simp; omega))))).mono ?_
  rintro e w1 ⟨v1, vs1, rfl, hr1, hb1⟩
  obtain ⟨g1, c1, hv1, _⟩ := hr1.pos (by rw [gridL_len]; omega)
  rw [gridL_len] at hv1
  subst hv1
  have HG1 : Hid (SW w w1 f o s r g1 n c1 W (gridL G n W) vs1) := by
    have hb9 : Below w.heap.size w w1 := (show Below w.heap.size w _ from by (repeat' (first | (with_reducible exact Below.refl _ _) | (with_reducible assumption) | (with_reducible refine Below.setCell ?_ ?_ _) | (with_reducible refine Below.alloc ?_ ?_ _) | (with_reducible refine below_drewN ?_ _) | (with_reducible refine Below.drew ?_) | (with_reducible exact Nat.le_refl _) | omega | (simp; done) | (simp; omega)))).trans (hb1.mono (by simp))
    have hr9 : RI w1 (w.heap.size + 1) (.slice (some ⟨g1, 0, none⟩) n c1) (gridL G n W) vs1 := by simpa using hr1
    exact ⟨(hb1.block w.heap.size (by simp)).trans (heap_alloc_new w _), ⟨hr9, gridL_len _ _ _, (gridL_shW G n W).wd, Nat.le_refl _, hWb.2⟩, hb9⟩
  have HS0 : Hid (BS (w1.alloc (.cells #[] 34)) w1.heap.size (.slice (some ⟨w1.heap.size, 0, none⟩) 0 0) (bxS (l.take 0)) ∧ Below w1.heap.size w1 (w1.alloc (.cells #[] 34))) :=
    ⟨BS.lit0 w1 w1.heap.size (Nat.le_refl _), (Below.refl _ _).alloc (Nat.le_refl _) _⟩
  clear hr1 hb1 HRW
  go_wp2_with (fail)
  go_loopw [8, 9] (fun vb i wr => ∃ (k : Nat), k ≤ ln ∧ i = .int .i64 k ∧ Hid (BS wr w1.heap.size vb (bxS (l.take k)) ∧ Below w1.heap.size w1 wr)) (fun _ i _ => ln - (intOf i).toNat)
  case atStart => exact ⟨0, Nat.zero_le _, rfl, HS0.out⟩
  case round =>
    clear HS0
    obtain ⟨k, hk, rfl, hR⟩ := hrel
    by_cases hlk : k < ln
    · have hkl : k < l.length := by rw [← H.out.2]; exact hlk
      have hbw : Below w.heap.size w wr := HG1.out.bl.trans (hR.out.2.mono HG1.out.bl.size)
      obtain ⟨g, go, c2, he, hg, hj⟩ := (H.out.1.below hbw).pos (by omega)
      simp only [Value.slice.injEq] at he
      obtain ⟨rfl, hx1, hx2⟩ := he
      clear hx1 hx2
      obtain ⟨c0, c1', c2', c3, c4⟩ := shC_at (hj k hkl)
      obtain ⟨q, hq⟩ : ∃ q, q = l[k] := ⟨_, rfl⟩
      rw [← hq] at c0 c1' c2' c3 c4
      have HST : Hid (bxS (l.take (k + 1)) = bxS (l.take k) ++ [q.b]) := by
        unfold Hid bxS
        rw [List.take_succ_eq_append_getElem hkl, List.map_append, hq]; rfl
      have hlen : (bxS (l.take k)).length = k := by unfold bxS; rw [List.length_map, List.length_take]; omega
      obtain ⟨oa, oc, hof⟩ := hR.out.1.form
      rw [hlen] at hof
      subst hof
      have HM5 : Hid (BS wr w1.heap.size (.slice oa k oc) (bxS (l.take k)) ∧ Below w1.heap.size w1 wr) := hR.out
      have hsz5 := HM5.out.2.size
      have b0 : (0 : Int) ≤ (k : Int) := by omega
      have b1 : (k : Int) < (ln : Int) := by omega
      clear hR hbw hj hq
      generalize bxS (l.take k) = out at HM5 HST hlen ⊢
      go_wp2_with (at_builtin; refine wpList_append_own _ rfl _ _ 66 rfl w1.heap.size 34 i0 (.agg #[.int .i64 0, .int .i64 0, .int .i64 0, .int .i64 0]) 4 32 Try.underlying66 hi0 hz0' hz1 hz2 rfl (by decide) _ _ _ rfl (World.ownsRow.alloc HM5.out.1 _) ⟨wr.heap.size, 0, none⟩ 1 1 (bcells q.b) rfl rfl (World.news_of_block (cs := #[.int .i64 q.b.x0, .int .i64 q.b.y0, .int .i64 q.b.x1, .int .i64 q.b.y1]) (t := 34) (fr := (0, 0)) (heap_alloc_new wr _)) (by simp [bcells, Value.oneCell']) (by unfold maxLen; omega) (by omega) (by simp; omega) ?_; intro v6 w6 hown6 hgrow6 _)
      have R : Hid (BS w6 w1.heap.size v6 (bxS (l.take (k + 1))) ∧ Below w1.heap.size w1 w6) := by
        unfold Hid
        rw [HST.out]
        exact push_step HM5.out.1 (Nat.le_refl _) HM5.out.2 hsz5 hown6 hgrow6
      clear hown6 hgrow6 HM5 HST c0 c1' c2' c3 c4
      go_wp2
      go_roundw
      case rel => exact ⟨k + 1, by omega, by go_num, R.out⟩
      case measure => simp [intOf]; omega
    · have e : k = ln := by omega
      have hbb := hR.out.1
      rw [List.take_of_length_le (by rw [← H.out.2]; omega)] at hbb
      have hll : (bxS l).length ≤ 1000000 := by unfold bxS; rw [List.length_map, ← H.out.2]; omega
      obtain ⟨ba, bc, hbf⟩ := hbb.form
      obtain ⟨bn, hbn⟩ : ∃ bn, bn = (bxS l).length := ⟨_, rfl⟩
      rw [← hbn] at hbf
      subst hbf
      obtain ⟨w2, hw2⟩ : ∃ w2, w2 = wr := ⟨_, rfl⟩
      rw [← hw2] at hbb
      have HX : Hid (SW w w2 f o s r g1 n c1 W (gridL G n W) vs1) := by rw [hw2]; exact HG1.out.below hR.out.2
      have HBB : Hid (BS w2 w1.heap.size (.slice ba bn bc) (bxS l)) := hbb
      have HLR : Hid (∀ V y, Below w2.heap.size w2 V → Calls Try.prog 32 #[.slice ba bn bc, .int .i64 y] V fun e w' => ∃ v', e = .returned v' ∧ BS w' V.heap.size v' (rowK (bxS l) y) ∧ Below V.heap.size V w') := fun V y hV => spec_row y hll (BS.rb (HBB.out.below hV))
      have HLE : Hid (∀ y, (rowK (bxS l) y).length ≤ 1000000) := fun y => Nat.le_trans (rowK_length _ _) hll
      obtain ⟨p0, p1, p2, p3, _, _, _, pf, pl⟩ := wt_seven HX.out.b
      rw [hw2] at p0 p1 p2 p3 pl
      have HW2 : Hid (Below w2.heap.size w2 wr) := by rw [hw2]; exact Below.refl _ _
      clear hR hbb e hk pf hw2 hbn
      go_wp2_with (fail)
      clear p0 p1 p2 p3 pl
      go_loopw [10, 11] (fun sm y wr => ∃ j : Nat, j ≤ n ∧ y = .int .i64 (f.y0 + (j : Int)) ∧ sm = .int .i64 (erA l f G z W j) ∧ Hid (Below w2.heap.size w2 wr)) (fun _ y _ => (f.y1 - intOf y).toNat)
      case atStart => exact ⟨0, Nat.zero_le _, by simp, rfl, HW2.out⟩
      case round =>
        clear HW2
        obtain ⟨j, hj, rfl, rfl, hK⟩ := hrel
        obtain ⟨p0, p1, p2, p3, _, _, _, pf, pl⟩ := wt_seven (HX.out.below hK.out).b
        obtain ⟨y, hy⟩ : ∃ y, y = f.y0 + (j : Int) := ⟨_, rfl⟩
        rw [← hy]
        have hF := HF.out
        by_cases hlt : j < n
        · have hly : y < f.y1 := by omega
          have hwy : IntKind.i64.wrap (y + 1) = y + 1 := by rw [IntKind.wrap_i64]; omega
          have HY : Hid (y = f.y0 + (j : Int) ∧ y + 1 = f.y0 + ((j + 1 : Nat) : Int)) := ⟨hy, by omega⟩
          obtain ⟨S0, hS0⟩ : ∃ S, S = erA l f G z W j := ⟨_, rfl⟩
          rw [← hS0]
          have HS0 : Hid (S0 = erA l f G z W j ∧ 0 ≤ S0 ∧ S0 ≤ 24 * 576000000000) := by
            have h1 := erA_bd (l := l) (f := f) hWb.1 HGB.out hz j (by omega)
            exact ⟨hS0, by omega, by omega⟩
          have HK : Hid (Below w2.heap.size w2 wr) := hK.out
          clear hK hy hj hS0 pf hF
          go_wp2_with (fail)
          clear p0 p1 p2 p3 pl
          go_loopw [10, 12] (fun sm x wr => ∃ i : Nat, i ≤ W ∧ x = .int .i64 (f.x0 + (i : Int)) ∧ sm = .int .i64 (S0 + erW l f G z j i) ∧ Hid (Below w2.heap.size w2 wr)) (fun _ x _ => (f.x1 - intOf x).toNat)
          case atStart => exact ⟨0, Nat.zero_le _, by simp, by simp [erW], HK.out⟩
          case round =>
            clear HK
            obtain ⟨i, hi, rfl, rfl, hK⟩ := hrel
            obtain ⟨p0, p1, p2, p3, _, _, _, pf, pl⟩ := wt_seven (HX.out.below hK.out).b
            obtain ⟨x, hx⟩ : ∃ x, x = f.x0 + (i : Int) := ⟨_, rfl⟩
            rw [← hx]
            have hF := HF.out
            by_cases hlx : i < W
            · have hlx' : x < f.x1 := by omega
              have hwx : IntKind.i64.wrap (x + 1) = x + 1 := by rw [IntKind.wrap_i64]; omega
              have HU : Hid (x = f.x0 + (i : Int) ∧ x + 1 = f.x0 + ((i + 1 : Nat) : Int)) := ⟨hx, by omega⟩
              obtain ⟨S, hS⟩ : ∃ S, S = S0 + erW l f G z j i := ⟨_, rfl⟩
              rw [← hS]
              have hSb : 0 ≤ S ∧ S ≤ 25 * 576000000000 := by
                have h1 := erW_bd (l := l) (f := f) (j := j) (fun i hi => HGB.out j i hlt hi) hz i (by omega)
                have h2 := HS0.out.2
                omega
              have HST : Hid (∀ b, (b = if cvB l x y = true then (((G j i - z).natAbs : Nat) : Int) else 0) → S + b = S0 + erW l f G z j (i + 1)) := by
                intro b hb
                rw [hS, erW, ← HU.out.1, ← HY.out.1, ← hb]; omega
              have HK : Hid (Below w2.heap.size w2 wr) := hK.out
              clear hK hx hi hS pf hF
              go_wp2_with (fail)
              refine (HLR.out _ _ HK.out).mono ?_
              rintro e w3 ⟨v3, rfl, hb3, hbl3⟩
              have HK3 : Hid (Below w2.heap.size w2 w3) := HK.out.trans (hbl3.mono HK.out.size)
              have HIN : Hid (Calls Try.prog 31 #[v3, .int .i64 x] w3 fun e w' => e = .returned (.bool (cvB l x y)) ∧ w' = w3) := spec_in x (Nat.le_trans (HLE.out y) (by omega)) (BS.rb hb3)
              obtain ⟨ra, rc, hrf⟩ := hb3.form
              generalize (rowK (bxS l) y).length = rn at hrf
              subst hrf
              clear hb3 hbl3 HK p0 p1 p2 p3 pl
              go_wp2_with (fail)
              refine HIN.out.mono ?_
              rintro e w4 ⟨rfl, rfl⟩
              by_cases hcv : cvB l x y = true
              · rw [hcv]
                obtain ⟨gi, ci, hri, a0, hg1l, hgil, _, _, _, hcells1⟩ := (HX.out.below HK3.out).g.at hlt
                obtain ⟨a1, _⟩ := hcells1 i hlx
                rw [gridL_at2 _ hlt hlx] at a1
                obtain ⟨D, hD⟩ : ∃ D, D = G j i := ⟨_, rfl⟩
                rw [← hD] at a1
                have hDb := HGB.out j i hlt hlx
                rw [← hD] at hDb
                obtain ⟨p0, p1, p2, p3, _, _, _, pf, pl⟩ := wt_seven (HX.out.below HK3.out).b
                have hwa : IntKind.i64.wrap (y - f.y0) = (j : Int) := by rw [IntKind.wrap_i64]; have := HY.out.1; omega
                have hwb : IntKind.i64.wrap (x - f.x0) = (i : Int) := by rw [IntKind.wrap_i64]; have := HU.out.1; omega
                have hwc : IntKind.i64.wrap (D - z) = D - z := by rw [IntKind.wrap_i64]; omega
                obtain ⟨E, hE⟩ : ∃ E, E = (((D - z).natAbs : Nat) : Int) := ⟨_, rfl⟩
                have hwd : IntKind.i64.wrap (S + E) = S + E := by rw [IntKind.wrap_i64]; omega
                have HAB : Hid (∀ V, Calls Try.prog 33 #[.int .i64 (D - z)] V fun e w' => e = .returned (.int .i64 E) ∧ w' = V) := fun V => by rw [hE]; exact spec_abs6 _ (by omega) (by omega) V
                have HE : Hid (S + E = S0 + erW l f G z j (i + 1)) := HST.out E (by rw [if_pos hcv, hE, hD])
                have b0 : (0 : Int) ≤ (j : Int) := by omega
                have b1 : (j : Int) < (n : Int) := by omega
                have b2 : (0 : Int) ≤ (i : Int) := by omega
                have b3 : (i : Int) < (W : Int) := by omega
                clear hri hcells1 hD hDb pf hE HST hcv HIN
                go_wp2_with (fail)
                (refine wp_region_und (by kernel_rfl) (by kernel_rfl) (fun hund => ?_); (repeat (go_big_quiet_step (first | (go_at_call 33; with_reducible refine und_call_same (HAB.out _))))); with_reducible refine wpQuiet_nil ?_; clear hund; intro W1 hb1; obtain ⟨hc1, hf1⟩ := undcell hb1)
                have HB9 : Hid (Below w2.heap.size w2 W1) := HK3.out.trans (hb1.mono HK3.out.size)
                clear hb1 hc1 hf1
                go_wp2
                go_roundw
                case rel => exact ⟨i + 1, by omega, by rw [← HU.out.2], by rw [HE.out], HB9.out⟩
                case measure => have := HU.out; have := HF.out; simp [intOf]; omega
              · have hcf : cvB l x y = false := by simpa using hcv
                rw [hcf]
                have HE : Hid (S = S0 + erW l f G z j (i + 1)) := by
                  have := HST.out 0 (by rw [if_neg hcv])
                  unfold Hid; omega
                clear hcv hcf HST HIN
                go_wp2
                go_roundw
                case rel => exact ⟨i + 1, by omega, by rw [← HU.out.2], by rw [HE.out], HK3.out⟩
                case measure => have := HU.out; have := HF.out; simp [intOf]; omega
            · have hlx' : ¬ x < f.x1 := by omega
              have HE : Hid (S0 + erW l f G z j i = erA l f G z W (j + 1)) := by
                unfold Hid
                rw [erA, HS0.out.1, show i = W by omega]
              have HK : Hid (Below w2.heap.size w2 wr) := hK.out
              rw [HE.out]
              clear hK hi hx pf hF
              go_wp2
              go_roundw
              case rel => exact ⟨j + 1, by omega, by rw [← HY.out.2], rfl, HK.out⟩
              case measure => have := HY.out; have := HF.out; simp [intOf]; omega
        · have hly : ¬ y < f.y1 := by omega
          have HE : Hid (Below w.heap.size w wr ∧ j = n) := ⟨(HX.out.below hK.out).bl, by omega⟩
          clear hK hy hj pf hF
          go_wp2
          go_returns
          exact ⟨by rw [HE.out.2]; rfl, HE.out.1⟩

end Go.Proofs.Ytmpbcdolikafpaa
