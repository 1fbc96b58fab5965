/- Proved here: l4Rows, l4Turned, l4Runs, ThinOf and NearOf of the model: tnC, tnL. -/
import Derived.Test.YtokdpgabmifdjabTnM
import Derived.Test.YtokdpgabmifdjabSTb
namespace Go.Proofs.Ytokdpgabmifdjab
open Go.RowKit
set_option linter.unusedVariables false
set_option linter.unusedSimpArgs false

set_option maxHeartbeats 800000 in
theorem spec_rows_zero (gaps : Bool) (a : Option Addr) (c : Nat) (z : Int) (w : World) :
    Calls Try.prog 64 #[.slice a 0 c, .int .i64 z, .bool gaps] w fun e w' => ∃ v, e = .returned v ∧ BS w' w.heap.size v [] ∧ Below w.heap.size w w' := by
  go_enter Try.func64, Try.ntmps64
  go_wp2
  refine wp_loop_rounds 1 ?_
  rw [rounds_succ]
  go_wp2
  go_returns
  exact ⟨_, rfl, BS.lit0 w _ (Nat.le_refl _), by (repeat' (first | (with_reducible exact Below.refl _ _) | (with_reducible assumption) | (with_reducible refine Below.setCell ?_ ?_ _) | (with_reducible refine Below.alloc ?_ ?_ _) | (with_reducible refine below_drewN ?_ _) | (with_reducible refine Below.drew ?_) | (with_reducible exact Nat.le_refl _) | omega | (simp; done) | (simp; omega)))⟩

theorem thinT_hit {s : List Bx} {z : Int} {k : Nat} {b : Bx} (hb : bat s k = b) (h : b.x1 - b.x0 < z) : thinT s z (k + 1) = thinT s z k ++ [b] := by
  rw [thinT, hb, if_pos h]
theorem thinT_miss {s : List Bx} {z : Int} {k : Nat} {b : Bx} (hb : bat s k = b) (h : ¬ b.x1 - b.x0 < z) : thinT s z (k + 1) = thinT s z k := by
  rw [thinT, hb, if_neg h, List.append_nil]

set_option maxRecDepth 10000 in
set_option maxHeartbeats 1600000 in
theorem spec_thin_pos (g o c n : Nat) (s : List Bx) (z : Int) (w : World) (hl : Hid (s.length = n)) (hn : n ≤ 1000000) (hf : Hid (Fine s)) (hg : g < w.heap.size) (h : ∀ j, j < n → BAt w g (o + j * 4) (bat s j)) :
    Calls Try.prog 64 #[.slice (some ⟨g, o, none⟩) n c, .int .i64 z, .bool false] w fun e w' => ∃ v, e = .returned v ∧ BS w' w.heap.size v (thinT s z n) ∧ Below w.heap.size w w' := by
  have H : Hid _ := h
  clear h
  obtain ⟨i0, hi, hz0, hz1, hz2⟩ := info_parts info_box
  go_enter Try.func64, Try.ntmps64
  go_wp2
  go_loopw [7, 8] (fun v i wr => ∃ k : Nat, k ≤ n ∧ i = .int .i64 k ∧ Hid (BS wr w.heap.size v (thinT s z k) ∧ Below w.heap.size w wr)) (fun _ i _ => n - (intOf i).toNat)
  case atStart => exact ⟨0, Nat.zero_le _, rfl, BS.lit0 w _ (Nat.le_refl _), by (repeat' (first | (with_reducible exact Below.refl _ _) | (with_reducible assumption) | (with_reducible refine Below.setCell ?_ ?_ _) | (with_reducible refine Below.alloc ?_ ?_ _) | (with_reducible refine below_drewN ?_ _) | (with_reducible refine Below.drew ?_) | (with_reducible exact Nat.le_refl _) | omega | (simp; done) | (simp; omega)))⟩
  case round =>
    obtain ⟨k, hk, rfl, hR⟩ := hrel
    obtain ⟨hbs, hbl⟩ := hR.out
    clear hR
    by_cases hlt : k < n
    · have hok := hf.out.at (k := k) (by rw [hl.out]; exact hlt)
      obtain ⟨c0, c1, c2, c3⟩ := (H.out k hlt).below hg hbl
      generalize hb : bat s k = b at c0 c1 c2 c3 hok
      have HB : Hid (bat s k = b) := hb
      clear hb
      unfold okB at hok
      have hlen : (thinT s z k).length ≤ n := Nat.le_trans (thinT_len _ _ _) hk
      have hsz := hbl.size
      have b0 : (0 : Int) ≤ (k : Int) := by omega
      have b1 : (k : Int) < (n : Int) := by omega
      have hw : IntKind.i64.wrap (b.x1 - b.x0) = b.x1 - b.x0 := by rw [IntKind.wrap_i64]; omega
      have HBS : Hid (BS wr w.heap.size _ (thinT s z k)) := hbs
      have HBL : Hid (Below w.heap.size w wr) := hbl
      clear hbs hbl hok
      by_cases hd : b.x1 - b.x0 < z
      · have hd' : decide (b.x1 - b.x0 < z) = true := decide_eq_true hd
        go_wp2_with (fail)
        go_quiet (fail)
        obtain ⟨W2, hW2⟩ : ∃ W2, W2 = wr.drewN nq := ⟨_, rfl⟩
        have hb2 : Below wr.heap.size wr W2 := by rw [hW2]; exact below_drewN (Below.refl _ _) _
        rw [← hW2]
        have HBS2 : Hid (BS W2 w.heap.size _ (thinT s z k)) := HBS.out.below hb2
        have HBL2 : Hid (Below w.heap.size w W2) := HBL.out.trans (hb2.mono hsz)
        have hgw : g < wr.heap.size := Nat.lt_of_lt_of_le hg hsz
        rw [← hb2.cell (p := ⟨g, o + k * 4, none⟩) hgw] at c0
        rw [← hb2.cell (p := ⟨g, o + k * 4 + 1, none⟩) hgw] at c1
        rw [← hb2.cell (p := ⟨g, o + k * 4 + 2, none⟩) hgw] at c2
        rw [← hb2.cell (p := ⟨g, o + k * 4 + 3, none⟩) hgw] at c3
        have hgw2 : g < W2.heap.size := Nat.lt_of_lt_of_le hgw hb2.size
        have hsz2 : w.heap.size ≤ W2.heap.size := Nat.le_trans hsz hb2.size
        clear hW2 hb2 HBS HBL hw hd'
        go_wp2_with (at_builtin; refine wpList_append_own _ rfl _ _ 24 rfl w.heap.size 49 i0 (.agg #[.int .i64 0, .int .i64 0, .int .i64 0, .int .i64 0]) 4 32 Try.underlying24 hi hz0 hz1 hz2 rfl (by decide) _ _ _ rfl (World.ownsRow.alloc HBS2.out _) ⟨W2.heap.size, 0, none⟩ 1 1 (bcells b) rfl rfl (World.news_of_block (cs := #[.int .i64 b.x0, .int .i64 b.y0, .int .i64 b.x1, .int .i64 b.y1]) (t := 49) (fr := (0, 0)) (heap_alloc_new W2 _)) (by simp [bcells, Value.oneCell']) (by unfold maxLen; omega) (by omega) (by simp; omega) ?_; intro v' w1 hown1 hgrow1 _)
        have R : Hid (BS w1 w.heap.size v' (thinT s z (k + 1)) ∧ Below w.heap.size w w1) := by
          unfold Hid
          rw [thinT_hit HB.out hd]
          exact push_step HBS2.out (Nat.le_refl _) HBL2.out hsz2 hown1 hgrow1
        clear hown1 hgrow1 HBS2 HBL2
        go_wp2
        go_roundw
        case rel => exact ⟨k + 1, by omega, by go_num, R.out⟩
        case measure => simp [intOf]; omega
      · have hd' : decide (b.x1 - b.x0 < z) = false := decide_eq_false hd
        have HD : Hid (thinT s z (k + 1) = thinT s z k) := thinT_miss HB.out hd
        obtain ⟨oa, oc, hof⟩ := HBS.out.form
        rw [hof] at HBS ⊢
        clear hof
        go_wp2_with (fail)
        go_quiet (fail)
        have R : Hid (∀ q, BS (wr.drewN q) w.heap.size (.slice oa (thinT s z k).length oc) (thinT s z (k + 1)) ∧ Below w.heap.size w (wr.drewN q)) := fun q => by
          rw [HD.out]
          exact ⟨HBS.out.below (below_drewN (Below.refl _ _) _), below_drewN HBL.out _⟩
        clear HBS HBL
        go_wp2
        go_roundw
        case rel => exact ⟨k + 1, by omega, by go_num, R.out _⟩
        case measure => simp [intOf]; omega
    · have HR : Hid (BS wr w.heap.size _ (thinT s z k) ∧ Below w.heap.size w wr) := ⟨hbs, hbl⟩
      obtain rfl : k = n := by omega
      clear hbs hbl
      go_wp2
      go_returns
      exact ⟨_, rfl, HR.out.1, HR.out.2⟩

theorem gapT_hit {s : List Bx} {z : Int} {k : Nat} {a b : Bx} (h0 : 0 < k) (ha : bat s (k - 1) = a) (hb : bat s k = b) (h : a.y0 = b.y0) (h1 : a.y1 = b.y1) (h2 : b.x0 - a.x1 < z) : gapT s z (k + 1) = gapT s z k ++ [⟨a.x1, b.y0, b.x0, b.y1⟩] := by
  rw [gapT, ha, hb, if_neg (by omega), gapB, if_pos ⟨h, h2⟩, h, h1]
theorem gapT_miss {s : List Bx} {z : Int} {k : Nat} {a b : Bx} (ha : bat s (k - 1) = a) (hb : bat s k = b) (h : ¬ (0 < k ∧ a.y0 = b.y0 ∧ b.x0 - a.x1 < z)) : gapT s z (k + 1) = gapT s z k := by
  rw [gapT, ha, hb]
  split
  · simp
  · rw [gapB, if_neg (by omega)]; simp

set_option maxRecDepth 10000 in
set_option maxHeartbeats 6400000 in
theorem spec_gaps_pos (g o c n : Nat) (s : List Bx) (z : Int) (w : World) (hl : Hid (s.length = n)) (hn : n ≤ 1000000) (hf : Hid (Fine s)) (hg : g < w.heap.size) (h : ∀ j, j < n → BAt w g (o + j * 4) (bat s j)) :
    Calls Try.prog 64 #[.slice (some ⟨g, o, none⟩) n c, .int .i64 z, .bool true] w fun e w' => ∃ v, e = .returned v ∧ BS w' w.heap.size v (gapT s z n) ∧ Below w.heap.size w w' := by
  have H : Hid _ := h
  clear h
  obtain ⟨i0, hi0, hz0, hz1, hz2⟩ := info_parts info_box
  go_enter Try.func64, Try.ntmps64
  go_wp2
  go_loopw [7, 8] (fun v i wr => ∃ k : Nat, k ≤ n ∧ i = .int .i64 k ∧ Hid (BS wr w.heap.size v (gapT s z k) ∧ Below w.heap.size w wr)) (fun _ i _ => n - (intOf i).toNat)
  case atStart => exact ⟨0, Nat.zero_le _, rfl, BS.lit0 w _ (Nat.le_refl _), by (repeat' (first | (with_reducible exact Below.refl _ _) | (with_reducible assumption) | (with_reducible refine Below.setCell ?_ ?_ _) | (with_reducible refine Below.alloc ?_ ?_ _) | (with_reducible refine below_drewN ?_ _) | (with_reducible refine Below.drew ?_) | (with_reducible exact Nat.le_refl _) | omega | (simp; done) | (simp; omega)))⟩
  case round =>
    obtain ⟨k, hk, rfl, hR⟩ := hrel
    by_cases hlt : k < n
    · by_cases hk0 : k = 0
      · subst hk0
        have R : Hid (∀ q, BS (wr.drewN q) w.heap.size _ (gapT s z 1) ∧ Below w.heap.size w (wr.drewN q)) := fun q => by
          have e : gapT s z 1 = gapT s z 0 := by simp [gapT]
          rw [e]
          exact ⟨hR.out.1.below (below_drewN (Below.refl _ _) _), below_drewN hR.out.2 _⟩
        have b1 : (0 : Int) < (n : Int) := by omega
        clear hR
        go_wp2_with (fail)
        go_quiet (fail)
        go_wp2
        go_roundw
        case rel => exact ⟨1, by omega, by go_num, R.out _⟩
        case measure => simp [intOf]; omega
      have hkp : 0 < k := by omega
      obtain ⟨j, hj⟩ : ∃ j, j = k - 1 := ⟨_, rfl⟩
      have hjk : (j : Int) = (k : Int) - 1 := by omega
      obtain ⟨hbs, hbl⟩ := hR.out
      have hok := hf.out.at (k := k) (by rw [hl.out]; exact hlt)
      have hok1 := hf.out.at (k := j) (by rw [hl.out]; omega)
      have hga := hf.out.gap hkp (by rw [hl.out]; exact hlt)
      rw [← hj] at hga
      obtain ⟨c0, c1, c2, c3⟩ := (H.out k hlt).below hg hbl
      obtain ⟨d0, d1, d2, d3⟩ := (H.out j (by omega)).below hg hbl
      obtain ⟨b, hb⟩ : ∃ b, bat s k = b := ⟨_, rfl⟩
      obtain ⟨a, ha⟩ : ∃ a, bat s j = a := ⟨_, rfl⟩
      rw [hb] at c0 c1 c2 c3 hok hga
      rw [ha] at d0 d1 d2 d3 hok1 hga
      have HB : Hid (bat s (k - 1) = a ∧ bat s k = b) := ⟨by rw [← hj]; exact ha, hb⟩
      unfold okB at hok hok1
      have hlen : (gapT s z k).length ≤ n := Nat.le_trans (gapT_len _ _ _) hk
      have hsz := hbl.size
      have b0 : (0 : Int) ≤ (k : Int) := by omega
      have b1 : (k : Int) < (n : Int) := by omega
      have b2 : (0 : Int) < (k : Int) := by omega
      have b3 : ¬ ((k : Int) - 1 < 0) := by omega
      have b4 : (k : Int) - 1 < (n : Int) := by omega
      have b5 : ((k : Int) - 1).toNat = j := by omega
      have b6 : ¬ (k : Int) < 1 := by omega
      have b7 : (1 : Int) ≤ (k : Int) := by omega
      have hwk : IntKind.i64.wrap ((k : Int) - 1) = (k : Int) - 1 := by rw [IntKind.wrap_i64]; omega
      have hw : IntKind.i64.wrap (b.x0 - a.x1) = b.x0 - a.x1 := by rw [IntKind.wrap_i64]; omega
      obtain ⟨oa, oc, hof⟩ := hbs.form
      subst hof
      have HM : Hid (BS wr w.heap.size (.slice oa (gapT s z k).length oc) (gapT s z k) ∧ Below w.heap.size w wr) := ⟨hbs, hbl⟩
      have hgw : g < wr.heap.size := Nat.lt_of_lt_of_le hg hsz
      clear hbs hbl hok hok1 hb ha hR hj
      by_cases hc : a.y0 = b.y0 ∧ b.x0 - a.x1 < z
      · have HST : Hid (gapT s z (k + 1) = gapT s z k ++ [⟨a.x1, b.y0, b.x0, b.y1⟩]) := gapT_hit hkp HB.out.1 HB.out.2 hc.1 (hga hc.1).1 hc.2
        have e1 : (a.y0 == b.y0) = true := by simpa using hc.1
        have e2 : decide (b.x0 - a.x1 < z) = true := decide_eq_true hc.2
        have e3 : a.y0 = b.y0 := hc.1
        have e4 : b.x0 - a.x1 < z := hc.2
        clear hga hc
        generalize (gapT s z k) = out at HM HST hlen ⊢
        go_wp2_with (fail)
        go_quiet (fail)
        obtain ⟨W2, hW2⟩ : ∃ W2, W2 = wr.drewN nq := ⟨_, rfl⟩
        have hb2 : Below wr.heap.size wr W2 := by rw [hW2]; exact below_drewN (Below.refl _ _) _
        rw [← hW2]
        have HM2 : Hid (BS W2 w.heap.size (.slice oa out.length oc) out ∧ Below w.heap.size w W2) := ⟨HM.out.1.below hb2, HM.out.2.trans (hb2.mono hsz)⟩
        rw [← hb2.cell (p := ⟨g, o + k * 4, none⟩) hgw] at c0
        rw [← hb2.cell (p := ⟨g, o + k * 4 + 1, none⟩) hgw] at c1
        rw [← hb2.cell (p := ⟨g, o + k * 4 + 3, none⟩) hgw] at c3
        rw [← hb2.cell (p := ⟨g, o + j * 4 + 2, none⟩) hgw] at d2
        have hgw2 : g < W2.heap.size := Nat.lt_of_lt_of_le hgw hb2.size
        have hsz2 : w.heap.size ≤ W2.heap.size := Nat.le_trans hsz hb2.size
        clear hW2 hb2 HM hw e1 e2 e3 e4 d0 d1 d3 c2
        go_wp2_with (fail)
        obtain ⟨row, hrow0⟩ : ∃ row, row = (Value.slice oa out.length oc).ownBlock := ⟨_, rfl⟩
        have hgr : ¬ some g = row := by
          rw [hrow0]; intro e
          have h1 := (World.ownsRow.lt HM2.out.1 g e.symm).1
          omega
        have HROW : Hid (row = (Value.slice oa out.length oc).ownBlock) := hrow0
        clear hrow0
        have hS0 := KB.start W2 row
        refine wp_region_holds (S := KB W2 row) (by kernel_rfl) hS0 (fun hS => ?_)
        refine fl_takeS (i := 0) (d := 70) (v := .slice oa out.length oc) rfl rfl rfl (by kernel_rfl) (by kernel_rfl) (by kernel_rfl) hS ?_ ?_
        · intro w' hk; unfold KB at hk; go_simp
        simp only [Act.put, List.setIfInBounds_toArray, List.set_cons_zero, List.set_cons_succ]
        refine fl_takeS (i := 1) (d := 71) (v := .slice (some ⟨g, o, none⟩) n c) rfl rfl rfl (by kernel_rfl) (by kernel_rfl) (by kernel_rfl) hS ?_ ?_
        · intro w' hk; unfold KB at hk; go_simp
        simp only [Act.put, List.setIfInBounds_toArray, List.set_cons_zero, List.set_cons_succ]
        refine fl_takeS (i := 2) (d := 72) (v := .int .i64 k) rfl rfl rfl (by kernel_rfl) (by kernel_rfl) (by kernel_rfl) hS ?_ ?_
        · intro w' hk; unfold KB at hk; go_simp
        simp only [Act.put, List.setIfInBounds_toArray, List.set_cons_zero, List.set_cons_succ]
        refine fl_takeS (i := 3) (d := 73) (v := .int .i64 ((k : Int) - 1)) rfl rfl rfl (by kernel_rfl) (by kernel_rfl) (by kernel_rfl) hS ?_ ?_
        · intro w' hk; unfold KB at hk; go_simp
        simp only [Act.put, List.setIfInBounds_toArray, List.set_cons_zero, List.set_cons_succ]
        refine fl_takeS (i := 4) (d := 74) (v := .pointer (some ⟨g, o + j * 4, none⟩)) rfl rfl rfl (by kernel_rfl) (by kernel_rfl) (by kernel_rfl) hS ?_ ?_
        · intro w' hk; unfold KB at hk; go_simp
        simp only [Act.put, List.setIfInBounds_toArray, List.set_cons_zero, List.set_cons_succ]
        refine fl_takeS (i := 5) (d := 75) (v := .pointer (some ⟨g, o + j * 4 + 2, none⟩)) rfl rfl rfl (by kernel_rfl) (by kernel_rfl) (by kernel_rfl) hS ?_ ?_
        · intro w' hk; unfold KB at hk; go_simp
        simp only [Act.put, List.setIfInBounds_toArray, List.set_cons_zero, List.set_cons_succ]
        refine fl_takeS (i := 6) (d := 76) (v := .int .i64 a.x1) rfl rfl rfl (by kernel_rfl) (by kernel_rfl) (by kernel_rfl) hS ?_ ?_
        · intro w' hk; unfold KB at hk; go_simp
        simp only [Act.put, List.setIfInBounds_toArray, List.set_cons_zero, List.set_cons_succ]
        refine fl_takeS (i := 7) (d := 77) (v := .slice (some ⟨g, o, none⟩) n c) rfl rfl rfl (by kernel_rfl) (by kernel_rfl) (by kernel_rfl) hS ?_ ?_
        · intro w' hk; unfold KB at hk; go_simp
        simp only [Act.put, List.setIfInBounds_toArray, List.set_cons_zero, List.set_cons_succ]
        refine fl_takeS (i := 8) (d := 78) (v := .int .i64 k) rfl rfl rfl (by kernel_rfl) (by kernel_rfl) (by kernel_rfl) hS ?_ ?_
        · intro w' hk; unfold KB at hk; go_simp
        simp only [Act.put, List.setIfInBounds_toArray, List.set_cons_zero, List.set_cons_succ]
        refine fl_takeS (i := 9) (d := 79) (v := .pointer (some ⟨g, o + k * 4, none⟩)) rfl rfl rfl (by kernel_rfl) (by kernel_rfl) (by kernel_rfl) hS ?_ ?_
        · intro w' hk; unfold KB at hk; go_simp
        simp only [Act.put, List.setIfInBounds_toArray, List.set_cons_zero, List.set_cons_succ]
        refine fl_takeS (i := 10) (d := 80) (v := .pointer (some ⟨g, o + k * 4 + 1, none⟩)) rfl rfl rfl (by kernel_rfl) (by kernel_rfl) (by kernel_rfl) hS ?_ ?_
        · intro w' hk; unfold KB at hk; go_simp
        simp only [Act.put, List.setIfInBounds_toArray, List.set_cons_zero, List.set_cons_succ]
        refine fl_takeS (i := 11) (d := 81) (v := .int .i64 b.y0) rfl rfl rfl (by kernel_rfl) (by kernel_rfl) (by kernel_rfl) hS ?_ ?_
        · intro w' hk; unfold KB at hk; go_simp
        simp only [Act.put, List.setIfInBounds_toArray, List.set_cons_zero, List.set_cons_succ]
        refine fl_takeS (i := 12) (d := 82) (v := .slice (some ⟨g, o, none⟩) n c) rfl rfl rfl (by kernel_rfl) (by kernel_rfl) (by kernel_rfl) hS ?_ ?_
        · intro w' hk; unfold KB at hk; go_simp
        simp only [Act.put, List.setIfInBounds_toArray, List.set_cons_zero, List.set_cons_succ]
        refine fl_takeS (i := 13) (d := 83) (v := .int .i64 k) rfl rfl rfl (by kernel_rfl) (by kernel_rfl) (by kernel_rfl) hS ?_ ?_
        · intro w' hk; unfold KB at hk; go_simp
        simp only [Act.put, List.setIfInBounds_toArray, List.set_cons_zero, List.set_cons_succ]
        refine fl_takeS (i := 14) (d := 84) (v := .pointer (some ⟨g, o + k * 4, none⟩)) rfl rfl rfl (by kernel_rfl) (by kernel_rfl) (by kernel_rfl) hS ?_ ?_
        · intro w' hk; unfold KB at hk; go_simp
        simp only [Act.put, List.setIfInBounds_toArray, List.set_cons_zero, List.set_cons_succ]
        refine fl_takeS (i := 15) (d := 85) (v := .pointer (some ⟨g, o + k * 4, none⟩)) rfl rfl rfl (by kernel_rfl) (by kernel_rfl) (by kernel_rfl) hS ?_ ?_
        · intro w' hk; unfold KB at hk; go_simp
        simp only [Act.put, List.setIfInBounds_toArray, List.set_cons_zero, List.set_cons_succ]
        refine fl_takeS (i := 16) (d := 86) (v := .int .i64 b.x0) rfl rfl rfl (by kernel_rfl) (by kernel_rfl) (by kernel_rfl) hS ?_ ?_
        · intro w' hk; unfold KB at hk; go_simp
        simp only [Act.put, List.setIfInBounds_toArray, List.set_cons_zero, List.set_cons_succ]
        refine fl_takeS (i := 17) (d := 87) (v := .slice (some ⟨g, o, none⟩) n c) rfl rfl rfl (by kernel_rfl) (by kernel_rfl) (by kernel_rfl) hS ?_ ?_
        · intro w' hk; unfold KB at hk; go_simp
        simp only [Act.put, List.setIfInBounds_toArray, List.set_cons_zero, List.set_cons_succ]
        refine fl_takeS (i := 18) (d := 88) (v := .int .i64 k) rfl rfl rfl (by kernel_rfl) (by kernel_rfl) (by kernel_rfl) hS ?_ ?_
        · intro w' hk; unfold KB at hk; go_simp
        simp only [Act.put, List.setIfInBounds_toArray, List.set_cons_zero, List.set_cons_succ]
        refine fl_takeS (i := 19) (d := 89) (v := .pointer (some ⟨g, o + k * 4, none⟩)) rfl rfl rfl (by kernel_rfl) (by kernel_rfl) (by kernel_rfl) hS ?_ ?_
        · intro w' hk; unfold KB at hk; go_simp
        simp only [Act.put, List.setIfInBounds_toArray, List.set_cons_zero, List.set_cons_succ]
        refine fl_takeS (i := 20) (d := 90) (v := .pointer (some ⟨g, o + k * 4 + 3, none⟩)) rfl rfl rfl (by kernel_rfl) (by kernel_rfl) (by kernel_rfl) hS ?_ ?_
        · intro w' hk; unfold KB at hk; go_simp
        simp only [Act.put, List.setIfInBounds_toArray, List.set_cons_zero, List.set_cons_succ]
        refine fl_takeS (i := 21) (d := 91) (v := .int .i64 b.y1) rfl rfl rfl (by kernel_rfl) (by kernel_rfl) (by kernel_rfl) hS ?_ ?_
        · intro w' hk; unfold KB at hk; go_simp
        simp only [Act.put, List.setIfInBounds_toArray, List.set_cons_zero, List.set_cons_succ]
        refine fl_takeS (i := 22) (d := 92) (v := .agg #[.int .i64 a.x1, .int .i64 b.y0, .int .i64 b.x0, .int .i64 b.y1]) rfl rfl rfl (by kernel_rfl) (by kernel_rfl) (by kernel_rfl) hS ?_ ?_
        · intro w' hk; unfold KB at hk; go_simp
        simp only [Act.put, List.setIfInBounds_toArray, List.set_cons_zero, List.set_cons_succ]
        refine wpAnyH_all (rs := [23]) (by kernel_rfl) (by simp) ?_
        intro i hi
        obtain rfl : i = 23 := by simpa using hi
        refine op_val (d := 93) (v := .slice (some ⟨W2.heap.size, 0, none⟩) 1 1) (w' := (W2.alloc (.cells #[.int .i64 a.x1, .int .i64 b.y0, .int .i64 b.x0, .int .i64 b.y1] 49)).drew) rfl rfl rfl (by go_simp; try rfl) ?_
        simp only [Act.put, List.setIfInBounds_toArray, List.set_cons_zero, List.set_cons_succ]
        have hk3 : KB W2 row (W2.alloc (.cells #[.int .i64 a.x1, .int .i64 b.y0, .int .i64 b.x0, .int .i64 b.y1] 49)).drew := KB.of fun b hb _ => Below.heap_alloc W2 _ _ hb
        have hnw : ∀ j u, (bcells ⟨a.x1, b.y0, b.x0, b.y1⟩)[j]? = some u → (W2.alloc (.cells #[.int .i64 a.x1, .int .i64 b.y0, .int .i64 b.x0, .int .i64 b.y1] 49)).drew.cell? ((⟨W2.heap.size, 0, none⟩ : Addr).add j) = some u := World.news_of_block (cs := #[.int .i64 a.x1, .int .i64 b.y0, .int .i64 b.x0, .int .i64 b.y1]) (t := 49) (fr := (0, 0)) (heap_alloc_new W2 _)
        refine ⟨hk3, wpAnyH_all (rs := [24]) (by kernel_rfl) (by simp) ?_⟩
        intro i hi
        obtain rfl : i = 24 := by simpa using hi
        refine op_append (dd := 94) rfl rfl rfl (.tmp 70) (.tmp 93) 24 rfl w.heap.size 49 i0 (.agg #[.int .i64 0, .int .i64 0, .int .i64 0, .int .i64 0]) 4 32 Try.underlying24 hi0 hz0 hz1 hz2 rfl (by decide) (.slice oa out.length oc) out.length (bflat out) rfl ((World.ownsRow.alloc HM2.out.1 _).drew) ⟨W2.heap.size, 0, none⟩ 1 1 (bcells ⟨a.x1, b.y0, b.x0, b.y1⟩) rfl rfl hnw (by simp [bcells, Value.oneCell']) (by unfold maxLen; omega) (by omega) (by simp; omega) ?_
        intro v4 w4 hown4 hgrow4 hv4
        have hg4 := undrew hgrow4
        have hp4 := push_step (w := w) (B := w.heap.size) HM2.out.1 (Nat.le_refl _) HM2.out.2 hsz2 hown4 hg4
        have hk4 : KB W2 row w4 := KB.of fun b hb hr => (hg4.block b (by simp; omega) (by rw [← HROW.out]; exact hr)).trans (Below.heap_alloc W2 _ _ hb)
        have R : Hid (BS w4 w.heap.size v4 (gapT s z (k + 1)) ∧ Below w.heap.size w w4) := by
          unfold Hid
          rw [HST.out]
          exact hp4
        simp only [Act.put, List.setIfInBounds_toArray, List.set_cons_zero, List.set_cons_succ]
        refine ⟨hk4, wpAnyH_all (rs := [25]) (by kernel_rfl) (by simp) ?_⟩
        intro i hi
        obtain rfl : i = 25 := by simpa using hi
        refine op_val (d := 7) (v := v4) (w' := w4) rfl rfl rfl (by go_simp) ?_
        simp only [Act.put, List.setIfInBounds_toArray, List.set_cons_zero, List.set_cons_succ]
        refine ⟨hk4, wpAnyH_done (by kernel_rfl) (NoPanic.normal ?_) _⟩
        clear hown4 hgrow4 hv4 hg4 hp4 hnw hk3 hk4 hS HST HM2
        go_wp2
        go_roundw
        case rel => exact ⟨k + 1, by omega, by go_num, R.out⟩
        case measure => simp [intOf]; omega
      · have R : Hid (∀ q, BS (wr.drewN q) w.heap.size (.slice oa (gapT s z k).length oc) (gapT s z (k + 1)) ∧ Below w.heap.size w (wr.drewN q)) := fun q => by
          rw [gapT_miss HB.out.1 HB.out.2 (fun e => hc e.2)]
          exact ⟨HM.out.1.below (below_drewN (Below.refl _ _) _), below_drewN HM.out.2 _⟩
        clear HM hga
        by_cases e1 : a.y0 = b.y0
        · have e2 : ¬ (b.x0 - a.x1 < z) := fun e => hc ⟨e1, e⟩
          have e3 : decide (b.x0 - a.x1 < z) = false := decide_eq_false e2
          have e4 : (a.y0 == b.y0) = true := by simpa using e1
          clear hc
          go_wp2_with (fail)
          go_quiet (fail)
          go_wp2
          go_roundw
          case rel => exact ⟨k + 1, by omega, by go_num, R.out _⟩
          case measure => simp [intOf]; omega
        · have e4 : (a.y0 == b.y0) = false := by simpa using e1
          clear hc
          go_wp2_with (fail)
          go_quiet (fail)
          go_wp2
          go_roundw
          case rel => exact ⟨k + 1, by omega, by go_num, R.out _⟩
          case measure => simp [intOf]; omega
    · have HR : Hid (BS wr w.heap.size _ (gapT s z k) ∧ Below w.heap.size w wr) := hR.out
      obtain rfl : k = n := by omega
      clear hR
      go_wp2
      go_returns
      exact ⟨_, rfl, HR.out.1, HR.out.2⟩

theorem spec_rows (gaps : Bool) {w : World} {v : Value} {s : List Bx} (z : Int) (hn : s.length ≤ 1000000) (hf : Fine s) (h : RB w v s) :
    Calls Try.prog 64 #[v, .int .i64 z, .bool gaps] w fun e w' => ∃ v', e = .returned v' ∧ BS w' w.heap.size v' (pickL gaps s z) ∧ Below w.heap.size w w' := by
  rcases Nat.eq_zero_or_pos s.length with h0 | hp
  · obtain rfl : s = [] := List.length_eq_zero_iff.1 h0
    obtain ⟨a, c, rfl⟩ := h.form
    have e : pickL gaps [] z = [] := by unfold pickL pickT; split <;> rfl
    rw [e]
    exact spec_rows_zero gaps a c z w
  · obtain ⟨g, o, c, rfl, hg, hj⟩ := h.pos hp
    cases gaps with
    | false => exact spec_thin_pos g o c _ s z w rfl hn hf hg hj
    | true => exact spec_gaps_pos g o c _ s z w rfl hn hf hg hj

end Go.Proofs.Ytokdpgabmifdjab
