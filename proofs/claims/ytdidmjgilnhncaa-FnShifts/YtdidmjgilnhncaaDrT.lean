/- Proved here: DrawShiftOf: two lists of numbers in memory of the call's own, and a number. -/
import Derived.Test.YtdidmjgilnhncaaDrS
import Derived.Maps.AppendAt
namespace Go.Proofs.Ytdidmjgilnhncaa
open Go.RowKit
set_option linter.unusedVariables false
set_option linter.unusedSimpArgs false

def lnV : Value → Nat
  | .slice _ n _ => n
  | _ => 0
theorem IS.setD {w : World} {B g n c : Nat} {xs : List Int} (h : IS w B (.slice (some ⟨g, 0, none⟩) n c) xs) (j : Nat) (y : Int) : IS (w.setCell ⟨g, j, none⟩ (.int .i64 y)) B (.slice (some ⟨g, 0, none⟩) n c) (xs.set j y) := by
  have hn : n = xs.length := by obtain ⟨_, _, e⟩ := h.form; injection e
  subst hn
  have := (World.ownsRow.stored h j (.int .i64 y)).1
  unfold IS
  rw [List.length_set, List.map_set]
  exact this
theorem IS.atD {w : World} {B g n c : Nat} {xs : List Int} (h : IS w B (.slice (some ⟨g, 0, none⟩) n c) xs) {j : Nat} (hj : j < n) : w.cell? ⟨g, j, none⟩ = some (.int .i64 (xs.getD j 0)) ∧ w.frozen? ⟨g, j, none⟩ = false := by
  have hn : n = xs.length := by obtain ⟨_, _, e⟩ := h.form; injection e
  subst hn
  refine ⟨?_, World.ownsRow.frozenAt h j⟩
  rw [World.ownsRow.cellAt h j (by omega)]
  simp [List.getElem?_map, List.getElem?_eq_getElem hj]
theorem IS.newsD {w : World} {B g n c : Nat} {xs : List Int} (h : IS w B (.slice (some ⟨g, 0, none⟩) n c) xs) : ∀ j u, (xs.map (Value.int .i64))[j]? = some u → w.cell? ((⟨g, 0, none⟩ : Addr).add j) = some u := by
  intro j u hu
  have hn : n = xs.length := by obtain ⟨_, _, e⟩ := h.form; injection e
  have hj : j < xs.length := by
    rcases Nat.lt_or_ge j xs.length with h' | h'
    · exact h'
    · rw [List.getElem?_eq_none (by simpa using h')] at hu; cases hu
  have hadd : (⟨g, 0, none⟩ : Addr).add j = ⟨g, j, none⟩ := by unfold Addr.add; split <;> simp_all
  rw [hadd, (h.atD (by omega)).1]
  rw [List.getElem?_map, List.getElem?_eq_getElem hj] at hu
  simp at hu
  rw [← hu, List.getD_eq_getElem?_getD, List.getElem?_eq_getElem hj]
  rfl
theorem one_intD (xs : List Int) : ∀ u ∈ xs.map (Value.int .i64), u.oneCell' = true := by
  intro u hu; obtain ⟨z, _, rfl⟩ := List.mem_map.1 hu; rfl
theorem IS.joinD {w : World} {B : Nat} {v : Value} {xs ys : List Int} (h : w.ownsRow B 2 1 v (xs.length + ys.length) (xs.map (Value.int .i64) ++ ys.map (Value.int .i64))) : IS w B v (xs ++ ys) := by
  unfold IS
  rw [List.length_append, List.map_append]
  exact h
theorem DSi.grow0 {w wr w1 : World} {b : Nat} {ca : Option Addr} {n cap : Nat} {bs : Nat → Int} {t0 t : Int} {row : Option Nat} (h0 : Src w b ca n cap bs t0) (h : DSi w wr b ca n cap bs t) (hg : wr.grownBy w1 row) (hr : ∀ k, row = some k → w.heap.size ≤ k) : DSi w w1 b ca n cap bs t := by
  have hsz := h.save.size
  exact h.write h0 hg.os hg.tape hg.output hg.size fun k hk => hg.block k (by omega) (fun e => by have := hr k e.symm; omega)
theorem two_at {w : World} {k : Nat} {a b : Int} {T : TypeId} (h : w.heap[k]? = some (.cells #[.int .i64 a, .int .i64 b] T)) : ∀ j, j < 2 → w.cell? ⟨k, j, none⟩ = some (.int .i64 ([a, b].getD j 0)) := by
  intro j hj
  simp only [World.cell?, h]
  match j, hj with
  | 0, _ => rfl
  | 1, _ => rfl

set_option maxRecDepth 10000 in
set_option maxHeartbeats 12800000 in
theorem drawSf_any (ca : Option Addr) (n cap : Nat) (bs : Nat → Int) (w : World) (hn : n ≤ 140737488351232) (hb : ∀ j, 0 ≤ bs j ∧ bs j ≤ 255)
    (hl : 0 < n → ∃ g off, ca = some ⟨g, off, none⟩ ∧ g < w.heap.size ∧ ∀ j, j < n → w.cell? ⟨g, off + j, none⟩ = some (.int .u8 (bs j))) :
    Calls Try.prog 10 #[.slice ca n cap] w fun e w' => ∃ v1 v2 s1 s2 m, e = .returned (.tuple #[v1, v2, .int .i64 m]) ∧ IS w' w.heap.size v1 s1 ∧ IS w' w.heap.size v2 s2 ∧ s1.length ≤ 201 ∧ s2.length ≤ 20 ∧ Below w.heap.size w w' := by
  obtain ⟨b, hbb⟩ : ∃ b, b = w.heap.size := ⟨_, rfl⟩
  have S0 : Hid (Src (w.alloc (.cells #[.slice ca n cap, .int .i64 0] 109)) b ca n cap bs 0) := by
    rw [hbb]
    refine ⟨heap_alloc_new _ _, hb, fun hp => ?_, hn, by omega⟩
    obtain ⟨g, off, e, hg, hc⟩ := hl hp
    exact ⟨g, off, e, by omega, fun j hj => (World.cell?_of_block (Below.heap_alloc w _ g hg)).trans (hc j hj)⟩
  clear hl hb
  obtain ⟨i0, hi, hz0, hz1, hz2⟩ := info_parts info_i64
  go_enter Try.func10, Try.ntmps10
  go_wp2_with (fail)
  refine (source_anyI _ _ _ _).mono ?_
  rintro e w0 ⟨rfl, hw0⟩
  have HBB : Hid (b = w.heap.size) := hbb
  rw [← HBB.out]
  have D0 : Hid (DSi w0 w0 b ca n cap bs 0 ∧ b < w0.heap.size ∧ Below w.heap.size w w0) := by
    refine ⟨DSi.start (by rw [hw0]; exact S0.out), by rw [hw0, hbb]; simp, by rw [hw0]; exact (Below.refl _ _).alloc (Nat.le_refl _) _⟩
  have hb0 : b < w0.heap.size := D0.out.2.1
  clear hw0 S0 hbb
  go_wp2_with (fail)
  refine (ints_any D0.out.1.src (by omega)).mono ?_
  rintro e w1 ⟨v1, s1, t1, rfl, hi1, hp1, hl1, ht1, ht1', hD1⟩
  obtain ⟨g1, c1, rfl, hg1, hg1', _⟩ := hi1.pos hp1
  have D1 : Hid (DSi w0 w1 b ca n cap bs t1 ∧ IS w1 w0.heap.size (.slice (some ⟨g1, 0, none⟩) s1.length c1) s1) := ⟨hD1, hi1⟩
  have hz1' : w0.heap.size ≤ w1.heap.size := hD1.save.size
  clear hi1 hD1
  go_wp2_with (fail)
  refine (ints_any D1.out.1.src (by omega)).mono ?_
  rintro e w2 ⟨v2, s2, t2, rfl, hi2, hp2, hl2, ht2, ht2', hD2⟩
  obtain ⟨a2, c2, rfl⟩ := hi2.form
  have D2 : Hid (DSi w0 w2 b ca n cap bs t2 ∧ IS w2 w0.heap.size (.slice (some ⟨g1, 0, none⟩) s1.length c1) s1 ∧ IS w2 w1.heap.size (.slice a2 s2.length c2) s2 ∧ w1.heap.size ≤ w2.heap.size) := ⟨D1.out.1.trans hD2, D1.out.2.saveI hb0 hD2.save, hi2, hD2.save.size⟩
  clear hi2 hD2 D1
  go_wp2_with (fail)
  refine (chance_any 2 D2.out.1.src (by omega) (by omega) (by omega)).mono ?_
  rintro e w3 ⟨r, rfl, hS3, hO3⟩
  have D3 : Hid (DSi w0 w3 b ca n cap bs (t2 + 1) ∧ IS w3 w0.heap.size (.slice (some ⟨g1, 0, none⟩) s1.length c1) s1 ∧ IS w3 w1.heap.size (.slice a2 s2.length c2) s2 ∧ w1.heap.size ≤ w3.heap.size) := ⟨D2.out.1.only hS3 hO3, D2.out.2.1.saveI hb0 ((SaveBut.refl _ _).only hO3), D2.out.2.2.1.saveI (by omega) ((SaveBut.refl _ _).only hO3), by have := D2.out.2.2.2; have := hO3.size; omega⟩
  clear hS3 hO3 D2
  have hz3 : w1.heap.size ≤ w3.heap.size := D3.out.2.2.2
  go_upto_if 15 with fail
  go_cut [7] from 16 (fun s7 wx => ∃ (v : Value) (sb : List Int), v = s7 ∧ 0 < sb.length ∧ sb.length ≤ 20 ∧ Hid (∃ T, 0 ≤ T ∧ T ≤ 40 ∧ DSi w0 wx b ca n cap bs T ∧ IS wx w0.heap.size (.slice (some ⟨g1, 0, none⟩) s1.length c1) s1 ∧ IS wx w1.heap.size v sb))
  case first =>
    cases r with
    | false =>
      go_wp2
      go_meet
      exact ⟨_, s2, rfl, hp2, by omega, t2 + 1, by omega, by omega, D3.out.1, D3.out.2.1, D3.out.2.2.1⟩
    | true =>
      go_wp2_with (fail)
      refine (ints_any D3.out.1.src (by omega)).mono ?_
      rintro e w4 ⟨v4, s4, t4, rfl, hi4, hp4, hl4, ht4, ht4', hD4⟩
      obtain ⟨a4, c4, rfl⟩ := hi4.form
      have D4 : Hid (DSi w0 w4 b ca n cap bs t4 ∧ IS w4 w0.heap.size (.slice (some ⟨g1, 0, none⟩) s1.length c1) s1 ∧ IS w4 w3.heap.size (.slice a4 s4.length c4) s4 ∧ w3.heap.size ≤ w4.heap.size) := ⟨D3.out.1.trans hD4, D3.out.2.1.saveI hb0 hD4.save, hi4, hD4.save.size⟩
      clear hi4 hD4
      go_wp2_with (at_builtin; refine wpList_append_own _ rfl _ _ 24 rfl w3.heap.size 2 i0 (.int .i64 0) 1 8 Try.underlying24 hi hz0 hz1 hz2 rfl (by decide) _ _ _ rfl D4.out.2.2.1 ⟨g1, 0, none⟩ s1.length c1 (s1.map (Value.int .i64)) rfl (by simp) D4.out.2.1.newsD (one_intD _) (by unfold maxLen; omega) (by omega) D4.out.2.2.2 ?_; intro v6 w6 hown6 hgrow6 _)
      have R6 : Hid (∃ T, 0 ≤ T ∧ T ≤ 40 ∧ DSi w0 w6 b ca n cap bs T ∧ IS w6 w0.heap.size (.slice (some ⟨g1, 0, none⟩) s1.length c1) s1 ∧ IS w6 w1.heap.size v6 (s4 ++ s1)) := by
        have hz4 := D4.out.2.2.2
        have hrow : ∀ k, (Value.slice a4 s4.length c4).ownBlock = some k → w3.heap.size ≤ k := fun k hk => (World.ownsRow.lt D4.out.2.2.1 k hk).1
        refine ⟨t4, by omega, by omega, D4.out.1.grow0 D0.out.1.src hgrow6 (fun k hk => by have := hrow k hk; omega), D4.out.2.1.kept fun g hg => ?_, (IS.joinD hown6).low hz3⟩
        obtain rfl : g1 = g := by simpa [Value.ownBlock] using hg
        exact hgrow6.block g1 (by omega) (fun e => by have := hrow g1 e.symm; omega)
      clear hown6 hgrow6 D4
      go_wp2
      go_meet
      exact ⟨_, s4 ++ s1, rfl, by simp; omega, by simp; omega, R6.out⟩
  case rest =>
    obtain ⟨v, sb, rfl, hsb0, hsb, hcut⟩ := hcut
    obtain ⟨T, hT0, hT1, hD5, hi5, hj5⟩ := hcut.out
    obtain ⟨g2, c2', rfl, hg2, hg2', _⟩ := hj5.pos hsb0
    have D5 : Hid (DSi w0 wc b ca n cap bs T ∧ IS wc w0.heap.size (.slice (some ⟨g1, 0, none⟩) s1.length c1) s1 ∧ IS wc w1.heap.size (.slice (some ⟨g2, 0, none⟩) sb.length c2') sb) := ⟨hD5, hi5, hj5⟩
    clear hcut hD5 hi5 hj5 D3
    go_wp2_with (fail)
    refine (next_any _ D5.out.1.src (by omega) (by omega) (by omega)).mono ?_
    rintro e w5 ⟨q5, rfl, q50, q51, hS5, hO5⟩
    have D6 : Hid (DSi w0 w5 b ca n cap bs (T + 1) ∧ IS w5 w0.heap.size (.slice (some ⟨g1, 0, none⟩) s1.length c1) s1 ∧ IS w5 w1.heap.size (.slice (some ⟨g2, 0, none⟩) sb.length c2') sb) := ⟨D5.out.1.only hS5 hO5, D5.out.2.1.saveI hb0 ((SaveBut.refl _ _).only hO5), D5.out.2.2.saveI (by omega) ((SaveBut.refl _ _).only hO5)⟩
    clear hS5 hO5 D5
    by_cases k0 : q5 = 0
    · subst k0
      have HT : Hid (DSi w0 w5 b ca n cap bs (T + 1) ∧ IS w5 w0.heap.size (.slice none 0 0) [] ∧ IS w5 w0.heap.size (.slice (some ⟨g2, 0, none⟩) sb.length c2') sb) := ⟨D6.out.1, ⟨rfl, Or.inl ⟨rfl, rfl⟩⟩, D6.out.2.2.low hz1'⟩
      have hla : Hid (([] : List Int).length ≤ 201) := by unfold Hid; decide
      have hlb : Hid (sb.length ≤ 20) := hsb
      clear D6
      go_wp2_with (fail)
      refine (next_any _ HT.out.1.src (by omega) (by omega) (by omega)).mono ?_
      rintro e w8 ⟨q, rfl, q0, q1, hS8, hO8⟩
      have E8 : Hid (DSi w0 w8 b ca n cap bs (T + 1 + 1) ∧ IS w8 w0.heap.size (.slice none 0 0) ([]) ∧ IS w8 w0.heap.size (.slice (some ⟨g2, 0, none⟩) sb.length c2') (sb)) := ⟨HT.out.1.only hS8 hO8, HT.out.2.1.saveI hb0 ((SaveBut.refl _ _).only hO8), HT.out.2.2.saveI hb0 ((SaveBut.refl _ _).only hO8)⟩
      clear hS8 hO8 HT
      obtain ⟨Z, hZ⟩ : ∃ Z, Z = 1 + q := ⟨_, rfl⟩
      have e8 : IntKind.i64.wrap (1 + q) = Z := by rw [hZ, IntKind.wrap_i64]; omega
      have hne8 : ¬ w8.heap.size = b := by have := E8.out.1.save.size; omega
      clear hZ q0 q1
      go_wp2_with (fail)
      refine (pick_in w8.heap.size 6 6 (fun j => [Z, 0, 5, 100, 101, -1].getD j 0) (E8.out.1.alloc _).src (by omega) (by omega) (by omega) hne8 (six_at (heap_alloc_new w8 _))).mono ?_
      rintro e w9 ⟨j9, hj9, rfl, hS9, hO9⟩
      obtain ⟨M, hM⟩ : ∃ M, M = [Z, 0, 5, 100, 101, -1].getD j9 0 := ⟨_, rfl⟩
      simp only [← hM]
      have E9 : Hid (IS w9 w.heap.size (.slice none 0 0) ([]) ∧ IS w9 w.heap.size (.slice (some ⟨g2, 0, none⟩) sb.length c2') (sb) ∧ Below w.heap.size w w9) := by
        have hbe := HBB.out
        have hbw := D0.out.2.2.size
        refine ⟨((E8.out.2.1.bel ((Below.refl _ _).alloc (Nat.le_refl _) _)).saveI hb0 ((SaveBut.refl _ _).only hO9)).low (by omega), ((E8.out.2.2.bel ((Below.refl _ _).alloc (Nat.le_refl _) _)).saveI hb0 ((SaveBut.refl _ _).only hO9)).low (by omega), ?_⟩
        exact D0.out.2.2.trans (((E8.out.1.alloc _).only hS9 hO9).save.below (by omega) (by omega))
      clear hS9 hO9 hj9 hM hne8 E8
      go_wp2
      go_returns
      exact ⟨_, _, [], sb, M, rfl, E9.out.1, E9.out.2.1, hla.out, hlb.out, E9.out.2.2⟩
    have k0' : (q5 == 0) = false := by simpa using k0
    by_cases k1 : q5 = 1
    · subst k1
      have hne5 : ¬ w5.heap.size = b := by have := D6.out.1.save.size; omega
      go_wp2_with (fail)
      refine (pick_in w5.heap.size 2 2 (fun j => [(1000 : Int), 1001].getD j 0) (D6.out.1.alloc _).src (by omega) (by omega) (by omega) hne5 (two_at (heap_alloc_new w5 _))).mono ?_
      rintro e w6 ⟨j6, hj6, rfl, hS6, hO6⟩
      obtain ⟨Y, hY⟩ : ∃ Y : Int, Y = [(1000 : Int), 1001].getD j6 0 := ⟨_, rfl⟩
      simp only [← hY]
      have D7 : Hid (DSi w0 w6 b ca n cap bs (T + 1 + 1) ∧ IS w6 w0.heap.size (.slice (some ⟨g1, 0, none⟩) s1.length c1) s1 ∧ IS w6 w1.heap.size (.slice (some ⟨g2, 0, none⟩) sb.length c2') sb) := ⟨(D6.out.1.alloc _).only hS6 hO6, (D6.out.2.1.bel ((Below.refl _ _).alloc (Nat.le_refl _) _)).saveI hb0 ((SaveBut.refl _ _).only hO6), (D6.out.2.2.bel ((Below.refl _ _).alloc (Nat.le_refl _) _)).saveI (by omega) ((SaveBut.refl _ _).only hO6)⟩
      clear hS6 hO6 hj6 hY hne5 D6
      obtain ⟨hc6, hf6⟩ := D7.out.2.2.atD (j := 0) hsb0
      have hg6 := lt_of_cell hc6
      obtain ⟨y6, hy6⟩ : ∃ y, y = sb.getD 0 0 := ⟨_, rfl⟩
      rw [← hy6] at hc6
      clear hy6
      have b6 : (0 : Int) < (sb.length : Int) := by omega
      have HT : Hid (DSi w0 (w6.setCell ⟨g2, 0, none⟩ (.int .i64 Y)) b ca n cap bs (T + 1 + 1) ∧ IS (w6.setCell ⟨g2, 0, none⟩ (.int .i64 Y)) w0.heap.size (.slice (some ⟨g1, 0, none⟩) s1.length c1) s1 ∧ IS (w6.setCell ⟨g2, 0, none⟩ (.int .i64 Y)) w0.heap.size (.slice (some ⟨g2, 0, none⟩) sb.length c2') (sb.set 0 Y)) := by
        refine ⟨D7.out.1.write D0.out.1.src rfl rfl rfl (by simp) fun k hk => heap_setCell_other w6 ⟨g2, 0, none⟩ k _ (fun e => by simp at e; omega), D7.out.2.1.kept fun g hg => ?_, (D7.out.2.2.setD 0 Y).low hz1'⟩
        obtain rfl : g1 = g := by simpa [Value.ownBlock] using hg
        exact heap_setCell_other w6 ⟨g2, 0, none⟩ g1 _ (fun e => by simp at e; omega)
      have hla : Hid (s1.length ≤ 201) := by unfold Hid; omega
      have hlb : Hid ((sb.set 0 Y).length ≤ 20) := by unfold Hid; simpa using hsb
      clear D7
      go_wp2_with (fail)
      refine (next_any _ HT.out.1.src (by omega) (by omega) (by omega)).mono ?_
      rintro e w8 ⟨q, rfl, q0, q1, hS8, hO8⟩
      have E8 : Hid (DSi w0 w8 b ca n cap bs (T + 1 + 1 + 1) ∧ IS w8 w0.heap.size (.slice (some ⟨g1, 0, none⟩) s1.length c1) (s1) ∧ IS w8 w0.heap.size (.slice (some ⟨g2, 0, none⟩) sb.length c2') (sb.set 0 Y)) := ⟨HT.out.1.only hS8 hO8, HT.out.2.1.saveI hb0 ((SaveBut.refl _ _).only hO8), HT.out.2.2.saveI hb0 ((SaveBut.refl _ _).only hO8)⟩
      clear hS8 hO8 HT
      obtain ⟨Z, hZ⟩ : ∃ Z, Z = 1 + q := ⟨_, rfl⟩
      have e8 : IntKind.i64.wrap (1 + q) = Z := by rw [hZ, IntKind.wrap_i64]; omega
      have hne8 : ¬ w8.heap.size = b := by have := E8.out.1.save.size; omega
      clear hZ q0 q1
      go_wp2_with (fail)
      refine (pick_in w8.heap.size 6 6 (fun j => [Z, 0, 5, 100, 101, -1].getD j 0) (E8.out.1.alloc _).src (by omega) (by omega) (by omega) hne8 (six_at (heap_alloc_new w8 _))).mono ?_
      rintro e w9 ⟨j9, hj9, rfl, hS9, hO9⟩
      obtain ⟨M, hM⟩ : ∃ M, M = [Z, 0, 5, 100, 101, -1].getD j9 0 := ⟨_, rfl⟩
      simp only [← hM]
      have E9 : Hid (IS w9 w.heap.size (.slice (some ⟨g1, 0, none⟩) s1.length c1) (s1) ∧ IS w9 w.heap.size (.slice (some ⟨g2, 0, none⟩) sb.length c2') (sb.set 0 Y) ∧ Below w.heap.size w w9) := by
        have hbe := HBB.out
        have hbw := D0.out.2.2.size
        refine ⟨((E8.out.2.1.bel ((Below.refl _ _).alloc (Nat.le_refl _) _)).saveI hb0 ((SaveBut.refl _ _).only hO9)).low (by omega), ((E8.out.2.2.bel ((Below.refl _ _).alloc (Nat.le_refl _) _)).saveI hb0 ((SaveBut.refl _ _).only hO9)).low (by omega), ?_⟩
        exact D0.out.2.2.trans (((E8.out.1.alloc _).only hS9 hO9).save.below (by omega) (by omega))
      clear hS9 hO9 hj9 hM hne8 E8
      go_wp2
      go_returns
      exact ⟨_, _, s1, sb.set 0 Y, M, rfl, E9.out.1, E9.out.2.1, hla.out, hlb.out, E9.out.2.2⟩
    have k1' : (q5 == 1) = false := by simpa using k1
    by_cases k2 : q5 = 2
    · subst k2
      have HAP : Hid (∀ g, (Value.slice (some ⟨g1, 0, none⟩) s1.length c1).ownBlock = some g → g ≠ g2) := by
        intro g hg
        obtain rfl : g1 = g := by simpa [Value.ownBlock] using hg
        omega
      go_wp2
      go_loopw [6] (fun va wr => ∃ (v : Value) (s : List Int), v = va ∧ s.length ≤ 201 ∧ Hid (∃ T, 0 ≤ T ∧ T ≤ 50 + (s.length : Int) ∧ DSi w0 wr b ca n cap bs T ∧ IS wr w0.heap.size v s ∧ (∀ g, v.ownBlock = some g → g ≠ g2) ∧ IS wr w1.heap.size (.slice (some ⟨g2, 0, none⟩) sb.length c2') sb)) (fun va _ => 202 - lnV va)
      case atStart => exact ⟨_, s1, rfl, by omega, T + 1, by omega, by omega, D6.out.1, D6.out.2.1, HAP.out, D6.out.2.2⟩
      case round =>
        obtain ⟨v, s, rfl, hls, hR⟩ := hrel
        obtain ⟨T', hT'0, hT'1, hD, hs, hap, hb2⟩ := hR.out
        obtain ⟨a7, c7, rfl⟩ := hs.form
        have D7 : Hid (DSi w0 wr b ca n cap bs T' ∧ IS wr w0.heap.size (.slice a7 s.length c7) s ∧ (∀ g, (Value.slice a7 s.length c7).ownBlock = some g → g ≠ g2) ∧ IS wr w1.heap.size (.slice (some ⟨g2, 0, none⟩) sb.length c2') sb) := ⟨hD, hs, hap, hb2⟩
        clear hR hD hs hap hb2 D6
        go_wp2_with (fail)
        refine (next_any _ D7.out.1.src (by omega) (by omega) (by omega)).mono ?_
        rintro e w6 ⟨q6, rfl, q60, q61, hS6, hO6⟩
        have D8 : Hid (DSi w0 w6 b ca n cap bs (T' + 1) ∧ IS w6 w0.heap.size (.slice a7 s.length c7) s ∧ (∀ g, (Value.slice a7 s.length c7).ownBlock = some g → g ≠ g2) ∧ IS w6 w1.heap.size (.slice (some ⟨g2, 0, none⟩) sb.length c2') sb) := ⟨D7.out.1.only hS6 hO6, D7.out.2.1.saveI hb0 ((SaveBut.refl _ _).only hO6), D7.out.2.2.1, D7.out.2.2.2.saveI (by omega) ((SaveBut.refl _ _).only hO6)⟩
        clear hS6 hO6 D7
        obtain ⟨M2, hM2⟩ : ∃ M, M = 200 + q6 := ⟨_, rfl⟩
        have e6 : IntKind.i64.wrap (200 + q6) = M2 := by rw [hM2, IntKind.wrap_i64]; omega
        have hM3 : M2 ≤ 201 := by omega
        clear hM2 q60 q61
        by_cases hlt : (s.length : Int) < M2
        · have hsz6 := D8.out.1.save.size
          go_wp2_with (at_builtin; refine wpList_append_own_at _ rfl _ _ 24 rfl w0.heap.size 2 i0 (.int .i64 0) 1 8 Try.underlying24 hi hz0 hz1 hz2 rfl (by decide) _ _ _ rfl (World.ownsRow.alloc D8.out.2.1 _) ⟨w6.heap.size, 0, none⟩ 1 1 [.int .i64 1] rfl rfl (World.news_of_block (cs := #[.int .i64 1]) (t := 2) (fr := (0, 0)) (heap_alloc_new w6 _)) (by simp [Value.oneCell']) (by unfold maxLen; omega) (by omega) (by simp; omega) ?_; intro v9 w9 hown9 hgrow9 _ hat9)
          have R9 : Hid (∃ T, 0 ≤ T ∧ T ≤ 50 + ((s ++ [1]).length : Int) ∧ DSi w0 w9 b ca n cap bs T ∧ IS w9 w0.heap.size v9 (s ++ [1]) ∧ (∀ g, v9.ownBlock = some g → g ≠ g2) ∧ IS w9 w1.heap.size (.slice (some ⟨g2, 0, none⟩) sb.length c2') sb) := by
            have hg2w := (World.ownsRow.lt D8.out.2.2.2 g2 rfl).2
            have hk : ∀ g, g < w6.heap.size → (∀ k, (Value.slice a7 s.length c7).ownBlock = some k → k ≠ g) → w9.heap[g]? = w6.heap[g]? := fun g h1 h2 => (hgrow9.block g (by simp; omega) (fun e => h2 g e.symm rfl)).trans (Below.heap_alloc _ _ _ h1)
            have hB2 : IS w9 w1.heap.size (.slice (some ⟨g2, 0, none⟩) sb.length c2') sb := D8.out.2.2.2.kept fun g hg => by
              obtain rfl : g2 = g := by simpa [Value.ownBlock] using hg
              exact hk g2 hg2w D8.out.2.2.1
            have hA : IS w9 w0.heap.size v9 (s ++ [1]) := IS.snocD hown9
            refine ⟨T' + 1, by omega, by simp; omega, D8.out.1.grown D0.out.1.src hgrow9 (fun q hq => (World.ownsRow.lt D8.out.2.1 q hq).1), hA, ?_, hB2⟩
            intro g hg
            rcases hat9 with h9 | h9
            · exact D8.out.2.2.1 g (h9.symm.trans hg)
            · obtain rfl : (w6.alloc (.cells #[.int .i64 1] 2)).heap.size = g := Option.some.inj (h9.symm.trans hg)
              simp; omega
          clear hown9 hgrow9 D8
          go_wp2
          go_roundw
          case rel => exact ⟨v9, s ++ [1], rfl, by simp; omega, R9.out⟩
          case measure =>
            obtain ⟨_, _, _, _, h9, _⟩ := R9.out
            obtain ⟨a9, c9, rfl⟩ := h9.form
            simp [lnV]; omega
        · have hlt' : decide ((s.length : Int) < M2) = false := decide_eq_false hlt
          have HT : Hid (DSi w0 w6 b ca n cap bs (T' + 1) ∧ IS w6 w0.heap.size (.slice a7 s.length c7) s ∧ IS w6 w0.heap.size (.slice (some ⟨g2, 0, none⟩) sb.length c2') sb) := ⟨D8.out.1, D8.out.2.1, D8.out.2.2.2.low hz1'⟩
          have hla : Hid (s.length ≤ 201) := hls
          have hlb : Hid (sb.length ≤ 20) := hsb
          clear D8
          go_wp2_with (fail)
          refine (next_any _ HT.out.1.src (by omega) (by omega) (by omega)).mono ?_
          rintro e w8 ⟨q, rfl, q0, q1, hS8, hO8⟩
          have E8 : Hid (DSi w0 w8 b ca n cap bs (T' + 1 + 1) ∧ IS w8 w0.heap.size (.slice a7 s.length c7) (s) ∧ IS w8 w0.heap.size (.slice (some ⟨g2, 0, none⟩) sb.length c2') (sb)) := ⟨HT.out.1.only hS8 hO8, HT.out.2.1.saveI hb0 ((SaveBut.refl _ _).only hO8), HT.out.2.2.saveI hb0 ((SaveBut.refl _ _).only hO8)⟩
          clear hS8 hO8 HT
          obtain ⟨Z, hZ⟩ : ∃ Z, Z = 1 + q := ⟨_, rfl⟩
          have e8 : IntKind.i64.wrap (1 + q) = Z := by rw [hZ, IntKind.wrap_i64]; omega
          have hne8 : ¬ w8.heap.size = b := by have := E8.out.1.save.size; omega
          clear hZ q0 q1
          go_wp2_with (fail)
          refine (pick_in w8.heap.size 6 6 (fun j => [Z, 0, 5, 100, 101, -1].getD j 0) (E8.out.1.alloc _).src (by omega) (by omega) (by omega) hne8 (six_at (heap_alloc_new w8 _))).mono ?_
          rintro e w9 ⟨j9, hj9, rfl, hS9, hO9⟩
          obtain ⟨M, hM⟩ : ∃ M, M = [Z, 0, 5, 100, 101, -1].getD j9 0 := ⟨_, rfl⟩
          simp only [← hM]
          have E9 : Hid (IS w9 w.heap.size (.slice a7 s.length c7) (s) ∧ IS w9 w.heap.size (.slice (some ⟨g2, 0, none⟩) sb.length c2') (sb) ∧ Below w.heap.size w w9) := by
            have hbe := HBB.out
            have hbw := D0.out.2.2.size
            refine ⟨((E8.out.2.1.bel ((Below.refl _ _).alloc (Nat.le_refl _) _)).saveI hb0 ((SaveBut.refl _ _).only hO9)).low (by omega), ((E8.out.2.2.bel ((Below.refl _ _).alloc (Nat.le_refl _) _)).saveI hb0 ((SaveBut.refl _ _).only hO9)).low (by omega), ?_⟩
            exact D0.out.2.2.trans (((E8.out.1.alloc _).only hS9 hO9).save.below (by omega) (by omega))
          clear hS9 hO9 hj9 hM hne8 E8
          go_wp2
          go_returns
          exact ⟨_, _, s, sb, M, rfl, E9.out.1, E9.out.2.1, hla.out, hlb.out, E9.out.2.2⟩
    have k2' : (q5 == 2) = false := by simpa using k2
    have HT : Hid (DSi w0 w5 b ca n cap bs (T + 1) ∧ IS w5 w0.heap.size (.slice (some ⟨g1, 0, none⟩) s1.length c1) s1 ∧ IS w5 w0.heap.size (.slice (some ⟨g2, 0, none⟩) sb.length c2') sb) := ⟨D6.out.1, D6.out.2.1, D6.out.2.2.low hz1'⟩
    have hla : Hid (s1.length ≤ 201) := by unfold Hid; omega
    have hlb : Hid (sb.length ≤ 20) := hsb
    clear D6
    go_wp2_with (fail)
    refine (next_any _ HT.out.1.src (by omega) (by omega) (by omega)).mono ?_
    rintro e w8 ⟨q, rfl, q0, q1, hS8, hO8⟩
    have E8 : Hid (DSi w0 w8 b ca n cap bs (T + 1 + 1) ∧ IS w8 w0.heap.size (.slice (some ⟨g1, 0, none⟩) s1.length c1) (s1) ∧ IS w8 w0.heap.size (.slice (some ⟨g2, 0, none⟩) sb.length c2') (sb)) := ⟨HT.out.1.only hS8 hO8, HT.out.2.1.saveI hb0 ((SaveBut.refl _ _).only hO8), HT.out.2.2.saveI hb0 ((SaveBut.refl _ _).only hO8)⟩
    clear hS8 hO8 HT
    obtain ⟨Z, hZ⟩ : ∃ Z, Z = 1 + q := ⟨_, rfl⟩
    have e8 : IntKind.i64.wrap (1 + q) = Z := by rw [hZ, IntKind.wrap_i64]; omega
    have hne8 : ¬ w8.heap.size = b := by have := E8.out.1.save.size; omega
    clear hZ q0 q1
    go_wp2_with (fail)
    refine (pick_in w8.heap.size 6 6 (fun j => [Z, 0, 5, 100, 101, -1].getD j 0) (E8.out.1.alloc _).src (by omega) (by omega) (by omega) hne8 (six_at (heap_alloc_new w8 _))).mono ?_
    rintro e w9 ⟨j9, hj9, rfl, hS9, hO9⟩
    obtain ⟨M, hM⟩ : ∃ M, M = [Z, 0, 5, 100, 101, -1].getD j9 0 := ⟨_, rfl⟩
    simp only [← hM]
    have E9 : Hid (IS w9 w.heap.size (.slice (some ⟨g1, 0, none⟩) s1.length c1) (s1) ∧ IS w9 w.heap.size (.slice (some ⟨g2, 0, none⟩) sb.length c2') (sb) ∧ Below w.heap.size w w9) := by
      have hbe := HBB.out
      have hbw := D0.out.2.2.size
      refine ⟨((E8.out.2.1.bel ((Below.refl _ _).alloc (Nat.le_refl _) _)).saveI hb0 ((SaveBut.refl _ _).only hO9)).low (by omega), ((E8.out.2.2.bel ((Below.refl _ _).alloc (Nat.le_refl _) _)).saveI hb0 ((SaveBut.refl _ _).only hO9)).low (by omega), ?_⟩
      exact D0.out.2.2.trans (((E8.out.1.alloc _).only hS9 hO9).save.below (by omega) (by omega))
    clear hS9 hO9 hj9 hM hne8 E8
    go_wp2
    go_returns
    exact ⟨_, _, s1, sb, M, rfl, E9.out.1, E9.out.2.1, hla.out, hlb.out, E9.out.2.2⟩

end Go.Proofs.Ytdidmjgilnhncaa
