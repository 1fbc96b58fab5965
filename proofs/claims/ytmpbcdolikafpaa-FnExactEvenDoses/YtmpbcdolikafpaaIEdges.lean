/- Proved here: edgesOf: the edges of both lists, rising. -/
import Derived.Test.YtmpbcdolikafpaaEdSort
namespace Go.Proofs.Ytmpbcdolikafpaa
open Go.RowKit Go.Sort
set_option linter.unusedVariables false
set_option linter.unusedSimpArgs false

/-- Behind the append of two edges. -/
theorem pushE2 {w wr w1 : World} {A B : Nat} {v v' : Value} {s : List Ed} {b c : Ed} {ob : Obj} (hbs : ES wr A v s) (hab : B ≤ A) (hbl : Below B w wr) (hs : B ≤ wr.heap.size)
    (h : w1.ownsRow A 94 5 v' (s.length + 2) (eflat s ++ (ecells b ++ ecells c))) (hg : (wr.alloc ob).grownBy w1 v.ownBlock) : ES w1 A v' (s ++ [b, c]) ∧ Below B w w1 := by
  refine ⟨?_, (hbl.alloc hs ob).grown hg (by simp; omega) (fun k hk => Nat.le_trans hab (World.ownsRow.lt hbs k hk).1)⟩
  unfold ES
  rw [eflat_append, List.length_append]
  have e : eflat [b, c] = ecells b ++ ecells c := by simp [eflat]
  rw [e]
  exact h
theorem flat_step {g : Bx → List Ed} {s : List Bx} {k : Nat} (h : k < s.length) : (s.take (k + 1)).flatMap g = (s.take k).flatMap g ++ g (bat s k) := by
  rw [take_bat h]; simp
theorem flat_len {s : List Bx} : (s.flatMap ed1).length = 2 * s.length ∧ (s.flatMap ed2).length = 2 * s.length := by
  induction s with
  | nil => exact ⟨rfl, rfl⟩
  | cons b t ih => simp [ed1, ed2] at ih ⊢; omega

set_option maxRecDepth 10000 in
set_option maxHeartbeats 4000000 in
theorem impl_edges : EdgesOk := by
  intro w va vb a b hn ha hb
  obtain ⟨aa, ac, rfl⟩ := ha.form
  obtain ⟨ba, bc, rfl⟩ := hb.form
  obtain ⟨la, hla⟩ : ∃ la, la = a.length := ⟨_, rfl⟩
  obtain ⟨lb, hlb⟩ : ∃ lb, lb = b.length := ⟨_, rfl⟩
  rw [← hla] at ha hn ⊢
  rw [← hlb] at hb hn ⊢
  have HA : Hid (RB w (.slice aa la ac) a ∧ la = a.length) := ⟨ha, hla⟩
  have HB : Hid (RB w (.slice ba lb bc) b ∧ lb = b.length) := ⟨hb, hlb⟩
  clear ha hb hla hlb
  obtain ⟨i0, hi, hz0, hz1, hz2⟩ := info_parts info_edge
  go_enter Try.func51, Try.ntmps51
  go_wp2_with (at_make; refine wpList_make_own _ rfl _ _ 83 rfl w.heap.size 94 i0 (.agg #[.int .i64 0, .int .i64 0, .int .i64 0, .int .i64 0, .int .i64 0]) 5 Try.underlying83 hi hz0 hz1 _ _ _ (2 * la + 2 * lb) rfl rfl rfl (by rw [hz2]; omega) (by unfold maxLen; omega) (by omega) ?_; intro w2 hown2 hgrow2)
  have hb2 : Below w.heap.size w w2 := (Below.refl _ _).grown hgrow2 (Nat.le_refl _) (fun k h => by cases h)
  have H2 : Hid (ES w2 w.heap.size (.slice (some ⟨w.heap.size, 0, none⟩) 0 (2 * la + 2 * lb)) [] ∧ Below w.heap.size w w2) := ⟨hown2, hb2⟩
  clear hown2 hgrow2 hb2
  go_loopw [5, 20] (fun v i wr => ∃ k : Nat, k ≤ la ∧ i = .int .i64 k ∧ Hid (ES wr w.heap.size v ((a.take k).flatMap ed1) ∧ Below w.heap.size w wr ∧ v ≠ .slice none 0 0)) (fun _ i _ => la - (intOf i).toNat)
  case atStart => exact ⟨0, Nat.zero_le _, rfl, H2.out.1, H2.out.2, fun h => by cases h⟩
  case round =>
    obtain ⟨k, hk, rfl, hR⟩ := hrel
    obtain ⟨hbs, hbl, hnn⟩ := hR.out
    clear hR
    by_cases hlt : k < la
    · have hk' : Hid (k < a.length) := by unfold Hid; rw [← HA.out.2]; exact hlt
      obtain ⟨g, o, c, he, hg, hj⟩ := HA.out.1.pos (by rw [← HA.out.2]; omega)
      simp only [Value.slice.injEq] at he
      obtain ⟨rfl, hx1, hx2⟩ := he
      clear hx1 hx2
      obtain ⟨c0, c1, c2, c3⟩ := (hj k hk'.out).below hg hbl
      obtain ⟨q, hq⟩ : ∃ q, q = bat a k := ⟨_, rfl⟩
      rw [← hq] at c0 c1 c2 c3
      have HQ : Hid (q = bat a k) := hq
      have hlen : ((a.take k).flatMap ed1).length ≤ 2 * la := by rw [flat_len.1, List.length_take]; omega
      have hsz := hbl.size
      have hgr : g < wr.heap.size := by omega
      have b0 : (0 : Int) ≤ (k : Int) := by omega
      have b1 : (k : Int) < (la : Int) := by omega
      have HBS : Hid (ES wr w.heap.size _ ((a.take k).flatMap ed1) ∧ Below w.heap.size w wr) := ⟨hbs, hbl⟩
      have HNN : Hid _ := hnn
      clear hbs hbl hj hq hnn
      go_wp2_with (at_builtin; refine wpList_append_own _ rfl _ _ 83 rfl w.heap.size 94 i0 (.agg #[.int .i64 0, .int .i64 0, .int .i64 0, .int .i64 0, .int .i64 0]) 5 40 Try.underlying83 hi hz0 hz1 hz2 rfl (by decide) _ _ _ rfl (World.ownsRow.alloc (World.ownsRow.alloc HBS.out.1 _) _) ⟨wr.heap.size + 1, 0, none⟩ 2 2 (ecells ⟨q.x0, q.y0, q.y1, 1, 0⟩ ++ ecells ⟨q.x1, q.y0, q.y1, -1, 0⟩) rfl rfl (World.news_of_block (cs := #[.int .i64 q.x0, .int .i64 q.y0, .int .i64 q.y1, .int .i64 1, .int .i64 0, .int .i64 q.x1, .int .i64 q.y0, .int .i64 q.y1, .int .i64 (-1), .int .i64 0]) (t := 94) (fr := (0, 0)) (by have := heap_alloc_new (wr.alloc (.cells #[.int .i64 q.x0, .int .i64 q.y0, .int .i64 q.x1, .int .i64 q.y1] 34)) (.cells #[.int .i64 q.x0, .int .i64 q.y0, .int .i64 q.y1, .int .i64 1, .int .i64 0, .int .i64 q.x1, .int .i64 q.y0, .int .i64 q.y1, .int .i64 (-1), .int .i64 0] 94); simpa using this)) (by simp [ecells, Value.oneCell']) (by unfold maxLen; omega) (by omega) (by simp; omega) ?_; intro v' w1 hown1 hgrow1 hnil1)
      have R : Hid (ES w1 w.heap.size v' ((a.take (k + 1)).flatMap ed1) ∧ Below w.heap.size w w1 ∧ v' ≠ .slice none 0 0) := by
        unfold Hid
        have := pushE2 (World.ownsRow.alloc HBS.out.1 _) (Nat.le_refl _) (HBS.out.2.alloc hsz _) (by simp; omega) hown1 hgrow1
        rw [flat_step hk'.out, ← HQ.out]
        exact ⟨this.1, this.2, fun e => HNN.out (hnil1.1 e).1⟩
      clear hown1 hgrow1 hnil1
      go_roundw
      case rel => exact ⟨k + 1, by omega, by go_num, R.out⟩
      case measure => simp [intOf]; omega
    · have e : Hid (a.take k = a) := List.take_of_length_le (by rw [← HA.out.2]; omega)
      rw [e.out] at hbs
      obtain ⟨fa, fc, rfl⟩ := hbs.form
      have HR : Hid (ES wr w.heap.size (.slice fa (a.flatMap ed1).length fc) (a.flatMap ed1) ∧ Below w.heap.size w wr ∧ (Value.slice fa (a.flatMap ed1).length fc) ≠ .slice none 0 0) := ⟨hbs, hbl, hnn⟩
      have hbl1 := hbl.size
      clear hbs hbl hnn H2
      obtain ⟨w3, hw3⟩ : ∃ w3, w3 = wr := ⟨_, rfl⟩
      rw [← hw3] at HR hbl1 ⊢
      clear hw3
      obtain ⟨m1, hm1⟩ : ∃ m1, m1 = (a.flatMap ed1).length := ⟨_, rfl⟩
      rw [← hm1] at HR ⊢
      have hm1l : m1 = 2 * la := by rw [hm1, flat_len.1, ← HA.out.2]
      clear hm1
      go_wp2
      go_loopw [5, 44] (fun v i wr => ∃ k : Nat, k ≤ lb ∧ i = .int .i64 k ∧ Hid (ES wr w.heap.size v (a.flatMap ed1 ++ (b.take k).flatMap ed2) ∧ Below w.heap.size w wr ∧ v ≠ .slice none 0 0)) (fun _ i _ => lb - (intOf i).toNat)
      case atStart => exact ⟨0, Nat.zero_le _, rfl, by simp only [List.take_zero, List.flatMap_nil, List.append_nil]; exact HR.out.1, HR.out.2.1, HR.out.2.2⟩
      case round =>
        obtain ⟨k, hk, rfl, hR⟩ := hrel
        obtain ⟨hbs, hbl, hnn⟩ := hR.out
        clear hR
        by_cases hlt : k < lb
        · have hk' : Hid (k < b.length) := by unfold Hid; rw [← HB.out.2]; exact hlt
          obtain ⟨g, o, c, he, hg, hj⟩ := HB.out.1.pos (by rw [← HB.out.2]; omega)
          simp only [Value.slice.injEq] at he
          obtain ⟨rfl, hx1, hx2⟩ := he
          clear hx1 hx2
          obtain ⟨c0, c1, c2, c3⟩ := (hj k hk'.out).below hg hbl
          obtain ⟨q, hq⟩ : ∃ q, q = bat b k := ⟨_, rfl⟩
          rw [← hq] at c0 c1 c2 c3
          have HQ : Hid (q = bat b k) := hq
          have hlen : (a.flatMap ed1 ++ (b.take k).flatMap ed2).length ≤ 2 * la + 2 * lb := by rw [List.length_append, flat_len.1, flat_len.2, List.length_take, ← HA.out.2]; omega
          have hsz := hbl.size
          have hgr : g < wr.heap.size := by omega
          have b0 : (0 : Int) ≤ (k : Int) := by omega
          have b1 : (k : Int) < (lb : Int) := by omega
          have HBS : Hid (ES wr w.heap.size _ (a.flatMap ed1 ++ (b.take k).flatMap ed2) ∧ Below w.heap.size w wr) := ⟨hbs, hbl⟩
          have HNN : Hid _ := hnn
          clear hbs hbl hj hq hnn
          go_wp2_with (at_builtin; refine wpList_append_own _ rfl _ _ 83 rfl w.heap.size 94 i0 (.agg #[.int .i64 0, .int .i64 0, .int .i64 0, .int .i64 0, .int .i64 0]) 5 40 Try.underlying83 hi hz0 hz1 hz2 rfl (by decide) _ _ _ rfl (World.ownsRow.alloc (World.ownsRow.alloc HBS.out.1 _) _) ⟨wr.heap.size + 1, 0, none⟩ 2 2 (ecells ⟨q.x0, q.y0, q.y1, 0, 1⟩ ++ ecells ⟨q.x1, q.y0, q.y1, 0, -1⟩) rfl rfl (World.news_of_block (cs := #[.int .i64 q.x0, .int .i64 q.y0, .int .i64 q.y1, .int .i64 0, .int .i64 1, .int .i64 q.x1, .int .i64 q.y0, .int .i64 q.y1, .int .i64 0, .int .i64 (-1)]) (t := 94) (fr := (0, 0)) (by have := heap_alloc_new (wr.alloc (.cells #[.int .i64 q.x0, .int .i64 q.y0, .int .i64 q.x1, .int .i64 q.y1] 34)) (.cells #[.int .i64 q.x0, .int .i64 q.y0, .int .i64 q.y1, .int .i64 0, .int .i64 1, .int .i64 q.x1, .int .i64 q.y0, .int .i64 q.y1, .int .i64 0, .int .i64 (-1)] 94); simpa using this)) (by simp [ecells, Value.oneCell']) (by unfold maxLen; omega) (by omega) (by simp; omega) ?_; intro v' w1 hown1 hgrow1 hnil1)
          have R : Hid (ES w1 w.heap.size v' (a.flatMap ed1 ++ (b.take (k + 1)).flatMap ed2) ∧ Below w.heap.size w w1 ∧ v' ≠ .slice none 0 0) := by
            unfold Hid
            have := pushE2 (World.ownsRow.alloc HBS.out.1 _) (Nat.le_refl _) (HBS.out.2.alloc hsz _) (by simp; omega) hown1 hgrow1
            rw [flat_step hk'.out, ← HQ.out, ← List.append_assoc]
            exact ⟨this.1, this.2, fun e => HNN.out (hnil1.1 e).1⟩
          clear hown1 hgrow1 hnil1
          go_roundw
          case rel => exact ⟨k + 1, by omega, by go_num, R.out⟩
          case measure => simp [intOf]; omega
        · have e : Hid (b.take k = b) := List.take_of_length_le (by rw [← HB.out.2]; omega)
          rw [e.out] at hbs
          obtain ⟨E, hE⟩ : ∃ E, E = a.flatMap ed1 ++ b.flatMap ed2 := ⟨_, rfl⟩
          rw [← hE] at hbs
          obtain ⟨ga, gc, rfl⟩ := hbs.form
          obtain ⟨g, rfl⟩ : ∃ g, ga = some ⟨g, 0, none⟩ := by
            rcases hbs.2 with ⟨h1, h2⟩ | ⟨g, cap, cur, h1, _⟩
            · exact absurd h1 hnn
            · simp only [Value.slice.injEq] at h1
              exact ⟨g, h1.1⟩
          have hEl : E.length ≤ 400000 := by rw [hE, List.length_append, flat_len.1, flat_len.2, ← HA.out.2, ← HB.out.2]; omega
          have HC : Hid (Calls Try.prog 63 #[.slice (some ⟨g, 0, none⟩) E.length gc, .func (.func 64) #[] #[]] wr fun e w' => e = .returned (.tuple #[]) ∧ ∃ E', E'.Perm E ∧ Rising E' ∧ ES w' w.heap.size (.slice (some ⟨g, 0, none⟩) E.length gc) E' ∧ Below w.heap.size wr w') := ed_sort hbs rfl (by omega)
          have HEE : Hid (E = edges a b ∧ Below w.heap.size w wr) := ⟨hE, hbl⟩
          clear hbs hbl hnn hE hEl
          go_wp2_with (fail)
          refine HC.out.mono ?_
          rintro e w5 ⟨rfl, E', hp, hr, hes, hb5⟩
          have HF : Hid (ES w5 w.heap.size (.slice (some ⟨g, 0, none⟩) E.length gc) E' ∧ E'.Perm (edges a b) ∧ Rising E' ∧ Below w.heap.size w w5) := ⟨hes, by rw [← HEE.out.1]; exact hp, hr, HEE.out.2.trans hb5⟩
          clear hp hr hes hb5 HC
          go_wp2
          go_returns
          exact ⟨_, E', rfl, HF.out.1, HF.out.2.1, HF.out.2.2.1, HF.out.2.2.2⟩

end Go.Proofs.Ytmpbcdolikafpaa
