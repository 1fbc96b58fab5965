/- Proved here: slices.Sort and slices.Compact at a list of numbers of the call's own: what is left is rising, with the same numbers. By the library's contracts. (And ahead of it: Proved here: edgesOf: the edges of both lists, rising.) -/
import Derived.Test.YtlnhfgacgbdjaaaEdSort
import Derived.Test.YtlnhfgacgbdjaaaSort
namespace Go.Proofs.Ytlnhfgacgbdjaaa
open Go.RowKit Go.Sort
set_option linter.unusedVariables false
set_option linter.unusedSimpArgs false

/-- Behind the append of two edges. -/
theorem pushE2 {w wr w1 : World} {A B : Nat} {v v' : Value} {s : List Ed} {b c : Ed} {ob : Obj} (hbs : ES wr A v s) (hab : B ≤ A) (hbl : Below B w wr) (hs : B ≤ wr.heap.size)
    (h : w1.ownsRow A 80 5 v' (s.length + 2) (eflat s ++ (ecells b ++ ecells c))) (hg : (wr.alloc ob).grownBy w1 v.ownBlock) : ES w1 A v' (s ++ [b, c]) ∧ Below B w w1 := by
  refine ⟨?_, (hbl.alloc hs ob).grown hg (by simp; omega) (fun k hk => Nat.le_trans hab (World.ownsRow.lt hbs k hk).1)⟩
  unfold ES
  rw [eflat_append, List.length_append]
  have e : eflat [b, c] = ecells b ++ ecells c := by simp [eflat]
  rw [e]
  exact h
theorem flat_step {g : Bx → List Ed} {s : List Bx} {k : Nat} (h : k < s.length) : (s.take (k + 1)).flatMap g = (s.take k).flatMap g ++ g (bat s k) := by
  rw [take_bat h]; simp
theorem flat_len {s : List Bx} : (s.flatMap ed1).length = 2 * s.length ∧ (s.flatMap ed2).length = 2 * s.length := by
  induction s with
  | nil => exact ⟨rfl, rfl⟩
  | cons b t ih => simp [ed1, ed2] at ih ⊢; omega

set_option maxRecDepth 10000 in
set_option maxHeartbeats 4000000 in
theorem impl_edges : EdgesOk := by
  intro w va vb a b hn ha hb
  obtain ⟨aa, ac, rfl⟩ := ha.form
  obtain ⟨ba, bc, rfl⟩ := hb.form
  obtain ⟨la, hla⟩ : ∃ la, la = a.length := ⟨_, rfl⟩
  obtain ⟨lb, hlb⟩ : ∃ lb, lb = b.length := ⟨_, rfl⟩
  rw [← hla] at ha hn ⊢
  rw [← hlb] at hb hn ⊢
  have HA : Hid (RB w (.slice aa la ac) a ∧ la = a.length) := ⟨ha, hla⟩
  have HB : Hid (RB w (.slice ba lb bc) b ∧ lb = b.length) := ⟨hb, hlb⟩
  clear ha hb hla hlb
  obtain ⟨i0, hi, hz0, hz1, hz2⟩ := info_parts info_edge
  go_enter Try.func60, Try.ntmps60
  go_wp2_with (at_make; refine wpList_make_own _ rfl _ _ 70 rfl w.heap.size 80 i0 (.agg #[.int .i64 0, .int .i64 0, .int .i64 0, .int .i64 0, .int .i64 0]) 5 Try.underlying70 hi hz0 hz1 _ _ _ (2 * la + 2 * lb) rfl rfl rfl (by rw [hz2]; omega) (by unfold maxLen; omega) (by omega) ?_; intro w2 hown2 hgrow2)
  have hb2 : Below w.heap.size w w2 := (Below.refl _ _).grown hgrow2 (Nat.le_refl _) (fun k h => by cases h)
  have H2 : Hid (ES w2 w.heap.size (.slice (some ⟨w.heap.size, 0, none⟩) 0 (2 * la + 2 * lb)) [] ∧ Below w.heap.size w w2) := ⟨hown2, hb2⟩
  clear hown2 hgrow2 hb2
  go_loopw [5, 20] (fun v i wr => ∃ k : Nat, k ≤ la ∧ i = .int .i64 k ∧ Hid (ES wr w.heap.size v ((a.take k).flatMap ed1) ∧ Below w.heap.size w wr ∧ v ≠ .slice none 0 0)) (fun _ i _ => la - (intOf i).toNat)
  case atStart => exact ⟨0, Nat.zero_le _, rfl, H2.out.1, H2.out.2, fun h => by cases h⟩
  case round =>
    obtain ⟨k, hk, rfl, hR⟩ := hrel
    obtain ⟨hbs, hbl, hnn⟩ := hR.out
    clear hR
    by_cases hlt : k < la
    · have hk' : Hid (k < a.length) := by unfold Hid; rw [← HA.out.2]; exact hlt
      obtain ⟨g, o, c, he, hg, hj⟩ := HA.out.1.pos (by rw [← HA.out.2]; omega)
      simp only [Value.slice.injEq] at he
      obtain ⟨rfl, hx1, hx2⟩ := he
      clear hx1 hx2
      obtain ⟨c0, c1, c2, c3⟩ := (hj k hk'.out).below hg hbl
      obtain ⟨q, hq⟩ : ∃ q, q = bat a k := ⟨_, rfl⟩
      rw [← hq] at c0 c1 c2 c3
      have HQ : Hid (q = bat a k) := hq
      have hlen : ((a.take k).flatMap ed1).length ≤ 2 * la := by rw [flat_len.1, List.length_take]; omega
      have hsz := hbl.size
      have hgr : g < wr.heap.size := by omega
      have b0 : (0 : Int) ≤ (k : Int) := by omega
      have b1 : (k : Int) < (la : Int) := by omega
      have HBS : Hid (ES wr w.heap.size _ ((a.take k).flatMap ed1) ∧ Below w.heap.size w wr) := ⟨hbs, hbl⟩
      have HNN : Hid _ := hnn
      clear hbs hbl hj hq hnn
      go_wp2_with (at_builtin; refine wpList_append_own _ rfl _ _ 70 rfl w.heap.size 80 i0 (.agg #[.int .i64 0, .int .i64 0, .int .i64 0, .int .i64 0, .int .i64 0]) 5 40 Try.underlying70 hi hz0 hz1 hz2 rfl (by decide) _ _ _ rfl (World.ownsRow.alloc (World.ownsRow.alloc HBS.out.1 _) _) ⟨wr.heap.size + 1, 0, none⟩ 2 2 (ecells ⟨q.x0, q.y0, q.y1, 1, 0⟩ ++ ecells ⟨q.x1, q.y0, q.y1, -1, 0⟩) rfl rfl (World.news_of_block (cs := #[.int .i64 q.x0, .int .i64 q.y0, .int .i64 q.y1, .int .i64 1, .int .i64 0, .int .i64 q.x1, .int .i64 q.y0, .int .i64 q.y1, .int .i64 (-1), .int .i64 0]) (t := 80) (fr := (0, 0)) (by have := heap_alloc_new (wr.alloc (.cells #[.int .i64 q.x0, .int .i64 q.y0, .int .i64 q.x1, .int .i64 q.y1] 44)) (.cells #[.int .i64 q.x0, .int .i64 q.y0, .int .i64 q.y1, .int .i64 1, .int .i64 0, .int .i64 q.x1, .int .i64 q.y0, .int .i64 q.y1, .int .i64 (-1), .int .i64 0] 80); simpa using this)) (by simp [ecells, Value.oneCell']) (by unfold maxLen; omega) (by omega) (by simp; omega) ?_; intro v' w1 hown1 hgrow1 hnil1)
      have R : Hid (ES w1 w.heap.size v' ((a.take (k + 1)).flatMap ed1) ∧ Below w.heap.size w w1 ∧ v' ≠ .slice none 0 0) := by
        unfold Hid
        have := pushE2 (World.ownsRow.alloc HBS.out.1 _) (Nat.le_refl _) (HBS.out.2.alloc hsz _) (by simp; omega) hown1 hgrow1
        rw [flat_step hk'.out, ← HQ.out]
        exact ⟨this.1, this.2, fun e => HNN.out (hnil1.1 e).1⟩
      clear hown1 hgrow1 hnil1
      go_roundw
      case rel => exact ⟨k + 1, by omega, by go_num, R.out⟩
      case measure => simp [intOf]; omega
    · have e : Hid (a.take k = a) := List.take_of_length_le (by rw [← HA.out.2]; omega)
      rw [e.out] at hbs
      obtain ⟨fa, fc, rfl⟩ := hbs.form
      have HR : Hid (ES wr w.heap.size (.slice fa (a.flatMap ed1).length fc) (a.flatMap ed1) ∧ Below w.heap.size w wr ∧ (Value.slice fa (a.flatMap ed1).length fc) ≠ .slice none 0 0) := ⟨hbs, hbl, hnn⟩
      have hbl1 := hbl.size
      clear hbs hbl hnn H2
      obtain ⟨w3, hw3⟩ : ∃ w3, w3 = wr := ⟨_, rfl⟩
      rw [← hw3] at HR hbl1 ⊢
      clear hw3
      obtain ⟨m1, hm1⟩ : ∃ m1, m1 = (a.flatMap ed1).length := ⟨_, rfl⟩
      rw [← hm1] at HR ⊢
      have hm1l : m1 = 2 * la := by rw [hm1, flat_len.1, ← HA.out.2]
      clear hm1
      go_wp2
      go_loopw [5, 44] (fun v i wr => ∃ k : Nat, k ≤ lb ∧ i = .int .i64 k ∧ Hid (ES wr w.heap.size v (a.flatMap ed1 ++ (b.take k).flatMap ed2) ∧ Below w.heap.size w wr ∧ v ≠ .slice none 0 0)) (fun _ i _ => lb - (intOf i).toNat)
      case atStart => exact ⟨0, Nat.zero_le _, rfl, by simp only [List.take_zero, List.flatMap_nil, List.append_nil]; exact HR.out.1, HR.out.2.1, HR.out.2.2⟩
      case round =>
        obtain ⟨k, hk, rfl, hR⟩ := hrel
        obtain ⟨hbs, hbl, hnn⟩ := hR.out
        clear hR
        by_cases hlt : k < lb
        · have hk' : Hid (k < b.length) := by unfold Hid; rw [← HB.out.2]; exact hlt
          obtain ⟨g, o, c, he, hg, hj⟩ := HB.out.1.pos (by rw [← HB.out.2]; omega)
          simp only [Value.slice.injEq] at he
          obtain ⟨rfl, hx1, hx2⟩ := he
          clear hx1 hx2
          obtain ⟨c0, c1, c2, c3⟩ := (hj k hk'.out).below hg hbl
          obtain ⟨q, hq⟩ : ∃ q, q = bat b k := ⟨_, rfl⟩
          rw [← hq] at c0 c1 c2 c3
          have HQ : Hid (q = bat b k) := hq
          have hlen : (a.flatMap ed1 ++ (b.take k).flatMap ed2).length ≤ 2 * la + 2 * lb := by rw [List.length_append, flat_len.1, flat_len.2, List.length_take, ← HA.out.2]; omega
          have hsz := hbl.size
          have hgr : g < wr.heap.size := by omega
          have b0 : (0 : Int) ≤ (k : Int) := by omega
          have b1 : (k : Int) < (lb : Int) := by omega
          have HBS : Hid (ES wr w.heap.size _ (a.flatMap ed1 ++ (b.take k).flatMap ed2) ∧ Below w.heap.size w wr) := ⟨hbs, hbl⟩
          have HNN : Hid _ := hnn
          clear hbs hbl hj hq hnn
          go_wp2_with (at_builtin; refine wpList_append_own _ rfl _ _ 70 rfl w.heap.size 80 i0 (.agg #[.int .i64 0, .int .i64 0, .int .i64 0, .int .i64 0, .int .i64 0]) 5 40 Try.underlying70 hi hz0 hz1 hz2 rfl (by decide) _ _ _ rfl (World.ownsRow.alloc (World.ownsRow.alloc HBS.out.1 _) _) ⟨wr.heap.size + 1, 0, none⟩ 2 2 (ecells ⟨q.x0, q.y0, q.y1, 0, 1⟩ ++ ecells ⟨q.x1, q.y0, q.y1, 0, -1⟩) rfl rfl (World.news_of_block (cs := #[.int .i64 q.x0, .int .i64 q.y0, .int .i64 q.y1, .int .i64 0, .int .i64 1, .int .i64 q.x1, .int .i64 q.y0, .int .i64 q.y1, .int .i64 0, .int .i64 (-1)]) (t := 80) (fr := (0, 0)) (by have := heap_alloc_new (wr.alloc (.cells #[.int .i64 q.x0, .int .i64 q.y0, .int .i64 q.x1, .int .i64 q.y1] 44)) (.cells #[.int .i64 q.x0, .int .i64 q.y0, .int .i64 q.y1, .int .i64 0, .int .i64 1, .int .i64 q.x1, .int .i64 q.y0, .int .i64 q.y1, .int .i64 0, .int .i64 (-1)] 80); simpa using this)) (by simp [ecells, Value.oneCell']) (by unfold maxLen; omega) (by omega) (by simp; omega) ?_; intro v' w1 hown1 hgrow1 hnil1)
          have R : Hid (ES w1 w.heap.size v' (a.flatMap ed1 ++ (b.take (k + 1)).flatMap ed2) ∧ Below w.heap.size w w1 ∧ v' ≠ .slice none 0 0) := by
            unfold Hid
            have := pushE2 (World.ownsRow.alloc HBS.out.1 _) (Nat.le_refl _) (HBS.out.2.alloc hsz _) (by simp; omega) hown1 hgrow1
            rw [flat_step hk'.out, ← HQ.out, ← List.append_assoc]
            exact ⟨this.1, this.2, fun e => HNN.out (hnil1.1 e).1⟩
          clear hown1 hgrow1 hnil1
          go_roundw
          case rel => exact ⟨k + 1, by omega, by go_num, R.out⟩
          case measure => simp [intOf]; omega
        · have e : Hid (b.take k = b) := List.take_of_length_le (by rw [← HB.out.2]; omega)
          rw [e.out] at hbs
          obtain ⟨E, hE⟩ : ∃ E, E = a.flatMap ed1 ++ b.flatMap ed2 := ⟨_, rfl⟩
          rw [← hE] at hbs
          obtain ⟨ga, gc, rfl⟩ := hbs.form
          obtain ⟨g, rfl⟩ : ∃ g, ga = some ⟨g, 0, none⟩ := by
            rcases hbs.2 with ⟨h1, h2⟩ | ⟨g, cap, cur, h1, _⟩
            · exact absurd h1 hnn
            · simp only [Value.slice.injEq] at h1
              exact ⟨g, h1.1⟩
          have hEl : E.length ≤ 400000 := by rw [hE, List.length_append, flat_len.1, flat_len.2, ← HA.out.2, ← HB.out.2]; omega
          have HC : Hid (Calls Try.prog 70 #[.slice (some ⟨g, 0, none⟩) E.length gc, .func (.func 71) #[] #[]] wr fun e w' => e = .returned (.tuple #[]) ∧ ∃ E', E'.Perm E ∧ Rising E' ∧ ES w' w.heap.size (.slice (some ⟨g, 0, none⟩) E.length gc) E' ∧ Below w.heap.size wr w') := ed_sort hbs rfl (by omega)
          have HEE : Hid (E = edges a b ∧ Below w.heap.size w wr) := ⟨hE, hbl⟩
          clear hbs hbl hnn hE hEl
          go_wp2_with (fail)
          refine HC.out.mono ?_
          rintro e w5 ⟨rfl, E', hp, hr, hes, hb5⟩
          have HF : Hid (ES w5 w.heap.size (.slice (some ⟨g, 0, none⟩) E.length gc) E' ∧ E'.Perm (edges a b) ∧ Rising E' ∧ Below w.heap.size w w5) := ⟨hes, by rw [← HEE.out.1]; exact hp, hr, HEE.out.2.trans hb5⟩
          clear hp hr hes hb5 HC
          go_wp2
          go_returns
          exact ⟨_, E', rfl, HF.out.1, HF.out.2.1, HF.out.2.2.1, HF.out.2.2.2⟩

end Go.Proofs.Ytlnhfgacgbdjaaa

namespace Go.Proofs.Ytlnhfgacgbdjaaa
open Go.RowKit Go.Sort Go.Shelf Go.Lib
set_option linter.unusedVariables false
set_option linter.unusedSimpArgs false

theorem comp_ok (d : Array Int) (hs : ∀ i j, i < j → j < d.size → d[i]! ≤ d[j]!) : ∀ m, m ≤ d.size → Up (compactUpTo d m) ∧ ∀ v, v ∈ compactUpTo d m ↔ ∃ j, j < m ∧ d[j]! = v := by
  intro m
  induction m with
  | zero => intro _; exact ⟨List.Pairwise.nil, fun v => by simp [compactUpTo]⟩
  | succ m ih =>
    intro hm
    obtain ⟨hu, hmem⟩ := ih (by omega)
    rw [compactUpTo_succ]
    by_cases hk : keeps d m = true
    · rw [if_pos hk]
      refine ⟨?_, fun v => ?_⟩
      · unfold Up at hu ⊢
        rw [List.pairwise_append]
        refine ⟨hu, by simp, fun x hx y hy => ?_⟩
        obtain rfl : y = d[m]! := by simpa using hy
        obtain ⟨j, hj, rfl⟩ := (hmem x).1 hx
        have h1 : m ≠ 0 := by omega
        have h2 : d[m]! ≠ d[m - 1]! := by simpa [keeps, h1] using hk
        have h3 := hs (m - 1) m (by omega) (by omega)
        rcases (by omega : j = m - 1 ∨ j < m - 1) with e | e
        · rw [e]; omega
        · have h4 := hs j (m - 1) e (by omega); omega
      · rw [List.mem_append, hmem, List.mem_singleton]
        constructor
        · rintro (⟨j, hj, rfl⟩ | rfl)
          · exact ⟨j, by omega, rfl⟩
          · exact ⟨m, by omega, rfl⟩
        · rintro ⟨j, hj, rfl⟩
          rcases (by omega : j = m ∨ j < m) with e | e
          · right; rw [e]
          · left; exact ⟨j, e, rfl⟩
    · rw [if_neg hk, List.append_nil]
      refine ⟨hu, fun v => ?_⟩
      have h1 : ¬ (m = 0 ∨ d[m]! ≠ d[m - 1]!) := by simpa [keeps] using hk
      have hm0 : m ≠ 0 := fun e => h1 (Or.inl e)
      have he : d[m]! = d[m - 1]! := Classical.not_not.1 fun e => h1 (Or.inr e)
      rw [hmem]
      constructor
      · rintro ⟨j, hj, rfl⟩; exact ⟨j, by omega, rfl⟩
      · rintro ⟨j, hj, rfl⟩
        rcases (by omega : j = m ∨ j < m) with e | e
        · exact ⟨m - 1, by omega, by rw [e, he]⟩
        · exact ⟨j, e, rfl⟩

theorem put_enc {α : Type} [Inhabited α] (enc : α → Value) (w : World) (g : Nat) (d : Array α) : putRow enc w g 0 d = putRow id w g 0 (d.map enc) := by
  unfold putRow
  have : putCells enc 0 d = putCells id 0 (d.map enc) := by
    funext c
    unfold putCells
    apply Array.ext_getElem?
    intro t
    simp only [Array.getElem?_mapIdx, Array.size_map]
    congr 1
    funext x
    by_cases h : 0 ≤ t ∧ t < 0 + d.size
    · rw [if_pos h, if_pos h]
      have h2 : t - 0 < d.size := by omega
      rw [getElem!_pos d _ h2, getElem!_pos (d.map enc) _ (by simpa using h2)]
      simp
    · rw [if_neg h, if_neg h]
  rw [this]
theorem int_holds {w : World} {B g n cap : Nat} {xs : List Int} (h : IS w B (.slice (some ⟨g, 0, none⟩) n cap) xs) (hn : n = xs.length) : Holds (Value.int .i64) w g 0 xs.toArray := by
  subst hn
  intro j hj
  obtain ⟨h1, h2⟩ := owns_holds h j (by simpa using hj)
  refine ⟨?_, h2⟩
  rw [h1]
  have hj' : j < xs.length := by simpa using hj
  simp [hj']

theorem ht_sort {w : World} {B g n cap : Nat} {xs : List Int} (h : IS w B (.slice (some ⟨g, 0, none⟩) n cap) xs) (hn : n = xs.length) (hs : n ≤ 1000000) :
    Calls Try.prog 68 #[.slice (some ⟨g, 0, none⟩) n cap] w fun e w' => e = .returned (.tuple #[]) ∧ IS w' B (.slice (some ⟨g, 0, none⟩) n cap) (xs.mergeSort fun x y => decide (x ≤ y)) ∧ Below B w w' := by
  have hlt := World.ownsRow.lt h g rfl
  have hH := int_holds h hn
  subst hn
  have hcon := AnyM.slices_Sort_int Try.sortI g 0 cap xs w hH hlt.2 (by omega)
  change Calls Try.prog 68 _ _ _ at hcon
  refine hcon.mono ?_
  rintro e w' ⟨rfl, n, os, rfl⟩
  rw [put_enc]
  refine ⟨rfl, ?_, put_below w n g B _ os hlt.1 hlt.2⟩
  have hl : (xs.mergeSort fun x y => decide (x ≤ y)).length = xs.length := List.length_mergeSort xs
  have := put_owns h ((xs.mergeSort fun x y => decide (x ≤ y)).map (Value.int .i64)) (by simp [hl]) n os
  unfold IS
  rw [hl]
  simpa using this

theorem IS.front {w : World} {B g n cap : Nat} {ys zs : List Int} (h : w.ownsRow B 2 1 (.slice (some ⟨g, 0, none⟩) n cap) n ((ys ++ zs).map (Value.int .i64))) : IS w B (.slice (some ⟨g, 0, none⟩) ys.length cap) ys := by
  have hl := h.1
  simp at hl
  refine ⟨by simp, Or.inr ?_⟩
  rcases h.2 with ⟨e, _⟩ | ⟨g', cap', cur, e, hB, hg, hn, hm, hs, ht⟩
  · cases e
  · simp only [Value.slice.injEq, Option.some.injEq, Addr.mk.injEq, and_true, true_and] at e
    obtain ⟨rfl, rfl⟩ := e
    refine ⟨g, cap, cur, rfl, hB, hg, by omega, hm, hs, ?_⟩
    have h2 := congrArg (List.take ys.length) ht
    rw [List.take_take, List.map_append, List.take_left' (by simp)] at h2
    rw [Nat.mul_one, ← h2]
    congr 1
    omega

theorem ht_compact {w : World} {B g n cap : Nat} {xs : List Int} (h : IS w B (.slice (some ⟨g, 0, none⟩) n cap) xs) (hn : n = xs.length) (hs : n ≤ 1000000) :
    Calls Try.prog 69 #[.slice (some ⟨g, 0, none⟩) n cap] w fun e w' => e = .returned (.slice (some ⟨g, 0, none⟩) (compactUpTo xs.toArray xs.length).length cap) ∧ IS w' B (.slice (some ⟨g, 0, none⟩) (compactUpTo xs.toArray xs.length).length cap) (compactUpTo xs.toArray xs.length) ∧ Below B w w' := by
  have hlt := World.ownsRow.lt h g rfl
  have hH := int_holds h hn
  subst hn
  have hcap : xs.length ≤ cap := by
    rcases h.2 with ⟨e, _⟩ | ⟨g', cap', cur, e, hB, hg, hn, hm, hs, ht⟩
    · cases e
    · simp only [Value.slice.injEq, true_and] at e
      rw [e.2]; exact hn
  have hcon := AnyE.slices_Compact Try.compI (Value.int .i64) (fun _ => rfl) (EqlAt.intD _ _ _) (NeqAt.intD _ _ _) 0 Try.zeroValue2 g 0 cap xs.toArray w hH (by simp; omega) (by simpa using hcap)
  change Calls Try.prog 69 _ _ _ at hcon
  refine hcon.mono ?_
  rintro e w' ⟨rfl, q, rfl⟩
  have hle : (compactUpTo xs.toArray xs.toArray.size).length ≤ xs.length := by
    unfold compactUpTo
    rw [List.length_map]
    refine Nat.le_trans (List.length_filter_le _ _) (by simp)
  obtain ⟨ys, hys⟩ : ∃ ys, ys = compactUpTo xs.toArray xs.toArray.size := ⟨_, rfl⟩
  have hsz : xs.toArray.size = xs.length := by simp
  rw [hsz] at hys hle ⊢
  rw [← hys] at hle ⊢
  have hg0 : ∀ W : World, W = grow W #[] := fun W => (grow_empty W).symm
  rw [put_enc, hg0 (putRow id (Sort.ahead w q) g 0 _)]
  refine ⟨rfl, ?_, put_below w q g B _ #[] hlt.1 hlt.2⟩
  have := put_owns h ((ys ++ List.replicate (xs.length - ys.length) 0).map (Value.int .i64)) (by simp; omega) q #[]
  have := IS.front this
  simpa using this

end Go.Proofs.Ytlnhfgacgbdjaaa
