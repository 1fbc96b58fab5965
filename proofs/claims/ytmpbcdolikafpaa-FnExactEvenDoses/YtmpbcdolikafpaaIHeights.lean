/- Proved here: heightsOf: all heights of both lists, rising. -/
import Derived.Test.YtmpbcdolikafpaaICut
import Derived.Test.YtmpbcdolikafpaaHtSort
namespace Go.Proofs.Ytmpbcdolikafpaa
open Go.RowKit Go.Sort
set_option linter.unusedVariables false
set_option linter.unusedSimpArgs false

/-- A box's two heights; all of them. -/
def ht (b : Bx) : List Int := [b.y0, b.y1]
/-- Behind the append of two numbers. -/
theorem pushI2 {w wr w1 : World} {A B : Nat} {v v' : Value} {s : List Int} {b c : Int} {ob : Obj} (hbs : IS wr A v s) (hab : B ≤ A) (hbl : Below B w wr) (hs : B ≤ wr.heap.size)
    (h : w1.ownsRow A 2 1 v' (s.length + 2) (s.map (Value.int .i64) ++ [.int .i64 b, .int .i64 c])) (hg : (wr.alloc ob).grownBy w1 v.ownBlock) : IS w1 A v' (s ++ [b, c]) ∧ Below B w w1 := by
  refine ⟨?_, (hbl.alloc hs ob).grown hg (by simp; omega) (fun k hk => Nat.le_trans hab (World.ownsRow.lt hbs k hk).1)⟩
  unfold IS
  rw [List.map_append, List.length_append]
  exact h
theorem ht_step {s : List Bx} {k : Nat} (h : k < s.length) : (s.take (k + 1)).flatMap ht = (s.take k).flatMap ht ++ ht (bat s k) := by
  rw [take_bat h]; simp
theorem ht_len (s : List Bx) : (s.flatMap ht).length = 2 * s.length := by
  induction s with
  | nil => rfl
  | cons b t ih => simp [ht] at ih ⊢; omega
theorem ht_mem (s : List Bx) (z : Int) : z ∈ s.flatMap ht ↔ ∃ b ∈ s, z = b.y0 ∨ z = b.y1 := by
  simp [ht]
theorem ht_all (a b : List Bx) (xs : List Int) (hx : xs = (a.flatMap ht ++ b.flatMap ht).mergeSort fun x y => decide (x ≤ y)) : Lib.compactUpTo xs.toArray xs.length = endsF Bx.y0 Bx.y1 (endsF Bx.y0 Bx.y1 [] a) b := by
  have hsorted : xs.Pairwise (· ≤ ·) := by
    rw [hx]
    have := List.pairwise_mergeSort (le := fun x y : Int => decide (x ≤ y)) (by intro a b c h1 h2; simp at *; omega) (by intro a b; simp; omega) (a.flatMap ht ++ b.flatMap ht)
    exact this.imp (by intro a b h; simpa using h)
  have hget : ∀ j, j < xs.length → xs.toArray[j]! = xs[j]! := fun j hj => by simp [hj]
  have hc := comp_ok xs.toArray (fun i j hij hj => by
    have hj' : j < xs.length := by simpa using hj
    rw [hget i (by omega), hget j hj']
    have := List.pairwise_iff_getElem.1 hsorted i j (by omega) hj' hij
    simpa [hj', show i < xs.length by omega] using this) xs.length (by simp)
  refine up_uniq hc.1 (endsF_up _ _ _ (endsF_up _ _ _ List.Pairwise.nil)) fun v => ?_
  rw [hc.2, endsF_mem, endsF_mem]
  have hm : v ∈ xs ↔ v ∈ a.flatMap ht ++ b.flatMap ht := by rw [hx]; exact (List.mergeSort_perm _ _).mem_iff
  rw [List.mem_append, ht_mem, ht_mem] at hm
  have h1 : (∃ j, j < xs.length ∧ xs.toArray[j]! = v) ↔ v ∈ xs := by
    constructor
    · rintro ⟨j, hj, rfl⟩; rw [hget j hj]; simp [hj]
    · intro h
      obtain ⟨j, hj, rfl⟩ := List.getElem_of_mem h
      exact ⟨j, hj, by rw [hget j hj]; simp [hj]⟩
  rw [h1, hm]
  simp

set_option maxRecDepth 10000 in
set_option maxHeartbeats 4000000 in
theorem impl_heights : HeightsOk := by
  intro w va vb a b hn ha hb
  obtain ⟨aa, ac, rfl⟩ := ha.form
  obtain ⟨ba, bc, rfl⟩ := hb.form
  obtain ⟨la, hla⟩ : ∃ la, la = a.length := ⟨_, rfl⟩
  obtain ⟨lb, hlb⟩ : ∃ lb, lb = b.length := ⟨_, rfl⟩
  rw [← hla] at ha hn ⊢
  rw [← hlb] at hb hn ⊢
  have HA : Hid (RB w (.slice aa la ac) a ∧ la = a.length) := ⟨ha, hla⟩
  have HB : Hid (RB w (.slice ba lb bc) b ∧ lb = b.length) := ⟨hb, hlb⟩
  clear ha hb hla hlb
  obtain ⟨i0, hi, hz0, hz1, hz2⟩ := info_parts info_i64
  go_enter Try.func50, Try.ntmps50
  go_wp2_with (at_make; refine wpList_make_own _ rfl _ _ 29 rfl w.heap.size 2 i0 (.int .i64 0) 1 Try.underlying29 hi hz0 hz1 _ _ _ (2 * la + 2 * lb) rfl rfl rfl (by rw [hz2]; omega) (by unfold maxLen; omega) (by omega) ?_; intro w2 hown2 hgrow2)
  have hb2 : Below w.heap.size w w2 := (Below.refl _ _).grown hgrow2 (Nat.le_refl _) (fun k h => by cases h)
  have H2 : Hid (IS w2 w.heap.size (.slice (some ⟨w.heap.size, 0, none⟩) 0 (2 * la + 2 * lb)) [] ∧ Below w.heap.size w w2) := ⟨hown2, hb2⟩
  clear hown2 hgrow2 hb2
  go_loopw [5, 20] (fun v i wr => ∃ k : Nat, k ≤ la ∧ i = .int .i64 k ∧ Hid (IS wr w.heap.size v ((a.take k).flatMap ht) ∧ Below w.heap.size w wr ∧ v ≠ .slice none 0 0)) (fun _ i _ => la - (intOf i).toNat)
  case atStart => exact ⟨0, Nat.zero_le _, rfl, H2.out.1, H2.out.2, fun h => by cases h⟩
  case round =>
    obtain ⟨k, hk, rfl, hR⟩ := hrel
    obtain ⟨hbs, hbl, hnn⟩ := hR.out
    clear hR
    by_cases hlt : k < la
    · have hk' : Hid (k < a.length) := by unfold Hid; rw [← HA.out.2]; exact hlt
      obtain ⟨g, o, c, he, hg, hj⟩ := HA.out.1.pos (by rw [← HA.out.2]; omega)
      simp only [Value.slice.injEq] at he
      obtain ⟨rfl, hx1, hx2⟩ := he
      clear hx1 hx2
      obtain ⟨c0, c1, c2, c3⟩ := (hj k hk'.out).below hg hbl
      obtain ⟨q, hq⟩ : ∃ q, q = bat a k := ⟨_, rfl⟩
      rw [← hq] at c0 c1 c2 c3
      have HQ : Hid (q = bat a k) := hq
      have hlen : ((a.take k).flatMap ht).length ≤ 2 * la := by rw [ht_len, List.length_take]; omega
      have hsz := hbl.size
      have hgr : g < wr.heap.size := by omega
      have b0 : (0 : Int) ≤ (k : Int) := by omega
      have b1 : (k : Int) < (la : Int) := by omega
      have HBS : Hid (IS wr w.heap.size _ ((a.take k).flatMap ht) ∧ Below w.heap.size w wr) := ⟨hbs, hbl⟩
      have HNN : Hid _ := hnn
      clear hbs hbl hj hq hnn
      go_wp2_with (at_builtin; refine wpList_append_own _ rfl _ _ 29 rfl w.heap.size 2 i0 (.int .i64 0) 1 8 Try.underlying29 hi hz0 hz1 hz2 rfl (by decide) _ _ _ rfl (World.ownsRow.alloc (World.ownsRow.alloc HBS.out.1 _) _) ⟨wr.heap.size + 1, 0, none⟩ 2 2 [.int .i64 q.y0, .int .i64 q.y1] rfl rfl (World.news_of_block (cs := #[.int .i64 q.y0, .int .i64 q.y1]) (t := 2) (fr := (0, 0)) (by have := heap_alloc_new (wr.alloc (.cells #[.int .i64 q.x0, .int .i64 q.y0, .int .i64 q.x1, .int .i64 q.y1] 34)) (.cells #[.int .i64 q.y0, .int .i64 q.y1] 2); simpa using this)) (by simp [Value.oneCell']) (by unfold maxLen; omega) (by omega) (by simp; omega) ?_; intro v' w1 hown1 hgrow1 hnil1)
      have R : Hid (IS w1 w.heap.size v' ((a.take (k + 1)).flatMap ht) ∧ Below w.heap.size w w1 ∧ v' ≠ .slice none 0 0) := by
        unfold Hid
        have := pushI2 (World.ownsRow.alloc HBS.out.1 _) (Nat.le_refl _) (HBS.out.2.alloc hsz _) (by simp; omega) hown1 hgrow1
        rw [ht_step hk'.out, ← HQ.out]
        exact ⟨this.1, this.2, fun e => HNN.out (hnil1.1 e).1⟩
      clear hown1 hgrow1 hnil1
      go_roundw
      case rel => exact ⟨k + 1, by omega, by go_num, R.out⟩
      case measure => simp [intOf]; omega
    · have e : Hid (a.take k = a) := List.take_of_length_le (by rw [← HA.out.2]; omega)
      rw [e.out] at hbs
      obtain ⟨fa, fc, rfl⟩ := hbs.form
      have HR : Hid (IS wr w.heap.size (.slice fa (a.flatMap ht).length fc) (a.flatMap ht) ∧ Below w.heap.size w wr ∧ (Value.slice fa (a.flatMap ht).length fc) ≠ .slice none 0 0) := ⟨hbs, hbl, hnn⟩
      have hbl1 := hbl.size
      clear hbs hbl hnn H2
      obtain ⟨w3, hw3⟩ : ∃ w3, w3 = wr := ⟨_, rfl⟩
      rw [← hw3] at HR hbl1 ⊢
      clear hw3
      obtain ⟨m1, hm1⟩ : ∃ m1, m1 = (a.flatMap ht).length := ⟨_, rfl⟩
      rw [← hm1] at HR ⊢
      have hm1l : m1 = 2 * la := by rw [hm1, ht_len, ← HA.out.2]
      clear hm1
      go_wp2
      go_loopw [5, 34] (fun v i wr => ∃ k : Nat, k ≤ lb ∧ i = .int .i64 k ∧ Hid (IS wr w.heap.size v (a.flatMap ht ++ (b.take k).flatMap ht) ∧ Below w.heap.size w wr ∧ v ≠ .slice none 0 0)) (fun _ i _ => lb - (intOf i).toNat)
      case atStart => exact ⟨0, Nat.zero_le _, rfl, by simp only [List.take_zero, List.flatMap_nil, List.append_nil]; exact HR.out.1, HR.out.2.1, HR.out.2.2⟩
      case round =>
        obtain ⟨k, hk, rfl, hR⟩ := hrel
        obtain ⟨hbs, hbl, hnn⟩ := hR.out
        clear hR
        by_cases hlt : k < lb
        · have hk' : Hid (k < b.length) := by unfold Hid; rw [← HB.out.2]; exact hlt
          obtain ⟨g, o, c, he, hg, hj⟩ := HB.out.1.pos (by rw [← HB.out.2]; omega)
          simp only [Value.slice.injEq] at he
          obtain ⟨rfl, hx1, hx2⟩ := he
          clear hx1 hx2
          obtain ⟨c0, c1, c2, c3⟩ := (hj k hk'.out).below hg hbl
          obtain ⟨q, hq⟩ : ∃ q, q = bat b k := ⟨_, rfl⟩
          rw [← hq] at c0 c1 c2 c3
          have HQ : Hid (q = bat b k) := hq
          have hlen : (a.flatMap ht ++ (b.take k).flatMap ht).length ≤ 2 * la + 2 * lb := by rw [List.length_append, ht_len, ht_len, List.length_take, ← HA.out.2]; omega
          have hsz := hbl.size
          have hgr : g < wr.heap.size := by omega
          have b0 : (0 : Int) ≤ (k : Int) := by omega
          have b1 : (k : Int) < (lb : Int) := by omega
          have HBS : Hid (IS wr w.heap.size _ (a.flatMap ht ++ (b.take k).flatMap ht) ∧ Below w.heap.size w wr) := ⟨hbs, hbl⟩
          have HNN : Hid _ := hnn
          clear hbs hbl hj hq hnn
          go_wp2_with (at_builtin; refine wpList_append_own _ rfl _ _ 29 rfl w.heap.size 2 i0 (.int .i64 0) 1 8 Try.underlying29 hi hz0 hz1 hz2 rfl (by decide) _ _ _ rfl (World.ownsRow.alloc (World.ownsRow.alloc HBS.out.1 _) _) ⟨wr.heap.size + 1, 0, none⟩ 2 2 [.int .i64 q.y0, .int .i64 q.y1] rfl rfl (World.news_of_block (cs := #[.int .i64 q.y0, .int .i64 q.y1]) (t := 2) (fr := (0, 0)) (by have := heap_alloc_new (wr.alloc (.cells #[.int .i64 q.x0, .int .i64 q.y0, .int .i64 q.x1, .int .i64 q.y1] 34)) (.cells #[.int .i64 q.y0, .int .i64 q.y1] 2); simpa using this)) (by simp [Value.oneCell']) (by unfold maxLen; omega) (by omega) (by simp; omega) ?_; intro v' w1 hown1 hgrow1 hnil1)
          have R : Hid (IS w1 w.heap.size v' (a.flatMap ht ++ (b.take (k + 1)).flatMap ht) ∧ Below w.heap.size w w1 ∧ v' ≠ .slice none 0 0) := by
            unfold Hid
            have := pushI2 (World.ownsRow.alloc HBS.out.1 _) (Nat.le_refl _) (HBS.out.2.alloc hsz _) (by simp; omega) hown1 hgrow1
            rw [ht_step hk'.out, ← HQ.out, ← List.append_assoc]
            exact ⟨this.1, this.2, fun e => HNN.out (hnil1.1 e).1⟩
          clear hown1 hgrow1 hnil1
          go_roundw
          case rel => exact ⟨k + 1, by omega, by go_num, R.out⟩
          case measure => simp [intOf]; omega
        · have e : Hid (b.take k = b) := List.take_of_length_le (by rw [← HB.out.2]; omega)
          rw [e.out] at hbs
          obtain ⟨E, hE⟩ : ∃ E, E = a.flatMap ht ++ b.flatMap ht := ⟨_, rfl⟩
          rw [← hE] at hbs
          obtain ⟨ga, gc, rfl⟩ := hbs.form
          obtain ⟨g, rfl⟩ : ∃ g, ga = some ⟨g, 0, none⟩ := by
            rcases hbs.2 with ⟨h1, h2⟩ | ⟨g, cap, cur, h1, _⟩
            · exact absurd h1 hnn
            · simp only [Value.slice.injEq] at h1
              exact ⟨g, h1.1⟩
          have hEl : E.length ≤ 400000 := by rw [hE, List.length_append, ht_len, ht_len, ← HA.out.2, ← HB.out.2]; omega
          have HC : Hid (Calls Try.prog 61 #[.slice (some ⟨g, 0, none⟩) E.length gc] wr fun e w' => e = .returned (.tuple #[]) ∧ IS w' w.heap.size (.slice (some ⟨g, 0, none⟩) E.length gc) (E.mergeSort fun x y => decide (x ≤ y)) ∧ Below w.heap.size wr w') := ht_sort hbs rfl (by omega)
          have HEE : Hid (E = a.flatMap ht ++ b.flatMap ht ∧ Below w.heap.size w wr ∧ E.length ≤ 400000) := ⟨hE, hbl, hEl⟩
          clear hbs hbl hnn hE hEl
          go_wp2_with (fail)
          refine HC.out.mono ?_
          rintro e w5 ⟨rfl, his, hb5⟩
          obtain ⟨X, hX⟩ : ∃ X, X = E.mergeSort fun x y => decide (x ≤ y) := ⟨_, rfl⟩
          rw [← hX] at his
          have hXl : E.length = X.length := by rw [hX, List.length_mergeSort]
          have HD : Hid (Calls Try.prog 62 #[.slice (some ⟨g, 0, none⟩) E.length gc] w5 fun e w' => e = .returned (.slice (some ⟨g, 0, none⟩) (Lib.compactUpTo X.toArray X.length).length gc) ∧ IS w' w.heap.size (.slice (some ⟨g, 0, none⟩) (Lib.compactUpTo X.toArray X.length).length gc) (Lib.compactUpTo X.toArray X.length) ∧ Below w.heap.size w5 w') := ht_compact his hXl (by have := HEE.out.2.2; omega)
          have HF : Hid (Below w.heap.size w w5 ∧ Lib.compactUpTo X.toArray X.length = endsF Bx.y0 Bx.y1 (endsF Bx.y0 Bx.y1 [] a) b) := ⟨HEE.out.2.1.trans hb5, ht_all a b X (by rw [hX, HEE.out.1])⟩
          clear his hb5 HC hX hXl
          go_wp2_with (fail)
          refine HD.out.mono ?_
          rintro e w6 ⟨rfl, his6, hb6⟩
          obtain ⟨Y, hY⟩ : ∃ Y, Y = Lib.compactUpTo X.toArray X.length := ⟨_, rfl⟩
          rw [← hY] at his6 ⊢
          have HG : Hid (IS w6 w.heap.size (.slice (some ⟨g, 0, none⟩) Y.length gc) Y ∧ Below w.heap.size w w6 ∧ Y = endsF Bx.y0 Bx.y1 (endsF Bx.y0 Bx.y1 [] a) b) := ⟨his6, HF.out.1.trans hb6, by rw [hY]; exact HF.out.2⟩
          clear his6 hb6 HD HF hY
          go_wp2
          go_returns
          rw [← HG.out.2.2]
          exact ⟨_, rfl, HG.out.1, HG.out.2.1⟩

end Go.Proofs.Ytmpbcdolikafpaa
