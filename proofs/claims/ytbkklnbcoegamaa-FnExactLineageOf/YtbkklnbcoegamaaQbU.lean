/- Proved here: all wafers of a book, of the model: lot by lot, then the scrap. -/
import Derived.Test.YtbkklnbcoegamaaQbM
import Derived.Test.YtbkklnbcoegamaaQkX
import Derived.Test.YtbkklnbcoegamaaOpN
namespace Go.Proofs.Ytbkklnbcoegamaa
open Go.RowKit Go.Maps
set_option linter.unusedVariables false
set_option linter.unusedSimpArgs false

theorem preL_len {ls : List Lo} (h : ∀ j (hj : j < ls.length), ls[j].ws.length ≤ 25) : ∀ n, n ≤ ls.length → (preL ls n).length ≤ 25 * n := by
  intro n
  induction n with
  | zero => intro _; simp [preL]
  | succ n ih =>
    intro hn
    rw [preL_step (by omega), List.length_append]
    have h1 := ih (by omega)
    have h2 := h n (by omega)
    omega
theorem newsI {W : World} {a : Option Addr} {n c : Nat} {s : List Int} (h : RdI W (.slice a n c) s) : ∀ ad, a = some ad → ∀ j u, (s.map (Value.int .i64))[j]? = some u → W.cell? (ad.add j) = some u := by
  have := newsK inC_len (by decide) h
  rw [inC_fm] at this
  exact this
/-- A list of numbers put behind another. -/
theorem is_joined {w : World} {B n m : Nat} {v : Value} {xs ys : List Int} (hn : n = xs.length) (hm : m = ys.length) (h : w.ownsRow B 2 1 v (n + m) (xs.map (Value.int .i64) ++ ys.map (Value.int .i64))) : IS w B v (xs ++ ys) := by
  unfold IS
  rw [List.length_append, List.map_append, ← hn, ← hm]
  exact h
theorem is_row {w : World} {B n : Nat} {v : Value} {xs : List Int} (hn : n = xs.length) (h : IS w B v xs) : w.ownsRow B 2 1 v n (xs.map (Value.int .i64)) := by
  rw [hn]; exact h

set_option maxRecDepth 10000 in
set_option maxHeartbeats 6400000 in
theorem spec_all (st : Int) {w : World} {vw vl vs : Value} {b : Bk} (hl : b.ls.length ≤ 30) (hws : ∀ j (h : j < b.ls.length), b.ls[j].ws.length ≤ 25) (hsc : b.sc.length ≤ 200) (h : RdX w vw vl vs b) :
    Calls Try.prog 70 #[.agg #[.int .i64 st, vw, vl, vs]] w fun e w' => ∃ v, e = .returned v ∧ IS w' w.heap.size v (alL b) ∧ Below w.heap.size w w' := by
  obtain ⟨wa, wc, e1⟩ := h.wn.form
  obtain ⟨la, lc, e2⟩ := h.ls.rlo.form
  obtain ⟨xa, xc, e3⟩ := h.sc.form
  subst e1 e2 e3
  obtain ⟨wn, hwn⟩ : ∃ n, n = b.wn.length := ⟨_, rfl⟩
  obtain ⟨ln, hln⟩ : ∃ n, n = b.ls.length := ⟨_, rfl⟩
  obtain ⟨xn, hxn⟩ : ∃ n, n = b.sc.length := ⟨_, rfl⟩
  rw [← hwn, ← hln, ← hxn] at h ⊢
  obtain ⟨i1, hi1, hy0, hy1, hy2⟩ := info_parts info_i64
  have hl30 : ln ≤ 30 := by omega
  have H : Hid (RdX w (.slice wa wn wc) (.slice la ln lc) (.slice xa xn xc) b ∧ ln = b.ls.length ∧ xn = b.sc.length ∧ (∀ j (h : j < b.ls.length), b.ls[j].ws.length ≤ 25) ∧ b.sc.length ≤ 200) := ⟨h, hln, hxn, hws, hsc⟩
  clear h hwn hln hxn hws hsc hl
  obtain ⟨W, hW⟩ : ∃ W, W = (w.alloc (.cells #[.int .i64 st, .slice wa wn wc, .slice la ln lc, .slice xa xn xc] 31)).alloc (.cells #[] 2) := ⟨_, rfl⟩
  have HW : Hid (Below w.heap.size w W ∧ W.heap[w.heap.size]? = some (.cells #[.int .i64 st, .slice wa wn wc, .slice la ln lc, .slice xa xn xc] 31) ∧ IS W (w.heap.size + 1) (.slice (some ⟨w.heap.size + 1, 0, none⟩) 0 0) [] ∧ W.heap.size = w.heap.size + 2) := by
    have h9 := is_lit0 (w.alloc (.cells #[.int .i64 st, .slice wa wn wc, .slice la ln lc, .slice xa xn xc] 31)) (w.heap.size + 1) (by simp)
    rw [show (w.alloc (.cells #[.int .i64 st, .slice wa wn wc, .slice la ln lc, .slice xa xn xc] 31)).heap.size = w.heap.size + 1 from by simp, ← hW] at h9
    rw [hW] at h9 ⊢
    exact ⟨by (repeat' (first | (with_reducible exact Below.refl _ _) | (with_reducible assumption) | (with_reducible refine Below.setCell ?_ ?_ _) | (with_reducible refine Below.alloc ?_ ?_ _) | (with_reducible refine below_drewN ?_ _) | (with_reducible refine Below.drew ?_) | (with_reducible exact Nat.le_refl _) | omega | (simp; done) | (simp; omega))), (Below.heap_alloc _ _ _ (by simp)).trans (heap_alloc_new w _), h9, by simp⟩
  go_enter Try.func70, Try.ntmps70
  go_wp2
  rw [← hW]
  clear hW
  go_loopw [3, 4] (fun q i wr => ∃ (j m : Nat) (oa : Option Addr) (oc : Nat), j ≤ ln ∧ q = .slice oa m oc ∧ i = .int .i64 j ∧ m ≤ 25 * j ∧ Hid (m = (preL b.ls j).length ∧ IS wr (w.heap.size + 1) (.slice oa m oc) (preL b.ls j) ∧ Below (w.heap.size + 1) W wr)) (fun _ i _ => ln - (intOf i).toNat)
  case atStart => exact ⟨0, 0, _, _, Nat.zero_le _, rfl, rfl, by omega, by simp [preL], by simpa [preL] using HW.out.2.2.1, ⟨rfl, rfl, rfl, Nat.le_refl _, fun _ _ => rfl⟩⟩
  case round =>
    obtain ⟨j, m, oa, oc, hj, rfl, rfl, hm25, hR⟩ := hrel
    have HBW : Hid (Below w.heap.size w wr) := HW.out.1.trans (hR.out.2.2.mono (by omega))
    have hres := (hR.out.2.2.block _ (show w.heap.size < w.heap.size + 1 by omega)).trans HW.out.2.1
    have hszr : w.heap.size + 1 ≤ wr.heap.size := by have h1 := hR.out.2.2.size; have h2 := HW.out.2.2.2; omega
    have p2 := cellOfQ hres 2 rfl
    have p3 := cellOfQ hres 3 rfl
    have pl := ltOfQ hres
    by_cases hlt : j < ln
    · have hjl : j < b.ls.length := by rw [← H.out.2.1]; exact hlt
      obtain ⟨g, o, c2, he, hg, x, hx, hnc, c0, c1, c2', c3, c4⟩ := (H.out.1.ls.below HBW.out).at hjl
      simp only [Value.slice.injEq] at he
      obtain ⟨rfl, hx1, hx2⟩ := he
      clear hx1 hx2
      obtain ⟨ri, rp, ua, un, uc, rh, da, dn, dc⟩ := x
      simp only at c2'
      obtain ⟨s, hs⟩ : ∃ s, s = b.ls[j].ws := ⟨_, rfl⟩
      have hrd : RdI wr (.slice ua un uc) s := by rw [hs]; exact hx.ws
      have hu25 : un ≤ 25 := by rw [hrd.len, hs]; exact H.out.2.2.2.1 j hjl
      have HU : Hid (RdI wr (.slice ua un uc) s ∧ un = s.length ∧ NC (.slice ua un uc) ∧ s = b.ls[j].ws) := ⟨hrd, hrd.len, hnc.1, hs⟩
      have HOW : Hid (wr.ownsRow (w.heap.size + 1) 2 1 (.slice oa m oc) m ((preL b.ls j).map (Value.int .i64))) := is_row hR.out.1 hR.out.2.1
      have HPOST : Hid (∀ (v6 : Value) (w6 : World), w6.ownsRow (w.heap.size + 1) 2 1 v6 (m + un) ((preL b.ls j).map (Value.int .i64) ++ s.map (Value.int .i64)) → wr.grownBy w6 (Value.slice oa m oc).ownBlock → ∃ oa' oc', v6 = .slice oa' (m + un) oc' ∧ m + un = (preL b.ls (j + 1)).length ∧ IS w6 (w.heap.size + 1) (.slice oa' (m + un) oc') (preL b.ls (j + 1)) ∧ Below (w.heap.size + 1) W w6) := fun v6 w6 hown6 hgrow6 => by
        have e : preL b.ls (j + 1) = preL b.ls j ++ s := by rw [hs]; exact preL_step hjl
        have hP := is_joined hR.out.1 HU.out.2.1 hown6
        rw [← e] at hP
        obtain ⟨oa', oc', e2⟩ := hP.form
        have e3 : m + un = (preL b.ls (j + 1)).length := by rw [e, List.length_append, ← hR.out.1, ← HU.out.2.1]
        rw [← e3] at e2
        rw [e2] at hP
        exact ⟨oa', oc', e2, e3, hP, hR.out.2.2.grown hgrow6 hszr (fun k hk => (World.ownsRow.lt HOW.out k hk).1)⟩
      have b0 : (0 : Int) ≤ (j : Int) := by omega
      have b1 : (j : Int) < (ln : Int) := by omega
      clear hrd hx hnc hs hR hres p3 c0 c1 c3 c4
      go_wp2_with (at_builtin; refine appAny rfl (.tmp 13) (.tmp 19) 24 rfl (w.heap.size + 1) 2 i1 (.int .i64 0) 1 8 Try.underlying24 hi1 hy0 hy1 hy2 rfl (by decide) (.slice oa m oc) m _ rfl HOW.out ua un uc (s.map (Value.int .i64)) rfl (by rw [List.length_map, ← HU.out.2.1]; omega) (fun e => HU.out.2.2.1 _ _ (by rw [e])) (newsI HU.out.1) (ones_int s) (by unfold maxLen; omega) (by omega) hszr ?_; intro v6 w6 hown6 hgrow6 _)
      obtain ⟨oa', oc', e2, R2⟩ := HPOST.out v6 w6 hown6 hgrow6
      subst e2
      have R3 : Hid _ := R2
      clear hown6 hgrow6 R2 HPOST HOW HU c2' p2 pl
      go_wp2
      go_roundw
      case rel => exact ⟨j + 1, m + un, oa', oc', by omega, rfl, by go_num, by omega, R3.out⟩
      case measure => simp [intOf]; omega
    · obtain rfl : j = ln := by omega
      obtain ⟨s, hs⟩ : ∃ s, s = b.sc := ⟨_, rfl⟩
      have hall : preL b.ls j = b.ls.flatMap Lo.ws := by rw [H.out.2.1]; exact preL_all _
      have hrd : RdI wr (.slice xa xn xc) s := by rw [hs]; exact H.out.1.sc.below HBW.out
      have hx200 : xn ≤ 200 := by rw [H.out.2.2.1]; exact H.out.2.2.2.2
      have HU : Hid (RdI wr (.slice xa xn xc) s ∧ xn = s.length ∧ NC (.slice xa xn xc)) := ⟨hrd, hrd.len, H.out.1.ns⟩
      have HOW : Hid (wr.ownsRow (w.heap.size + 1) 2 1 (.slice oa m oc) m ((preL b.ls j).map (Value.int .i64))) := is_row hR.out.1 hR.out.2.1
      have HPOST : Hid (∀ (v6 : Value) (w6 : World), w6.ownsRow (w.heap.size + 1) 2 1 v6 (m + xn) ((preL b.ls j).map (Value.int .i64) ++ s.map (Value.int .i64)) → wr.grownBy w6 (Value.slice oa m oc).ownBlock → IS w6 w.heap.size v6 (alL b) ∧ Below w.heap.size w w6) := fun v6 w6 hown6 hgrow6 => by
        have hP := is_joined hR.out.1 HU.out.2.1 hown6
        rw [hall, hs] at hP
        exact ⟨hP.low (by omega), HBW.out.grown hgrow6 HBW.out.size (fun k hk => by have := (World.ownsRow.lt HOW.out k hk).1; omega)⟩
      clear hrd hs hall hR hres
      go_wp2_with (at_builtin; refine appAny rfl (.tmp 21) (.tmp 23) 24 rfl (w.heap.size + 1) 2 i1 (.int .i64 0) 1 8 Try.underlying24 hi1 hy0 hy1 hy2 rfl (by decide) (.slice oa m oc) m _ rfl HOW.out xa xn xc (s.map (Value.int .i64)) rfl (by rw [List.length_map, ← HU.out.2.1]; omega) (fun e => HU.out.2.2 _ _ (by rw [e])) (newsI HU.out.1) (ones_int s) (by unfold maxLen; omega) (by omega) hszr ?_; intro v6 w6 hown6 hgrow6 _)
      have R : Hid _ := HPOST.out v6 w6 hown6 hgrow6
      clear hown6 hgrow6 HPOST HOW HU p2 p3 pl
      go_returns
      exact ⟨v6, rfl, R.out⟩

end Go.Proofs.Ytbkklnbcoegamaa
