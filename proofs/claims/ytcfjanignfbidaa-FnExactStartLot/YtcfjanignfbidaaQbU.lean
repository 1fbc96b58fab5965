/- Proved here: all wafers of a book, of the model: lot by lot, then the scrap. (And ahead of it: Proved here: an append to a row of the call's own of what may be nil. No condition. (And ahead of it: Proved here: small rules for copies of lists of numbers. No condition on the program. (And ahead of it: Proved here: what an append takes of a list that is read anywhere. No condition.))) -/
import Derived.Test.YtcfjanignfbidaaIntsBase
import Derived.Test.YtcfjanignfbidaaNlJ
import Derived.Deep.AppendLies
import Derived.Test.YtcfjanignfbidaaUnd
import Derived.Test.YtcfjanignfbidaaProg
import Derived.Laws.AppendOwnNone
import Derived.Test.YtcfjanignfbidaaQbM
import Derived.Test.YtcfjanignfbidaaQlU
namespace Go.Proofs.Ytcfjanignfbidaa
open Go.RowKit
set_option linter.unusedVariables false
set_option linter.unusedSimpArgs false

theorem newsK {α : Type} {k : Nat} {enc : α → List Value} (hk : ∀ x, (enc x).length = k) (hk0 : 0 < k) {W : World} {a : Option Addr} {n c : Nat} {s : List α} (h : RG k enc W (.slice a n c) s) : ∀ ad, a = some ad → ∀ j u, (s.flatMap enc)[j]? = some u → W.cell? (ad.add j) = some u := by
  intro ad ha j u hu
  have hj : j < (s.flatMap enc).length := by
    rcases Nat.lt_or_ge j (s.flatMap enc).length with h' | h'
    · exact h'
    · rw [List.getElem?_eq_none h'] at hu; cases hu
  rw [fm_length hk] at hj
  have hs0 : 0 < s.length := by
    rcases Nat.eq_zero_or_pos s.length with e | e
    · rw [e] at hj; simp at hj
    · exact e
  obtain ⟨g, o, c', he, hg, hx⟩ := h.pos hs0
  injection he with he1
  rw [he1] at ha
  injection ha with ha
  subst ha
  have hm : j % k < k := Nat.mod_lt _ hk0
  have hd : j / k < s.length := Nat.div_lt_of_lt_mul (by rw [Nat.mul_comm]; exact hj)
  have hjj : j = j / k * k + j % k := by rw [Nat.mul_comm]; exact (Nat.div_add_mod j k).symm
  rw [hjj, fm_get hk s (j / k) (j % k) hd hm] at hu
  rw [Addr.add_lit, hjj, ← Nat.add_assoc, hx (j / k) hd (j % k) hm]
  exact hu
theorem ones_of {α : Type} {enc : α → List Value} (h1 : ∀ x, ∀ u ∈ enc x, u.oneCell' = true) (s : List α) : ∀ u ∈ s.flatMap enc, u.oneCell' = true := by
  intro u hu
  obtain ⟨f, _, h⟩ := List.mem_flatMap.1 hu
  exact h1 f u h

end Go.Proofs.Ytcfjanignfbidaa

namespace Go.Proofs.Ytcfjanignfbidaa
open Go.RowKit
set_option linter.unusedVariables false
set_option linter.unusedSimpArgs false

theorem row_news {W : World} {g o n c : Nat} {s : List Int} (h : RdI W (.slice (some ⟨g, o, none⟩) n c) s) : ∀ j u, (s.map (Value.int .i64))[j]? = some u → W.cell? ((⟨g, o, none⟩ : Addr).add j) = some u := by
  intro j u hu
  have hj : j < s.length := by
    rcases Nat.lt_or_ge j s.length with h' | h'
    · exact h'
    · rw [List.getElem?_eq_none (by simpa using h')] at hu; cases hu
  obtain ⟨g', o', c', he, hg, hx⟩ := h.ri (by omega)
  injection he with he1
  injection he1 with he2
  injection he2 with he3 he4
  subst he3 he4
  rw [List.getElem?_map, List.getElem?_eq_getElem hj] at hu
  simp only [Option.map_some, Option.some.injEq] at hu
  subst hu
  rw [Addr.add_lit, hx j hj, show s.getD j 0 = s[j] from by simp [List.getD, hj]]
theorem is_lit0 (w : World) (B : Nat) (hB : B ≤ w.heap.size) : IS (w.alloc (.cells #[] 2)) B (.slice (some ⟨w.heap.size, 0, none⟩) 0 0) [] :=
  World.ownsRow_lit w #[] 0 hB (by decide) (by simp)
theorem ones_int (xs : List Int) : ∀ u ∈ xs.map (Value.int .i64), u.oneCell' = true := by
  intro u hu
  obtain ⟨x, _, rfl⟩ := List.mem_map.1 hu
  rfl
theorem own_form0 {w : World} {B T k n : Nat} {v : Value} {xs : List Value} (h : w.ownsRow B T k v (0 + n) xs) : ∃ a c, v = .slice a n c := by
  rcases h.2 with ⟨rfl, h0⟩ | ⟨g, cap, cur, rfl, _⟩
  · exact ⟨none, 0, by rw [Nat.zero_add] at h0; rw [h0]⟩
  · exact ⟨_, _, by rw [Nat.zero_add]⟩

end Go.Proofs.Ytcfjanignfbidaa

namespace Go.Proofs.Ytcfjanignfbidaa
open Go.RowKit
set_option linter.unusedVariables false
set_option linter.unusedSimpArgs false

/-- An append to a row of the call's own of what may be nil, empty, or cut at its end. -/
theorem appAny {P : Program} {w : World} {ops : Array Oper} {rest : List Oper} {o : Oper} {a : Act} {Q : Exit → Act → World → Prop} (hgd : o.guard = none) (s x : Operand) (t : TypeId)
    (ho : o.op = .call { callee := .builtin .append, args := #[s, x], argTypes := #[t, t] })
    (base : Nat) (e : TypeId) (i : TypeInfo) (z : Value) (size bytes : Nat) (ht : P.underlying t = some (.slice e)) (hi : P.info? e = some i) (hz : i.zero = some z)
    (hsize : i.size = size) (hby : i.bytes = bytes) (hzs : z.cells.size = size) (hsz : 0 < size)
    (v : Value) (n : Nat) (xs : List Value) (hs : a.eval s = v) (hown : w.ownsRow base e size v n xs)
    (ao : Option Addr) (m c : Nat) (news : List Value) (hx : a.eval x = .slice ao m c) (hl : news.length = m * size) (hnone : ao = none → m = 0 ∧ c = 0) (hnews : ∀ ad, ao = some ad → ∀ j u, news[j]? = some u → w.cell? (ad.add j) = some u) (h1 : ∀ u ∈ news, u.oneCell' = true)
    (h63 : n + m ≤ maxLen) (hbytes : (n + m) * bytes ≤ 140737488355328) (hbase : base ≤ w.heap.size)
    (h : ∀ v' w', w'.ownsRow base e size v' (n + m) (xs ++ news) → w.grownBy w' v.ownBlock → (v ≠ .slice none 0 0 → v' ≠ .slice none 0 0) → wpList P ops Q rest (a.put o.dst v') w') : wpList P ops Q (o :: rest) a w := by
  cases ao with
  | some ad => exact wpList_append_own w hgd s x t ho base e i z size bytes ht hi hz hsize hby hzs hsz v n xs hs hown ad m c news hx hl (hnews ad rfl) h1 h63 hbytes hbase fun v' w' h2 h3 h4 => h v' w' h2 h3 (fun hn hv => hn (h4.1 hv).1)
  | none =>
    obtain ⟨rfl, rfl⟩ := hnone rfl
    obtain rfl : news = [] := List.eq_nil_of_length_eq_zero (by simpa using hl)
    refine wpList_append_own_none hgd s x t ho base e i size ht hi v n xs hs hown hx (h v w (by simpa using hown) ⟨rfl, rfl, rfl, Nat.le_refl _, fun k _ _ => rfl⟩ id)

end Go.Proofs.Ytcfjanignfbidaa

namespace Go.Proofs.Ytcfjanignfbidaa
open Go.RowKit Go.Maps
set_option linter.unusedVariables false
set_option linter.unusedSimpArgs false

theorem preL_len {ls : List Lo} (h : ∀ j (hj : j < ls.length), ls[j].ws.length ≤ 25) : ∀ n, n ≤ ls.length → (preL ls n).length ≤ 25 * n := by
  intro n
  induction n with
  | zero => intro _; simp [preL]
  | succ n ih =>
    intro hn
    rw [preL_step (by omega), List.length_append]
    have h1 := ih (by omega)
    have h2 := h n (by omega)
    omega
theorem newsI {W : World} {a : Option Addr} {n c : Nat} {s : List Int} (h : RdI W (.slice a n c) s) : ∀ ad, a = some ad → ∀ j u, (s.map (Value.int .i64))[j]? = some u → W.cell? (ad.add j) = some u := by
  have := newsK inC_len (by decide) h
  rw [inC_fm] at this
  exact this
/-- A list of numbers put behind another. -/
theorem is_joined {w : World} {B n m : Nat} {v : Value} {xs ys : List Int} (hn : n = xs.length) (hm : m = ys.length) (h : w.ownsRow B 2 1 v (n + m) (xs.map (Value.int .i64) ++ ys.map (Value.int .i64))) : IS w B v (xs ++ ys) := by
  unfold IS
  rw [List.length_append, List.map_append, ← hn, ← hm]
  exact h
theorem is_row {w : World} {B n : Nat} {v : Value} {xs : List Int} (hn : n = xs.length) (h : IS w B v xs) : w.ownsRow B 2 1 v n (xs.map (Value.int .i64)) := by
  rw [hn]; exact h

set_option maxRecDepth 10000 in
set_option maxHeartbeats 6400000 in
theorem spec_all (st : Int) {w : World} {vw vl vs : Value} {b : Bk} (hl : b.ls.length ≤ 30) (hws : ∀ j (h : j < b.ls.length), b.ls[j].ws.length ≤ 25) (hsc : b.sc.length ≤ 200) (h : RdX w vw vl vs b) :
    Calls Try.prog 37 #[.agg #[.int .i64 st, vw, vl, vs]] w fun e w' => ∃ v, e = .returned v ∧ IS w' w.heap.size v (alL b) ∧ Below w.heap.size w w' := by
  obtain ⟨wa, wc, e1⟩ := h.wn.form
  obtain ⟨la, lc, e2⟩ := h.ls.rlo.form
  obtain ⟨xa, xc, e3⟩ := h.sc.form
  subst e1 e2 e3
  obtain ⟨wn, hwn⟩ : ∃ n, n = b.wn.length := ⟨_, rfl⟩
  obtain ⟨ln, hln⟩ : ∃ n, n = b.ls.length := ⟨_, rfl⟩
  obtain ⟨xn, hxn⟩ : ∃ n, n = b.sc.length := ⟨_, rfl⟩
  rw [← hwn, ← hln, ← hxn] at h ⊢
  obtain ⟨i1, hi1, hy0, hy1, hy2⟩ := info_parts info_i64
  have hl30 : ln ≤ 30 := by omega
  have H : Hid (RdX w (.slice wa wn wc) (.slice la ln lc) (.slice xa xn xc) b ∧ ln = b.ls.length ∧ xn = b.sc.length ∧ (∀ j (h : j < b.ls.length), b.ls[j].ws.length ≤ 25) ∧ b.sc.length ≤ 200) := ⟨h, hln, hxn, hws, hsc⟩
  clear h hwn hln hxn hws hsc hl
  obtain ⟨W, hW⟩ : ∃ W, W = (w.alloc (.cells #[.int .i64 st, .slice wa wn wc, .slice la ln lc, .slice xa xn xc] 31)).alloc (.cells #[] 2) := ⟨_, rfl⟩
  have HW : Hid (Below w.heap.size w W ∧ W.heap[w.heap.size]? = some (.cells #[.int .i64 st, .slice wa wn wc, .slice la ln lc, .slice xa xn xc] 31) ∧ IS W (w.heap.size + 1) (.slice (some ⟨w.heap.size + 1, 0, none⟩) 0 0) [] ∧ W.heap.size = w.heap.size + 2) := by
    have h9 := is_lit0 (w.alloc (.cells #[.int .i64 st, .slice wa wn wc, .slice la ln lc, .slice xa xn xc] 31)) (w.heap.size + 1) (by simp)
    rw [show (w.alloc (.cells #[.int .i64 st, .slice wa wn wc, .slice la ln lc, .slice xa xn xc] 31)).heap.size = w.heap.size + 1 from by simp, ← hW] at h9
    rw [hW] at h9 ⊢
    exact ⟨by (repeat' (first | (with_reducible exact Below.refl _ _) | (with_reducible assumption) | (with_reducible refine Below.setCell ?_ ?_ _) | (with_reducible refine Below.alloc ?_ ?_ _) | (with_reducible refine below_drewN ?_ _) | (with_reducible refine Below.drew ?_) | (with_reducible exact Nat.le_refl _) | omega | (simp; done) | (simp; omega))), (Below.heap_alloc _ _ _ (by simp)).trans (heap_alloc_new w _), h9, by simp⟩
  go_enter Try.func37, Try.ntmps37
  go_wp2
  rw [← hW]
  clear hW
  go_loopw [3, 4] (fun q i wr => ∃ (j m : Nat) (oa : Option Addr) (oc : Nat), j ≤ ln ∧ q = .slice oa m oc ∧ i = .int .i64 j ∧ m ≤ 25 * j ∧ Hid (m = (preL b.ls j).length ∧ IS wr (w.heap.size + 1) (.slice oa m oc) (preL b.ls j) ∧ Below (w.heap.size + 1) W wr)) (fun _ i _ => ln - (intOf i).toNat)
  case atStart => exact ⟨0, 0, _, _, Nat.zero_le _, rfl, rfl, by omega, by simp [preL], by simpa [preL] using HW.out.2.2.1, ⟨rfl, rfl, rfl, Nat.le_refl _, fun _ _ => rfl⟩⟩
  case round =>
    obtain ⟨j, m, oa, oc, hj, rfl, rfl, hm25, hR⟩ := hrel
    have HBW : Hid (Below w.heap.size w wr) := HW.out.1.trans (hR.out.2.2.mono (by omega))
    have hres := (hR.out.2.2.block _ (show w.heap.size < w.heap.size + 1 by omega)).trans HW.out.2.1
    have hszr : w.heap.size + 1 ≤ wr.heap.size := by have h1 := hR.out.2.2.size; have h2 := HW.out.2.2.2; omega
    have p2 := cellOfQ hres 2 rfl
    have p3 := cellOfQ hres 3 rfl
    have pl := ltOfQ hres
    by_cases hlt : j < ln
    · have hjl : j < b.ls.length := by rw [← H.out.2.1]; exact hlt
      obtain ⟨g, o, c2, he, hg, x, hx, hnc, c0, c1, c2', c3, c4⟩ := (H.out.1.ls.below HBW.out).at hjl
      simp only [Value.slice.injEq] at he
      obtain ⟨rfl, hx1, hx2⟩ := he
      clear hx1 hx2
      obtain ⟨ri, rp, ua, un, uc, rh, da, dn, dc⟩ := x
      simp only at c2'
      obtain ⟨s, hs⟩ : ∃ s, s = b.ls[j].ws := ⟨_, rfl⟩
      have hrd : RdI wr (.slice ua un uc) s := by rw [hs]; exact hx.ws
      have hu25 : un ≤ 25 := by rw [hrd.len, hs]; exact H.out.2.2.2.1 j hjl
      have HU : Hid (RdI wr (.slice ua un uc) s ∧ un = s.length ∧ NC (.slice ua un uc) ∧ s = b.ls[j].ws) := ⟨hrd, hrd.len, hnc.1, hs⟩
      have HOW : Hid (wr.ownsRow (w.heap.size + 1) 2 1 (.slice oa m oc) m ((preL b.ls j).map (Value.int .i64))) := is_row hR.out.1 hR.out.2.1
      have HPOST : Hid (∀ (v6 : Value) (w6 : World), w6.ownsRow (w.heap.size + 1) 2 1 v6 (m + un) ((preL b.ls j).map (Value.int .i64) ++ s.map (Value.int .i64)) → wr.grownBy w6 (Value.slice oa m oc).ownBlock → ∃ oa' oc', v6 = .slice oa' (m + un) oc' ∧ m + un = (preL b.ls (j + 1)).length ∧ IS w6 (w.heap.size + 1) (.slice oa' (m + un) oc') (preL b.ls (j + 1)) ∧ Below (w.heap.size + 1) W w6) := fun v6 w6 hown6 hgrow6 => by
        have e : preL b.ls (j + 1) = preL b.ls j ++ s := by rw [hs]; exact preL_step hjl
        have hP := is_joined hR.out.1 HU.out.2.1 hown6
        rw [← e] at hP
        obtain ⟨oa', oc', e2⟩ := hP.form
        have e3 : m + un = (preL b.ls (j + 1)).length := by rw [e, List.length_append, ← hR.out.1, ← HU.out.2.1]
        rw [← e3] at e2
        rw [e2] at hP
        exact ⟨oa', oc', e2, e3, hP, hR.out.2.2.grown hgrow6 hszr (fun k hk => (World.ownsRow.lt HOW.out k hk).1)⟩
      have b0 : (0 : Int) ≤ (j : Int) := by omega
      have b1 : (j : Int) < (ln : Int) := by omega
      clear hrd hx hnc hs hR hres p3 c0 c1 c3 c4
      go_wp2_with (at_builtin; refine appAny rfl (.tmp 13) (.tmp 19) 24 rfl (w.heap.size + 1) 2 i1 (.int .i64 0) 1 8 Try.underlying24 hi1 hy0 hy1 hy2 rfl (by decide) (.slice oa m oc) m _ rfl HOW.out ua un uc (s.map (Value.int .i64)) rfl (by rw [List.length_map, ← HU.out.2.1]; omega) (fun e => HU.out.2.2.1 _ _ (by rw [e])) (newsI HU.out.1) (ones_int s) (by unfold maxLen; omega) (by omega) hszr ?_; intro v6 w6 hown6 hgrow6 _)
      obtain ⟨oa', oc', e2, R2⟩ := HPOST.out v6 w6 hown6 hgrow6
      subst e2
      have R3 : Hid _ := R2
      clear hown6 hgrow6 R2 HPOST HOW HU c2' p2 pl
      go_wp2
      go_roundw
      case rel => exact ⟨j + 1, m + un, oa', oc', by omega, rfl, by go_num, by omega, R3.out⟩
      case measure => simp [intOf]; omega
    · obtain rfl : j = ln := by omega
      obtain ⟨s, hs⟩ : ∃ s, s = b.sc := ⟨_, rfl⟩
      have hall : preL b.ls j = b.ls.flatMap Lo.ws := by rw [H.out.2.1]; exact preL_all _
      have hrd : RdI wr (.slice xa xn xc) s := by rw [hs]; exact H.out.1.sc.below HBW.out
      have hx200 : xn ≤ 200 := by rw [H.out.2.2.1]; exact H.out.2.2.2.2
      have HU : Hid (RdI wr (.slice xa xn xc) s ∧ xn = s.length ∧ NC (.slice xa xn xc)) := ⟨hrd, hrd.len, H.out.1.ns⟩
      have HOW : Hid (wr.ownsRow (w.heap.size + 1) 2 1 (.slice oa m oc) m ((preL b.ls j).map (Value.int .i64))) := is_row hR.out.1 hR.out.2.1
      have HPOST : Hid (∀ (v6 : Value) (w6 : World), w6.ownsRow (w.heap.size + 1) 2 1 v6 (m + xn) ((preL b.ls j).map (Value.int .i64) ++ s.map (Value.int .i64)) → wr.grownBy w6 (Value.slice oa m oc).ownBlock → IS w6 w.heap.size v6 (alL b) ∧ Below w.heap.size w w6) := fun v6 w6 hown6 hgrow6 => by
        have hP := is_joined hR.out.1 HU.out.2.1 hown6
        rw [hall, hs] at hP
        exact ⟨hP.low (by omega), HBW.out.grown hgrow6 HBW.out.size (fun k hk => by have := (World.ownsRow.lt HOW.out k hk).1; omega)⟩
      clear hrd hs hall hR hres
      go_wp2_with (at_builtin; refine appAny rfl (.tmp 21) (.tmp 23) 24 rfl (w.heap.size + 1) 2 i1 (.int .i64 0) 1 8 Try.underlying24 hi1 hy0 hy1 hy2 rfl (by decide) (.slice oa m oc) m _ rfl HOW.out xa xn xc (s.map (Value.int .i64)) rfl (by rw [List.length_map, ← HU.out.2.1]; omega) (fun e => HU.out.2.2 _ _ (by rw [e])) (newsI HU.out.1) (ones_int s) (by unfold maxLen; omega) (by omega) hszr ?_; intro v6 w6 hown6 hgrow6 _)
      have R : Hid _ := HPOST.out v6 w6 hown6 hgrow6
      clear hown6 hgrow6 HPOST HOW HU p2 p3 pl
      go_returns
      exact ⟨v6, rfl, R.out⟩

end Go.Proofs.Ytcfjanignfbidaa
