/- Proved here: how the laws' package copies and compares devices, lists of them and netlists; what a list of devices of the call's own is. -/
import Derived.Test.YtbjdalcbdbphkaaChg
import Derived.Test.YtbjdalcbdbphkaaMeB
import Derived.Test.YtbjdalcbdbphkaaLwS
namespace Go.Proofs.Ytbjdalcbdbphkaa
open Go.ChangeShapes Go.WideShapes Go.ChangeAt Go.RowKit Go.Joins
set_option linter.unusedVariables false
set_option linter.unusedSimpArgs false

theorem info_Element : (Try.prog.info? 68).map (fun i => (i.zero, i.size, i.bytes)) = some (some (.agg #[.bool false, .slice none 0 0]), 2, 32) := by kernel_rfl
theorem he_at1 (w : World) (a b : Obj) : ((w.alloc a).alloc b).heap[w.heap.size + 1]? = some b := by have := heap_alloc_new (w.alloc a) b; simpa using this
theorem he_at2 (w : World) (a b c : Obj) : (((w.alloc a).alloc b).alloc c).heap[w.heap.size + 2]? = some c := by have := heap_alloc_new ((w.alloc a).alloc b) c; simpa using this
theorem twoE_at {w : World} {k : Nat} {a b : Value} {T : TypeId} (h : w.heap[k]? = some (.cells #[a, b] T)) :
    w.cell? ⟨k, 0, none⟩ = some a ∧ w.cell? ⟨k, 1, none⟩ = some b ∧ (∀ i, w.frozen? ⟨k, i, none⟩ = false) ∧ k < w.heap.size := by
  refine ⟨by simp [World.cell?, h], by simp [World.cell?, h], fun i => by simp [World.frozen?, h], ?_⟩
  rcases Nat.lt_or_ge k w.heap.size with h' | h'
  · exact h'
  · rw [Array.getElem?_eq_none h'] at h; cases h

/-- A copy's list lies in a block from B on. -/
def FreshE (B : Nat) (r : Erd) : Prop := ∀ g, (Value.slice r.a r.n r.c).ownBlock = some g → B ≤ g

/-- A list of devices of the call's own, in blocks from B on and below Z, each list of pins in a block of its own. -/
structure OEl (w : World) (B Z : Nat) (v : Value) (s : List Elm) (rs : List Erd) : Prop where
  row : OG 68 2 erC w B v rs
  len : rs.length = s.length
  k : ∀ j (h : j < rs.length) (h' : j < s.length), rs[j].k = s[j].k
  p : ∀ j (h : j < rs.length) (h' : j < s.length), IS w B (.slice rs[j].a rs[j].n rs[j].c) s[j].p
  up : ∀ g, v.ownBlock = some g → g < Z ∧ ∀ j (h : j < rs.length) q, (Value.slice rs[j].a rs[j].n rs[j].c).ownBlock = some q → q ≠ g
  upp : ∀ j (h : j < rs.length) q, (Value.slice rs[j].a rs[j].n rs[j].c).ownBlock = some q → q < Z
  ris : ∀ i j (hi : i < rs.length) (hj : j < rs.length), i < j → ∀ p q, (Value.slice rs[i].a rs[i].n rs[i].c).ownBlock = some p → (Value.slice rs[j].a rs[j].n rs[j].c).ownBlock = some q → p < q
theorem OEl.rd {w : World} {B Z : Nat} {v : Value} {s : List Elm} {rs : List Erd} (h : OEl w B Z v s rs) : REl w v s :=
  ⟨rs, OG.rg erC_len h.row, ⟨h.len, fun j h1 h2 => ⟨h.k j h1 h2, (h.p j h1 h2).rg⟩⟩⟩
theorem OEl.below {w w' : World} {B Z : Nat} {v : Value} {s : List Elm} {rs : List Erd} (h : OEl w B Z v s rs) (hb : Below w.heap.size w w') : OEl w' B Z v s rs :=
  ⟨h.row.below hb, h.len, h.k, fun j h1 h2 => (h.p j h1 h2).bel hb, h.up, h.upp, h.ris⟩
theorem OG.keep {α : Type} {T k : Nat} {enc : α → List Value} {w w' : World} {B : Nat} {v : Value} {s : List α} (h : OG T k enc w B v s) (hb : ∀ g, v.ownBlock = some g → w'.heap[g]? = w.heap[g]?) : OG T k enc w' B v s := by
  refine ⟨h.1, ?_⟩
  rcases h.2 with h' | ⟨g, cap, cur, rfl, hB, hg, hr⟩
  · exact Or.inl h'
  · exact Or.inr ⟨g, cap, cur, rfl, hB, by rw [hb g rfl]; exact hg, hr⟩

set_option maxRecDepth 10000 in
set_option maxHeartbeats 3200000 in
theorem toElement_any (r : Erd) (d : Elm) (w : World) (hs : smE 1048576 d) (h : Erd1 w r d) :
    Calls Try.prog 40 #[.agg #[.bool r.k, .slice r.a r.n r.c]] w fun e w' => ∃ r' : Erd, e = .returned (.agg #[.bool r'.k, .slice r'.a r'.n r'.c]) ∧ r'.k = d.k ∧ IS w' w.heap.size (.slice r'.a r'.n r'.c) d.p ∧ Below w.heap.size w w' := by
  have H : Hid (Erd1 w r d ∧ smE 1048576 d) := ⟨h, hs⟩
  clear h hs
  go_enter Try.func40, Try.ntmps40
  go_wp2_with (fail)
  refine (toInt64S_any (by have := H.out.2; unfold smE at this; omega) (H.out.1.p.below (by (repeat' (first | (with_reducible exact Below.refl _ _) | (with_reducible assumption) | (with_reducible refine Below.setCell ?_ ?_ _) | (with_reducible refine Below.alloc ?_ ?_ _) | (with_reducible refine below_drewN ?_ _) | (with_reducible refine Below.drew ?_) | (with_reducible exact Nat.le_refl _) | omega | (simp; done) | (simp; omega)))))).mono ?_
  rintro e w1 ⟨g1, rfl, hs1, hb1⟩
  have k1 := (hb1.block (w.heap.size + 1) (by simp)).trans ((Below.heap_alloc _ _ _ (by simp)).trans (he_at1 w _ _))
  have k2 := (hb1.block (w.heap.size + 2) (by simp)).trans (he_at2 w _ _ _)
  have hb : Below w.heap.size w w1 := (show Below w.heap.size w _ from by (repeat' (first | (with_reducible exact Below.refl _ _) | (with_reducible assumption) | (with_reducible refine Below.setCell ?_ ?_ _) | (with_reducible refine Below.alloc ?_ ?_ _) | (with_reducible refine below_drewN ?_ _) | (with_reducible refine Below.drew ?_) | (with_reducible exact Nat.le_refl _) | omega | (simp; done) | (simp; omega)))).trans (hb1.mono (by simp; omega))
  have hlt := IS.lt hs1 g1 rfl
  simp at hlt
  obtain ⟨bn, hbn⟩ : ∃ bn, bn = d.p.length := ⟨_, rfl⟩
  have HS1 : Hid (IS w1 g1 (.slice (some ⟨g1, 0, none⟩) bn bn) d.p) := by rw [hbn]; exact hs1.from
  rw [← hbn]
  clear hbn hs1 hb1
  obtain ⟨W2, hW2⟩ : ∃ W2, W2 = ((w1.setCell ⟨w.heap.size + 2, 1, none⟩ (.slice (some ⟨g1, 0, none⟩) bn bn)).setCell ⟨w.heap.size + 1, 0, none⟩ (.bool r.k)).setCell ⟨w.heap.size + 1, 1, none⟩ (.slice (some ⟨g1, 0, none⟩) bn bn) := ⟨_, rfl⟩
  have HF : Hid (r.k = d.k ∧ IS W2 w.heap.size (.slice (some ⟨g1, 0, none⟩) bn bn) d.p ∧ Below w.heap.size w W2) := by
    refine ⟨H.out.1.k, (HS1.out.kept (fun q hq => ?_)).low (by omega), ?_⟩
    · injection hq with hq; have hq' : g1 = q := hq
      rw [hW2, heap_setCell_other _ _ _ _ (by simp; omega), heap_setCell_other _ _ _ _ (by simp; omega), heap_setCell_other _ _ _ _ (by simp; omega)]
    · rw [hW2]
      (repeat' (first | (with_reducible exact Below.refl _ _) | (with_reducible assumption) | (with_reducible refine Below.setCell ?_ ?_ _) | (with_reducible refine Below.alloc ?_ ?_ _) | (with_reducible refine below_drewN ?_ _) | (with_reducible refine Below.drew ?_) | (with_reducible exact Nat.le_refl _) | omega | (simp; done) | (simp; omega)))
  obtain ⟨q0, q1, qf, ql⟩ := twoE_at k2
  have qf1 := qf 1
  obtain ⟨p0, p1, pf, pl⟩ := twoE_at k1
  have pf0 := pf 0
  have pf1 := pf 1
  have e1 : W2.heap[w.heap.size + 1]? = some (.cells #[.bool r.k, .slice (some ⟨g1, 0, none⟩) bn bn] 68) := by
    have k1' : (w1.setCell ⟨w.heap.size + 2, 1, none⟩ (.slice (some ⟨g1, 0, none⟩) bn bn)).heap[w.heap.size + 1]? = some (.cells #[.bool false, .slice none 0 0] 68) := by rw [heap_setCell_other _ _ _ _ (by simp)]; exact k1
    have s0 := heap_setCell_same _ _ 0 _ _ (.bool r.k) k1'
    have s1 := heap_setCell_same _ _ 1 _ _ (.slice (some ⟨g1, 0, none⟩) bn bn) s0
    rw [hW2]
    simpa using s1
  have HW2 : Hid _ := hW2
  obtain ⟨t0, t1, tf, tl⟩ := twoE_at e1
  clear hW2 k1 k2 hb HS1 e1
  go_wp2
  rw [← HW2.out]
  refine bodyPost_ret (by simp [results, Try.results40, go_sem, t0, t1]) rfl ⟨⟨r.k, some ⟨g1, 0, none⟩, bn, bn⟩, rfl, HF.out⟩

/-- The copies made so far. -/
structure CpE (w wr : World) (n : Nat) (s : List Elm) (j : Nat) (rs : List Erd) : Prop where
  len : rs.length = j
  fill : Fill 68 2 erC wr w.heap.size w.heap.size n rs j
  k : ∀ i (h : i < rs.length) (h' : i < s.length), rs[i].k = s[i].k
  p : ∀ i (h : i < rs.length) (h' : i < s.length), IS wr (w.heap.size + 1) (.slice rs[i].a rs[i].n rs[i].c) s[i].p
  ris : ∀ i j (hi : i < rs.length) (hj : j < rs.length), i < j → ∀ p q, (Value.slice rs[i].a rs[i].n rs[i].c).ownBlock = some p → (Value.slice rs[j].a rs[j].n rs[j].c).ownBlock = some q → p < q
  bl : Below w.heap.size w wr
/-- One more. -/
theorem CpE.push {w wr w3 W : World} {n : Nat} {s : List Elm} {j : Nat} {rs : List Erd} (h : CpE w wr n s j rs) (hjn : j < n) (hns : n ≤ s.length) (hb3 : Below wr.heap.size wr w3) (r : Erd) (hk : r.k = (s[j]'(by omega)).k) (hp : IS w3 wr.heap.size (.slice r.a r.n r.c) (s[j]'(by omega)).p)
    (hW : W = putsAt w3 w.heap.size (j * 2) 0 (erC r)) : CpE w W n s (j + 1) (rs ++ [r]) := by
  have hF3 := h.fill.below hb3
  have hlt3 := h.fill.lt
  have hbl3 : Below w.heap.size w w3 := h.bl.trans (hb3.mono h.bl.size)
  have hoth : ∀ q, w.heap.size + 1 ≤ q → W.heap[q]? = w3.heap[q]? := fun q hq => by rw [hW]; exact puts_other (by omega) _ _ _
  refine ⟨by simp [h.len], ?_, fun i h1 h2 => ?_, fun i h1 h2 => ?_, fun a b ha hb hab p q hpa hqb => ?_, by rw [hW]; exact puts_below hbl3 (Nat.le_refl _) _ _⟩
  · rw [hW]; exact hF3.push erC_len h.len hjn r
  · rcases Nat.lt_or_ge i rs.length with h3 | h3
    · rw [List.getElem_append_left h3]; exact h.k i h3 h2
    · have hi : i = j := by rw [List.length_append, List.length_singleton] at h1; have := h.len; omega
      subst hi
      rw [List.getElem_append_right h3]
      simp only [h.len, Nat.sub_self, List.getElem_cons_zero]
      exact hk
  · rcases Nat.lt_or_ge i rs.length with h3 | h3
    · rw [List.getElem_append_left h3]
      have := (h.p i h3 h2).bel hb3
      exact this.kept (fun q hq => hoth q (IS.lt this q hq).1)
    · have hi : i = j := by rw [List.length_append, List.length_singleton] at h1; have := h.len; omega
      subst hi
      rw [List.getElem_append_right h3]
      simp only [h.len, Nat.sub_self, List.getElem_cons_zero]
      have h5 := hp.low (show w.heap.size + 1 ≤ wr.heap.size by have := hlt3; omega)
      exact h5.kept (fun q hq => hoth q (IS.lt h5 q hq).1)
  · have hbl : b < rs.length ∨ b = rs.length := by rw [List.length_append, List.length_singleton] at hb; omega
    have hal : a < rs.length := by omega
    rw [List.getElem_append_left hal] at hpa
    rcases hbl with h3 | rfl
    · rw [List.getElem_append_left h3] at hqb
      exact h.ris a b hal h3 hab p q hpa hqb
    · rw [List.getElem_append_right (Nat.le_refl _)] at hqb
      simp only [Nat.sub_self, List.getElem_cons_zero] at hqb
      have e1 := (IS.lt (h.p a hal (by have := h.len; omega)) p hpa).2
      have e2 := (IS.lt hp q hqb).1
      omega
theorem CpE.od {w wr : World} {n : Nat} {s : List Elm} {rs : List Erd} (h : CpE w wr n s n rs) (hn : n = s.length) : OEl wr w.heap.size wr.heap.size (.slice (some ⟨w.heap.size, 0, none⟩) n n) s rs := by
  have hlt := h.fill.lt
  refine ⟨h.fill.done erC_len h.len.symm (by rw [h.len]; exact Nat.le_refl _), h.len.trans hn, h.k, fun j h1 h2 => (h.p j h1 h2).low (by omega), fun g hg => ?_, fun j h1 q hq => (IS.lt (h.p j h1 (by rw [← hn, ← h.len]; exact h1)) q hq).2, h.ris⟩
  injection hg with hg
  have hg' : w.heap.size = g := hg
  subst hg'
  exact ⟨hlt.2, fun j h1 q hq => by have := (IS.lt (h.p j h1 (by rw [← hn, ← h.len]; exact h1)) q hq).1; omega⟩

set_option maxRecDepth 10000 in
set_option maxHeartbeats 3200000 in
theorem toElementS_any {w : World} {v : Value} {s : List Elm} (hn : s.length ≤ 1048576) (hsm : ∀ j (h : j < s.length), smE 1048576 s[j]) (h : REl w v s) :
    Calls Try.prog 10 #[v] w fun e w' => ∃ g rs, e = .returned (.slice (some ⟨g, 0, none⟩) s.length s.length) ∧ OEl w' w.heap.size w'.heap.size (.slice (some ⟨g, 0, none⟩) s.length s.length) s rs ∧ Below w.heap.size w w' := by
  obtain ⟨a, c, rfl⟩ := h.form
  obtain ⟨i0, hi, hz0, hz1, hz2⟩ := info_parts info_Element
  obtain ⟨n, hnn⟩ : ∃ n, n = s.length := ⟨_, rfl⟩
  have HN : Hid (n = s.length) := hnn
  rw [← hnn] at hn h ⊢
  have H : Hid (REl w (.slice a n c) s ∧ ∀ j (h : j < s.length), smE 1048576 s[j]) := ⟨h, hsm⟩
  clear hnn h hsm
  go_enter Try.func10, Try.ntmps10
  go_wp2_with (at_make; refine wpList_make_full _ rfl _ _ 29 rfl w.heap.size 68 i0 (.agg #[.bool false, .slice none 0 0]) 2 Try.underlying29 hi hz0 hz1 _ _ _ _ n rfl rfl rfl rfl (by rw [hz2]; omega) (by unfold maxLen; omega) (Nat.le_refl _) ?_; intro w2 hown2 hgrow2)
  have hb2 : Below w.heap.size w w2 := (Below.refl _ _).grown hgrow2 (Nat.le_refl _) (fun k h => by cases h)
  have HS : Hid (CpE w w2 n s 0 []) := ⟨rfl, ⟨_, hown2, fun t ht => by omega⟩, fun i h => by simp at h, fun i h => by simp at h, fun i j h => by simp at h, hb2⟩
  clear hown2 hgrow2 hb2
  go_loopw [4] (fun i wr => ∃ (j : Nat) (cs : List Erd), j ≤ n ∧ i = .int .i64 j ∧ Hid (CpE w wr n s j cs)) (fun i _ => n - (intOf i).toNat)
  case atStart => exact ⟨0, [], Nat.zero_le _, rfl, HS.out⟩
  case round =>
    clear HS
    obtain ⟨j, cs, hjn, rfl, hR⟩ := hrel
    by_cases hlt : j < n
    · have hjl : j < s.length := by rw [← HN.out]; exact hlt
      obtain ⟨g, o, c2, he, hg, x, hx, c0, c1⟩ := (H.out.1.below hR.out.bl).at hjl
      simp only [Value.slice.injEq] at he
      obtain ⟨rfl, hx1, hx2⟩ := he
      clear hx1 hx2
      have HX : Hid (Erd1 wr x s[j] ∧ smE 1048576 s[j]) := ⟨hx, H.out.2 j hjl⟩
      clear hx
      have b0 : (0 : Int) ≤ (j : Int) := by omega
      have b1 : (j : Int) < (n : Int) := by omega
      go_wp2_with (fail)
      refine (toElement_any x s[j] _ HX.out.2 HX.out.1).mono ?_
      rintro e w3 ⟨r, rfl, hr1, hr2, hb3⟩
      have hF3 := hR.out.fill.below hb3
      obtain ⟨⟨u0, g0⟩, f0⟩ := hF3.there (j * 2) (by omega)
      obtain ⟨⟨u1, g1⟩, f1⟩ := hF3.there (j * 2 + 1) (by omega)
      obtain ⟨W, hW⟩ : ∃ W, W = (w3.setCell ⟨w.heap.size, j * 2, none⟩ (.bool r.k)).setCell ⟨w.heap.size, j * 2 + 1, none⟩ (.slice r.a r.n r.c) := ⟨_, rfl⟩
      have HP : Hid (CpE w W n s (j + 1) (cs ++ [r])) := hR.out.push hlt (by rw [HN.out]; exact Nat.le_refl _) hb3 r hr1 hr2 hW
      have HW : Hid _ := hW
      clear hF3 hb3 hR c0 c1 hr1 hr2 hW
      go_wp2
      rw [← HW.out]
      go_roundw
      case rel => exact ⟨j + 1, cs ++ [r], by omega, by go_num, HP.out⟩
      case measure => simp [intOf]; omega
    · obtain rfl : j = n := by omega
      have HD : Hid (OEl wr w.heap.size wr.heap.size (.slice (some ⟨w.heap.size, 0, none⟩) j j) s cs ∧ Below w.heap.size w wr) := ⟨hR.out.od HN.out, hR.out.bl⟩
      clear hR
      go_wp2
      go_returns
      exact ⟨w.heap.size, cs, rfl, HD.out.1, HD.out.2⟩

set_option maxHeartbeats 1600000 in
theorem eqElement_same (r q : Erd) (d : Elm) (w : World) (hs : smE 1048576 d) (h : Erd1 w r d) (h' : Erd1 w q d) :
    Calls Try.prog 44 #[.agg #[.bool r.k, .slice r.a r.n r.c], .agg #[.bool q.k, .slice q.a q.n q.c]] w fun e w' => e = .returned (.bool true) ∧ Below w.heap.size w w' := by
  obtain ⟨m, hm⟩ : ∃ m, m = d.k := ⟨_, rfl⟩
  rw [h.k, h'.k, ← hm]
  have H : Hid (Erd1 w r d ∧ Erd1 w q d ∧ smE 1048576 d) := ⟨h, h', hs⟩
  clear h h' hs hm
  go_enter Try.func44, Try.ntmps44
  go_wp2_with (fail)
  refine (eqInt64S_same (by have := H.out.2.2; unfold smE at this; omega) (H.out.1.p.below (by (repeat' (first | (with_reducible exact Below.refl _ _) | (with_reducible assumption) | (with_reducible refine Below.setCell ?_ ?_ _) | (with_reducible refine Below.alloc ?_ ?_ _) | (with_reducible refine below_drewN ?_ _) | (with_reducible refine Below.drew ?_) | (with_reducible exact Nat.le_refl _) | omega | (simp; done) | (simp; omega))))) (H.out.2.1.p.below (by (repeat' (first | (with_reducible exact Below.refl _ _) | (with_reducible assumption) | (with_reducible refine Below.setCell ?_ ?_ _) | (with_reducible refine Below.alloc ?_ ?_ _) | (with_reducible refine below_drewN ?_ _) | (with_reducible refine Below.drew ?_) | (with_reducible exact Nat.le_refl _) | omega | (simp; done) | (simp; omega)))))).mono ?_
  rintro e w1 ⟨rfl, hb1⟩
  have HB1 : Hid (Below w.heap.size w w1) := (show Below w.heap.size w _ from by (repeat' (first | (with_reducible exact Below.refl _ _) | (with_reducible assumption) | (with_reducible refine Below.setCell ?_ ?_ _) | (with_reducible refine Below.alloc ?_ ?_ _) | (with_reducible refine below_drewN ?_ _) | (with_reducible refine Below.drew ?_) | (with_reducible exact Nat.le_refl _) | omega | (simp; done) | (simp; omega)))).trans (hb1.mono (by simp; omega))
  clear hb1
  go_wp2
  go_returns
  exact ⟨rfl, HB1.out⟩

set_option maxHeartbeats 1600000 in
theorem eqElementS_same {w : World} {va vb : Value} {s : List Elm} (hn : s.length ≤ 1099511627776) (hsm : ∀ j (h : j < s.length), smE 1048576 s[j]) (ha : REl w va s) (hb : REl w vb s) :
    Calls Try.prog 14 #[va, vb] w fun e w' => e = .returned (.bool true) ∧ Below w.heap.size w w' := by
  obtain ⟨a1, c1', rfl⟩ := ha.form
  obtain ⟨a2, c2', rfl⟩ := hb.form
  obtain ⟨n, hnn⟩ : ∃ n, n = s.length := ⟨_, rfl⟩
  rw [← hnn] at hn ha hb ⊢
  have H : Hid (REl w (.slice a1 n c1') s ∧ REl w (.slice a2 n c2') s ∧ n = s.length ∧ ∀ j (h : j < s.length), smE 1048576 s[j]) := ⟨ha, hb, hnn, hsm⟩
  clear ha hb hnn hsm
  go_enter Try.func14, Try.ntmps14
  go_wp2
  go_loopw [5] (fun i wr => ∃ j : Nat, j ≤ n ∧ i = .int .i64 j ∧ Hid (Below w.heap.size w wr)) (fun i _ => n - (intOf i).toNat)
  case atStart => exact ⟨0, Nat.zero_le _, rfl, Below.refl _ _⟩
  case round =>
    obtain ⟨j, hjn, rfl, hR⟩ := hrel
    by_cases hlt : j < n
    · have hjl : j < s.length := by rw [← H.out.2.2.1]; exact hlt
      obtain ⟨g, o, d1, he, hg, x, hx, c0, c1⟩ := (H.out.1.below hR.out).at hjl
      simp only [Value.slice.injEq] at he
      obtain ⟨rfl, hx1, hx2⟩ := he
      obtain ⟨g', o', d2, he', hg', y, hy, e0, e1⟩ := (H.out.2.1.below hR.out).at hjl
      simp only [Value.slice.injEq] at he'
      obtain ⟨rfl, hx3, hx4⟩ := he'
      clear hx1 hx2 hx3 hx4
      have hcall : Hid (∀ X : Und wr.heap.size wr, Calls Try.prog 44 #[.agg #[.bool x.k, .slice x.a x.n x.c], .agg #[.bool y.k, .slice y.a y.n y.c]] X.W fun e w' => e = .returned (.bool true) ∧ Below X.W.heap.size X.W w') := fun X =>
        eqElement_same x y s[j] X.W (H.out.2.2.2 j hjl) (hx.below X.below) (hy.below X.below)
      clear hx hy
      have b0 : (0 : Int) ≤ (j : Int) := by omega
      have b1 : (j : Int) < (n : Int) := by omega
      go_wp2_with (fail)
      (refine wp_region_und (by kernel_rfl) (by kernel_rfl) (fun hund => ?_); (repeat (go_big_quiet_step (first | (go_at_call 44; with_reducible refine und_call ?_ (hcall.out _); exact Nat.le_refl _)))); with_reducible refine wpQuiet_nil ?_; clear hund; intro W1 hb1; obtain ⟨hc1, hf1⟩ := undcell hb1)
      have HB : Hid (Below w.heap.size w W1) := hR.out.trans (hb1.mono hR.out.size)
      clear hb1 hc1 hf1
      go_wp2
      go_roundw
      case rel => exact ⟨j + 1, by omega, by go_num, HB.out⟩
      case measure => simp [intOf]; omega
    · go_wp2
      go_returns
      exact ⟨rfl, hR.out⟩

/-- What a copy of elements keeps. -/
structure OElB (w : World) (B : Nat) (v : Value) (s : List Elm) (rs : List Erd) : Prop where
  row : OG 68 2 erC w B v rs
  len : rs.length = s.length
  k : ∀ j (h : j < rs.length) (h' : j < s.length), rs[j].k = s[j].k
  p : ∀ j (h : j < rs.length) (h' : j < s.length), IS w B (.slice rs[j].a rs[j].n rs[j].c) s[j].p
theorem OElB.rd {w : World} {B : Nat} {v : Value} {s : List Elm} {rs : List Erd} (h : OElB w B v s rs) : REl w v s :=
  ⟨rs, OG.rg erC_len h.row, ⟨h.len, fun j h1 h2 => ⟨h.k j h1 h2, (h.p j h1 h2).rg⟩⟩⟩
theorem Ow.elAll {V V0 : World} {v : Value} {s : List Elm} {rs : List Erd} (h : OEl V V0.heap.size V.heap.size v s rs) (hb : Below V0.heap.size V0 V) : Ow V0.heap.size V.heap.size (fun V => OElB V V0.heap.size v s rs) V :=
  ⟨⟨h.row, h.len, h.k, h.p⟩, fun V' hq => ⟨OG.keep h.row fun g hg => hq g (OG.lt h.row g hg).1 (OG.lt h.row g hg).2, h.len, h.k, fun j h1 h2 => (h.p j h1 h2).kept fun g hg => hq g (IS.lt (h.p j h1 h2) g hg).1 (IS.lt (h.p j h1 h2) g hg).2⟩, ⟨hb.size, Nat.le_refl _⟩⟩
theorem toElementS_pr {w : World} {v : Value} {s : List Elm} (hn : s.length ≤ 1048576 ∧ ∀ j (h : j < s.length), smE 1048576 s[j]) (h : REl w v s) :
    Calls Try.prog 10 #[v] w fun e w' => ∃ g : Nat × List Erd, e = .returned (.slice (some ⟨g.1, 0, none⟩) s.length s.length) ∧ OEl w' w.heap.size w'.heap.size (.slice (some ⟨g.1, 0, none⟩) s.length s.length) s g.2 ∧ Below w.heap.size w w' :=
  (toElementS_any hn.1 hn.2 h).mono (by rintro e w' ⟨g, rs, rfl, h1, h2⟩; exact ⟨(g, rs), rfl, h1, h2⟩)

end Go.Proofs.Ytbjdalcbdbphkaa
