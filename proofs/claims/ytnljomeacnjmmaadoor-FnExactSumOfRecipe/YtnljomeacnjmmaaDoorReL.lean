/- Proved here: what the laws' package's functions on steps and recipes do: hand one on, copy a list, compare two that are alike. -/
import Derived.Test.YtnljomeacnjmmaaDoorReZ
namespace Go.Proofs.YtnljomeacnjmmaaDoor
open Go.ChangeShapes Go.WideShapes Go.ChangeAt Go.RowKit Go.Joins
set_option linter.unusedVariables false
set_option linter.unusedSimpArgs false


theorem info_RecipeStep : (Tryd.prog.info? 64).map (fun i => (i.zero, i.size, i.bytes)) = some (some (.agg #[.string ByteArray.empty, .int .i64 0, .int .i64 0, .string ByteArray.empty, .slice none 0 0]), 5, 72) := by kernel_rfl
/-- A copy's list lies in a block from B on. -/
def FreshS (B : Nat) (r : Rs) : Prop := ∀ g, (Value.slice r.sa r.sn r.sc).ownBlock = some g → B ≤ g
theorem Rs1.kept {w w' : World} {r : Rs} {c : Sp} {B : Nat} (h : Rs1 w r c) (hf : FreshS B r) (hw : ∀ q, B ≤ q → w'.heap[q]? = w.heap[q]?) (hs : w.heap.size ≤ w'.heap.size) : Rs1 w' r c :=
  ⟨h.nm, h.t, h.ss.kept (fun q hq => hw q (hf q hq)) hs, h.cp⟩

set_option maxRecDepth 10000 in
set_option maxHeartbeats 3200000 in
theorem toRecipeStep_any (r : Rs) (c : Sp) (w : World) (hs : smSp 1048576 c) (h : Rs1 w r c) :
    Calls Tryd.prog 29 #[.agg #[.string r.nm, .int .i64 r.t.k, .int .i64 r.t.n, .string r.t.s, .slice r.sa r.sn r.sc]] w fun e w' => ∃ r' : Rs, e = .returned (.agg #[.string r'.nm, .int .i64 r'.t.k, .int .i64 r'.t.n, .string r'.t.s, .slice r'.sa r'.sn r'.sc]) ∧ Rs1 w' r' c ∧ FreshS w.heap.size r' ∧ Below w.heap.size w w' := by
  have H : Hid (Rs1 w r c ∧ smSp 1048576 c) := ⟨h, hs⟩
  clear h hs
  go_enter Tryd.func29, Tryd.ntmps29
  go_wp2_with (fail)
  refine (toValue_any r.t _).mono ?_
  rintro e w1 ⟨rfl, hb1⟩
  have k0 := (hb1.block w.heap.size (by simp; omega)).trans ((Below.heap_alloc _ _ _ (by simp; omega)).trans ((Below.heap_alloc _ _ _ (by simp)).trans (heap_alloc_new w _)))
  have k1 := (hb1.block (w.heap.size + 1) (by simp)).trans ((Below.heap_alloc _ _ _ (by simp)).trans (heap_alloc_at1 w _ _))
  have k2 := (hb1.block (w.heap.size + 2) (by simp)).trans (heap_alloc_at2 w _ _ _)
  have hb : Below w.heap.size w w1 := (show Below w.heap.size w _ from by (repeat' (first | (with_reducible exact Below.refl _ _) | (with_reducible assumption) | (with_reducible refine Below.setCell ?_ ?_ _) | (with_reducible refine Below.alloc ?_ ?_ _) | (with_reducible refine below_drewN ?_ _) | (with_reducible refine Below.drew ?_) | (with_reducible exact Nat.le_refl _) | omega | (simp; done) | (simp; omega)))).trans (hb1.mono (by simp; omega))
  have hz1 : w.heap.size + 3 ≤ w1.heap.size := by have := hb1.size; simpa using this
  clear hb1
  obtain ⟨W1, hW1⟩ : ∃ W1, W1 = ((w1.setCell ⟨w.heap.size + 2, 1, none⟩ (.int .i64 r.t.k)).setCell ⟨w.heap.size + 2, 2, none⟩ (.int .i64 r.t.n)).setCell ⟨w.heap.size + 2, 3, none⟩ (.string r.t.s) := ⟨_, rfl⟩
  have m0 : W1.heap[w.heap.size]? = some (.cells #[.string r.nm, .int .i64 r.t.k, .int .i64 r.t.n, .string r.t.s, .slice r.sa r.sn r.sc] 54) := by rw [hW1, heap_setCell_other _ _ _ _ (by simp), heap_setCell_other _ _ _ _ (by simp), heap_setCell_other _ _ _ _ (by simp)]; exact k0
  have m1 : W1.heap[w.heap.size + 1]? = some (.cells #[.string ByteArray.empty, .int .i64 0, .int .i64 0, .string ByteArray.empty, .slice none 0 0] 64) := by rw [hW1, heap_setCell_other _ _ _ _ (by simp), heap_setCell_other _ _ _ _ (by simp), heap_setCell_other _ _ _ _ (by simp)]; exact k1
  have m2 : W1.heap[w.heap.size + 2]? = some (.cells #[.string r.nm, .int .i64 r.t.k, .int .i64 r.t.n, .string r.t.s, .slice none 0 0] 64) := by
    have s1 := heap_setCell_same _ _ 1 _ _ (.int .i64 r.t.k) k2
    have s2 := heap_setCell_same _ _ 2 _ _ (.int .i64 r.t.n) s1
    have s3 := heap_setCell_same _ _ 3 _ _ (.string r.t.s) s2
    rw [hW1]
    simpa using s3
  have hbw : Below w.heap.size w W1 := by
    rw [hW1]
    (repeat' (first | (with_reducible exact Below.refl _ _) | (with_reducible assumption) | (with_reducible refine Below.setCell ?_ ?_ _) | (with_reducible refine Below.alloc ?_ ?_ _) | (with_reducible refine below_drewN ?_ _) | (with_reducible refine Below.drew ?_) | (with_reducible exact Nat.le_refl _) | omega | (simp; done) | (simp; omega)))
  have hsW : w.heap.size + 3 ≤ W1.heap.size := by rw [hW1]; simpa using hz1
  obtain ⟨q0, q1, q2, q3, q4, qf, ql⟩ := five_at k2
  have qf1 := qf 1
  have qf2 := qf 2
  have qf3 := qf 3
  obtain ⟨p0, p1, p2, p3, p4, pf, pl⟩ := five_at k0
  have HW1 : Hid (W1 = _) := hW1
  clear hW1 k0 k1 k2 qf pf hz1
  go_wp2_with (fail)
  rw [← HW1.out]
  clear HW1 q0 q1 q2 q3 q4 ql qf1 qf2 qf3 p0 p1 p2 p3 p4 pl hb
  refine (toSettingS_any (by have := H.out.2.n; omega) (H.out.1.ss.below hbw)).mono ?_
  rintro e w2 ⟨g2, rfl, hs2, hb2⟩
  obtain ⟨sn, hsn⟩ : ∃ sn, sn = c.ss.length := ⟨_, rfl⟩
  have hlt2 := (OG.lt hs2 g2 rfl)
  have HR2 : Hid (RG 4 seC w2 (.slice (some ⟨g2, 0, none⟩) sn sn) c.ss) := by unfold Hid; rw [hsn]; exact OG.rg seC_len hs2
  rw [← hsn]
  have k1 := (hb2.block (w.heap.size + 1) (by omega)).trans m1
  have k2 := (hb2.block (w.heap.size + 2) (by omega)).trans m2
  have hbx : Below w.heap.size w w2 := hbw.trans (hb2.mono hbw.size)
  clear hsn hs2 hb2 m0 m1 m2
  obtain ⟨W2, hW2⟩ : ∃ W2, W2 = (((((w2.setCell ⟨w.heap.size + 2, 4, none⟩ (.slice (some ⟨g2, 0, none⟩) sn sn)).setCell ⟨w.heap.size + 1, 0, none⟩ (.string r.nm)).setCell ⟨w.heap.size + 1, 1, none⟩ (.int .i64 r.t.k)).setCell ⟨w.heap.size + 1, 2, none⟩ (.int .i64 r.t.n)).setCell ⟨w.heap.size + 1, 3, none⟩ (.string r.t.s)).setCell ⟨w.heap.size + 1, 4, none⟩ (.slice (some ⟨g2, 0, none⟩) sn sn) := ⟨_, rfl⟩
  have HF : Hid (Rs1 W2 ⟨r.nm, r.t, some ⟨g2, 0, none⟩, sn, sn⟩ c ∧ FreshS w.heap.size ⟨r.nm, r.t, some ⟨g2, 0, none⟩, sn, sn⟩ ∧ Below w.heap.size w W2) := by
    have hz : W2.heap.size = w2.heap.size := by rw [hW2]; simp
    have ho : ∀ q, w.heap.size + 3 ≤ q → W2.heap[q]? = w2.heap[q]? := fun q hq => by
      rw [hW2, heap_setCell_other _ _ _ _ (by simp; omega), heap_setCell_other _ _ _ _ (by simp; omega), heap_setCell_other _ _ _ _ (by simp; omega), heap_setCell_other _ _ _ _ (by simp; omega), heap_setCell_other _ _ _ _ (by simp; omega), heap_setCell_other _ _ _ _ (by simp; omega)]
    refine ⟨⟨H.out.1.nm, H.out.1.t, HR2.out.kept (fun q hq => ho q ?_) (by rw [hz]; exact Nat.le_refl _), Nat.le_refl _⟩, fun g hg => ?_, ?_⟩
    · injection hq with hq; have hq' : g2 = q := hq; omega
    · injection hg with hg; have hg' : g2 = g := hg; omega
    · rw [hW2]
      have hb := hbx
      (repeat' (first | (with_reducible exact Below.refl _ _) | (with_reducible assumption) | (with_reducible refine Below.setCell ?_ ?_ _) | (with_reducible refine Below.alloc ?_ ?_ _) | (with_reducible refine below_drewN ?_ _) | (with_reducible refine Below.drew ?_) | (with_reducible exact Nat.le_refl _) | omega | (simp; done) | (simp; omega)))
  obtain ⟨q0, q1, q2, q3, q4, qf, ql⟩ := five_at k2
  have qf4 := qf 4
  obtain ⟨p0, p1, p2, p3, p4, pf, pl⟩ := five_at k1
  have pf0 := pf 0
  have pf1 := pf 1
  have pf2 := pf 2
  have pf3 := pf 3
  have pf4 := pf 4
  have HW2 : Hid _ := hW2
  have e1 : W2.heap[w.heap.size + 1]? = some (.cells #[.string r.nm, .int .i64 r.t.k, .int .i64 r.t.n, .string r.t.s, .slice (some ⟨g2, 0, none⟩) sn sn] 64) := by
    have k1' : (w2.setCell ⟨w.heap.size + 2, 4, none⟩ (.slice (some ⟨g2, 0, none⟩) sn sn)).heap[w.heap.size + 1]? = some (.cells #[.string ByteArray.empty, .int .i64 0, .int .i64 0, .string ByteArray.empty, .slice none 0 0] 64) := by rw [heap_setCell_other _ _ _ _ (by simp)]; exact k1
    have s0 := heap_setCell_same _ _ 0 _ _ (.string r.nm) k1'
    have s1 := heap_setCell_same _ _ 1 _ _ (.int .i64 r.t.k) s0
    have s2 := heap_setCell_same _ _ 2 _ _ (.int .i64 r.t.n) s1
    have s3 := heap_setCell_same _ _ 3 _ _ (.string r.t.s) s2
    have s4 := heap_setCell_same _ _ 4 _ _ (.slice (some ⟨g2, 0, none⟩) sn sn) s3
    rw [hW2]
    simpa using s4
  obtain ⟨t0, t1, t2, t3, t4, tf, tl⟩ := five_at e1
  clear hW2 k1 k2 hbx hbw HR2 e1 qf pf tf
  go_wp2
  rw [← HW2.out]
  refine bodyPost_ret (by simp [results, Tryd.results29, go_sem, t0, t1, t2, t3, t4]) rfl ⟨⟨r.nm, r.t, some ⟨g2, 0, none⟩, sn, sn⟩, rfl, HF.out⟩

/-- The copies made so far. -/
structure CpS (w wr : World) (n : Nat) (s : List Sp) (j : Nat) (rs : List Rs) : Prop where
  len : rs.length = j
  fill : Fill 64 5 rsC wr w.heap.size w.heap.size n rs j
  rc : ∀ i (h : i < rs.length) (h' : i < s.length), Rs1 wr rs[i] s[i]
  fr : ∀ i (h : i < rs.length), FreshS (w.heap.size + 1) rs[i]
  bl : Below w.heap.size w wr
/-- A list of steps, all of it in blocks from B on. -/
def FKs (B : Nat) (w : World) (v : Value) (s : List Sp) : Prop := ∃ rs, RG 5 rsC w v rs ∧ RelS w rs s ∧ (∀ g, v.ownBlock = some g → B ≤ g) ∧ ∀ i (h : i < rs.length), FreshS B rs[i]
theorem FKs.rk {B : Nat} {w : World} {v : Value} {s : List Sp} (h : FKs B w v s) : RKs w v s := by
  obtain ⟨rs, h1, h2, _⟩ := h; exact ⟨rs, h1, h2⟩
theorem FKs.kept {B : Nat} {w w' : World} {v : Value} {s : List Sp} (h : FKs B w v s) (hw : ∀ q, B ≤ q → w'.heap[q]? = w.heap[q]?) (hs : w.heap.size ≤ w'.heap.size) : FKs B w' v s := by
  obtain ⟨rs, h1, h2, h3, h4⟩ := h
  exact ⟨rs, h1.kept (fun q hq => hw q (h3 q hq)) hs, ⟨h2.len, fun j a b => (h2.at_ j a b).kept (h4 j a) hw hs⟩, h3, h4⟩

set_option maxRecDepth 10000 in
set_option maxHeartbeats 3200000 in
theorem toRecipeStepS_any {w : World} {v : Value} {s : List Sp} (hn : s.length ≤ 1048576) (hsm : ∀ j (h : j < s.length), smSp 1048576 s[j]) (h : RKs w v s) :
    Calls Tryd.prog 15 #[v] w fun e w' => ∃ g, e = .returned (.slice (some ⟨g, 0, none⟩) s.length s.length) ∧ FKs w.heap.size w' (.slice (some ⟨g, 0, none⟩) s.length s.length) s ∧ Below w.heap.size w w' := by
  obtain ⟨rs, hrs, hrel⟩ := h
  obtain ⟨a, c, rfl⟩ := hrs.form
  have H : Hid (RG 5 rsC w (.slice a rs.length c) rs ∧ RelS w rs s ∧ ∀ j (h : j < s.length), smSp 1048576 s[j]) := ⟨hrs, hrel, hsm⟩
  have hl := hrel.len
  clear hrs hrel hsm
  obtain ⟨i0, hi, hz0, hz1, hz2⟩ := info_parts info_RecipeStep
  obtain ⟨n, hnn⟩ : ∃ n, n = s.length := ⟨_, rfl⟩
  have HN : Hid (n = s.length ∧ n = rs.length) := ⟨hnn, by rw [hnn, hl]⟩
  rw [← hnn] at hn hl ⊢
  rw [hl] at H ⊢
  clear hnn hl
  go_enter Tryd.func15, Tryd.ntmps15
  go_wp2_with (at_make; refine wpList_make_full _ rfl _ _ 31 rfl w.heap.size 64 i0 (.agg #[.string ByteArray.empty, .int .i64 0, .int .i64 0, .string ByteArray.empty, .slice none 0 0]) 5 Tryd.underlying31 hi hz0 hz1 _ _ _ _ n rfl rfl rfl rfl (by rw [hz2]; omega) (by unfold maxLen; omega) (Nat.le_refl _) ?_; intro w2 hown2 hgrow2)
  have hb2 : Below w.heap.size w w2 := (Below.refl _ _).grown hgrow2 (Nat.le_refl _) (fun k h => by cases h)
  have HS : Hid (CpS w w2 n s 0 []) := ⟨rfl, ⟨_, hown2, fun t ht => by omega⟩, fun i h => by simp at h, fun i h => by simp at h, hb2⟩
  clear hown2 hgrow2 hb2
  go_loopw [4] (fun i wr => ∃ (j : Nat) (cs : List Rs), j ≤ n ∧ i = .int .i64 j ∧ Hid (CpS w wr n s j cs)) (fun i _ => n - (intOf i).toNat)
  case atStart => exact ⟨0, [], Nat.zero_le _, rfl, HS.out⟩
  case round =>
    clear HS
    obtain ⟨j, cs, hjn, rfl, hR⟩ := hrel
    by_cases hlt : j < n
    · have hjl : j < s.length := by rw [← HN.out.1]; exact hlt
      have hjr : j < rs.length := by rw [← HN.out.2]; exact hlt
      have hrg : RG 5 rsC wr (.slice a n c) rs := H.out.1.below hR.out.bl
      obtain ⟨g, o, c2, he, hg, hj⟩ := hrg.pos (by rw [← HN.out.2]; omega)
      simp only [Value.slice.injEq] at he
      obtain ⟨rfl, hx1, hx2⟩ := he
      clear hx1 hx2 hrg
      obtain ⟨c0, c1, c2, c3, c4⟩ := rsC_at (hj j hjr)
      obtain ⟨x, hx⟩ : ∃ x, x = rs[j] := ⟨_, rfl⟩
      rw [← hx] at c0 c1 c2 c3 c4
      have HX : Hid (Rs1 wr x s[j] ∧ smSp 1048576 s[j]) := ⟨by rw [hx]; exact (H.out.2.1.below hR.out.bl).at_ j hjr hjl, H.out.2.2 j hjl⟩
      clear hx hj
      have b0 : (0 : Int) ≤ (j : Int) := by omega
      have b1 : (j : Int) < (n : Int) := by omega
      go_wp2_with (fail)
      refine (toRecipeStep_any x s[j] _ HX.out.2 HX.out.1).mono ?_
      rintro e w3 ⟨r, rfl, hr1, hfr, hb3⟩
      have hF3 := hR.out.fill.below hb3
      have hlt3 := hR.out.fill.lt
      have hbl3 : Below w.heap.size w w3 := hR.out.bl.trans (hb3.mono hR.out.bl.size)
      obtain ⟨⟨u0, g0⟩, f0⟩ := hF3.there (j * 5) (by omega)
      obtain ⟨⟨u1, g1⟩, f1⟩ := hF3.there (j * 5 + 1) (by omega)
      obtain ⟨⟨u2, g2⟩, f2⟩ := hF3.there (j * 5 + 2) (by omega)
      obtain ⟨⟨u3, g3⟩, f3⟩ := hF3.there (j * 5 + 3) (by omega)
      obtain ⟨⟨u4, g4⟩, f4⟩ := hF3.there (j * 5 + 4) (by omega)
      obtain ⟨W, hW⟩ : ∃ W, W = ((((w3.setCell ⟨w.heap.size, j * 5, none⟩ (.string r.nm)).setCell ⟨w.heap.size, j * 5 + 1, none⟩ (.int .i64 r.t.k)).setCell ⟨w.heap.size, j * 5 + 2, none⟩ (.int .i64 r.t.n)).setCell ⟨w.heap.size, j * 5 + 3, none⟩ (.string r.t.s)).setCell ⟨w.heap.size, j * 5 + 4, none⟩ (.slice r.sa r.sn r.sc) := ⟨_, rfl⟩
      have hWp : W = putsAt w3 w.heap.size (j * 5) 0 (rsC r) := hW
      have HP : Hid (CpS w W n s (j + 1) (cs ++ [r])) := by
        have hoth : ∀ q, w.heap.size + 1 ≤ q → W.heap[q]? = w3.heap[q]? := fun q hq => by rw [hWp]; exact puts_other (by omega) _ _ _
        have hsz : w3.heap.size ≤ W.heap.size := by rw [hWp, puts_size]; exact Nat.le_refl _
        have hfr' : FreshS (w.heap.size + 1) r := fun q hq => by have := hfr q hq; omega
        refine ⟨by simp [hR.out.len], ?_, fun i h1 h2 => ?_, fun i h1 => ?_, by rw [hWp]; exact puts_below hbl3 (Nat.le_refl _) _ _⟩
        · rw [hWp]; exact hF3.push rsC_len hR.out.len hlt r
        · rcases Nat.lt_or_ge i cs.length with h3 | h3
          · rw [List.getElem_append_left h3]
            exact ((hR.out.rc i h3 h2).below hb3).kept (hR.out.fr i h3) hoth hsz
          · have hi : i = j := by rw [List.length_append, List.length_singleton] at h1; have := hR.out.len; omega
            subst hi
            rw [List.getElem_append_right h3]
            simp only [hR.out.len, Nat.sub_self, List.getElem_cons_zero]
            exact hr1.kept hfr' hoth hsz
        · rcases Nat.lt_or_ge i cs.length with h3 | h3
          · rw [List.getElem_append_left h3]; exact hR.out.fr i h3
          · rw [List.getElem_append_right h3]
            have hi : i - cs.length = 0 := by rw [List.length_append, List.length_singleton] at h1; omega
            simp only [hi, List.getElem_cons_zero]
            exact hfr'
      have HW : Hid _ := hW
      clear hF3 hbl3 hb3 hR c0 c1 c2 c3 c4 hr1 hfr hWp hW hlt3
      go_wp2
      rw [← HW.out]
      go_roundw
      case rel => exact ⟨j + 1, cs ++ [r], by omega, by go_num, HP.out⟩
      case measure => simp [intOf]; omega
    · obtain rfl : j = n := by omega
      have HD : Hid (FKs w.heap.size wr (.slice (some ⟨w.heap.size, 0, none⟩) j j) s ∧ Below w.heap.size w wr) := by
        have hl := hR.out.len
        have hog := hR.out.fill.done rsC_len hl.symm (by omega)
        exact ⟨⟨cs, OG.rg rsC_len hog, ⟨by rw [hl]; exact HN.out.1, hR.out.rc⟩, fun g hg => by injection hg with hg; have hg' : w.heap.size = g := hg; omega, fun i hi g hg => by have := hR.out.fr i hi g hg; omega⟩, hR.out.bl⟩
      clear hR
      go_wp2
      go_returns
      exact ⟨w.heap.size, rfl, HD.out.1, HD.out.2⟩

set_option maxRecDepth 10000 in
set_option maxHeartbeats 3200000 in
theorem toRecipe_any (r : Rr) (c : Rp) (w : World) (hs : smRp 1048576 c) (h : Rr1 w r c) :
    Calls Tryd.prog 6 #[.agg #[.string r.nm, .slice r.pa r.pn r.pc, .slice r.sa r.sn r.sc]] w fun e w' => ∃ r' : Rr, e = .returned (.agg #[.string r'.nm, .slice r'.pa r'.pn r'.pc, .slice r'.sa r'.sn r'.sc]) ∧ Rr1 w' r' c ∧ Below w.heap.size w w' := by
  have H : Hid (Rr1 w r c ∧ smRp 1048576 c) := ⟨h, hs⟩
  clear h hs
  go_enter Tryd.func6, Tryd.ntmps6
  go_wp2_with (fail)
  refine (toParamS_any (by have := H.out.2.pn; omega) (H.out.1.ps.below (by (repeat' (first | (with_reducible exact Below.refl _ _) | (with_reducible assumption) | (with_reducible refine Below.setCell ?_ ?_ _) | (with_reducible refine Below.alloc ?_ ?_ _) | (with_reducible refine below_drewN ?_ _) | (with_reducible refine Below.drew ?_) | (with_reducible exact Nat.le_refl _) | omega | (simp; done) | (simp; omega)))))).mono ?_
  rintro e w1 ⟨g1, rfl, hs1, hb1⟩
  have k0 := (hb1.block w.heap.size (by simp; omega)).trans ((Below.heap_alloc _ _ _ (by simp; omega)).trans ((Below.heap_alloc _ _ _ (by simp)).trans (heap_alloc_new w _)))
  have k1 := (hb1.block (w.heap.size + 1) (by simp)).trans ((Below.heap_alloc _ _ _ (by simp)).trans (heap_alloc_at1 w _ _))
  have k2 := (hb1.block (w.heap.size + 2) (by simp)).trans (heap_alloc_at2 w _ _ _)
  have hb : Below w.heap.size w w1 := (show Below w.heap.size w _ from by (repeat' (first | (with_reducible exact Below.refl _ _) | (with_reducible assumption) | (with_reducible refine Below.setCell ?_ ?_ _) | (with_reducible refine Below.alloc ?_ ?_ _) | (with_reducible refine below_drewN ?_ _) | (with_reducible refine Below.drew ?_) | (with_reducible exact Nat.le_refl _) | omega | (simp; done) | (simp; omega)))).trans (hb1.mono (by simp; omega))
  have hlt := (OG.lt hs1 g1 rfl)
  simp at hlt
  obtain ⟨pn, hpn⟩ : ∃ pn, pn = c.ps.length := ⟨_, rfl⟩
  have HS1 : Hid (RG 4 pmC w1 (.slice (some ⟨g1, 0, none⟩) pn pn) c.ps) := by unfold Hid; rw [hpn]; exact OG.rg pmC_len hs1
  rw [← hpn]
  clear hpn hs1 hb1
  obtain ⟨W1, hW1⟩ : ∃ W1, W1 = w1.setCell ⟨w.heap.size + 2, 1, none⟩ (.slice (some ⟨g1, 0, none⟩) pn pn) := ⟨_, rfl⟩
  have m0 : W1.heap[w.heap.size]? = some (.cells #[.string r.nm, .slice r.pa r.pn r.pc, .slice r.sa r.sn r.sc] 25) := by rw [hW1, heap_setCell_other _ _ _ _ (by simp)]; exact k0
  have m1 : W1.heap[w.heap.size + 1]? = some (.cells #[.string ByteArray.empty, .slice none 0 0, .slice none 0 0] 33) := by rw [hW1, heap_setCell_other _ _ _ _ (by simp)]; exact k1
  have m2 : W1.heap[w.heap.size + 2]? = some (.cells #[.string r.nm, .slice (some ⟨g1, 0, none⟩) pn pn, .slice none 0 0] 33) := by
    have := heap_setCell_same w1 (w.heap.size + 2) 1 _ _ (.slice (some ⟨g1, 0, none⟩) pn pn) k2
    rw [hW1]
    simpa using this
  have hbw : Below w.heap.size w W1 := by rw [hW1]; exact hb.setCell (by simp) _
  have hsW : W1.heap.size = w1.heap.size := by rw [hW1]; simp
  have HR1 : Hid (RG 4 pmC W1 (.slice (some ⟨g1, 0, none⟩) pn pn) c.ps) := HS1.out.kept (fun q hq => by
    injection hq with hq
    have hq' : g1 = q := hq
    rw [hW1, heap_setCell_other _ _ _ _ (by simp; omega)]) (by rw [hsW]; exact Nat.le_refl _)
  obtain ⟨q0, q1, q2, qf, ql⟩ := three_at k2
  have qf1 := qf 1
  obtain ⟨p0, p1, p2, pf, pl⟩ := three_at k0
  have HW1 : Hid (W1 = w1.setCell ⟨w.heap.size + 2, 1, none⟩ (.slice (some ⟨g1, 0, none⟩) pn pn)) := hW1
  clear hW1 k0 k1 k2 HS1 qf pf
  go_wp2_with (fail)
  rw [← HW1.out]
  clear HW1 q0 q1 q2 ql qf1 p0 p1 p2 pl hb
  refine (toRecipeStepS_any (by have := H.out.2.sn; omega) H.out.2.ss (H.out.1.ss.below hbw)).mono ?_
  rintro e w2 ⟨g2, rfl, hs2, hb2⟩
  obtain ⟨sn, hsn⟩ : ∃ sn, sn = c.ss.length := ⟨_, rfl⟩
  rw [← hsn] at hs2
  have HR2 : Hid (RG 4 pmC w2 (.slice (some ⟨g1, 0, none⟩) pn pn) c.ps ∧ FKs W1.heap.size w2 (.slice (some ⟨g2, 0, none⟩) sn sn) c.ss) := ⟨HR1.out.below hb2, hs2⟩
  rw [← hsn]
  have k1 := (hb2.block (w.heap.size + 1) (by omega)).trans m1
  have k2 := (hb2.block (w.heap.size + 2) (by omega)).trans m2
  have hbx : Below w.heap.size w w2 := hbw.trans (hb2.mono hbw.size)
  clear hsn hs2 hb2 m0 m1 m2
  obtain ⟨W2, hW2⟩ : ∃ W2, W2 = (((w2.setCell ⟨w.heap.size + 2, 2, none⟩ (.slice (some ⟨g2, 0, none⟩) sn sn)).setCell ⟨w.heap.size + 1, 0, none⟩ (.string r.nm)).setCell ⟨w.heap.size + 1, 1, none⟩ (.slice (some ⟨g1, 0, none⟩) pn pn)).setCell ⟨w.heap.size + 1, 2, none⟩ (.slice (some ⟨g2, 0, none⟩) sn sn) := ⟨_, rfl⟩
  have HF : Hid (Rr1 W2 ⟨r.nm, some ⟨g1, 0, none⟩, pn, pn, some ⟨g2, 0, none⟩, sn, sn⟩ c ∧ Below w.heap.size w W2) := by
    have hz : W2.heap.size = w2.heap.size := by rw [hW2]; simp
    have ho : ∀ q, w.heap.size + 3 ≤ q → W2.heap[q]? = w2.heap[q]? := fun q hq => by
      rw [hW2, heap_setCell_other _ _ _ _ (by simp; omega), heap_setCell_other _ _ _ _ (by simp; omega), heap_setCell_other _ _ _ _ (by simp; omega), heap_setCell_other _ _ _ _ (by simp; omega)]
    refine ⟨⟨H.out.1.nm, HR2.out.1.kept (fun q hq => ho q ?_) (by rw [hz]; exact Nat.le_refl _), (HR2.out.2.kept (fun q hq => ho q (by omega)) (by rw [hz]; exact Nat.le_refl _)).rk, ⟨Nat.le_refl _, Nat.le_refl _⟩⟩, ?_⟩
    · injection hq with hq; have hq' : g1 = q := hq; omega
    · rw [hW2]
      have hb := hbx
      (repeat' (first | (with_reducible exact Below.refl _ _) | (with_reducible assumption) | (with_reducible refine Below.setCell ?_ ?_ _) | (with_reducible refine Below.alloc ?_ ?_ _) | (with_reducible refine below_drewN ?_ _) | (with_reducible refine Below.drew ?_) | (with_reducible exact Nat.le_refl _) | omega | (simp; done) | (simp; omega)))
  obtain ⟨q0, q1, q2, qf, ql⟩ := three_at k2
  have qf2 := qf 2
  obtain ⟨p0, p1, p2, pf, pl⟩ := three_at k1
  have pf0 := pf 0
  have pf1 := pf 1
  have pf2 := pf 2
  have HW2 : Hid _ := hW2
  have e1 : W2.heap[w.heap.size + 1]? = some (.cells #[.string r.nm, .slice (some ⟨g1, 0, none⟩) pn pn, .slice (some ⟨g2, 0, none⟩) sn sn] 33) := by
    have k1' : (w2.setCell ⟨w.heap.size + 2, 2, none⟩ (.slice (some ⟨g2, 0, none⟩) sn sn)).heap[w.heap.size + 1]? = some (.cells #[.string ByteArray.empty, .slice none 0 0, .slice none 0 0] 33) := by rw [heap_setCell_other _ _ _ _ (by simp)]; exact k1
    have s0 := heap_setCell_same _ _ 0 _ _ (.string r.nm) k1'
    have s1 := heap_setCell_same _ _ 1 _ _ (.slice (some ⟨g1, 0, none⟩) pn pn) s0
    have s2 := heap_setCell_same _ _ 2 _ _ (.slice (some ⟨g2, 0, none⟩) sn sn) s1
    rw [hW2]
    simpa using s2
  obtain ⟨t0, t1, t2, tf, tl⟩ := three_at e1
  clear hW2 k1 k2 hbx hbw HR1 HR2 e1 qf pf tf
  go_wp2
  rw [← HW2.out]
  refine bodyPost_ret (by simp [results, Tryd.results6, go_sem, t0, t1, t2]) rfl ⟨⟨r.nm, some ⟨g1, 0, none⟩, pn, pn, some ⟨g2, 0, none⟩, sn, sn⟩, rfl, HF.out⟩

set_option maxHeartbeats 1600000 in
theorem eqRecipeStep_same (r q : Rs) (c : Sp) (w : World) (hs : smSp 1048576 c) (h : Rs1 w r c) (h' : Rs1 w q c) :
    Calls Tryd.prog 38 #[.agg #[.string r.nm, .int .i64 r.t.k, .int .i64 r.t.n, .string r.t.s, .slice r.sa r.sn r.sc], .agg #[.string q.nm, .int .i64 q.t.k, .int .i64 q.t.n, .string q.t.s, .slice q.sa q.sn q.sc]] w fun e w' => e = .returned (.bool true) ∧ Below w.heap.size w w' := by
  obtain ⟨m, hm⟩ : ∃ m, m = c.nm := ⟨_, rfl⟩
  obtain ⟨t, ht⟩ : ∃ t, t = c.t := ⟨_, rfl⟩
  rw [h.nm, h'.nm, ← hm, h.t, h'.t, ← ht]
  have H : Hid (Rs1 w r c ∧ Rs1 w q c ∧ smSp 1048576 c) := ⟨h, h', hs⟩
  clear h h' hs hm ht
  go_enter Tryd.func38, Tryd.ntmps38
  go_wp2_with (fail)
  refine (eqValue_same t _).mono ?_
  rintro e w1 ⟨rfl, hb1⟩
  have k0 := (hb1.block w.heap.size (by simp; omega)).trans ((Below.heap_alloc _ _ _ (by simp)).trans (heap_alloc_new w _))
  have k1 := (hb1.block (w.heap.size + 1) (by simp)).trans (heap_alloc_at1 w _ _)
  have HB1 : Hid (Below w.heap.size w w1) := (show Below w.heap.size w _ from by (repeat' (first | (with_reducible exact Below.refl _ _) | (with_reducible assumption) | (with_reducible refine Below.setCell ?_ ?_ _) | (with_reducible refine Below.alloc ?_ ?_ _) | (with_reducible refine below_drewN ?_ _) | (with_reducible refine Below.drew ?_) | (with_reducible exact Nat.le_refl _) | omega | (simp; done) | (simp; omega)))).trans (hb1.mono (by simp; omega))
  obtain ⟨p0, p1, p2, p3, p4, pf, pl⟩ := five_at k0
  obtain ⟨q0, q1, q2, q3, q4, qf, ql⟩ := five_at k1
  clear hb1 k0 k1 pf qf
  go_wp2_with (fail)
  refine (eqSettingS_same (by have := H.out.2.2.n; omega) (H.out.1.ss.below HB1.out) (H.out.2.1.ss.below HB1.out)).mono ?_
  rintro e w2 ⟨rfl, hb2⟩
  have HB2 : Hid (Below w.heap.size w w2) := HB1.out.trans (hb2.mono HB1.out.size)
  clear hb2
  go_wp2
  go_returns
  exact ⟨rfl, HB2.out⟩

set_option maxHeartbeats 1600000 in
theorem eqRecipeStepS_same {w : World} {va vb : Value} {s : List Sp} (hn : s.length ≤ 1099511627776) (hsm : ∀ j (h : j < s.length), smSp 1048576 s[j]) (ha : RKs w va s) (hb : RKs w vb s) :
    Calls Tryd.prog 19 #[va, vb] w fun e w' => e = .returned (.bool true) ∧ Below w.heap.size w w' := by
  obtain ⟨rs, hrs, hrel⟩ := ha
  obtain ⟨qs, hqs, hqrel⟩ := hb
  obtain ⟨a1, c1', rfl⟩ := hrs.form
  obtain ⟨a2, c2', rfl⟩ := hqs.form
  obtain ⟨n, hnn⟩ : ∃ n, n = s.length := ⟨_, rfl⟩
  have e1 : rs.length = n := by rw [hrel.len, hnn]
  have e2 : qs.length = n := by rw [hqrel.len, hnn]
  rw [← hnn] at hn
  rw [e1] at hrs ⊢
  rw [e2] at hqs ⊢
  have H : Hid (RG 5 rsC w (.slice a1 n c1') rs ∧ RG 5 rsC w (.slice a2 n c2') qs ∧ RelS w rs s ∧ RelS w qs s ∧ n = s.length ∧ rs.length = n ∧ qs.length = n ∧ ∀ j (h : j < s.length), smSp 1048576 s[j]) := ⟨hrs, hqs, hrel, hqrel, hnn, e1, e2, hsm⟩
  clear hrs hqs hrel hqrel hnn e1 e2 hsm
  go_enter Tryd.func19, Tryd.ntmps19
  go_wp2
  go_loopw [5] (fun i wr => ∃ j : Nat, j ≤ n ∧ i = .int .i64 j ∧ Hid (Below w.heap.size w wr)) (fun i _ => n - (intOf i).toNat)
  case atStart => exact ⟨0, Nat.zero_le _, rfl, Below.refl _ _⟩
  case round =>
    obtain ⟨j, hjn, rfl, hR⟩ := hrel
    by_cases hlt : j < n
    · have hjl : j < s.length := by rw [← H.out.2.2.2.2.1]; exact hlt
      have hjr : j < rs.length := by rw [H.out.2.2.2.2.2.1]; exact hlt
      have hjq : j < qs.length := by rw [H.out.2.2.2.2.2.2.1]; exact hlt
      obtain ⟨g, o, d1, he, hg, hj⟩ := (H.out.1.below hR.out).pos (by omega)
      simp only [Value.slice.injEq] at he
      obtain ⟨rfl, hx1, hx2⟩ := he
      obtain ⟨g', o', d2, he', hg', hj'⟩ := (H.out.2.1.below hR.out).pos (by omega)
      simp only [Value.slice.injEq] at he'
      obtain ⟨rfl, hx3, hx4⟩ := he'
      clear hx1 hx2 hx3 hx4
      obtain ⟨c0, c1, c2, c3, c4⟩ := rsC_at (hj j hjr)
      obtain ⟨e0, e1, e2, e3, e4⟩ := rsC_at (hj' j hjq)
      obtain ⟨x, hx⟩ : ∃ x, x = rs[j] := ⟨_, rfl⟩
      obtain ⟨y, hy⟩ : ∃ y, y = qs[j] := ⟨_, rfl⟩
      rw [← hx] at c0 c1 c2 c3 c4
      rw [← hy] at e0 e1 e2 e3 e4
      have hcall : Hid (∀ X : Und wr.heap.size wr, Calls Tryd.prog 38 #[.agg #[.string x.nm, .int .i64 x.t.k, .int .i64 x.t.n, .string x.t.s, .slice x.sa x.sn x.sc], .agg #[.string y.nm, .int .i64 y.t.k, .int .i64 y.t.n, .string y.t.s, .slice y.sa y.sn y.sc]] X.W fun e w' => e = .returned (.bool true) ∧ Below X.W.heap.size X.W w') := fun X => by
        have h1 := ((H.out.2.2.1.below hR.out).below X.below).at_ j hjr hjl
        have h2 := ((H.out.2.2.2.1.below hR.out).below X.below).at_ j hjq hjl
        rw [← hx] at h1
        rw [← hy] at h2
        exact eqRecipeStep_same x y s[j] X.W (H.out.2.2.2.2.2.2.2 j hjl) h1 h2
      clear hx hy hj hj'
      have b0 : (0 : Int) ≤ (j : Int) := by omega
      have b1 : (j : Int) < (n : Int) := by omega
      go_wp2_with (fail)
      (refine wp_region_und (by kernel_rfl) (by kernel_rfl) (fun hund => ?_); (repeat (go_big_quiet_step (first | (go_at_call 38; with_reducible refine und_call ?_ (hcall.out _); exact Nat.le_refl _)))); with_reducible refine wpQuiet_nil ?_; clear hund; intro W1 hb1; obtain ⟨hc1, hf1⟩ := undcell hb1)
      have HB : Hid (Below w.heap.size w W1) := hR.out.trans (hb1.mono hR.out.size)
      clear hb1 hc1 hf1
      go_wp2
      go_roundw
      case rel => exact ⟨j + 1, by omega, by go_num, HB.out⟩
      case measure => simp [intOf]; omega
    · go_wp2
      go_returns
      exact ⟨rfl, hR.out⟩

set_option maxHeartbeats 1600000 in
theorem eqRecipe_same (r q : Rr) (c : Rp) (w : World) (hs : smRp 1048576 c) (h : Rr1 w r c) (h' : Rr1 w q c) :
    Calls Tryd.prog 9 #[.agg #[.string r.nm, .slice r.pa r.pn r.pc, .slice r.sa r.sn r.sc], .agg #[.string q.nm, .slice q.pa q.pn q.pc, .slice q.sa q.sn q.sc]] w fun e w' => e = .returned (.bool true) ∧ Below w.heap.size w w' := by
  obtain ⟨m, hm⟩ : ∃ m, m = c.nm := ⟨_, rfl⟩
  rw [h.nm, h'.nm, ← hm]
  have H : Hid (Rr1 w r c ∧ Rr1 w q c ∧ smRp 1048576 c) := ⟨h, h', hs⟩
  clear h h' hs hm
  go_enter Tryd.func9, Tryd.ntmps9
  go_wp2_with (fail)
  refine (eqParamS_same (by have := H.out.2.2.pn; omega) (H.out.1.ps.below (by (repeat' (first | (with_reducible exact Below.refl _ _) | (with_reducible assumption) | (with_reducible refine Below.setCell ?_ ?_ _) | (with_reducible refine Below.alloc ?_ ?_ _) | (with_reducible refine below_drewN ?_ _) | (with_reducible refine Below.drew ?_) | (with_reducible exact Nat.le_refl _) | omega | (simp; done) | (simp; omega))))) (H.out.2.1.ps.below (by (repeat' (first | (with_reducible exact Below.refl _ _) | (with_reducible assumption) | (with_reducible refine Below.setCell ?_ ?_ _) | (with_reducible refine Below.alloc ?_ ?_ _) | (with_reducible refine below_drewN ?_ _) | (with_reducible refine Below.drew ?_) | (with_reducible exact Nat.le_refl _) | omega | (simp; done) | (simp; omega)))))).mono ?_
  rintro e w1 ⟨rfl, hb1⟩
  have k0 := (hb1.block w.heap.size (by simp; omega)).trans ((Below.heap_alloc _ _ _ (by simp)).trans (heap_alloc_new w _))
  have k1 := (hb1.block (w.heap.size + 1) (by simp)).trans (heap_alloc_at1 w _ _)
  have HB1 : Hid (Below w.heap.size w w1) := (show Below w.heap.size w _ from by (repeat' (first | (with_reducible exact Below.refl _ _) | (with_reducible assumption) | (with_reducible refine Below.setCell ?_ ?_ _) | (with_reducible refine Below.alloc ?_ ?_ _) | (with_reducible refine below_drewN ?_ _) | (with_reducible refine Below.drew ?_) | (with_reducible exact Nat.le_refl _) | omega | (simp; done) | (simp; omega)))).trans (hb1.mono (by simp; omega))
  obtain ⟨p0, p1, p2, pf, pl⟩ := three_at k0
  obtain ⟨q0, q1, q2, qf, ql⟩ := three_at k1
  clear hb1 k0 k1 pf qf
  go_wp2_with (fail)
  refine (eqRecipeStepS_same (by have := H.out.2.2.sn; omega) H.out.2.2.ss (H.out.1.ss.below HB1.out) (H.out.2.1.ss.below HB1.out)).mono ?_
  rintro e w2 ⟨rfl, hb2⟩
  have HB2 : Hid (Below w.heap.size w w2) := HB1.out.trans (hb2.mono HB1.out.size)
  clear hb2
  go_wp2
  go_returns
  exact ⟨rfl, HB2.out⟩

end Go.Proofs.YtnljomeacnjmmaaDoor
