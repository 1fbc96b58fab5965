/- Proved here: what the laws' package's functions on cells do: hand one on, copy a list, compare two that are alike. -/
import Derived.Test.YtafghanpfnhkpaaDoorTySz
namespace Go.Proofs.YtafghanpfnhkpaaDoor
open Go.ChangeShapes Go.WideShapes Go.ChangeAt Go.RowKit Go.Joins
set_option linter.unusedVariables false
set_option linter.unusedSimpArgs false

theorem info_Cell : (Tryd.prog.info? 38).map (fun i => (i.zero, i.size, i.bytes)) = some (some (.agg #[.string ByteArray.empty, .slice none 0 0, .slice none 0 0]), 3, 64) := by kernel_rfl
theorem three_fr {w : World} {k : Nat} {a b c : Value} {T : TypeId} (h : w.heap[k]? = some (.cells #[a, b, c] T)) : ∀ i, w.frozen? ⟨k, i, none⟩ = false := fun i => by simp [World.frozen?, h]

/-- A copy's lists lie in blocks from B on. -/
structure Fresh (B : Nat) (r : Rc) : Prop where
  b : ∀ g, (Value.slice r.ba r.bn r.bc).ownBlock = some g → B ≤ g
  p : ∀ g, (Value.slice r.pa r.pn r.pc).ownBlock = some g → B ≤ g

set_option maxRecDepth 10000 in
set_option maxHeartbeats 3200000 in
theorem toCell_any (r : Rc) (c : Cl) (w : World) (hs : smC 1048576 c) (h : Rc1 w r c) :
    Calls Tryd.prog 13 #[.agg #[.string r.nm, .slice r.ba r.bn r.bc, .slice r.pa r.pn r.pc]] w fun e w' => ∃ r' : Rc, e = .returned (.agg #[.string r'.nm, .slice r'.ba r'.bn r'.bc, .slice r'.pa r'.pn r'.pc]) ∧ Rc1 w' r' c ∧ Fresh w.heap.size r' ∧ Below w.heap.size w w' := by
  have H : Hid (Rc1 w r c ∧ smC 1048576 c) := ⟨h, hs⟩
  clear h hs
  go_enter Tryd.func13, Tryd.ntmps13
  go_wp2_with (fail)
  refine (toLBoxS_any (by have := H.out.2.bs; omega) (H.out.1.bs.below (by (repeat' (first | (with_reducible exact Below.refl _ _) | (with_reducible assumption) | (with_reducible refine Below.setCell ?_ ?_ _) | (with_reducible refine Below.alloc ?_ ?_ _) | (with_reducible refine below_drewN ?_ _) | (with_reducible refine Below.drew ?_) | (with_reducible exact Nat.le_refl _) | omega | (simp; done) | (simp; omega)))))).mono ?_
  rintro e w1 ⟨g1, rfl, hs1, hb1⟩
  have k0 := (hb1.block w.heap.size (by simp; omega)).trans ((Below.heap_alloc _ _ _ (by simp; omega)).trans ((Below.heap_alloc _ _ _ (by simp)).trans (heap_alloc_new w _)))
  have k1 := (hb1.block (w.heap.size + 1) (by simp)).trans ((Below.heap_alloc _ _ _ (by simp)).trans (heap_alloc_at1 w _ _))
  have k2 := (hb1.block (w.heap.size + 2) (by simp)).trans (heap_alloc_at2 w _ _ _)
  have hb : Below w.heap.size w w1 := (show Below w.heap.size w _ from by (repeat' (first | (with_reducible exact Below.refl _ _) | (with_reducible assumption) | (with_reducible refine Below.setCell ?_ ?_ _) | (with_reducible refine Below.alloc ?_ ?_ _) | (with_reducible refine below_drewN ?_ _) | (with_reducible refine Below.drew ?_) | (with_reducible exact Nat.le_refl _) | omega | (simp; done) | (simp; omega)))).trans (hb1.mono (by simp; omega))
  have hlt := (OG.lt hs1 g1 rfl)
  simp at hlt
  obtain ⟨bn, hbn⟩ : ∃ bn, bn = c.bs.length := ⟨_, rfl⟩
  have HS1 : Hid (OG 42 5 lbC w1 g1 (.slice (some ⟨g1, 0, none⟩) bn bn) c.bs) := by
    rw [hbn]
    refine ⟨hs1.1, ?_⟩
    rcases hs1.2 with ⟨h1, _⟩ | ⟨g, cap, cur, h1, h2, h3⟩
    · cases h1
    · refine Or.inr ⟨g, cap, cur, h1, ?_, h3⟩
      simp only [Value.slice.injEq, Option.some.injEq, Addr.mk.injEq, and_true] at h1
      omega
  rw [← hbn]
  clear hbn hs1 hb1
  obtain ⟨W1, hW1⟩ : ∃ W1, W1 = w1.setCell ⟨w.heap.size + 2, 1, none⟩ (.slice (some ⟨g1, 0, none⟩) bn bn) := ⟨_, rfl⟩
  have m0 : W1.heap[w.heap.size]? = some (.cells #[.string r.nm, .slice r.ba r.bn r.bc, .slice r.pa r.pn r.pc] 33) := by rw [hW1, heap_setCell_other _ _ _ _ (by simp)]; exact k0
  have m1 : W1.heap[w.heap.size + 1]? = some (.cells #[.string ByteArray.empty, .slice none 0 0, .slice none 0 0] 38) := by rw [hW1, heap_setCell_other _ _ _ _ (by simp)]; exact k1
  have m2 : W1.heap[w.heap.size + 2]? = some (.cells #[.string r.nm, .slice (some ⟨g1, 0, none⟩) bn bn, .slice none 0 0] 38) := by
    have := heap_setCell_same w1 (w.heap.size + 2) 1 _ _ (.slice (some ⟨g1, 0, none⟩) bn bn) k2
    rw [hW1]
    simpa using this
  have hbw : Below w.heap.size w W1 := by rw [hW1]; exact hb.setCell (by simp) _
  have hsW : W1.heap.size = w1.heap.size := by rw [hW1]; simp
  have HR1 : Hid (RG 5 lbC W1 (.slice (some ⟨g1, 0, none⟩) bn bn) c.bs) := (OG.rg lbC_len HS1.out).kept (fun q hq => by
    injection hq with hq
    have hq' : g1 = q := hq
    rw [hW1, heap_setCell_other _ _ _ _ (by simp; omega)]) (by rw [hsW]; exact Nat.le_refl _)
  obtain ⟨q0, q1, q2, ql⟩ := three_at k2
  have qf1 := three_fr k2 1
  obtain ⟨p0, p1, p2, pl⟩ := three_at k0
  have HW1 : Hid (W1 = w1.setCell ⟨w.heap.size + 2, 1, none⟩ (.slice (some ⟨g1, 0, none⟩) bn bn)) := hW1
  clear hW1 k0 k1 k2 HS1
  go_wp2_with (fail)
  rw [← HW1.out]
  clear HW1 q0 q1 q2 ql qf1 p0 p1 p2 pl hb
  refine (toPlaceS_any (by have := H.out.2.ps; omega) (H.out.1.ps.below hbw)).mono ?_
  rintro e w2 ⟨g2, rfl, hs2, hb2⟩
  obtain ⟨pn, hpn⟩ : ∃ pn, pn = c.ps.length := ⟨_, rfl⟩
  have hlt2 := (OG.lt hs2 g2 rfl)
  have HR2 : Hid (RG 5 lbC w2 (.slice (some ⟨g1, 0, none⟩) bn bn) c.bs ∧ RG 9 plC w2 (.slice (some ⟨g2, 0, none⟩) pn pn) c.ps) := ⟨HR1.out.below hb2, by rw [hpn]; exact OG.rg plC_len hs2⟩
  rw [← hpn]
  have k1 := (hb2.block (w.heap.size + 1) (by omega)).trans m1
  have k2 := (hb2.block (w.heap.size + 2) (by omega)).trans m2
  have hbx : Below w.heap.size w w2 := hbw.trans (hb2.mono hbw.size)
  clear hpn hs2 hb2 m0 m1 m2
  obtain ⟨W2, hW2⟩ : ∃ W2, W2 = (((w2.setCell ⟨w.heap.size + 2, 2, none⟩ (.slice (some ⟨g2, 0, none⟩) pn pn)).setCell ⟨w.heap.size + 1, 0, none⟩ (.string r.nm)).setCell ⟨w.heap.size + 1, 1, none⟩ (.slice (some ⟨g1, 0, none⟩) bn bn)).setCell ⟨w.heap.size + 1, 2, none⟩ (.slice (some ⟨g2, 0, none⟩) pn pn) := ⟨_, rfl⟩
  have HF : Hid (Rc1 W2 ⟨r.nm, some ⟨g1, 0, none⟩, bn, bn, some ⟨g2, 0, none⟩, pn, pn⟩ c ∧ Fresh w.heap.size ⟨r.nm, some ⟨g1, 0, none⟩, bn, bn, some ⟨g2, 0, none⟩, pn, pn⟩ ∧ Below w.heap.size w W2) := by
    have hz : W2.heap.size = w2.heap.size := by rw [hW2]; simp
    have ho : ∀ q, w.heap.size + 3 ≤ q → W2.heap[q]? = w2.heap[q]? := fun q hq => by
      rw [hW2, heap_setCell_other _ _ _ _ (by simp; omega), heap_setCell_other _ _ _ _ (by simp; omega), heap_setCell_other _ _ _ _ (by simp; omega), heap_setCell_other _ _ _ _ (by simp; omega)]
    refine ⟨⟨H.out.1.nm, HR2.out.1.kept (fun q hq => ho q ?_) (by rw [hz]; exact Nat.le_refl _), HR2.out.2.kept (fun q hq => ho q ?_) (by rw [hz]; exact Nat.le_refl _)⟩, ⟨fun g hg => ?_, fun g hg => ?_⟩, ?_⟩
    · injection hq with hq; have hq' : g1 = q := hq; omega
    · injection hq with hq; have hq' : g2 = q := hq; omega
    · injection hg with hg; have hg' : g1 = g := hg; omega
    · injection hg with hg; have hg' : g2 = g := hg; omega
    · rw [hW2]
      have hb := hbx
      (repeat' (first | (with_reducible exact Below.refl _ _) | (with_reducible assumption) | (with_reducible refine Below.setCell ?_ ?_ _) | (with_reducible refine Below.alloc ?_ ?_ _) | (with_reducible refine below_drewN ?_ _) | (with_reducible refine Below.drew ?_) | (with_reducible exact Nat.le_refl _) | omega | (simp; done) | (simp; omega)))
  obtain ⟨q0, q1, q2, ql⟩ := three_at k2
  have qf2 := three_fr k2 2
  obtain ⟨p0, p1, p2, pl⟩ := three_at k1
  have pf0 := three_fr k1 0
  have pf1 := three_fr k1 1
  have pf2 := three_fr k1 2
  have HW2 : Hid _ := hW2
  have e1 : W2.heap[w.heap.size + 1]? = some (.cells #[.string r.nm, .slice (some ⟨g1, 0, none⟩) bn bn, .slice (some ⟨g2, 0, none⟩) pn pn] 38) := by
    have k1' : (w2.setCell ⟨w.heap.size + 2, 2, none⟩ (.slice (some ⟨g2, 0, none⟩) pn pn)).heap[w.heap.size + 1]? = some (.cells #[.string ByteArray.empty, .slice none 0 0, .slice none 0 0] 38) := by rw [heap_setCell_other _ _ _ _ (by simp)]; exact k1
    have s0 := heap_setCell_same _ _ 0 _ _ (.string r.nm) k1'
    have s1 := heap_setCell_same _ _ 1 _ _ (.slice (some ⟨g1, 0, none⟩) bn bn) s0
    have s2 := heap_setCell_same _ _ 2 _ _ (.slice (some ⟨g2, 0, none⟩) pn pn) s1
    rw [hW2]
    simpa using s2
  obtain ⟨t0, t1, t2, tl⟩ := three_at e1
  clear hW2 k1 k2 hbx hbw HR1 HR2 e1
  go_wp2
  rw [← HW2.out]
  refine bodyPost_ret (by simp [results, Tryd.results13, go_sem, t0, t1, t2]) rfl ⟨⟨r.nm, some ⟨g1, 0, none⟩, bn, bn, some ⟨g2, 0, none⟩, pn, pn⟩, rfl, HF.out⟩

theorem Rc1.kept {w w' : World} {r : Rc} {c : Cl} {B : Nat} (h : Rc1 w r c) (hf : Fresh B r) (hw : ∀ q, B ≤ q → w'.heap[q]? = w.heap[q]?) (hs : w.heap.size ≤ w'.heap.size) : Rc1 w' r c :=
  ⟨h.nm, h.bs.kept (fun q hq => hw q (hf.b q hq)) hs, h.ps.kept (fun q hq => hw q (hf.p q hq)) hs⟩
/-- The copies made so far. -/
structure CpK (w wr : World) (n : Nat) (s : List Cl) (j : Nat) (rs : List Rc) : Prop where
  len : rs.length = j
  fill : Fill 38 3 rcC wr w.heap.size w.heap.size n rs j
  rc : ∀ i (h : i < rs.length) (h' : i < s.length), Rc1 wr rs[i] s[i]
  fr : ∀ i (h : i < rs.length), Fresh (w.heap.size + 1) rs[i]
  bl : Below w.heap.size w wr

set_option maxRecDepth 10000 in
set_option maxHeartbeats 3200000 in
theorem toCellS_any {w : World} {v : Value} {s : List Cl} (hn : s.length ≤ 1048576) (hsm : ∀ j (h : j < s.length), smC 1048576 s[j]) (h : RK w v s) :
    Calls Tryd.prog 6 #[v] w fun e w' => ∃ g, e = .returned (.slice (some ⟨g, 0, none⟩) s.length s.length) ∧ RK w' (.slice (some ⟨g, 0, none⟩) s.length s.length) s ∧ Below w.heap.size w w' := by
  obtain ⟨rs, hrs, hrel⟩ := h
  obtain ⟨a, c, rfl⟩ := hrs.form
  have H : Hid (RG 3 rcC w (.slice a rs.length c) rs ∧ RelK w rs s ∧ ∀ j (h : j < s.length), smC 1048576 s[j]) := ⟨hrs, hrel, hsm⟩
  have hl := hrel.len
  clear hrs hrel hsm
  obtain ⟨i0, hi, hz0, hz1, hz2⟩ := info_parts info_Cell
  obtain ⟨n, hnn⟩ : ∃ n, n = s.length := ⟨_, rfl⟩
  have HN : Hid (n = s.length ∧ n = rs.length) := ⟨hnn, by rw [hnn, hl]⟩
  rw [← hnn] at hn hl ⊢
  rw [hl] at H ⊢
  clear hnn hl
  go_enter Tryd.func6, Tryd.ntmps6
  go_wp2_with (at_make; refine wpList_make_full _ rfl _ _ 25 rfl w.heap.size 38 i0 (.agg #[.string ByteArray.empty, .slice none 0 0, .slice none 0 0]) 3 Tryd.underlying25 hi hz0 hz1 _ _ _ _ n rfl rfl rfl rfl (by rw [hz2]; omega) (by unfold maxLen; omega) (Nat.le_refl _) ?_; intro w2 hown2 hgrow2)
  have hb2 : Below w.heap.size w w2 := (Below.refl _ _).grown hgrow2 (Nat.le_refl _) (fun k h => by cases h)
  have HS : Hid (CpK w w2 n s 0 []) := ⟨rfl, ⟨_, hown2, fun t ht => by omega⟩, fun i h => by simp at h, fun i h => by simp at h, hb2⟩
  clear hown2 hgrow2 hb2
  go_loopw [4] (fun i wr => ∃ (j : Nat) (cs : List Rc), j ≤ n ∧ i = .int .i64 j ∧ Hid (CpK w wr n s j cs)) (fun i _ => n - (intOf i).toNat)
  case atStart => exact ⟨0, [], Nat.zero_le _, rfl, HS.out⟩
  case round =>
    clear HS
    obtain ⟨j, cs, hjn, rfl, hR⟩ := hrel
    by_cases hlt : j < n
    · have hjl : j < s.length := by rw [← HN.out.1]; exact hlt
      have hjr : j < rs.length := by rw [← HN.out.2]; exact hlt
      have hrg : RG 3 rcC wr (.slice a n c) rs := H.out.1.below hR.out.bl
      obtain ⟨g, o, c2, he, hg, hj⟩ := hrg.pos (by rw [← HN.out.2]; omega)
      simp only [Value.slice.injEq] at he
      obtain ⟨rfl, hx1, hx2⟩ := he
      clear hx1 hx2 hrg
      obtain ⟨c0, c1, c2⟩ := rcC_at (hj j hjr)
      obtain ⟨x, hx⟩ : ∃ x, x = rs[j] := ⟨_, rfl⟩
      rw [← hx] at c0 c1 c2
      have HX : Hid (Rc1 wr x s[j] ∧ smC 1048576 s[j]) := ⟨by rw [hx]; exact (H.out.2.1.below hR.out.bl).at_ j hjr hjl, H.out.2.2 j hjl⟩
      clear hx hj
      have b0 : (0 : Int) ≤ (j : Int) := by omega
      have b1 : (j : Int) < (n : Int) := by omega
      go_wp2_with (fail)
      refine (toCell_any x s[j] _ HX.out.2 HX.out.1).mono ?_
      rintro e w3 ⟨r, rfl, hr1, hfr, hb3⟩
      have hF3 := hR.out.fill.below hb3
      have hlt3 := hR.out.fill.lt
      have hbl3 : Below w.heap.size w w3 := hR.out.bl.trans (hb3.mono hR.out.bl.size)
      obtain ⟨⟨u0, g0⟩, f0⟩ := hF3.there (j * 3) (by omega)
      obtain ⟨⟨u1, g1⟩, f1⟩ := hF3.there (j * 3 + 1) (by omega)
      obtain ⟨⟨u2, g2⟩, f2⟩ := hF3.there (j * 3 + 2) (by omega)
      obtain ⟨W, hW⟩ : ∃ W, W = ((w3.setCell ⟨w.heap.size, j * 3, none⟩ (.string r.nm)).setCell ⟨w.heap.size, j * 3 + 1, none⟩ (.slice r.ba r.bn r.bc)).setCell ⟨w.heap.size, j * 3 + 2, none⟩ (.slice r.pa r.pn r.pc) := ⟨_, rfl⟩
      have hWp : W = putsAt w3 w.heap.size (j * 3) 0 (rcC r) := hW
      have HP : Hid (CpK w W n s (j + 1) (cs ++ [r])) := by
        have hoth : ∀ q, w.heap.size + 1 ≤ q → W.heap[q]? = w3.heap[q]? := fun q hq => by rw [hWp]; exact puts_other (by omega) _ _ _
        have hsz : w3.heap.size ≤ W.heap.size := by rw [hWp, puts_size]; exact Nat.le_refl _
        have hfr' : Fresh (w.heap.size + 1) r := ⟨fun q hq => by have := hfr.b q hq; omega, fun q hq => by have := hfr.p q hq; omega⟩
        refine ⟨by simp [hR.out.len], ?_, fun i h1 h2 => ?_, fun i h1 => ?_, by rw [hWp]; exact puts_below hbl3 (Nat.le_refl _) _ _⟩
        · rw [hWp]; exact hF3.push rcC_len hR.out.len hlt r
        · rcases Nat.lt_or_ge i cs.length with h3 | h3
          · rw [List.getElem_append_left h3]
            exact ((hR.out.rc i h3 h2).below hb3).kept (hR.out.fr i h3) hoth hsz
          · have hi : i = j := by rw [List.length_append, List.length_singleton] at h1; have := hR.out.len; omega
            subst hi
            rw [List.getElem_append_right h3]
            simp only [hR.out.len, Nat.sub_self, List.getElem_cons_zero]
            exact hr1.kept hfr' hoth hsz
        · rcases Nat.lt_or_ge i cs.length with h3 | h3
          · rw [List.getElem_append_left h3]; exact hR.out.fr i h3
          · rw [List.getElem_append_right h3]
            have hi : i - cs.length = 0 := by rw [List.length_append, List.length_singleton] at h1; omega
            simp only [hi, List.getElem_cons_zero]
            exact hfr'
      have HW : Hid _ := hW
      clear hF3 hbl3 hb3 hR c0 c1 c2 hr1 hfr hWp hW hlt3
      go_wp2
      rw [← HW.out]
      go_roundw
      case rel => exact ⟨j + 1, cs ++ [r], by omega, by go_num, HP.out⟩
      case measure => simp [intOf]; omega
    · obtain rfl : j = n := by omega
      have HD : Hid (RK wr (.slice (some ⟨w.heap.size, 0, none⟩) j j) s ∧ Below w.heap.size w wr) := by
        have hl := hR.out.len
        have hog := hR.out.fill.done rcC_len hl.symm (by omega)
        exact ⟨⟨cs, OG.rg rcC_len hog, ⟨by rw [hl]; exact HN.out.1, hR.out.rc⟩⟩, hR.out.bl⟩
      clear hR
      go_wp2
      go_returns
      exact ⟨w.heap.size, rfl, HD.out.1, HD.out.2⟩

set_option maxHeartbeats 1600000 in
theorem eqCell_same (r q : Rc) (c : Cl) (w : World) (hs : smC 1048576 c) (h : Rc1 w r c) (h' : Rc1 w q c) :
    Calls Tryd.prog 18 #[.agg #[.string r.nm, .slice r.ba r.bn r.bc, .slice r.pa r.pn r.pc], .agg #[.string q.nm, .slice q.ba q.bn q.bc, .slice q.pa q.pn q.pc]] w fun e w' => e = .returned (.bool true) ∧ Below w.heap.size w w' := by
  obtain ⟨m, hm⟩ : ∃ m, m = c.nm := ⟨_, rfl⟩
  rw [h.nm, h'.nm, ← hm]
  have H : Hid (Rc1 w r c ∧ Rc1 w q c ∧ smC 1048576 c) := ⟨h, h', hs⟩
  clear h h' hs hm
  go_enter Tryd.func18, Tryd.ntmps18
  go_wp2_with (fail)
  refine (eqLBoxS_same (by have := H.out.2.2.bs; omega) (H.out.1.bs.below (by (repeat' (first | (with_reducible exact Below.refl _ _) | (with_reducible assumption) | (with_reducible refine Below.setCell ?_ ?_ _) | (with_reducible refine Below.alloc ?_ ?_ _) | (with_reducible refine below_drewN ?_ _) | (with_reducible refine Below.drew ?_) | (with_reducible exact Nat.le_refl _) | omega | (simp; done) | (simp; omega))))) (H.out.2.1.bs.below (by (repeat' (first | (with_reducible exact Below.refl _ _) | (with_reducible assumption) | (with_reducible refine Below.setCell ?_ ?_ _) | (with_reducible refine Below.alloc ?_ ?_ _) | (with_reducible refine below_drewN ?_ _) | (with_reducible refine Below.drew ?_) | (with_reducible exact Nat.le_refl _) | omega | (simp; done) | (simp; omega)))))).mono ?_
  rintro e w1 ⟨rfl, hb1⟩
  have k0 := (hb1.block w.heap.size (by simp; omega)).trans ((Below.heap_alloc _ _ _ (by simp)).trans (heap_alloc_new w _))
  have k1 := (hb1.block (w.heap.size + 1) (by simp)).trans (heap_alloc_at1 w _ _)
  have HB1 : Hid (Below w.heap.size w w1) := (show Below w.heap.size w _ from by (repeat' (first | (with_reducible exact Below.refl _ _) | (with_reducible assumption) | (with_reducible refine Below.setCell ?_ ?_ _) | (with_reducible refine Below.alloc ?_ ?_ _) | (with_reducible refine below_drewN ?_ _) | (with_reducible refine Below.drew ?_) | (with_reducible exact Nat.le_refl _) | omega | (simp; done) | (simp; omega)))).trans (hb1.mono (by simp; omega))
  obtain ⟨p0, p1, p2, pl⟩ := three_at k0
  obtain ⟨q0, q1, q2, ql⟩ := three_at k1
  clear hb1 k0 k1
  go_wp2_with (fail)
  refine (eqPlaceS_same (by have := H.out.2.2.ps; omega) (H.out.1.ps.below HB1.out) (H.out.2.1.ps.below HB1.out)).mono ?_
  rintro e w2 ⟨rfl, hb2⟩
  have HB2 : Hid (Below w.heap.size w w2) := HB1.out.trans (hb2.mono HB1.out.size)
  clear hb2
  go_wp2
  go_returns
  exact ⟨rfl, HB2.out⟩

set_option maxHeartbeats 1600000 in
theorem eqCellS_same {w : World} {va vb : Value} {s : List Cl} (hn : s.length ≤ 1099511627776) (hsm : ∀ j (h : j < s.length), smC 1048576 s[j]) (ha : RK w va s) (hb : RK w vb s) :
    Calls Tryd.prog 8 #[va, vb] w fun e w' => e = .returned (.bool true) ∧ Below w.heap.size w w' := by
  obtain ⟨rs, hrs, hrel⟩ := ha
  obtain ⟨qs, hqs, hqrel⟩ := hb
  obtain ⟨a1, c1', rfl⟩ := hrs.form
  obtain ⟨a2, c2', rfl⟩ := hqs.form
  obtain ⟨n, hnn⟩ : ∃ n, n = s.length := ⟨_, rfl⟩
  have e1 : rs.length = n := by rw [hrel.len, hnn]
  have e2 : qs.length = n := by rw [hqrel.len, hnn]
  rw [← hnn] at hn
  rw [e1] at hrs ⊢
  rw [e2] at hqs ⊢
  have H : Hid (RG 3 rcC w (.slice a1 n c1') rs ∧ RG 3 rcC w (.slice a2 n c2') qs ∧ RelK w rs s ∧ RelK w qs s ∧ n = s.length ∧ rs.length = n ∧ qs.length = n ∧ ∀ j (h : j < s.length), smC 1048576 s[j]) := ⟨hrs, hqs, hrel, hqrel, hnn, e1, e2, hsm⟩
  clear hrs hqs hrel hqrel hnn e1 e2 hsm
  go_enter Tryd.func8, Tryd.ntmps8
  go_wp2
  go_loopw [5] (fun i wr => ∃ j : Nat, j ≤ n ∧ i = .int .i64 j ∧ Hid (Below w.heap.size w wr)) (fun i _ => n - (intOf i).toNat)
  case atStart => exact ⟨0, Nat.zero_le _, rfl, Below.refl _ _⟩
  case round =>
    obtain ⟨j, hjn, rfl, hR⟩ := hrel
    by_cases hlt : j < n
    · have hjl : j < s.length := by rw [← H.out.2.2.2.2.1]; exact hlt
      have hjr : j < rs.length := by rw [H.out.2.2.2.2.2.1]; exact hlt
      have hjq : j < qs.length := by rw [H.out.2.2.2.2.2.2.1]; exact hlt
      obtain ⟨g, o, d1, he, hg, hj⟩ := (H.out.1.below hR.out).pos (by omega)
      simp only [Value.slice.injEq] at he
      obtain ⟨rfl, hx1, hx2⟩ := he
      obtain ⟨g', o', d2, he', hg', hj'⟩ := (H.out.2.1.below hR.out).pos (by omega)
      simp only [Value.slice.injEq] at he'
      obtain ⟨rfl, hx3, hx4⟩ := he'
      clear hx1 hx2 hx3 hx4
      obtain ⟨c0, c1, c2⟩ := rcC_at (hj j hjr)
      obtain ⟨e0, e1, e2⟩ := rcC_at (hj' j hjq)
      obtain ⟨x, hx⟩ : ∃ x, x = rs[j] := ⟨_, rfl⟩
      obtain ⟨y, hy⟩ : ∃ y, y = qs[j] := ⟨_, rfl⟩
      rw [← hx] at c0 c1 c2
      rw [← hy] at e0 e1 e2
      have hcall : Hid (∀ X : Und wr.heap.size wr, Calls Tryd.prog 18 #[.agg #[.string x.nm, .slice x.ba x.bn x.bc, .slice x.pa x.pn x.pc], .agg #[.string y.nm, .slice y.ba y.bn y.bc, .slice y.pa y.pn y.pc]] X.W fun e w' => e = .returned (.bool true) ∧ Below X.W.heap.size X.W w') := fun X => by
        have h1 := ((H.out.2.2.1.below hR.out).below X.below).at_ j hjr hjl
        have h2 := ((H.out.2.2.2.1.below hR.out).below X.below).at_ j hjq hjl
        rw [← hx] at h1
        rw [← hy] at h2
        exact eqCell_same x y s[j] X.W (H.out.2.2.2.2.2.2.2 j hjl) h1 h2
      clear hx hy hj hj'
      have b0 : (0 : Int) ≤ (j : Int) := by omega
      have b1 : (j : Int) < (n : Int) := by omega
      go_wp2_with (fail)
      (refine wp_region_und (by kernel_rfl) (by kernel_rfl) (fun hund => ?_); (repeat (go_big_quiet_step (first | (go_at_call 18; with_reducible refine und_call ?_ (hcall.out _); exact Nat.le_refl _)))); with_reducible refine wpQuiet_nil ?_; clear hund; intro W1 hb1; obtain ⟨hc1, hf1⟩ := undcell hb1)
      have HB : Hid (Below w.heap.size w W1) := hR.out.trans (hb1.mono hR.out.size)
      clear hb1 hc1 hf1
      go_wp2
      go_roundw
      case rel => exact ⟨j + 1, by omega, by go_num, HB.out⟩
      case measure => simp [intOf]; omega
    · go_wp2
      go_returns
      exact ⟨rfl, hR.out⟩

end Go.Proofs.YtafghanpfnhkpaaDoor
