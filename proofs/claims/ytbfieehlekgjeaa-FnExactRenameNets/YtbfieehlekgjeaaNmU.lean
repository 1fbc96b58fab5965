/- Proved here: the program's RenameNets, with what it owns. -/
import Derived.Test.YtbfieehlekgjeaaNmR
namespace Go.Proofs.Ytbfieehlekgjeaa
open Go.RowKit
set_option linter.unusedVariables false
set_option linter.unusedSimpArgs false

/-- What lay in W lies in w still, but for block G. -/
def KG (G : Nat) (W w : World) : Prop := ∀ b o, b < W.heap.size → ¬ b = G → w.cell? ⟨b, o, none⟩ = W.cell? ⟨b, o, none⟩
theorem KG.of {G : Nat} {W w : World} (hb : ∀ b, b < W.heap.size → ¬ b = G → w.heap[b]? = W.heap[b]?) : KG G W w := fun b o h hr => World.cell?_of_block (a := ⟨b, o, none⟩) (hb b h hr)
/-- While the devices are renamed: a row of the call's own. -/
structure IrS (w wr : World) (N : Int) (vb va : Value) (nets : List Int) (s : List Dv) (rs : List Rd) (j : Nat) : Prop where
  bl : Below w.heap.size w wr
  b0 : wr.heap[w.heap.size]? = some (.cells #[.int .i64 N, vb] 42)
  b1 : wr.heap[w.heap.size + 1]? = some (.cells #[.int .i64 0, .int .i64 0, .slice none 0 0] 48)
  row : OG 82 2 rdC wr (w.heap.size + 2) va rs
  len : rs.length = j
  k : ∀ i (h : i < rs.length) (h' : i < s.length), rs[i].k = s[i].k
  p : ∀ i (h : i < rs.length) (h' : i < s.length), IS wr (w.heap.size + 2) (.slice rs[i].a rs[i].n rs[i].c) (rnP nets s[i].p)
  ne : ∀ i (h : i < rs.length) g, (Value.slice rs[i].a rs[i].n rs[i].c).ownBlock = some g → ¬ va.ownBlock = some g
  ris : ∀ i j (hi : i < rs.length) (hj : j < rs.length), i < j → ∀ p q, (Value.slice rs[i].a rs[i].n rs[i].c).ownBlock = some p → (Value.slice rs[j].a rs[j].n rs[j].c).ownBlock = some q → p < q
theorem IrS.step {w wr w3 V w4 : World} {N : Int} {vb va : Value} {nets : List Int} {s : List Dv} {rs : List Rd} {j g cap : Nat} {r : Rd} (h : IrS w wr N vb va nets s rs j) (hj : j < s.length) (h3 : Below wr.heap.size wr w3) (hV : Below w3.heap.size w3 V)
    (hk : r.k = s[j].k) (hp : IS w3 wr.heap.size (.slice r.a r.n r.c) (rnP nets s[j].p))
    (ho : w4.ownsRow (w.heap.size + 2) 82 2 (.slice (some ⟨g, 0, none⟩) (rs.length + 1) cap) (rs.length + 1) (rs.flatMap rdC ++ rdC r))
    (hg : V.grownBy w4 va.ownBlock) (hlie : va.ownBlock = some g ∨ g = V.heap.size) :
    IrS w w4 N vb (.slice (some ⟨g, 0, none⟩) (rs.length + 1) cap) nets s (rs ++ [r]) (j + 1) := by
  obtain ⟨_, _, _, l0⟩ := two_at h.b0
  obtain ⟨_, _, _, _, l1⟩ := three_at' h.b1
  have hVw : Below wr.heap.size wr V := h3.trans (hV.mono h3.size)
  have hs3 := h3.size
  have hsV := hV.size
  have hva : ∀ k, va.ownBlock = some k → w.heap.size + 2 ≤ k ∧ k < wr.heap.size := fun k hk => OG.lt h.row k hk
  have hne : ∀ k, k < w.heap.size + 2 → ¬ some k = va.ownBlock := fun k hk e => by have := (hva k e.symm).1; omega
  have e : ∀ k, k < w.heap.size + 2 → w4.heap[k]? = wr.heap[k]? := fun k hk => (hg.block k (by omega) (hne k hk)).trans (hVw.block k (by omega))
  have hbw : Below w.heap.size w w4 := by
    have hVw' := h.bl.trans (hVw.mono h.bl.size)
    exact hVw'.grown hg hVw'.size (fun k hk => by have := (hva k hk).1; omega)
  have og : OG 82 2 rdC w4 (w.heap.size + 2) (.slice (some ⟨g, 0, none⟩) (rs.length + 1) cap) (rs ++ [r]) := by
    unfold OG
    rw [List.flatMap_append, List.length_append]
    have : [r].flatMap rdC = rdC r := by simp
    rw [this]
    exact ho
  have hold : ∀ i (h1 : i < rs.length) (h2 : i < s.length), IS w4 (w.heap.size + 2) (.slice rs[i].a rs[i].n rs[i].c) (rnP nets s[i].p) := fun i h1 h2 => by
    refine (h.p i h1 h2).kept fun q hq => ?_
    have hq1 := IS.lt (h.p i h1 h2) q hq
    exact (hg.block q (by omega) (fun e => h.ne i h1 q hq e.symm)).trans (hVw.block q hq1.2)
  have hnew : IS w4 (w.heap.size + 2) (.slice r.a r.n r.c) (rnP nets s[j].p) := by
    refine ((hp.bel hV).kept fun q hq => ?_).low (by omega)
    have hq1 := IS.lt hp q hq
    exact hg.block q (by omega) (fun e => by have := (hva q e.symm).2; omega)
  refine ⟨hbw, (e _ (by omega)).trans h.b0, (e _ (by omega)).trans h.b1, og, by simp [h.len], fun i h1 h2 => ?_, fun i h1 h2 => ?_, fun i h1 q hq => ?_, fun a b ha hb hab p q hpa hqb => ?_⟩
  · rcases Nat.lt_or_ge i rs.length with h4 | h4
    · rw [List.getElem_append_left h4]; exact h.k i h4 h2
    · have hi : i = j := by rw [List.length_append, List.length_singleton] at h1; have := h.len; omega
      subst hi
      rw [List.getElem_append_right h4]
      have e0 : i - rs.length = 0 := by have := h.len; omega
      simp only [e0, List.getElem_cons_zero]
      exact hk
  · rcases Nat.lt_or_ge i rs.length with h4 | h4
    · rw [List.getElem_append_left h4]
      exact hold i h4 h2
    · have hi : i = j := by rw [List.length_append, List.length_singleton] at h1; have := h.len; omega
      subst hi
      rw [List.getElem_append_right h4]
      have e0 : i - rs.length = 0 := by have := h.len; omega
      simp only [e0, List.getElem_cons_zero]
      exact hnew
  · intro e2
    injection e2 with e2
    have e3 : g = q := e2
    subst e3
    rcases Nat.lt_or_ge i rs.length with h4 | h4
    · rw [List.getElem_append_left h4] at hq
      rcases hlie with h5 | h5
      · exact h.ne i h4 g hq h5
      · have := (IS.lt (h.p i h4 (by have := h.len; omega)) g hq).2; omega
    · have hi : i = j := by rw [List.length_append, List.length_singleton] at h1; have := h.len; omega
      subst hi
      rw [List.getElem_append_right h4] at hq
      simp only [h.len, Nat.sub_self, List.getElem_cons_zero] at hq
      have hq1 := IS.lt hp g hq
      rcases hlie with h5 | h5
      · have := (hva g h5).2; omega
      · omega
  · have hbl : b < rs.length ∨ b = rs.length := by rw [List.length_append, List.length_singleton] at hb; omega
    have hal : a < rs.length := by omega
    rw [List.getElem_append_left hal] at hpa
    rcases hbl with h3' | rfl
    · rw [List.getElem_append_left h3'] at hqb
      exact h.ris a b hal h3' hab p q hpa hqb
    · rw [List.getElem_append_right (Nat.le_refl _)] at hqb
      simp only [Nat.sub_self, List.getElem_cons_zero] at hqb
      have e1 := (IS.lt (h.p a hal (by have := h.len; omega)) p hpa).2
      have e2 := (IS.lt hp q hqb).1
      omega
theorem IrS.od {w wr W : World} {N : Int} {vb va : Value} {nets : List Int} {s : List Dv} {rs : List Rd} (h : IrS w wr N vb va nets s rs s.length) (hW : ∀ q, w.heap.size + 2 ≤ q → W.heap[q]? = wr.heap[q]?) (hs : wr.heap.size ≤ W.heap.size) : OD W w.heap.size W.heap.size va (s.map (rnD nets)) rs := by
  refine ⟨(h.row.keep fun q hq => hW q (OG.lt h.row q hq).1).low (by omega), by simp [h.len], fun i h1 h2 => ?_, fun i h1 h2 => ?_, fun g hg => ⟨?_, fun j h1 q hq e => ?_⟩, fun j h1 q hq => ?_, h.ris⟩
  · have h3 : i < s.length := by simpa using h2
    rw [h.k i h1 h3]; simp [rnD]
  · have h3 : i < s.length := by simpa using h2
    have := ((h.p i h1 h3).kept fun q hq => hW q (IS.lt (h.p i h1 h3) q hq).1).low (show w.heap.size ≤ w.heap.size + 2 by omega)
    simpa [rnD] using this
  · have := (OG.lt h.row g hg).2; omega
  · subst e; exact h.ne j h1 q hq hg
  · have := (IS.lt (h.p j h1 (by have := h.len; omega)) q hq).2; omega
theorem OD.nil (w : World) (B Z : Nat) : OD w B Z (.slice none 0 0) [] [] :=
  ⟨⟨rfl, Or.inl ⟨rfl, rfl⟩⟩, rfl, fun j h => by simp at h, fun j h => by simp at h, fun g hg => (by cases hg), fun j h => by simp at h, fun i j h => by simp at h⟩

set_option maxRecDepth 10000 in
set_option maxHeartbeats 6400000 in
theorem impl_rename (N : Int) {w : World} {v vn : Value} {s : List Dv} {nets : List Int} (hn : s.length ≤ 1048576) (hnl : nets.length ≤ 1048576) (hsm : ∀ j (h : j < s.length), smD 1048576 s[j]) (h : RD w v s) (hvn : RdI w vn nets) :
    Calls Try.prog 20 #[.agg #[.int .i64 N, v], vn] w fun e w' => ∃ v' rs, e = .returned (.agg #[.int .i64 (rnC N s nets), .int .i64 (rnN N s nets), v']) ∧ OD w' w.heap.size w'.heap.size v' (rnL N s nets) rs ∧ Below w.heap.size w w' := by
  obtain ⟨a, c, rfl⟩ := h.form
  obtain ⟨an, cn, rfl⟩ := hvn.form
  obtain ⟨n, hnn⟩ : ∃ n, n = s.length := ⟨_, rfl⟩
  obtain ⟨m, hmm⟩ : ∃ m, m = nets.length := ⟨_, rfl⟩
  obtain ⟨F, hF⟩ : ∃ F, F = nlF N s := ⟨_, rfl⟩
  obtain ⟨C, hC⟩ : ∃ C, C = rnC N s nets := ⟨_, rfl⟩
  obtain ⟨M, hM⟩ : ∃ M, M = rnN N s nets := ⟨_, rfl⟩
  rw [← hnn] at h ⊢
  rw [← hmm] at hvn ⊢
  rw [← hC, ← hM]
  have H : Hid ((RD w (.slice a n c) s ∧ RdI w (.slice an m cn) nets) ∧ (n = s.length ∧ m = nets.length ∧ F = nlF N s ∧ C = rnC N s nets ∧ M = rnN N s nets) ∧ nets.length ≤ 1048576) := ⟨⟨h, hvn⟩, ⟨hnn, hmm, hF, hC, hM⟩, hnl⟩
  have HFA : Hid (∀ W, Below w.heap.size w W → Calls Try.prog 16 #[.agg #[.int .i64 N, .slice a n c]] W fun e w' => e = .returned (.int .i64 F) ∧ Below W.heap.size W w') := fun W hW => by rw [hF]; exact impl_nl N hn hsm (h.below hW)
  clear h hvn hnn hmm hF hnl hn hsm hC hM
  obtain ⟨i0, hi, hz0, hz1, hz2⟩ := info_parts info_Device
  go_enter Try.func20, Try.ntmps20
  go_wp2_with (fail)
  refine (HFA.out _ (by (repeat' (first | (with_reducible exact Below.refl _ _) | (with_reducible assumption) | (with_reducible refine Below.setCell ?_ ?_ _) | (with_reducible refine Below.alloc ?_ ?_ _) | (with_reducible refine below_drewN ?_ _) | (with_reducible refine Below.drew ?_) | (with_reducible exact Nat.le_refl _) | omega | (simp; done) | (simp; omega))))).mono ?_
  rintro e w1 ⟨rfl, hb1⟩
  have k0 := (hb1.block w.heap.size (by simp; omega)).trans ((Below.heap_alloc _ _ _ (by simp)).trans (heap_alloc_new w _))
  have k1 := (hb1.block (w.heap.size + 1) (by simp)).trans (hp_at1 w _ _)
  have hbw : Below w.heap.size w w1 := (show Below w.heap.size w _ from by (repeat' (first | (with_reducible exact Below.refl _ _) | (with_reducible assumption) | (with_reducible refine Below.setCell ?_ ?_ _) | (with_reducible refine Below.alloc ?_ ?_ _) | (with_reducible refine below_drewN ?_ _) | (with_reducible refine Below.drew ?_) | (with_reducible exact Nat.le_refl _) | omega | (simp; done) | (simp; omega)))).trans (hb1.mono (by simp; omega))
  have B1 : Hid (Below w.heap.size w w1 ∧ w1.heap[w.heap.size]? = some (.cells #[.int .i64 N, .slice a n c] 42) ∧ w1.heap[w.heap.size + 1]? = some (.cells #[.int .i64 0, .int .i64 0, .slice none 0 0] 48)) := ⟨hbw, k0, k1⟩
  clear hb1 k0 k1 hbw
  by_cases hF0 : F = 0
  case neg =>
    have HC : Hid (C = F ∧ M = 0 ∧ rnL N s nets = []) := by
      have e1 : rnC N s nets = F := by rw [rnC, if_neg (by rw [← H.out.2.1.2.2.1]; exact hF0), H.out.2.1.2.2.1]
      exact ⟨by rw [H.out.2.1.2.2.2.1, e1], by rw [H.out.2.1.2.2.2.2, rnN, if_neg (by rw [e1]; exact hF0)], by rw [rnL, if_neg (by rw [e1]; exact hF0)]⟩
    have HL : Hid (rnL N s nets = []) := HC.out.2.2
    obtain ⟨hC1, hM1, _⟩ := HC.out
    clear HC
    have hM2 := hM1.symm
    have hC2 := hC1.symm
    clear hM1 hC1
    subst hM2
    subst hC2
    obtain ⟨r0, r1, r2, rf, rlt⟩ := three_at' B1.out.2.2
    have rf0 := rf 0
    have rf1 := rf 1
    have rf2 := rf 2
    obtain ⟨W2, hW2⟩ : ∃ W2, W2 = ((w1.setCell ⟨w.heap.size + 1, 0, none⟩ (.int .i64 F)).setCell ⟨w.heap.size + 1, 1, none⟩ (.int .i64 0)).setCell ⟨w.heap.size + 1, 2, none⟩ (.slice none 0 0) := ⟨_, rfl⟩
    have e1 : W2.heap[w.heap.size + 1]? = some (.cells #[.int .i64 F, .int .i64 0, .slice none 0 0] 48) := by
      have s0 := heap_setCell_same _ _ 0 _ _ (.int .i64 F) B1.out.2.2
      have s1 := heap_setCell_same _ _ 1 _ _ (.int .i64 0) s0
      have s2 := heap_setCell_same _ _ 2 _ _ (.slice none 0 0) s1
      rw [hW2]
      simpa using s2
    have HF : Hid (Below w.heap.size w W2) := by
      unfold Hid
      rw [hW2]
      exact ((B1.out.1.setCell (by simp) _).setCell (by simp) _).setCell (by simp) _
    obtain ⟨t0, t1, t2, tf, tl⟩ := three_at' e1
    have HW2 : Hid _ := hW2
    clear hW2 e1
    go_wp2
    rw [← HW2.out]
    refine bodyPost_ret (by simp [results, Try.results20, go_sem, t0, t1, t2]) rfl ⟨.slice none 0 0, [], rfl, by rw [HL.out]; exact OD.nil _ _ _, HF.out⟩
  have HG : Hid (NlGood N s) := nlF_good (by rw [← H.out.2.1.2.2.1]; exact hF0)
  obtain ⟨p0, p1, pf, plt⟩ := two_at B1.out.2.1
  have hs12 : n ≤ 12 := by rw [H.out.2.1.1]; exact HG.out.len
  subst hF0
  go_wp2_with (fail)
  refine (impl_naming N H.out.2.2 (H.out.1.2.below B1.out.1)).mono ?_
  rintro e w2 ⟨rfl, hb2⟩
  have B2 : Hid (Below w.heap.size w w2 ∧ w2.heap[w.heap.size]? = some (.cells #[.int .i64 N, .slice a n c] 42) ∧ w2.heap[w.heap.size + 1]? = some (.cells #[.int .i64 0, .int .i64 0, .slice none 0 0] 48)) := ⟨B1.out.1.trans (hb2.mono B1.out.1.size), (hb2.block _ plt).trans B1.out.2.1, (hb2.block _ (three_at' B1.out.2.2).2.2.2.2).trans B1.out.2.2⟩
  clear hb2 p0 p1 pf plt
  by_cases hnm : nmB nets N = true
  case neg =>
    have hdec : nmB nets N = false := by simpa using hnm
    have HC : Hid (C = 1 ∧ M = 0 ∧ rnL N s nets = []) := by
      have e1 : rnC N s nets = 1 := by rw [rnC, if_pos H.out.2.1.2.2.1.symm, if_neg hnm]
      exact ⟨by rw [H.out.2.1.2.2.2.1, e1], by rw [H.out.2.1.2.2.2.2, rnN, if_neg (by rw [e1]; omega)], by rw [rnL, if_neg (by rw [e1]; omega)]⟩
    rw [hdec]
    have HL : Hid (rnL N s nets = []) := HC.out.2.2
    obtain ⟨hC1, hM1, _⟩ := HC.out
    clear HC
    have hM2 := hM1.symm
    have hC2 := hC1.symm
    clear hM1 hC1
    subst hM2
    subst hC2
    obtain ⟨r0, r1, r2, rf, rlt⟩ := three_at' B2.out.2.2
    have rf0 := rf 0
    have rf1 := rf 1
    have rf2 := rf 2
    obtain ⟨W2, hW2⟩ : ∃ W2, W2 = ((w2.setCell ⟨w.heap.size + 1, 0, none⟩ (.int .i64 1)).setCell ⟨w.heap.size + 1, 1, none⟩ (.int .i64 0)).setCell ⟨w.heap.size + 1, 2, none⟩ (.slice none 0 0) := ⟨_, rfl⟩
    have e1 : W2.heap[w.heap.size + 1]? = some (.cells #[.int .i64 1, .int .i64 0, .slice none 0 0] 48) := by
      have s0 := heap_setCell_same _ _ 0 _ _ (.int .i64 1) B2.out.2.2
      have s1 := heap_setCell_same _ _ 1 _ _ (.int .i64 0) s0
      have s2 := heap_setCell_same _ _ 2 _ _ (.slice none 0 0) s1
      rw [hW2]
      simpa using s2
    have HF : Hid (Below w.heap.size w W2) := by
      unfold Hid
      rw [hW2]
      exact ((B2.out.1.setCell (by simp) _).setCell (by simp) _).setCell (by simp) _
    obtain ⟨t0, t1, t2, tf, tl⟩ := three_at' e1
    have HW2 : Hid _ := hW2
    clear hW2 e1 hdec hnm
    go_wp2
    rw [← HW2.out]
    refine bodyPost_ret (by simp [results, Try.results20, go_sem, t0, t1, t2]) rfl ⟨.slice none 0 0, [], rfl, by rw [HL.out]; exact OD.nil _ _ _, HF.out⟩
  have HC : Hid ((C = 0 ∧ M = N ∧ rnL N s nets = s.map (rnD nets)) ∧ (nets.length : Int) = N) := by
    have e1 : rnC N s nets = 0 := rnC_zero H.out.2.1.2.2.1.symm hnm
    exact ⟨⟨by rw [H.out.2.1.2.2.2.1, e1], by rw [H.out.2.1.2.2.2.2, rnN, if_pos e1], by rw [rnL, if_pos e1]⟩, (nmB_iff.1 hnm).1⟩
  rw [hnm]
  clear hnm
  obtain ⟨p0, p1, pf, plt⟩ := two_at B2.out.2.1
  have hlt1 := (three_at' B2.out.2.2).2.2.2.2
  go_wp2_with (at_make; refine wpList_make_own _ rfl _ _ 40 rfl (w.heap.size + 2) 82 i0 (.agg #[.int .i64 0, .slice none 0 0]) 2 Try.underlying40 hi hz0 hz1 _ _ _ n rfl rfl rfl (by rw [hz2]; omega) (by unfold maxLen; omega) (by omega) ?_; intro wm hownm hgrowm; have hbm : Below w2.heap.size w2 wm := (Below.refl _ _).grown hgrowm (Nat.le_refl _) (fun k h => (by cases h)); obtain ⟨n0, n1, nf, nlt⟩ := two_at ((hbm.block _ plt).trans B2.out.2.1))
  have HM : Hid (IrS w wm N (.slice a n c) (.slice (some ⟨w2.heap.size, 0, none⟩) 0 n) nets s [] 0) := ⟨B2.out.1.trans (hbm.mono B2.out.1.size), (hbm.block _ plt).trans B2.out.2.1, (hbm.block _ hlt1).trans B2.out.2.2, hownm, rfl, fun i h => by simp at h, fun i h => by simp at h, fun i h => by simp at h, fun i j h => by simp at h⟩
  clear hownm hgrowm hbm n0 n1 nf nlt
  go_loopw [6, 28] (fun v i wr => ∃ k : Nat, k ≤ n ∧ i = .int .i64 k ∧ ∃ gv cap cs, v = .slice (some ⟨gv, 0, none⟩) k cap ∧ Hid (IrS w wr N (.slice a n c) (.slice (some ⟨gv, 0, none⟩) k cap) nets s cs k)) (fun _ i _ => n - (intOf i).toNat)
  case atStart => exact ⟨0, Nat.zero_le _, rfl, _, _, [], rfl, HM.out⟩
  case round =>
    clear p0 p1 pf plt HM
    obtain ⟨k, hk, rfl, gv, cap, cs, rfl, hR⟩ := hrel
    by_cases hlt : k < n
    · have hkl : k < s.length := by rw [← H.out.2.1.1]; exact hlt
      obtain ⟨g, o, c2, he, hg, x, hx, c0, c1⟩ := (H.out.1.1.below hR.out.bl).at hkl
      simp only [Value.slice.injEq] at he
      obtain ⟨rfl, hx1, hx2⟩ := he
      clear hx1 hx2
      obtain ⟨XK, xa, xn, xc⟩ := x
      dsimp only at c0 c1
      have HX : Hid (XK = s[k].k ∧ RdI wr (.slice xa xn xc) s[k].p) := ⟨hx.k, hx.p⟩
      have HR : Hid (IrS w wr N (.slice (some ⟨g, o, none⟩) n c) (.slice (some ⟨gv, 0, none⟩) k cap) nets s cs k) := hR.out
      have hcl : cs.length ≤ 12 := by rw [hR.out.len]; omega
      have hgv := OG.lt hR.out.row gv rfl
      clear hR hx
      have b0 : (0 : Int) ≤ (k : Int) := by omega
      have b1 : (k : Int) < (n : Int) := by omega
      go_upto_region 10 with (fail)
      obtain ⟨W0, hW0⟩ : ∃ W0, W0 = wr.alloc (.cells #[.int .i64 XK, .slice xa xn xc] 82) := ⟨_, rfl⟩
      rw [← hW0]
      have hd0 : W0.heap[wr.heap.size]? = some (.cells #[.int .i64 XK, .slice xa xn xc] 82) := by rw [hW0]; exact heap_alloc_new _ _
      have hW0b : Below wr.heap.size wr W0 := by rw [hW0]; (repeat' (first | (with_reducible exact Below.refl _ _) | (with_reducible assumption) | (with_reducible refine Below.setCell ?_ ?_ _) | (with_reducible refine Below.alloc ?_ ?_ _) | (with_reducible refine below_drewN ?_ _) | (with_reducible refine Below.drew ?_) | (with_reducible exact Nat.le_refl _) | omega | (simp; done) | (simp; omega)))
      have hz0' : W0.heap.size = wr.heap.size + 1 := by rw [hW0]; simp
      have hne : ¬ wr.heap.size = gv := by omega
      have HI : Hid (IrS w W0 N (.slice (some ⟨g, o, none⟩) n c) (.slice (some ⟨gv, 0, none⟩) k cap) nets s cs k) := by
        have h := HR.out
        exact ⟨h.bl.trans (hW0b.mono h.bl.size), (hW0b.block _ (two_at h.b0).2.2.2).trans h.b0, (hW0b.block _ (three_at' h.b1).2.2.2.2).trans h.b1, h.row.below hW0b, h.len, h.k, fun i h1 h2 => (h.p i h1 h2).bel hW0b, h.ne, h.ris⟩
      clear hW0 c0 c1
      obtain ⟨d0, d1, df, dlt⟩ := two_at hd0
      have HP : Hid (∀ W, Below W0.heap.size W0 W → Calls Try.prog 51 #[.slice xa xn xc, .slice an m cn] W fun e w' => ∃ v', e = .returned v' ∧ IS w' W.heap.size v' (rnP nets s[k].p) ∧ Below W.heap.size W w') := fun W hW => by
        have hbw : Below wr.heap.size wr W := hW0b.trans (hW.mono hW0b.size)
        exact impl_pins (HG.out.pl _ (List.getElem_mem hkl)) H.out.2.2 (fun x hx => by have := HG.out.pin _ (List.getElem_mem hkl) x hx; have := HC.out.2; omega) (HX.out.2.below hbw) ((H.out.1.2.below HR.out.bl).below hbw)
      clear hd0
      have hsW : w.heap.size + 2 ≤ W0.heap.size := by omega
      refine wp_region_holdsA (S := KG gv W0) (by kernel_rfl) (fun b o _ _ => rfl) (fun hS => ?_)
      refine fl_takeA (i := 0) (d := 32) (v := .slice (some ⟨gv, 0, none⟩) k cap) rfl rfl rfl (by kernel_rfl) (by kernel_rfl) (by kernel_rfl) hS ?_ ?_
      · intro w' hk; unfold KG at hk; go_simp
      simp only [Act.put, List.setIfInBounds_toArray, List.set_cons_zero, List.set_cons_succ]
      refine fl_takeA (i := 1) (d := 33) (v := .pointer (some ⟨wr.heap.size, 0, none⟩)) rfl rfl rfl (by kernel_rfl) (by kernel_rfl) (by kernel_rfl) hS ?_ ?_
      · intro w' hk; unfold KG at hk; go_simp
      simp only [Act.put, List.setIfInBounds_toArray, List.set_cons_zero, List.set_cons_succ]
      refine fl_takeA (i := 2) (d := 34) (v := .int .i64 XK) rfl rfl rfl (by kernel_rfl) (by kernel_rfl) (by kernel_rfl) hS ?_ ?_
      · intro w' hk; unfold KG at hk; go_simp
      simp only [Act.put, List.setIfInBounds_toArray, List.set_cons_zero, List.set_cons_succ]
      refine fl_takeA (i := 3) (d := 35) (v := .pointer (some ⟨wr.heap.size, 1, none⟩)) rfl rfl rfl (by kernel_rfl) (by kernel_rfl) (by kernel_rfl) hS ?_ ?_
      · intro w' hk; unfold KG at hk; go_simp
      simp only [Act.put, List.setIfInBounds_toArray, List.set_cons_zero, List.set_cons_succ]
      refine fl_takeA (i := 4) (d := 36) (v := .slice xa xn xc) rfl rfl rfl (by kernel_rfl) (by kernel_rfl) (by kernel_rfl) hS ?_ ?_
      · intro w' hk; unfold KG at hk; go_simp
      simp only [Act.put, List.setIfInBounds_toArray, List.set_cons_zero, List.set_cons_succ]
      refine fl_takeA (i := 5) (d := 37) (v := .slice an m cn) rfl rfl rfl (by kernel_rfl) (by kernel_rfl) (by kernel_rfl) hS ?_ ?_
      · intro w' hk; unfold KG at hk; go_simp
      simp only [Act.put, List.setIfInBounds_toArray, List.set_cons_zero, List.set_cons_succ]
      refine wpAnyH_all (rs := [6]) (by kernel_rfl) (by simp) ?_
      intro i hi'
      obtain rfl : i = 6 := by simpa using hi'
      refine op_call (d := 38) rfl rfl rfl (by go_simp) ((HP.out _ (Below.refl _ _).drew).mono ?_)
      rintro e w3 ⟨pv', rfl, hi3, hb3⟩
      obtain ⟨ga, gc, rfl⟩ := hi3.form
      obtain ⟨pv, hpv⟩ : ∃ pv : Nat, pv = (rnP nets s[k].p).length := ⟨_, rfl⟩
      rw [← hpv] at hi3 ⊢
      clear hpv
      have hK3 : Below W0.heap.size W0 w3 := (Below.refl _ _).drew.trans (hb3.mono (Nat.le_refl _))
      have hs3 := hK3.size
      have hA : KG gv W0 w3 := KG.of fun b h1 _ => hK3.block b h1
      have hVB : Below w3.heap.size w3 (w3.alloc (.cells #[.int .i64 XK, .slice ga pv gc] 82)) := by (repeat' (first | (with_reducible exact Below.refl _ _) | (with_reducible assumption) | (with_reducible refine Below.setCell ?_ ?_ _) | (with_reducible refine Below.alloc ?_ ?_ _) | (with_reducible refine below_drewN ?_ _) | (with_reducible refine Below.drew ?_) | (with_reducible exact Nat.le_refl _) | omega | (simp; done) | (simp; omega)))
      have hA2 : KG gv W0 (w3.alloc (.cells #[.int .i64 XK, .slice ga pv gc] 82)) := KG.of fun b h1 _ => (hVB.block b (by omega)).trans (hK3.block b h1)
      have hnew : (w3.alloc (.cells #[.int .i64 XK, .slice ga pv gc] 82)).heap[w3.heap.size]? = some (.cells #[.int .i64 XK, .slice ga pv gc] 82) := heap_alloc_new w3 _
      have hown0 : (w3.alloc (.cells #[.int .i64 XK, .slice ga pv gc] 82)).ownsRow (w.heap.size + 2) 82 2 (.slice (some ⟨gv, 0, none⟩) k cap) cs.length (cs.flatMap rdC) := (HI.out.row.below hK3).below hVB
      refine ⟨_, rfl, hA, ?_⟩
      simp only [Act.put, List.setIfInBounds_toArray, List.set_cons_zero, List.set_cons_succ]
      refine wpAnyH_all (rs := [7]) (by kernel_rfl) (by simp) ?_
      intro i hi'
      obtain rfl : i = 7 := by simpa using hi'
      refine op_val (d := 39) (v := .agg #[.int .i64 XK, .slice ga pv gc]) (w' := w3) rfl rfl rfl (by go_simp) ?_
      simp only [Act.put, List.setIfInBounds_toArray, List.set_cons_zero, List.set_cons_succ]
      refine ⟨hA, wpAnyH_all (rs := [8]) (by kernel_rfl) (by simp) ?_⟩
      intro i hi'
      obtain rfl : i = 8 := by simpa using hi'
      refine op_val (d := 40) (v := .slice (some ⟨w3.heap.size, 0, none⟩) 1 1) (w' := w3.alloc (.cells #[.int .i64 XK, .slice ga pv gc] 82)) rfl rfl rfl (by go_simp; try rfl) ?_
      simp only [Act.put, List.setIfInBounds_toArray, List.set_cons_zero, List.set_cons_succ]
      refine ⟨hA2, wpAnyH_all (rs := [9]) (by kernel_rfl) (by simp) ?_⟩
      intro i hi'
      obtain rfl : i = 9 := by simpa using hi'
      refine op_appL rfl rfl rfl _ _ 40 rfl (w.heap.size + 2) 82 i0 (.agg #[.int .i64 0, .slice none 0 0]) 2 32 Try.underlying40 hi hz0 hz1 hz2 rfl (by decide) (.slice (some ⟨gv, 0, none⟩) k cap) _ _ rfl hown0 ⟨w3.heap.size, 0, none⟩ 1 1 [.int .i64 XK, .slice ga pv gc] rfl rfl (World.news_of_block hnew) (by simp [Value.oneCell']) (by omega) (by unfold maxLen; omega) (by omega) (by simp; omega) ?_
      intro gg cap2 w4 hown1 hgrow1 hlie hlt2
      simp only [Act.put, List.setIfInBounds_toArray, List.set_cons_zero, List.set_cons_succ]
      have hN := HI.out.step (r := ⟨XK, ga, pv, gc⟩) hkl hK3 hVB HX.out.1 hi3 hown1 hgrow1 hlie
      have hA4 : KG gv W0 w4 := KG.of fun b h1 h2 => (hgrow1.block b (by have := hVB.size; omega) (fun e => h2 (by injection e))).trans ((hVB.block b (by omega)).trans (hK3.block b h1))
      refine ⟨hA4, wpAnyH_all (rs := [10]) (by kernel_rfl) (by simp) ?_⟩
      intro i hi'
      obtain rfl : i = 10 := by simpa using hi'
      refine op_val (d := 6) (v := .slice (some ⟨gg, 0, none⟩) (cs.length + 1) cap2) (w' := w4) rfl rfl rfl (by go_simp) ?_
      simp only [Act.put, List.setIfInBounds_toArray, List.set_cons_zero, List.set_cons_succ]
      refine ⟨hA4, wpAnyH_done (by kernel_rfl) (NoPanic.normal ?_) _⟩
      have hcl2 := HR.out.len
      rw [hcl2] at hN ⊢
      have HN : Hid (IrS w w4 N (.slice (some ⟨g, o, none⟩) n c) (.slice (some ⟨gg, 0, none⟩) (k + 1) cap2) nets s (cs ++ [⟨XK, ga, pv, gc⟩]) (k + 1)) := hN
      clear hN hA4 hown1 hgrow1 hlie hlt2 hown0 hnew hVB hA hA2 hS hK3 hi3 hcl2
      go_wp2
      go_roundw
      case rel => exact ⟨k + 1, by omega, by go_num, _, _, _, rfl, HN.out⟩
      case measure => simp [intOf]; omega
    · have HE : Hid (IrS w wr N (.slice a n c) (.slice (some ⟨gv, 0, none⟩) k cap) nets s cs s.length) := by
        have e : k = s.length := by rw [← H.out.2.1.1]; omega
        have := hR.out
        rw [e] at this ⊢
        exact this
      have HL : Hid (rnL N s nets = s.map (rnD nets)) := HC.out.1.2.2
      obtain ⟨⟨hC1, hM1, _⟩, _⟩ := HC.out
      have hM2 := hM1.symm
      have hC2 := hC1.symm
      clear hM1 hC1 HC
      subst hM2
      subst hC2
      obtain ⟨q0, q1, qf, qlt⟩ := two_at HE.out.b0
      obtain ⟨r0, r1, r2, rf, rlt⟩ := three_at' HE.out.b1
      have rf0 := rf 0
      have rf1 := rf 1
      have rf2 := rf 2
      obtain ⟨W2, hW2⟩ : ∃ W2, W2 = ((wr.setCell ⟨w.heap.size + 1, 0, none⟩ (.int .i64 0)).setCell ⟨w.heap.size + 1, 1, none⟩ (.int .i64 N)).setCell ⟨w.heap.size + 1, 2, none⟩ (.slice (some ⟨gv, 0, none⟩) k cap) := ⟨_, rfl⟩
      have e1 : W2.heap[w.heap.size + 1]? = some (.cells #[.int .i64 0, .int .i64 N, .slice (some ⟨gv, 0, none⟩) k cap] 48) := by
        have s0 := heap_setCell_same _ _ 0 _ _ (.int .i64 0) HE.out.b1
        have s1 := heap_setCell_same _ _ 1 _ _ (.int .i64 N) s0
        have s2 := heap_setCell_same _ _ 2 _ _ (.slice (some ⟨gv, 0, none⟩) k cap) s1
        rw [hW2]
        simpa using s2
      have HF : Hid (OD W2 w.heap.size W2.heap.size (.slice (some ⟨gv, 0, none⟩) k cap) (s.map (rnD nets)) cs ∧ Below w.heap.size w W2) := by
        refine ⟨HE.out.od (fun q hq => ?_) (by rw [hW2]; simp), ?_⟩
        · rw [hW2, heap_setCell_other _ _ _ _ (by simp; omega), heap_setCell_other _ _ _ _ (by simp; omega), heap_setCell_other _ _ _ _ (by simp; omega)]
        · rw [hW2]
          exact ((HE.out.bl.setCell (by simp) _).setCell (by simp) _).setCell (by simp) _
      obtain ⟨t0, t1, t2, tf, tl⟩ := three_at' e1
      have HW2 : Hid _ := hW2
      clear hR hW2 e1
      go_wp2
      rw [← HW2.out]
      refine bodyPost_ret (by simp [results, Try.results20, go_sem, t0, t1, t2]) rfl ⟨.slice (some ⟨gv, 0, none⟩) k cap, cs, rfl, by rw [HL.out]; exact HF.out.1, HF.out.2⟩

end Go.Proofs.Ytbfieehlekgjeaa
