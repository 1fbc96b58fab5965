/- Proved here: the model's RenameNets. -/
import Derived.Test.YtbfieehlekgjeaaNmP
import Derived.Test.YtbfieehlekgjeaaNmQ
import Derived.Test.YtbfieehlekgjeaaNlS
namespace Go.Proofs.Ytbfieehlekgjeaa
open Go.RowKit
set_option linter.unusedVariables false
set_option linter.unusedSimpArgs false

/-- RenameNets: its code, its nets, its devices. -/
def rnC (N : Int) (s : List Dv) (nets : List Int) : Int := if nlF N s = 0 then (if nmB nets N = true then 0 else 1) else nlF N s
def rnN (N : Int) (s : List Dv) (nets : List Int) : Int := if rnC N s nets = 0 then N else 0
def rnL (N : Int) (s : List Dv) (nets : List Int) : List Dv := if rnC N s nets = 0 then s.map (rnD nets) else []
theorem rnC_zero {N : Int} {s : List Dv} {nets : List Int} (h1 : nlF N s = 0) (h2 : nmB nets N = true) : rnC N s nets = 0 := by rw [rnC, if_pos h1, if_pos h2]

theorem RD.empty (w : World) (a : Option Addr) (c : Nat) : RD w (.slice a 0 c) [] := ⟨[], RG.nil _ _ _ _ _, ⟨rfl, fun j h => by simp at h⟩⟩
theorem three_at' {w : World} {k : Nat} {a b c : Value} {T : TypeId} (h : w.heap[k]? = some (.cells #[a, b, c] T)) :
    w.cell? ⟨k, 0, none⟩ = some a ∧ w.cell? ⟨k, 1, none⟩ = some b ∧ w.cell? ⟨k, 2, none⟩ = some c ∧ (∀ i, w.frozen? ⟨k, i, none⟩ = false) ∧ k < w.heap.size := by
  refine ⟨by simp [World.cell?, h], by simp [World.cell?, h], by simp [World.cell?, h], fun i => by simp [World.frozen?, h], ?_⟩
  rcases Nat.lt_or_ge k w.heap.size with h' | h'
  · exact h'
  · rw [Array.getElem?_eq_none h'] at h; cases h
/-- While the devices are renamed: a row of the call's own in blocks from B + 1 on. -/
structure NrS (w wr : World) (B : Nat) (N : Int) (vb va : Value) (nets : List Int) (s : List Dv) (rs : List Rd) (j : Nat) : Prop where
  bl : Below w.heap.size w wr
  b0 : wr.heap[w.heap.size]? = some (.cells #[.int .i64 N, vb] 42)
  b1 : wr.heap[w.heap.size + 1]? = some (.cells #[.int .i64 0, .int .i64 0, .slice none 0 0] 48)
  b2 : wr.heap[B]? = some (.cells #[.int .i64 N, va] 42)
  hB : w.heap.size + 2 ≤ B
  row : OG 82 2 rdC wr (B + 1) va rs
  len : rs.length = j
  k : ∀ i (h : i < rs.length) (h' : i < s.length), rs[i].k = s[i].k
  p : ∀ i (h : i < rs.length) (h' : i < s.length), IS wr (B + 1) (.slice rs[i].a rs[i].n rs[i].c) (rnP nets s[i].p)
  ne : ∀ i (h : i < rs.length) g, (Value.slice rs[i].a rs[i].n rs[i].c).ownBlock = some g → ¬ va.ownBlock = some g
theorem NrS.step {w wr w3 V w4 : World} {B : Nat} {N : Int} {vb va : Value} {nets : List Int} {s : List Dv} {rs : List Rd} {j g cap : Nat} {r : Rd} (h : NrS w wr B N vb va nets s rs j) (hj : j < s.length) (h3 : Below wr.heap.size wr w3) (hV : Below w3.heap.size w3 V)
    (hk : r.k = s[j].k) (hp : IS w3 wr.heap.size (.slice r.a r.n r.c) (rnP nets s[j].p))
    (ho : w4.ownsRow (B + 1) 82 2 (.slice (some ⟨g, 0, none⟩) (rs.length + 1) cap) (rs.length + 1) (rs.flatMap rdC ++ rdC r))
    (hg : V.grownBy w4 va.ownBlock) (hlie : va.ownBlock = some g ∨ g = V.heap.size) :
    NrS w (w4.setCell ⟨B, 1, none⟩ (.slice (some ⟨g, 0, none⟩) (rs.length + 1) cap)) B N vb (.slice (some ⟨g, 0, none⟩) (rs.length + 1) cap) nets s (rs ++ [r]) (j + 1) ∧ Below B wr w4 ∧ w4.heap[B]? = some (.cells #[.int .i64 N, va] 42) := by
  obtain ⟨_, _, _, l0⟩ := two_at h.b0
  obtain ⟨_, _, _, _, l1⟩ := three_at' h.b1
  obtain ⟨_, _, _, l2⟩ := two_at h.b2
  have hB := h.hB
  have hVw : Below wr.heap.size wr V := h3.trans (hV.mono h3.size)
  have hs3 := h3.size
  have hsV := hV.size
  have hva : ∀ k, va.ownBlock = some k → B + 1 ≤ k ∧ k < wr.heap.size := fun k hk => OG.lt h.row k hk
  have hne : ∀ k, k ≤ B → ¬ some k = va.ownBlock := fun k hk e => by have := (hva k e.symm).1; omega
  have e : ∀ k, k ≤ B → w4.heap[k]? = wr.heap[k]? := fun k hk => (hg.block k (by omega) (hne k hk)).trans (hVw.block k (by omega))
  have hgB : B + 1 ≤ g := by
    rcases hlie with h1 | h1
    · exact (hva g h1).1
    · omega
  have hb4 : w4.heap[B]? = some (.cells #[.int .i64 N, va] 42) := (e _ (Nat.le_refl _)).trans h.b2
  have hbw : Below w.heap.size w w4 := by
    have hVw' := h.bl.trans (hVw.mono h.bl.size)
    exact hVw'.grown hg hVw'.size (fun k hk => by have := (hva k hk).1; omega)
  have og : OG 82 2 rdC w4 (B + 1) (.slice (some ⟨g, 0, none⟩) (rs.length + 1) cap) (rs ++ [r]) := by
    unfold OG
    rw [List.flatMap_append, List.length_append]
    have : [r].flatMap rdC = rdC r := by simp
    rw [this]
    exact ho
  have hold : ∀ i (h1 : i < rs.length) (h2 : i < s.length), IS w4 (B + 1) (.slice rs[i].a rs[i].n rs[i].c) (rnP nets s[i].p) := fun i h1 h2 => by
    refine (h.p i h1 h2).kept fun q hq => ?_
    have hq1 := IS.lt (h.p i h1 h2) q hq
    exact (hg.block q (by omega) (fun e => h.ne i h1 q hq e.symm)).trans (hVw.block q hq1.2)
  have hnew : IS w4 (B + 1) (.slice r.a r.n r.c) (rnP nets s[j].p) := by
    refine ((hp.bel hV).kept fun q hq => ?_).low (by omega)
    have hq1 := IS.lt hp q hq
    exact hg.block q (by omega) (fun e => by have := (hva q e.symm).2; omega)
  have hset : ∀ q, B + 1 ≤ q → (w4.setCell ⟨B, 1, none⟩ (.slice (some ⟨g, 0, none⟩) (rs.length + 1) cap)).heap[q]? = w4.heap[q]? := fun q hq => heap_setCell_other _ _ _ _ (by simp; omega)
  refine ⟨⟨hbw.setCell (by simp; omega) _, ?_, ?_, ?_, hB, og.keep fun q hq => hset q ?_, by simp [h.len], fun i h1 h2 => ?_, fun i h1 h2 => ?_, fun i h1 q hq => ?_⟩, ?_, hb4⟩
  · rw [heap_setCell_other _ _ _ _ (by simp; omega)]; exact (e _ (by omega)).trans h.b0
  · rw [heap_setCell_other _ _ _ _ (by simp; omega)]; exact (e _ (by omega)).trans h.b1
  · have s1 := heap_setCell_same _ _ 1 _ _ (.slice (some ⟨g, 0, none⟩) (rs.length + 1) cap) hb4
    simpa using s1
  · exact (OG.lt og q hq).1
  · rcases Nat.lt_or_ge i rs.length with h4 | h4
    · rw [List.getElem_append_left h4]; exact h.k i h4 h2
    · have hi : i = j := by rw [List.length_append, List.length_singleton] at h1; have := h.len; omega
      subst hi
      rw [List.getElem_append_right h4]
      have e0 : i - rs.length = 0 := by have := h.len; omega
      simp only [e0, List.getElem_cons_zero]
      exact hk
  · rcases Nat.lt_or_ge i rs.length with h4 | h4
    · rw [List.getElem_append_left h4]
      exact (hold i h4 h2).kept fun q hq => hset q (IS.lt (hold i h4 h2) q hq).1
    · have hi : i = j := by rw [List.length_append, List.length_singleton] at h1; have := h.len; omega
      subst hi
      rw [List.getElem_append_right h4]
      have e0 : i - rs.length = 0 := by have := h.len; omega
      simp only [e0, List.getElem_cons_zero]
      exact hnew.kept fun q hq => hset q (IS.lt hnew q hq).1
  · intro e2
    injection e2 with e2
    have e3 : g = q := e2
    subst e3
    rcases Nat.lt_or_ge i rs.length with h4 | h4
    · rw [List.getElem_append_left h4] at hq
      rcases hlie with h5 | h5
      · exact h.ne i h4 g hq h5
      · have := (IS.lt (h.p i h4 (by have := h.len; omega)) g hq).2; omega
    · have hi : i = j := by rw [List.length_append, List.length_singleton] at h1; have := h.len; omega
      subst hi
      rw [List.getElem_append_right h4] at hq
      simp only [h.len, Nat.sub_self, List.getElem_cons_zero] at hq
      have hq1 := IS.lt hp g hq
      rcases hlie with h5 | h5
      · have := (hva g h5).2; omega
      · omega
  · exact (hVw.mono (show B ≤ wr.heap.size by omega)).grown hg (by omega) (fun k hk => by have := (hva k hk).1; omega)
theorem NrS.rd {w wr : World} {B : Nat} {N : Int} {vb va : Value} {nets : List Int} {s : List Dv} {rs : List Rd} (h : NrS w wr B N vb va nets s rs s.length) : RD wr va (s.map (rnD nets)) := by
  refine ⟨rs, OG.rg rdC_len h.row, ⟨by simp [h.len], fun i h1 h2 => ?_⟩⟩
  have h3 : i < s.length := by simpa using h2
  refine ⟨?_, ?_⟩
  · rw [h.k i h1 h3]; simp [rnD]
  · have := (h.p i h1 h3).rg
    simpa [rnD] using this

set_option maxRecDepth 10000 in
set_option maxHeartbeats 6400000 in
theorem spec_rename (N : Int) {w : World} {v vn : Value} {s : List Dv} {nets : List Int} (hn : s.length ≤ 1048576) (hnl : nets.length ≤ 1048576) (hsm : ∀ j (h : j < s.length), smD 1048576 s[j]) (h : RD w v s) (hvn : RdI w vn nets) :
    Calls Try.prog 18 #[.agg #[.int .i64 N, v], vn] w fun e w' => ∃ v', e = .returned (.agg #[.int .i64 (rnC N s nets), .int .i64 (rnN N s nets), v']) ∧ RD w' v' (rnL N s nets) ∧ Below w.heap.size w w' := by
  obtain ⟨a, c, rfl⟩ := h.form
  obtain ⟨an, cn, rfl⟩ := hvn.form
  obtain ⟨n, hnn⟩ : ∃ n, n = s.length := ⟨_, rfl⟩
  obtain ⟨m, hmm⟩ : ∃ m, m = nets.length := ⟨_, rfl⟩
  obtain ⟨F, hF⟩ : ∃ F, F = nlF N s := ⟨_, rfl⟩
  obtain ⟨C, hC⟩ : ∃ C, C = rnC N s nets := ⟨_, rfl⟩
  obtain ⟨M, hM⟩ : ∃ M, M = rnN N s nets := ⟨_, rfl⟩
  rw [← hnn] at h ⊢
  rw [← hmm] at hvn ⊢
  rw [← hC, ← hM]
  have H : Hid ((RD w (.slice a n c) s ∧ RdI w (.slice an m cn) nets) ∧ (n = s.length ∧ m = nets.length ∧ F = nlF N s ∧ C = rnC N s nets ∧ M = rnN N s nets) ∧ nets.length ≤ 1048576) := ⟨⟨h, hvn⟩, ⟨hnn, hmm, hF, hC, hM⟩, hnl⟩
  have HFA : Hid (∀ W, Below w.heap.size w W → Calls Try.prog 14 #[.agg #[.int .i64 N, .slice a n c]] W fun e w' => e = .returned (.int .i64 F) ∧ Below W.heap.size W w') := fun W hW => by rw [hF]; exact spec_nl N hn hsm (h.below hW)
  clear h hvn hnn hmm hF hnl hn hsm hC hM
  obtain ⟨i0, hi, hz0, hz1, hz2⟩ := info_parts info_Device
  go_enter Try.func18, Try.ntmps18
  go_wp2_with (fail)
  refine (HFA.out _ (by (repeat' (first | (with_reducible exact Below.refl _ _) | (with_reducible assumption) | (with_reducible refine Below.setCell ?_ ?_ _) | (with_reducible refine Below.alloc ?_ ?_ _) | (with_reducible refine below_drewN ?_ _) | (with_reducible refine Below.drew ?_) | (with_reducible exact Nat.le_refl _) | omega | (simp; done) | (simp; omega))))).mono ?_
  rintro e w1 ⟨rfl, hb1⟩
  have k0 := (hb1.block w.heap.size (by simp; omega)).trans ((Below.heap_alloc _ _ _ (by simp)).trans (heap_alloc_new w _))
  have k1 := (hb1.block (w.heap.size + 1) (by simp)).trans (hp_at1 w _ _)
  have hbw : Below w.heap.size w w1 := (show Below w.heap.size w _ from by (repeat' (first | (with_reducible exact Below.refl _ _) | (with_reducible assumption) | (with_reducible refine Below.setCell ?_ ?_ _) | (with_reducible refine Below.alloc ?_ ?_ _) | (with_reducible refine below_drewN ?_ _) | (with_reducible refine Below.drew ?_) | (with_reducible exact Nat.le_refl _) | omega | (simp; done) | (simp; omega)))).trans (hb1.mono (by simp; omega))
  have B1 : Hid (Below w.heap.size w w1 ∧ w1.heap[w.heap.size]? = some (.cells #[.int .i64 N, .slice a n c] 42) ∧ w1.heap[w.heap.size + 1]? = some (.cells #[.int .i64 0, .int .i64 0, .slice none 0 0] 48)) := ⟨hbw, k0, k1⟩
  clear hb1 k0 k1 hbw
  by_cases hF0 : F = 0
  case neg =>
    have HC : Hid (C = F ∧ M = 0 ∧ rnL N s nets = []) := by
      have e1 : rnC N s nets = F := by rw [rnC, if_neg (by rw [← H.out.2.1.2.2.1]; exact hF0), H.out.2.1.2.2.1]
      exact ⟨by rw [H.out.2.1.2.2.2.1, e1], by rw [H.out.2.1.2.2.2.2, rnN, if_neg (by rw [e1]; exact hF0)], by rw [rnL, if_neg (by rw [e1]; exact hF0)]⟩
    have HL : Hid (rnL N s nets = []) := HC.out.2.2
    obtain ⟨hC1, hM1, _⟩ := HC.out
    clear HC
    have hM2 := hM1.symm
    have hC2 := hC1.symm
    clear hM1 hC1
    subst hM2
    subst hC2
    obtain ⟨r0, r1, r2, rf, rlt⟩ := three_at' B1.out.2.2
    have rf0 := rf 0
    have rf1 := rf 1
    have rf2 := rf 2
    obtain ⟨W2, hW2⟩ : ∃ W2, W2 = ((w1.setCell ⟨w.heap.size + 1, 0, none⟩ (.int .i64 F)).setCell ⟨w.heap.size + 1, 1, none⟩ (.int .i64 0)).setCell ⟨w.heap.size + 1, 2, none⟩ (.slice none 0 0) := ⟨_, rfl⟩
    have e1 : W2.heap[w.heap.size + 1]? = some (.cells #[.int .i64 F, .int .i64 0, .slice none 0 0] 48) := by
      have s0 := heap_setCell_same _ _ 0 _ _ (.int .i64 F) B1.out.2.2
      have s1 := heap_setCell_same _ _ 1 _ _ (.int .i64 0) s0
      have s2 := heap_setCell_same _ _ 2 _ _ (.slice none 0 0) s1
      rw [hW2]
      simpa using s2
    have HF : Hid (Below w.heap.size w W2) := by
      unfold Hid
      rw [hW2]
      exact ((B1.out.1.setCell (by simp) _).setCell (by simp) _).setCell (by simp) _
    obtain ⟨t0, t1, t2, tf, tl⟩ := three_at' e1
    have HW2 : Hid _ := hW2
    clear hW2 e1
    go_wp2
    rw [← HW2.out]
    refine bodyPost_ret (by simp [results, Try.results18, go_sem, t0, t1, t2]) rfl ⟨.slice none 0 0, rfl, by rw [HL.out]; exact RD.empty _ _ _, HF.out⟩
  have HG : Hid (NlGood N s) := nlF_good (by rw [← H.out.2.1.2.2.1]; exact hF0)
  obtain ⟨p0, p1, pf, plt⟩ := two_at B1.out.2.1
  have hs12 : n ≤ 12 := by rw [H.out.2.1.1]; exact HG.out.len
  subst hF0
  go_wp2_with (fail)
  refine (spec_naming N H.out.2.2 (H.out.1.2.below B1.out.1)).mono ?_
  rintro e w2 ⟨rfl, hb2⟩
  have B2 : Hid (Below w.heap.size w w2 ∧ w2.heap[w.heap.size]? = some (.cells #[.int .i64 N, .slice a n c] 42) ∧ w2.heap[w.heap.size + 1]? = some (.cells #[.int .i64 0, .int .i64 0, .slice none 0 0] 48)) := ⟨B1.out.1.trans (hb2.mono B1.out.1.size), (hb2.block _ plt).trans B1.out.2.1, (hb2.block _ (three_at' B1.out.2.2).2.2.2.2).trans B1.out.2.2⟩
  clear hb2 p0 p1 pf plt
  by_cases hnm : nmB nets N = true
  case neg =>
    have hdec : nmB nets N = false := by simpa using hnm
    have HC : Hid (C = 1 ∧ M = 0 ∧ rnL N s nets = []) := by
      have e1 : rnC N s nets = 1 := by rw [rnC, if_pos H.out.2.1.2.2.1.symm, if_neg hnm]
      exact ⟨by rw [H.out.2.1.2.2.2.1, e1], by rw [H.out.2.1.2.2.2.2, rnN, if_neg (by rw [e1]; omega)], by rw [rnL, if_neg (by rw [e1]; omega)]⟩
    rw [hdec]
    have HL : Hid (rnL N s nets = []) := HC.out.2.2
    obtain ⟨hC1, hM1, _⟩ := HC.out
    clear HC
    have hM2 := hM1.symm
    have hC2 := hC1.symm
    clear hM1 hC1
    subst hM2
    subst hC2
    obtain ⟨r0, r1, r2, rf, rlt⟩ := three_at' B2.out.2.2
    have rf0 := rf 0
    have rf1 := rf 1
    have rf2 := rf 2
    obtain ⟨W2, hW2⟩ : ∃ W2, W2 = ((w2.setCell ⟨w.heap.size + 1, 0, none⟩ (.int .i64 1)).setCell ⟨w.heap.size + 1, 1, none⟩ (.int .i64 0)).setCell ⟨w.heap.size + 1, 2, none⟩ (.slice none 0 0) := ⟨_, rfl⟩
    have e1 : W2.heap[w.heap.size + 1]? = some (.cells #[.int .i64 1, .int .i64 0, .slice none 0 0] 48) := by
      have s0 := heap_setCell_same _ _ 0 _ _ (.int .i64 1) B2.out.2.2
      have s1 := heap_setCell_same _ _ 1 _ _ (.int .i64 0) s0
      have s2 := heap_setCell_same _ _ 2 _ _ (.slice none 0 0) s1
      rw [hW2]
      simpa using s2
    have HF : Hid (Below w.heap.size w W2) := by
      unfold Hid
      rw [hW2]
      exact ((B2.out.1.setCell (by simp) _).setCell (by simp) _).setCell (by simp) _
    obtain ⟨t0, t1, t2, tf, tl⟩ := three_at' e1
    have HW2 : Hid _ := hW2
    clear hW2 e1 hdec hnm
    go_wp2
    rw [← HW2.out]
    refine bodyPost_ret (by simp [results, Try.results18, go_sem, t0, t1, t2]) rfl ⟨.slice none 0 0, rfl, by rw [HL.out]; exact RD.empty _ _ _, HF.out⟩
  have HC : Hid ((C = 0 ∧ M = N ∧ rnL N s nets = s.map (rnD nets)) ∧ (nets.length : Int) = N) := by
    have e1 : rnC N s nets = 0 := rnC_zero H.out.2.1.2.2.1.symm hnm
    exact ⟨⟨by rw [H.out.2.1.2.2.2.1, e1], by rw [H.out.2.1.2.2.2.2, rnN, if_pos e1], by rw [rnL, if_pos e1]⟩, (nmB_iff.1 hnm).1⟩
  rw [hnm]
  clear hnm
  obtain ⟨p0, p1, pf, plt⟩ := two_at B2.out.2.1
  obtain ⟨B, hB⟩ : ∃ B, B = w2.heap.size := ⟨_, rfl⟩
  have HB : Hid (B = w2.heap.size) := hB
  clear hB
  go_wp2
  go_loopw [7] (fun i wr => ∃ k : Nat, k ≤ n ∧ i = .int .i64 k ∧ ∃ va cs, Hid (NrS w wr w2.heap.size N (.slice a n c) va nets s cs k)) (fun i _ => n - (intOf i).toNat)
  case atStart =>
    refine ⟨0, Nat.zero_le _, rfl, .slice none 0 0, [], ?_, ?_, ?_, ?_, ?_, ?_, rfl, fun i h => by simp at h, fun i h => by simp at h, fun i h => by simp at h⟩
    · have := B2.out.1; (repeat' (first | (with_reducible exact Below.refl _ _) | (with_reducible assumption) | (with_reducible refine Below.setCell ?_ ?_ _) | (with_reducible refine Below.alloc ?_ ?_ _) | (with_reducible refine below_drewN ?_ _) | (with_reducible refine Below.drew ?_) | (with_reducible exact Nat.le_refl _) | omega | (simp; done) | (simp; omega)))
    · exact (Below.heap_alloc _ _ _ plt).trans B2.out.2.1
    · exact (Below.heap_alloc _ _ _ (three_at' B2.out.2.2).2.2.2.2).trans B2.out.2.2
    · exact heap_alloc_new w2 _
    · have := (three_at' B2.out.2.2).2.2.2.2; omega
    · exact ⟨rfl, Or.inl ⟨rfl, rfl⟩⟩
  case round =>
    clear p0 p1 pf plt
    obtain ⟨k, hk, rfl, va, cs, hR⟩ := hrel
    rw [← HB.out] at hR ⊢
    obtain ⟨p0, p1, pf, plt⟩ := two_at hR.out.b0
    obtain ⟨q0, q1, qf, qlt⟩ := two_at hR.out.b2
    have hhB := hR.out.hB
    by_cases hlt : k < n
    · have hkl : k < s.length := by rw [← H.out.2.1.1]; exact hlt
      obtain ⟨g, o, c2, he, hg, x, hx, c0, c1⟩ := H.out.1.1.at hkl
      simp only [Value.slice.injEq] at he
      obtain ⟨rfl, hx1, hx2⟩ := he
      clear hx1 hx2
      obtain ⟨XK, xa, xn, xc⟩ := x
      dsimp only at c0 c1
      have c0 := (hR.out.bl.cell (p := ⟨g, o + k * 2, none⟩) hg).trans c0
      have c1 := (hR.out.bl.cell (p := ⟨g, o + k * 2 + 1, none⟩) hg).trans c1
      have HX : Hid (XK = s[k].k ∧ RdI w (.slice xa xn xc) s[k].p) := ⟨hx.k, hx.p⟩
      have HP : Hid (∀ W, Below wr.heap.size wr W → Calls Try.prog 49 #[.agg #[.int .i64 XK, .slice xa xn xc], .slice an m cn] W fun e w' => ∃ v', e = .returned (.agg #[.int .i64 XK, v']) ∧ IS w' W.heap.size v' (rnP nets s[k].p) ∧ Below W.heap.size W w') := fun W hW => by
        have hbw : Below w.heap.size w W := hR.out.bl.trans (hW.mono hR.out.bl.size)
        exact spec_renamed ⟨XK, xa, xn, xc⟩ s[k] (HG.out.pl _ (List.getElem_mem hkl)) H.out.2.2 (fun x hx => by have := HG.out.pin _ (List.getElem_mem hkl) x hx; have := HC.out.2; omega) ⟨HX.out.1, HX.out.2.below hbw⟩ (H.out.1.2.below hbw)
      have hwsz := hR.out.bl.size
      have hcl : cs.length ≤ 12 := by rw [hR.out.len]; omega
      have HR : Hid (NrS w wr B N (.slice (some ⟨g, o, none⟩) n c) va nets s cs k) := hR.out
      clear hR hx
      have b0 : (0 : Int) ≤ (k : Int) := by omega
      have b1 : (k : Int) < (n : Int) := by omega
      have s0 : w.heap.size < B := by omega
      have s1 : g < B := by omega
      go_wp2_with (fail)
      refine wp_region_holdsA (S := KA B wr) (by kernel_rfl) (KA.of ((Below.refl _ _).drew)) (fun hS => ?_)
      refine fl_takeA (i := 0) (d := 30) (v := .pointer (some ⟨B, 1, none⟩)) rfl rfl rfl (by kernel_rfl) (by kernel_rfl) (by kernel_rfl) hS ?_ ?_
      · intro w' hk; unfold KA at hk; go_simp
      simp only [Act.put, List.setIfInBounds_toArray, List.set_cons_zero, List.set_cons_succ]
      refine fl_takeA (i := 2) (d := 32) (v := .pointer (some ⟨w.heap.size, 1, none⟩)) rfl rfl rfl (by kernel_rfl) (by kernel_rfl) (by kernel_rfl) hS ?_ ?_
      · intro w' hk; unfold KA at hk; go_simp
      simp only [Act.put, List.setIfInBounds_toArray, List.set_cons_zero, List.set_cons_succ]
      refine fl_takeA (i := 3) (d := 33) (v := .slice (some ⟨g, o, none⟩) n c) rfl rfl rfl (by kernel_rfl) (by kernel_rfl) (by kernel_rfl) hS ?_ ?_
      · intro w' hk; unfold KA at hk; go_simp
      simp only [Act.put, List.setIfInBounds_toArray, List.set_cons_zero, List.set_cons_succ]
      refine fl_takeA (i := 4) (d := 34) (v := .int .i64 k) rfl rfl rfl (by kernel_rfl) (by kernel_rfl) (by kernel_rfl) hS ?_ ?_
      · intro w' hk; unfold KA at hk; go_simp
      simp only [Act.put, List.setIfInBounds_toArray, List.set_cons_zero, List.set_cons_succ]
      refine fl_takeA (i := 5) (d := 35) (v := .pointer (some ⟨g, o + k * 2, none⟩)) rfl rfl rfl (by kernel_rfl) (by kernel_rfl) (by kernel_rfl) hS ?_ ?_
      · intro w' hk; unfold KA at hk; go_simp
      simp only [Act.put, List.setIfInBounds_toArray, List.set_cons_zero, List.set_cons_succ]
      refine fl_takeA (i := 6) (d := 36) (v := .agg #[.int .i64 XK, .slice xa xn xc]) rfl rfl rfl (by kernel_rfl) (by kernel_rfl) (by kernel_rfl) hS ?_ ?_
      · intro w' hk; unfold KA at hk; go_simp
      simp only [Act.put, List.setIfInBounds_toArray, List.set_cons_zero, List.set_cons_succ]
      refine fl_takeA (i := 7) (d := 37) (v := .slice an m cn) rfl rfl rfl (by kernel_rfl) (by kernel_rfl) (by kernel_rfl) hS ?_ ?_
      · intro w' hk; unfold KA at hk; go_simp
      simp only [Act.put, List.setIfInBounds_toArray, List.set_cons_zero, List.set_cons_succ]
      refine wpAnyH_all (rs := [1, 8]) (by kernel_rfl) (by simp) ?_
      intro i hi'
      rcases (by simpa using hi' : i = 1 ∨ i = 8) with rfl | rfl
      · refine op_val (d := 31) (v := va) (w' := wr.drew) rfl rfl rfl (by go_simp) ?_
        simp only [Act.put, List.setIfInBounds_toArray, List.set_cons_zero, List.set_cons_succ]
        refine ⟨hS, wpAnyH_all (rs := [8]) (by kernel_rfl) (by simp) ?_⟩
        intro i hi'
        obtain rfl : i = 8 := by simpa using hi'
        refine op_call (d := 38) rfl rfl rfl (by go_simp) ((HP.out _ (Below.refl _ _).drew).mono ?_)
        rintro e w3 ⟨pv', rfl, hi3, hb3⟩
        obtain ⟨ga, gc, rfl⟩ := hi3.form
        obtain ⟨pv, hpv⟩ : ∃ pv : Nat, pv = (rnP nets s[k].p).length := ⟨_, rfl⟩
        rw [← hpv] at hi3 ⊢
        clear hpv
        have hK3 : Below wr.heap.size wr w3 := (Below.refl _ _).drew.trans (hb3.mono (Nat.le_refl _))
        have hs3 := hK3.size
        have hA : KA B wr w3 := KA.of (hK3.mono (by omega))
        have hA2 : KA B wr (w3.alloc (.cells #[.int .i64 XK, .slice ga pv gc] 82)) := KA.of ((hK3.mono (by omega)).alloc (by omega) _)
        have hVB : Below w3.heap.size w3 (w3.alloc (.cells #[.int .i64 XK, .slice ga pv gc] 82)) := by (repeat' (first | (with_reducible exact Below.refl _ _) | (with_reducible assumption) | (with_reducible refine Below.setCell ?_ ?_ _) | (with_reducible refine Below.alloc ?_ ?_ _) | (with_reducible refine below_drewN ?_ _) | (with_reducible refine Below.drew ?_) | (with_reducible exact Nat.le_refl _) | omega | (simp; done) | (simp; omega)))
        have hnew : (w3.alloc (.cells #[.int .i64 XK, .slice ga pv gc] 82)).heap[w3.heap.size]? = some (.cells #[.int .i64 XK, .slice ga pv gc] 82) := heap_alloc_new w3 _
        have hown0 : (w3.alloc (.cells #[.int .i64 XK, .slice ga pv gc] 82)).ownsRow (B + 1) 82 2 va cs.length (cs.flatMap rdC) := (HR.out.row.below hK3).below hVB
        have hq3 : w3.heap[B]? = some (.cells #[.int .i64 N, va] 42) := (hK3.block B qlt).trans HR.out.b2
        obtain ⟨y0, y1, yf, ylt⟩ := two_at hq3
        have hq4 : (w3.alloc (.cells #[.int .i64 XK, .slice ga pv gc] 82)).heap[B]? = some (.cells #[.int .i64 N, va] 42) := (hVB.block B ylt).trans hq3
        obtain ⟨x0, x1, xf, xlt⟩ := two_at hq4
        refine ⟨_, rfl, hA, ?_⟩
        simp only [Act.put, List.setIfInBounds_toArray, List.set_cons_zero, List.set_cons_succ]
        refine wpAnyH_all (rs := [9]) (by kernel_rfl) (by simp) ?_
        intro i hi'
        obtain rfl : i = 9 := by simpa using hi'
        refine op_val (d := 39) (v := .slice (some ⟨w3.heap.size, 0, none⟩) 1 1) (w' := w3.alloc (.cells #[.int .i64 XK, .slice ga pv gc] 82)) rfl rfl rfl (by go_simp; try rfl) ?_
        simp only [Act.put, List.setIfInBounds_toArray, List.set_cons_zero, List.set_cons_succ]
        refine ⟨hA2, wpAnyH_all (rs := [10]) (by kernel_rfl) (by simp) ?_⟩
        intro i hi'
        obtain rfl : i = 10 := by simpa using hi'
        refine op_appL rfl rfl rfl _ _ 40 rfl (B + 1) 82 i0 (.agg #[.int .i64 0, .slice none 0 0]) 2 32 Try.underlying40 hi hz0 hz1 hz2 rfl (by decide) va _ _ rfl hown0 ⟨w3.heap.size, 0, none⟩ 1 1 [.int .i64 XK, .slice ga pv gc] rfl rfl (World.news_of_block hnew) (by simp [Value.oneCell']) (by omega) (by unfold maxLen; omega) (by omega) (by simp; omega) ?_
        intro gg cap w4 hown1 hgrow1 hlie hlt2
        simp only [Act.put, List.setIfInBounds_toArray, List.set_cons_zero, List.set_cons_succ]
        obtain ⟨hN, hB2, hb2⟩ := HR.out.step (r := ⟨XK, ga, pv, gc⟩) hkl hK3 hVB HX.out.1 hi3 hown1 hgrow1 hlie
        refine ⟨KA.of hB2, wpAnyH_all (rs := [11]) (by kernel_rfl) (by simp) ?_⟩
        intro i hi'
        obtain rfl : i = 11 := by simpa using hi'
        refine op_val (d := 41) (v := .pointer (some ⟨B, 1, none⟩)) (w' := w4) rfl rfl rfl (by go_simp) ?_
        simp only [Act.put, List.setIfInBounds_toArray, List.set_cons_zero, List.set_cons_succ]
        refine ⟨KA.of hB2, wpAnyH_all (rs := [12]) (by kernel_rfl) (by simp) ?_⟩
        intro i hi'
        obtain rfl : i = 12 := by simpa using hi'
        obtain ⟨z0, z1, zf, zlt⟩ := two_at hb2
        have zf1 := zf 1
        refine op_skipN (w' := w4.setCell ⟨B, 1, none⟩ (.slice (some ⟨gg, 0, none⟩) (cs.length + 1) cap)) rfl rfl (by go_simp) ?_
        simp only [Act.put]
        refine ⟨KA.of (hB2.setCell (by simp) _), wpAnyH_done (by kernel_rfl) (NoPanic.normal ?_) _⟩
        have HN : Hid _ := hN
        clear hN hB2 hb2 z0 z1 zf zlt zf1 hown1 hgrow1 hlie hlt2 hown0 hnew hVB hA hS hK3 hi3
        go_wp2
        go_roundw
        case rel => exact ⟨k + 1, by omega, by go_num, _, _, HN.out⟩
        case measure => simp [intOf]; omega
      · refine op_call (d := 38) rfl rfl rfl (by go_simp) ((HP.out _ (Below.refl _ _).drew).mono ?_)
        rintro e w3 ⟨pv', rfl, hi3, hb3⟩
        obtain ⟨ga, gc, rfl⟩ := hi3.form
        obtain ⟨pv, hpv⟩ : ∃ pv : Nat, pv = (rnP nets s[k].p).length := ⟨_, rfl⟩
        rw [← hpv] at hi3 ⊢
        clear hpv
        have hK3 : Below wr.heap.size wr w3 := (Below.refl _ _).drew.trans (hb3.mono (Nat.le_refl _))
        have hs3 := hK3.size
        have hA : KA B wr w3 := KA.of (hK3.mono (by omega))
        have hA2 : KA B wr (w3.alloc (.cells #[.int .i64 XK, .slice ga pv gc] 82)) := KA.of ((hK3.mono (by omega)).alloc (by omega) _)
        have hVB : Below w3.heap.size w3 (w3.alloc (.cells #[.int .i64 XK, .slice ga pv gc] 82)) := by (repeat' (first | (with_reducible exact Below.refl _ _) | (with_reducible assumption) | (with_reducible refine Below.setCell ?_ ?_ _) | (with_reducible refine Below.alloc ?_ ?_ _) | (with_reducible refine below_drewN ?_ _) | (with_reducible refine Below.drew ?_) | (with_reducible exact Nat.le_refl _) | omega | (simp; done) | (simp; omega)))
        have hnew : (w3.alloc (.cells #[.int .i64 XK, .slice ga pv gc] 82)).heap[w3.heap.size]? = some (.cells #[.int .i64 XK, .slice ga pv gc] 82) := heap_alloc_new w3 _
        have hown0 : (w3.alloc (.cells #[.int .i64 XK, .slice ga pv gc] 82)).ownsRow (B + 1) 82 2 va cs.length (cs.flatMap rdC) := (HR.out.row.below hK3).below hVB
        have hq3 : w3.heap[B]? = some (.cells #[.int .i64 N, va] 42) := (hK3.block B qlt).trans HR.out.b2
        obtain ⟨y0, y1, yf, ylt⟩ := two_at hq3
        have hq4 : (w3.alloc (.cells #[.int .i64 XK, .slice ga pv gc] 82)).heap[B]? = some (.cells #[.int .i64 N, va] 42) := (hVB.block B ylt).trans hq3
        obtain ⟨x0, x1, xf, xlt⟩ := two_at hq4
        refine ⟨_, rfl, hA, ?_⟩
        simp only [Act.put, List.setIfInBounds_toArray, List.set_cons_zero, List.set_cons_succ]
        refine wpAnyH_all (rs := [1, 9]) (by kernel_rfl) (by simp) ?_
        intro i hi'
        rcases (by simpa using hi' : i = 1 ∨ i = 9) with rfl | rfl
        · refine op_val (d := 31) (v := va) (w' := w3) rfl rfl rfl (by go_simp) ?_
          simp only [Act.put, List.setIfInBounds_toArray, List.set_cons_zero, List.set_cons_succ]
          refine ⟨hA, wpAnyH_all (rs := [9]) (by kernel_rfl) (by simp) ?_⟩
          intro i hi'
          obtain rfl : i = 9 := by simpa using hi'
          refine op_val (d := 39) (v := .slice (some ⟨w3.heap.size, 0, none⟩) 1 1) (w' := w3.alloc (.cells #[.int .i64 XK, .slice ga pv gc] 82)) rfl rfl rfl (by go_simp; try rfl) ?_
          simp only [Act.put, List.setIfInBounds_toArray, List.set_cons_zero, List.set_cons_succ]
          refine ⟨hA2, wpAnyH_all (rs := [10]) (by kernel_rfl) (by simp) ?_⟩
          intro i hi'
          obtain rfl : i = 10 := by simpa using hi'
          refine op_appL rfl rfl rfl _ _ 40 rfl (B + 1) 82 i0 (.agg #[.int .i64 0, .slice none 0 0]) 2 32 Try.underlying40 hi hz0 hz1 hz2 rfl (by decide) va _ _ rfl hown0 ⟨w3.heap.size, 0, none⟩ 1 1 [.int .i64 XK, .slice ga pv gc] rfl rfl (World.news_of_block hnew) (by simp [Value.oneCell']) (by omega) (by unfold maxLen; omega) (by omega) (by simp; omega) ?_
          intro gg cap w4 hown1 hgrow1 hlie hlt2
          simp only [Act.put, List.setIfInBounds_toArray, List.set_cons_zero, List.set_cons_succ]
          obtain ⟨hN, hB2, hb2⟩ := HR.out.step (r := ⟨XK, ga, pv, gc⟩) hkl hK3 hVB HX.out.1 hi3 hown1 hgrow1 hlie
          refine ⟨KA.of hB2, wpAnyH_all (rs := [11]) (by kernel_rfl) (by simp) ?_⟩
          intro i hi'
          obtain rfl : i = 11 := by simpa using hi'
          refine op_val (d := 41) (v := .pointer (some ⟨B, 1, none⟩)) (w' := w4) rfl rfl rfl (by go_simp) ?_
          simp only [Act.put, List.setIfInBounds_toArray, List.set_cons_zero, List.set_cons_succ]
          refine ⟨KA.of hB2, wpAnyH_all (rs := [12]) (by kernel_rfl) (by simp) ?_⟩
          intro i hi'
          obtain rfl : i = 12 := by simpa using hi'
          obtain ⟨z0, z1, zf, zlt⟩ := two_at hb2
          have zf1 := zf 1
          refine op_skipN (w' := w4.setCell ⟨B, 1, none⟩ (.slice (some ⟨gg, 0, none⟩) (cs.length + 1) cap)) rfl rfl (by go_simp) ?_
          simp only [Act.put]
          refine ⟨KA.of (hB2.setCell (by simp) _), wpAnyH_done (by kernel_rfl) (NoPanic.normal ?_) _⟩
          have HN : Hid _ := hN
          clear hN hB2 hb2 z0 z1 zf zlt zf1 hown1 hgrow1 hlie hlt2 hown0 hnew hVB hA hS hK3 hi3
          go_wp2
          go_roundw
          case rel => exact ⟨k + 1, by omega, by go_num, _, _, HN.out⟩
          case measure => simp [intOf]; omega
        · refine op_val (d := 39) (v := .slice (some ⟨w3.heap.size, 0, none⟩) 1 1) (w' := w3.alloc (.cells #[.int .i64 XK, .slice ga pv gc] 82)) rfl rfl rfl (by go_simp; try rfl) ?_
          simp only [Act.put, List.setIfInBounds_toArray, List.set_cons_zero, List.set_cons_succ]
          refine ⟨hA2, wpAnyH_all (rs := [1]) (by kernel_rfl) (by simp) ?_⟩
          intro i hi'
          obtain rfl : i = 1 := by simpa using hi'
          refine op_val (d := 31) (v := va) (w' := w3.alloc (.cells #[.int .i64 XK, .slice ga pv gc] 82)) rfl rfl rfl (by go_simp) ?_
          simp only [Act.put, List.setIfInBounds_toArray, List.set_cons_zero, List.set_cons_succ]
          refine ⟨hA2, wpAnyH_all (rs := [10]) (by kernel_rfl) (by simp) ?_⟩
          intro i hi'
          obtain rfl : i = 10 := by simpa using hi'
          refine op_appL rfl rfl rfl _ _ 40 rfl (B + 1) 82 i0 (.agg #[.int .i64 0, .slice none 0 0]) 2 32 Try.underlying40 hi hz0 hz1 hz2 rfl (by decide) va _ _ rfl hown0 ⟨w3.heap.size, 0, none⟩ 1 1 [.int .i64 XK, .slice ga pv gc] rfl rfl (World.news_of_block hnew) (by simp [Value.oneCell']) (by omega) (by unfold maxLen; omega) (by omega) (by simp; omega) ?_
          intro gg cap w4 hown1 hgrow1 hlie hlt2
          simp only [Act.put, List.setIfInBounds_toArray, List.set_cons_zero, List.set_cons_succ]
          obtain ⟨hN, hB2, hb2⟩ := HR.out.step (r := ⟨XK, ga, pv, gc⟩) hkl hK3 hVB HX.out.1 hi3 hown1 hgrow1 hlie
          refine ⟨KA.of hB2, wpAnyH_all (rs := [11]) (by kernel_rfl) (by simp) ?_⟩
          intro i hi'
          obtain rfl : i = 11 := by simpa using hi'
          refine op_val (d := 41) (v := .pointer (some ⟨B, 1, none⟩)) (w' := w4) rfl rfl rfl (by go_simp) ?_
          simp only [Act.put, List.setIfInBounds_toArray, List.set_cons_zero, List.set_cons_succ]
          refine ⟨KA.of hB2, wpAnyH_all (rs := [12]) (by kernel_rfl) (by simp) ?_⟩
          intro i hi'
          obtain rfl : i = 12 := by simpa using hi'
          obtain ⟨z0, z1, zf, zlt⟩ := two_at hb2
          have zf1 := zf 1
          refine op_skipN (w' := w4.setCell ⟨B, 1, none⟩ (.slice (some ⟨gg, 0, none⟩) (cs.length + 1) cap)) rfl rfl (by go_simp) ?_
          simp only [Act.put]
          refine ⟨KA.of (hB2.setCell (by simp) _), wpAnyH_done (by kernel_rfl) (NoPanic.normal ?_) _⟩
          have HN : Hid _ := hN
          clear hN hB2 hb2 z0 z1 zf zlt zf1 hown1 hgrow1 hlie hlt2 hown0 hnew hVB hA hS hK3 hi3
          go_wp2
          go_roundw
          case rel => exact ⟨k + 1, by omega, by go_num, _, _, HN.out⟩
          case measure => simp [intOf]; omega
    · have HE : Hid (RD wr va (s.map (rnD nets)) ∧ Below w.heap.size w wr ∧ wr.heap[w.heap.size + 1]? = some (.cells #[.int .i64 0, .int .i64 0, .slice none 0 0] 48) ∧ NrS w wr B N (.slice a n c) va nets s cs s.length) := by
        have e : k = s.length := by rw [← H.out.2.1.1]; omega
        rw [e] at hR
        exact ⟨hR.out.rd, hR.out.bl, hR.out.b1, hR.out⟩
      have HL : Hid (rnL N s nets = s.map (rnD nets)) := HC.out.1.2.2
      obtain ⟨⟨hC1, hM1, _⟩, _⟩ := HC.out
      clear HC
      have hM2 := hM1.symm
      have hC2 := hC1.symm
      clear hM1 hC1
      subst hM2
      subst hC2
      obtain ⟨fa, fc, hf⟩ := HE.out.1.form
      obtain ⟨fl, hfl⟩ : ∃ fl, fl = (s.map (rnD nets)).length := ⟨_, rfl⟩
      rw [← hfl] at hf
      subst hf
      obtain ⟨r0, r1, r2, rf, rlt⟩ := three_at' HE.out.2.2.1
      have rf0 := rf 0
      have rf1 := rf 1
      have rf2 := rf 2
      obtain ⟨W2, hW2⟩ : ∃ W2, W2 = ((wr.setCell ⟨w.heap.size + 1, 0, none⟩ (.int .i64 0)).setCell ⟨w.heap.size + 1, 1, none⟩ (.int .i64 N)).setCell ⟨w.heap.size + 1, 2, none⟩ (.slice fa fl fc) := ⟨_, rfl⟩
      have e1 : W2.heap[w.heap.size + 1]? = some (.cells #[.int .i64 0, .int .i64 N, .slice fa fl fc] 48) := by
        have s0 := heap_setCell_same _ _ 0 _ _ (.int .i64 0) HE.out.2.2.1
        have s1 := heap_setCell_same _ _ 1 _ _ (.int .i64 N) s0
        have s2 := heap_setCell_same _ _ 2 _ _ (.slice fa fl fc) s1
        rw [hW2]
        simpa using s2
      have HF : Hid (RD W2 (.slice fa fl fc) (s.map (rnD nets)) ∧ Below w.heap.size w W2) := by
        have ho : ∀ q, B + 1 ≤ q → W2.heap[q]? = wr.heap[q]? := fun q hq => by
          rw [hW2, heap_setCell_other _ _ _ _ (by simp; omega), heap_setCell_other _ _ _ _ (by simp; omega), heap_setCell_other _ _ _ _ (by simp; omega)]
        have hsz : wr.heap.size ≤ W2.heap.size := by rw [hW2]; simp
        have hN := HE.out.2.2.2
        refine ⟨⟨cs, (OG.rg rdC_len hN.row).kept (fun q hq => ho q (OG.lt hN.row q hq).1) hsz, ⟨by simp [hN.len], fun i h1 h2 => ?_⟩⟩, ?_⟩
        · have h3 : i < s.length := by simpa using h2
          refine ⟨?_, ?_⟩
          · rw [hN.k i h1 h3]; simp [rnD]
          · have := (hN.p i h1 h3).rg.kept (fun q hq => ho q (IS.lt (hN.p i h1 h3) q hq).1) hsz
            simpa [rnD] using this
        · rw [hW2]
          exact ((HE.out.2.1.setCell (by simp) _).setCell (by simp) _).setCell (by simp) _
      obtain ⟨t0, t1, t2, tf, tl⟩ := three_at' e1
      have HW2 : Hid _ := hW2
      clear hR hW2 e1 hfl
      go_wp2
      rw [← HW2.out]
      refine bodyPost_ret (by simp [results, Try.results18, go_sem, t0, t1, t2]) rfl ⟨.slice fa fl fc, rfl, by rw [HL.out]; exact HF.out.1, HF.out.2⟩

end Go.Proofs.Ytbfieehlekgjeaa
