/- Proved here: 'the program's FillArea answers as the model's; it writes into no argument and keeps nothing of one; its answer owns its memory, behind another call too', for every box, every list of boxes and every three numbers, without a condition. -/
import Derived.Test.YtpfnhiohbgconaaFaS
import Derived.Test.YtpfnhiohbgconaaOpenBx
import Derived.Test.YtpfnhiohbgconaaLawSC
import Derived.Test.YtpfnhiohbgconaaRows
namespace Go.Proofs.Ytpfnhiohbgconaa
open Go.ChangeShapes Go.WideShapes Go.ChangeAt Go.RowKit Go.Joins
set_option linter.unusedVariables false
set_option linter.unusedSimpArgs false

/-- What stands while the law goes on. -/
structure SS (w : World) (K0 K1 : Nat) (C : Int) (vs vg vr : Value) (L : List Bx) (cg : List Value) (V : World) : Prop where
  k0 : V.heap[K0]? = some (.cells #[.int .i64 C, vs] 28)
  k1 : V.heap[K1]? = some (.cells #[.int .i64 C, vg] 28)
  is : BS V w.heap.size vs L
  ig : RW V w.heap.size vr L.length cg
  bl : Below w.heap.size w V
theorem lt_blk {V : World} {k : Nat} {o : Obj} (h : V.heap[k]? = some o) : k < V.heap.size := by
  rcases Nat.lt_or_ge k V.heap.size with h' | h'
  · exact h'
  · rw [Array.getElem?_eq_none h'] at h; cases h
theorem SS.next {w : World} {K0 K1 : Nat} {C : Int} {vs vg vr : Value} {L : List Bx} {cg : List Value} {V V' : World} (h : SS w K0 K1 C vs vg vr L cg V) (hb : Below V.heap.size V V') : SS w K0 K1 C vs vg vr L cg V' :=
  ⟨(hb.block _ (lt_blk h.k0)).trans h.k0, (hb.block _ (lt_blk h.k1)).trans h.k1, h.is.below hb, h.ig.below hb, h.bl.trans (hb.mono h.bl.size)⟩
theorem SS.only {w : World} {K0 K1 g : Nat} {C : Int} {vs vg vr : Value} {L : List Bx} {cg : List Value} {V V' : World} (h : SS w K0 K1 C vs vg vr L cg V) (hb : Only g V V') (hw : w.heap.size ≤ g) (h0 : K0 ≠ g) (h1 : K1 ≠ g) (hs : vs.ownBlock ≠ some g) (hg : vr.ownBlock ≠ some g) : SS w K0 K1 C vs vg vr L cg V' :=
  ⟨(hb.block _ h0).trans h.k0, (hb.block _ h1).trans h.k1, h.is.kept fun k hk => hb.block k (fun e => hs (by rw [hk, e])), h.ig.only hb hg, h.bl.trans (hb.below hw)⟩
theorem SS.cells {w : World} {K0 K1 : Nat} {C : Int} {vs vg vr : Value} {L : List Bx} {cg : List Value} {V : World} (h : SS w K0 K1 C vs vg vr L cg V) :
    V.cell? ⟨K0, 0, none⟩ = some (.int .i64 C) ∧ V.cell? ⟨K0, 1, none⟩ = some vs ∧ V.cell? ⟨K1, 0, none⟩ = some (.int .i64 C) ∧ V.cell? ⟨K1, 1, none⟩ = some vg := by
  simp [World.cell?, h.k0, h.k1]

set_option maxRecDepth 10000 in
set_option maxHeartbeats 8000000 in
theorem law_fa (A : Bx) {a : Option Addr} {n c : Nat} (s : List Bx) (hm : s.length ≤ maxLen) {w : World} (h : RB w (.slice a n c) s) (x y u : Int) :
    Calls Try.prog 3 #[.agg #[.int .i64 A.x0, .int .i64 A.y0, .int .i64 A.x1, .int .i64 A.y1], .slice a n c, .int .i64 x, .int .i64 y, .int .i64 u] w fun e w' => e = .returned (.bool true) ∧ Below w.heap.size w w' := by
  have hlen : s.length = n := by obtain ⟨_, _, e⟩ := h.form; injection e with _ e2 _; exact e2.symm
  have H : Hid (RB w (.slice a n c) s ∧ s.length = n) := ⟨h, hlen⟩
  rw [hlen] at hm
  unfold maxLen at hm
  clear h hlen
  by_cases hbig : (n : Int) ≤ 1048576
  · have hS : Hid (s.length ≤ 1048576) := by unfold Hid; rw [H.out.2]; omega
    obtain ⟨C, hC⟩ : ∃ C, C = faC A s x y u := ⟨_, rfl⟩
    obtain ⟨L, hL⟩ : ∃ L, L = faL A s x y u := ⟨_, rfl⟩
    have hLl : L.length ≤ 150 := by rw [hL]; exact faL_length A s x y u
    have HSP : Hid (∀ {W : World} {g : Nat}, RB W (.slice (some ⟨g, 0, none⟩) s.length s.length) s → Calls Try.prog 9 #[.agg #[.int .i64 A.x0, .int .i64 A.y0, .int .i64 A.x1, .int .i64 A.y1], .slice (some ⟨g, 0, none⟩) s.length s.length, .int .i64 x, .int .i64 y, .int .i64 u] W fun e w' => ∃ vs, e = .returned (.agg #[.int .i64 C, vs]) ∧ BS w' W.heap.size vs L ∧ Below W.heap.size W w') := fun {W g} h => by rw [hC, hL]; exact spec_fill A x y u hS.out h
    have HIM : Hid (∀ {W : World} {a : Option Addr}, RB W (.slice a s.length s.length) s → Calls Try.prog 12 #[.agg #[.int .i64 A.x0, .int .i64 A.y0, .int .i64 A.x1, .int .i64 A.y1], .slice a s.length s.length, .int .i64 x, .int .i64 y, .int .i64 u] W fun e w' => ∃ vs, e = .returned (.agg #[.int .i64 C, vs]) ∧ BC w' W.heap.size vs L ∧ Below W.heap.size W w') := fun {W a} h => by rw [hC, hL]; exact impl_fill A x y u hS.out (Nat.le_refl _) h
    clear hC hL
    go_enter Try.func3, Try.ntmps3
    go_wp2_with (fail)
    refine (szBoxS_few a n c _ hbig).mono ?_
    rintro e w0 ⟨rfl, hw0⟩
    have HA : Hid (w0.heap[w.heap.size]? = some (.cells #[.int .i64 A.x0, .int .i64 A.y0, .int .i64 A.x1, .int .i64 A.y1] 23) ∧ Below w.heap.size w w0 ∧ w.heap.size < w0.heap.size) := by rw [hw0]; exact ⟨heap_alloc_new w _, by (repeat' (first | (with_reducible exact Below.refl _ _) | (with_reducible assumption) | (with_reducible refine Below.setCell ?_ ?_ _) | (with_reducible refine Below.alloc ?_ ?_ _) | (with_reducible refine below_drewN ?_ _) | (with_reducible refine Below.drew ?_) | (with_reducible exact Nat.le_refl _) | omega | (simp; done) | (simp; omega))), by simp⟩
    have H2 : Hid (RB w0 (.slice a n c) s ∧ s.length = n) := ⟨H.out.1.below HA.out.2.1, H.out.2⟩
    clear H hw0
    have H : Hid (RB w0 (.slice a n c) s ∧ s.length = n) := H2.out
    clear H2
    have hneg : ¬ 1048576 - (n : Int) < 0 := by omega
    obtain ⟨p0, p1, p2, p3, pl⟩ := mt_four HA.out.1
    go_wp2_with (fail)
    refine (toBox_any A _).mono ?_
    rintro e wa ⟨rfl, hba⟩
    have Ba : Hid (Below w0.heap.size w0 wa) := hba
    clear hba p0 p1 p2 p3 pl
    go_wp2_with (fail)
    refine (toBoxS_any hS.out (H.out.1.below Ba.out)).mono ?_
    rintro e w1 ⟨g1, rfl, hs1, hb1⟩
    have R1 : Hid (RB w1 (.slice (some ⟨g1, 0, none⟩) s.length s.length) s) := hs1.rb
    have B1 : Hid (Below w0.heap.size w0 w1) := Ba.out.trans (hb1.mono Ba.out.size)
    clear hs1 hb1
    go_wp2_with (fail)
    refine (HSP.out R1.out).mono ?_
    rintro e w2 ⟨vs, rfl, hvs, hb2⟩
    obtain ⟨sa, sc, hvf⟩ := hvs.form
    subst hvf
    have B2 : Hid (Below w0.heap.size w0 w2) := B1.out.trans (hb2.mono B1.out.size)
    have I2 : Hid (BS w2 w0.heap.size (.slice sa L.length sc) L) := hvs.low B1.out.size
    clear hb2 hvs
    go_wp2_with (fail)
    obtain ⟨W2, hW2⟩ : ∃ W2, W2 = w2.alloc (.cells #[.int .i64 C, .slice sa L.length sc] 28) := ⟨_, rfl⟩
    rw [← hW2]
    have hbW2 : Below w2.heap.size w2 W2 := by rw [hW2]; exact (Below.refl _ _).alloc (Nat.le_refl _) _
    have HK2 : Hid (W2.heap[w2.heap.size]? = some (.cells #[.int .i64 C, .slice sa L.length sc] 28) ∧ w2.heap.size < W2.heap.size) := by rw [hW2]; exact ⟨heap_alloc_new _ _, by simp⟩
    have BW2 : Hid (Below w0.heap.size w0 W2) := B2.out.trans (hbW2.mono B2.out.size)
    have IW2 : Hid (BS W2 w0.heap.size (.slice sa L.length sc) L) := I2.out.below hbW2
    have hvs2 : Hid (∀ g, (Value.slice sa L.length sc).ownBlock = some g → g < w2.heap.size) := fun g hg => (World.ownsRow.lt I2.out g hg).2
    clear hW2 hbW2
    refine (toBoxS_any hS.out (H.out.1.below BW2.out)).mono ?_
    rintro e w3 ⟨g3, rfl, hs3, hb3⟩
    have X3 : Hid (BS w3 W2.heap.size (.slice (some ⟨g3, 0, none⟩) s.length s.length) s) := hs3
    have hg3 : Hid (W2.heap.size ≤ g3 ∧ g3 < w3.heap.size) := World.ownsRow.lt hs3 g3 rfl
    have B3 : Hid (Below w0.heap.size w0 w3) := BW2.out.trans (hb3.mono BW2.out.size)
    have K3 : Hid (w3.heap[w2.heap.size]? = some (.cells #[.int .i64 C, .slice sa L.length sc] 28)) := (hb3.block _ HK2.out.2).trans HK2.out.1
    have I3 : Hid (BS w3 w0.heap.size (.slice sa L.length sc) L) := IW2.out.below hb3
    clear hs3 hb3
    obtain ⟨p0, p1, p2, p3, pl⟩ := mt_four ((B3.out.block _ HA.out.2.2).trans HA.out.1)
    go_wp2_with (fail)
    refine (toBox_any A _).mono ?_
    rintro e w3b ⟨rfl, hbb⟩
    have X3b : Hid (BS w3b W2.heap.size (.slice (some ⟨g3, 0, none⟩) s.length s.length) s) := X3.out.below hbb
    have hg3b : Hid (W2.heap.size ≤ g3 ∧ g3 < w3b.heap.size) := ⟨hg3.out.1, Nat.lt_of_lt_of_le hg3.out.2 hbb.size⟩
    have B3b : Hid (Below w0.heap.size w0 w3b) := B3.out.trans (hbb.mono B3.out.size)
    have K3b : Hid (w3b.heap[w2.heap.size]? = some (.cells #[.int .i64 C, .slice sa L.length sc] 28)) := (hbb.block _ (lt_blk K3.out)).trans K3.out
    have I3b : Hid (BS w3b w0.heap.size (.slice sa L.length sc) L) := I3.out.below hbb
    clear hbb p0 p1 p2 p3 pl X3 hg3 B3 K3 I3
    go_wp2_with (fail)
    refine (HIM.out X3b.out.rb).mono ?_
    rintro e w4 ⟨vg, rfl, hvg, hb4⟩
    obtain ⟨ga, gr, gc, rfl, hvg⟩ := hvg
    have hvg4 : Hid (∀ g, (Value.slice ga L.length gr).ownBlock = some g → w3b.heap.size ≤ g ∧ g < w4.heap.size) := fun g hg => World.ownsRow.lt hvg g hg
    have hz34 : Hid (w3b.heap.size ≤ w4.heap.size) := hb4.size
    have S4 : Hid (SS w0 w2.heap.size w4.heap.size C (.slice sa L.length sc) (.slice ga L.length gc) (.slice ga L.length gr) L (bflat L) (w4.alloc (.cells #[.int .i64 C, .slice ga L.length gc] 28)) ∧ BS (w4.alloc (.cells #[.int .i64 C, .slice ga L.length gc] 28)) W2.heap.size (.slice (some ⟨g3, 0, none⟩) s.length s.length) s) := by
      have ha : Below w4.heap.size w4 (w4.alloc (.cells #[.int .i64 C, .slice ga L.length gc] 28)) := (Below.refl _ _).alloc (Nat.le_refl _) _
      have hb34 : Below w3b.heap.size w3b (w4.alloc (.cells #[.int .i64 C, .slice ga L.length gc] 28)) := hb4.trans (ha.mono hb4.size)
      refine ⟨⟨(hb34.block _ (lt_blk K3b.out)).trans K3b.out, heap_alloc_new _ _, I3b.out.below hb34, (hvg.low B3b.out.size).below ha, B3b.out.trans (hb34.mono B3b.out.size)⟩, X3b.out.below hb34⟩
    have hk01 : w2.heap.size < w4.heap.size := by have h1 := HK2.out.2; have h2 := hg3b.out; have h3 := hb4.size; omega
    have p4 : w4.cell? ⟨w2.heap.size, 0, none⟩ = some (.int .i64 C) ∧ w4.cell? ⟨w2.heap.size, 1, none⟩ = some (.slice sa L.length sc) := by
      have := (hb4.block _ (lt_blk K3b.out)).trans K3b.out
      simp [World.cell?, this]
    obtain ⟨p40, p41⟩ := p4
    clear hvg hb4
    go_wp2_with (fail)
    clear p40 p41
    obtain ⟨V4, hV4⟩ : ∃ V4, V4 = w4.alloc (.cells #[.int .i64 C, .slice ga L.length gc] 28) := ⟨_, rfl⟩
    rw [← hV4] at S4 ⊢
    clear hV4
    obtain ⟨K0, hK0⟩ : ∃ K0, K0 = w2.heap.size := ⟨_, rfl⟩
    obtain ⟨K1, hK1⟩ : ∃ K1, K1 = w4.heap.size := ⟨_, rfl⟩
    have HSEP : Hid (K0 < g3 ∧ g3 < K1 ∧ w0.heap.size ≤ K0 ∧ (∀ g, (Value.slice sa L.length sc).ownBlock = some g → g < K0) ∧ (∀ g, (Value.slice ga L.length gr).ownBlock = some g → g3 < g ∧ g < K1)) := by
      rw [hK0, hK1]
      have h1 := HK2.out.2
      have h2 := hg3b.out
      have h3 := hz34.out
      exact ⟨by omega, by omega, B2.out.size, hvs2.out, fun g hg => by have := hvg4.out g hg; omega⟩
    rw [← hK0, ← hK1] at S4 hk01
    rw [← hK0, ← hK1]
    clear hK0 hK1 HK2 hg3b hz34 hvs2 hvg4
    refine (eqSR_same C L _ _ _ (by omega) (show RB V4 (.slice ga L.length gc) L from BC.rb (B := w0.heap.size) ⟨ga, gr, gc, rfl, S4.out.1.ig⟩) S4.out.1.is.rb).mono ?_
    rintro e V5 ⟨rfl, hb5⟩
    have S5 : Hid (SS w0 K0 K1 C (.slice sa L.length sc) (.slice ga L.length gc) (.slice ga L.length gr) L (bflat L) V5 ∧ BS V5 W2.heap.size (.slice (some ⟨g3, 0, none⟩) s.length s.length) s) := ⟨S4.out.1.next hb5, S4.out.2.below hb5⟩
    clear S4 hb5
    go_wp2_with (fail)
    refine (toBoxS_any hS.out (H.out.1.below S5.out.1.bl)).mono ?_
    rintro e V6 ⟨g6, rfl, hs6, hb6⟩
    have S6 : Hid (SS w0 K0 K1 C (.slice sa L.length sc) (.slice ga L.length gc) (.slice ga L.length gr) L (bflat L) V6 ∧ BS V6 W2.heap.size (.slice (some ⟨g3, 0, none⟩) s.length s.length) s ∧ RB V6 (.slice (some ⟨g6, 0, none⟩) s.length s.length) s) := ⟨S5.out.1.next hb6, S5.out.2.below hb6, hs6.rb⟩
    clear S5 hs6 hb6
    go_wp2_with (fail)
    refine (eqBoxS_same (by have := hS.out; omega) S6.out.2.1.rb S6.out.2.2).mono ?_
    rintro e V7 ⟨rfl, hb7⟩
    have S7 : Hid (SS w0 K0 K1 C (.slice sa L.length sc) (.slice ga L.length gc) (.slice ga L.length gr) L (bflat L) V7 ∧ BS V7 W2.heap.size (.slice (some ⟨g3, 0, none⟩) s.length s.length) s) := ⟨S6.out.1.next hb7, S6.out.2.1.below hb7⟩
    clear S6 hb7
    go_wp2_with (fail)
    refine (mark_any (B := W2.heap.size) hS.out S7.out.2).mono ?_
    rintro e V8 ⟨rfl, _, gm, _, hgm, hon⟩
    have S8 : Hid (SS w0 K0 K1 C (.slice sa L.length sc) (.slice ga L.length gc) (.slice ga L.length gr) L (bflat L) V8) := by
      rcases hgm with hgm | hgm
      · injection hgm with hgm
        have hgm' : g3 = gm := hgm
        subst hgm'
        have hq := HSEP.out
        exact S7.out.1.only hon (by omega) (by omega) (by omega) (fun e => by have := hq.2.2.2.1 g3 e; omega) (fun e => by have := (hq.2.2.2.2 g3 e).1; omega)
      · rw [hgm]; exact S7.out.1
    have hk1 : ¬ (1 + 4 * (s.length : Int)) < 0 := by omega
    clear S7 hgm hon
    obtain ⟨q0, q1, q2, q3⟩ := S8.out.cells
    go_wp2_with (fail)
    clear q0 q1 q2 q3
    refine (eqSR_same C L _ _ _ (by omega) (show RB V8 (.slice ga L.length gc) L from BC.rb (B := w0.heap.size) ⟨ga, gr, gc, rfl, S8.out.ig⟩) S8.out.is.rb).mono ?_
    rintro e V9 ⟨rfl, hb9⟩
    have S9 : Hid (SS w0 K0 K1 C (.slice sa L.length sc) (.slice ga L.length gc) (.slice ga L.length gr) L (bflat L) V9) := S8.out.next hb9
    clear S8 hb9
    obtain ⟨q0, q1, q2, q3⟩ := S9.out.cells
    go_wp2_with (fail)
    clear q0 q1 q2 q3
    refine (markSC C L.length _ ga gr gc w0.heap.size _ (by omega) S9.out.bl.size S9.out.ig).mono ?_
    rintro e V10 ⟨rfl, hm10, gq, hgq, hgo, hsv⟩
    have S10 : Hid (SS w0 K0 K1 C (.slice sa L.length sc) (.slice ga L.length gc) (.slice ga L.length gr) L (marks (L.length * 4)) V10) := by
      have hq := HSEP.out
      have l0 := lt_blk S9.out.k0
      have l1 := lt_blk S9.out.k1
      have hne : K0 ≠ gq ∧ K1 ≠ gq ∧ ∀ j, (Value.slice sa L.length sc).ownBlock = some j → j ≠ gq := by
        rcases hgo with hgo | hgo
        · have h5 := hq.2.2.2.2 gq hgo
          exact ⟨by omega, by omega, fun j hj => by have := hq.2.2.2.1 j hj; omega⟩
        · exact ⟨by omega, by omega, fun j hj => by have := hq.2.2.2.1 j hj; omega⟩
      refine ⟨(hsv.block _ l0 hne.1).trans S9.out.k0, (hsv.block _ l1 hne.2.1).trans S9.out.k1, S9.out.is.kept (fun j hj => hsv.block _ (World.ownsRow.lt S9.out.is j hj).2 (hne.2.2 j hj)), hm10, ?_⟩
      exact S9.out.bl.trans ⟨hsv.os, hsv.tape, hsv.output, hsv.size, fun j hj => hsv.block j (by have := S9.out.bl.size; omega) (by omega)⟩
    clear S9 hm10 hgq hgo hsv
    have hk2 : ¬ (1 + 4 * (L.length : Int)) < 0 := by omega
    obtain ⟨q0, q1, q2, q3⟩ := S10.out.cells
    go_wp2_with (fail)
    clear q0 q1 q2 q3
    refine (heldSC C L.length ga gr gc w0.heap.size _ (by omega) S10.out.ig).mono ?_
    rintro e V11 ⟨rfl, hb11⟩
    have S11 : Hid (SS w0 K0 K1 C (.slice sa L.length sc) (.slice ga L.length gc) (.slice ga L.length gr) L (marks (L.length * 4)) V11) := S10.out.next hb11
    clear S10 hb11
    obtain ⟨p0, p1, p2, p3, pl⟩ := mt_four ((S11.out.bl.block _ HA.out.2.2).trans HA.out.1)
    go_wp2_with (fail)
    refine (toBox_any A _).mono ?_
    rintro e V11b ⟨rfl, hbb⟩
    have S11b := S11.out.next hbb
    clear S11 hbb p0 p1 p2 p3 pl
    have S11 : Hid (SS w0 K0 K1 C (.slice sa L.length sc) (.slice ga L.length gc) (.slice ga L.length gr) L (marks (L.length * 4)) V11b) := S11b
    clear S11b
    go_wp2_with (fail)
    refine (toBoxS_any hS.out (H.out.1.below S11.out.bl)).mono ?_
    rintro e V12 ⟨g12, rfl, hs12, hb12⟩
    have S12 : Hid (SS w0 K0 K1 C (.slice sa L.length sc) (.slice ga L.length gc) (.slice ga L.length gr) L (marks (L.length * 4)) V12 ∧ RB V12 (.slice (some ⟨g12, 0, none⟩) s.length s.length) s) := ⟨S11.out.next hb12, hs12.rb⟩
    clear S11 hs12 hb12
    go_wp2_with (fail)
    refine (HIM.out S12.out.2).mono ?_
    rintro e w13 ⟨vh, rfl, hvh, hb13⟩
    have hvr := hvh.rb
    obtain ⟨ha, hr0, hcap, rfl, hvh⟩ := hvh
    have S13 : Hid (SS w0 K0 K1 C (.slice sa L.length sc) (.slice ga L.length gc) (.slice ga L.length gr) L (marks (L.length * 4)) w13 ∧ RB w13 (.slice ha L.length hcap) L) := ⟨S12.out.1.next hb13, hvr⟩
    clear S12 hvh hvr hb13
    obtain ⟨q0, q1, q2, q3⟩ := S13.out.1.cells
    have l0 := lt_blk S13.out.1.k0
    go_wp2_with (fail)
    clear q0 q1 q2 q3
    obtain ⟨V13, hV13⟩ : ∃ V13, V13 = w13.alloc (.cells #[.int .i64 C, .slice ha L.length hcap] 28) := ⟨_, rfl⟩
    rw [← hV13]
    have hbV : Below w13.heap.size w13 V13 := by rw [hV13]; exact (Below.refl _ _).alloc (Nat.le_refl _) _
    have S14 : Hid (SS w0 K0 K1 C (.slice sa L.length sc) (.slice ga L.length gc) (.slice ga L.length gr) L (marks (L.length * 4)) V13 ∧ RB V13 (.slice ha L.length hcap) L) := ⟨S13.out.1.next hbV, S13.out.2.below hbV⟩
    clear hV13 hbV S13
    refine (eqSR_same C L _ _ _ (by omega) S14.out.2 S14.out.1.is.rb).mono ?_
    rintro e V15 ⟨rfl, hb15⟩
    have S15 : Hid (SS w0 K0 K1 C (.slice sa L.length sc) (.slice ga L.length gc) (.slice ga L.length gr) L (marks (L.length * 4)) V15) := S14.out.1.next hb15
    clear S14 hb15
    obtain ⟨q0, q1, q2, q3⟩ := S15.out.cells
    go_wp2_with (fail)
    clear q0 q1 q2 q3
    refine (heldSC C L.length ga gr gc w0.heap.size _ (by omega) S15.out.ig).mono ?_
    rintro e V16 ⟨rfl, hb16⟩
    have S16 : Hid (Below w0.heap.size w0 V16) := (S15.out.next hb16).bl
    clear S15 hb16
    go_wp2
    go_returns
    exact ⟨rfl, HA.out.2.1.trans (S16.out.mono HA.out.2.1.size)⟩
  · have hgt : (1048576 : Int) < (n : Int) := by omega
    go_enter Try.func3, Try.ntmps3
    go_wp2_with (fail)
    refine (szBoxS_many a n c _ hgt (by omega)).mono ?_
    rintro e w0 ⟨rfl, hw0⟩
    obtain rfl := hw0
    go_wp2
    go_returns
    exact ⟨rfl, by (repeat' (first | (with_reducible exact Below.refl _ _) | (with_reducible assumption) | (with_reducible refine Below.setCell ?_ ?_ _) | (with_reducible refine Below.alloc ?_ ?_ _) | (with_reducible refine below_drewN ?_ _) | (with_reducible refine Below.drew ?_) | (with_reducible exact Nat.le_refl _) | omega | (simp; done) | (simp; omega)))⟩

set_option maxRecDepth 100000 in
theorem fa_lifted (os : Os) (started : os.Started) (H : Type) (enc : TypeId × Value → H) :
    ReturnsInHanded {} Try.checked os 3 .any (Rows.fnExactFillAreaSpec.pre6 enc Try.prog Try.f3 Rows.fnExactFillAreaRow.domain false) (Rows.fnExactFillAreaSpec.post enc Try.prog Try.f3 false true false false) := by
  refine returnsInHanded_of_change (C := Try.checked) own started (by kernel_rfl) Try.func3
    (ChangeSpec.witness6 (enc := enc) (C := Try.checked) false ⟨#[], #[.agg #[.int .i64 0, .int .i64 0, .int .i64 0, .int .i64 0], .slice none 0 0, .int .i64 0, .int .i64 0, .int .i64 0], []⟩ 8 (by kernel_rfl) (by kernel_rfl) (by kernel_rfl) (by kernel_rfl)) ?_
  intro W base args ds gs before hval0 hW hcnd _
  have hval : ∀ (j : Nat) t v, Try.f3.params[j]? = some t → args[j]? = some v → Value.okWide Try.prog W .any base t v := hval0
  have hW' := hW
  obtain ⟨p, q, hA0, hV, rfl, hfz, hnd⟩ := hW
  have hA : DataW.TrodAll enc Try.prog W 0 (fun _ => true) true Try.f3.params.toList args.toList ds p := hA0
  rw [Try.params3] at hA hval
  obtain ⟨v0, vs0, d0, ds0, p0, q0, hargs, rfl, rfl, h0, r0⟩ := trodAll_cons hA
  obtain ⟨v1, vs1, d1, ds1, p1, q1, rfl, rfl, rfl, h1, r1⟩ := trodAll_cons r0
  obtain ⟨v2, vs2, d2, ds2, p2, q2, rfl, rfl, rfl, h2, r2⟩ := trodAll_cons r1
  obtain ⟨v3, vs3, d3, ds3, p3, q3, rfl, rfl, rfl, h3, r3⟩ := trodAll_cons r2
  obtain ⟨v4, vs4, d4, ds4, p4, q4, rfl, rfl, rfl, h4, r4⟩ := trodAll_cons r3
  obtain ⟨rfl, rfl, rfl⟩ := trodAll_nil r4
  obtain rfl : args = #[v0, v1, v2, v3, v4] := by cases args; simp_all
  obtain ⟨rfl, rfl⟩ := trodVars_none hV
  obtain ⟨b0, rfl, rfl, rfl, wa0, wb0, wc0, wd0⟩ := box_open (hval 0 23 v0 rfl rfl) h0
  have k1 := h1
  have lt1 : ∀ x ∈ p1, x.block < W.heap.size := by obtain ⟨m, hm⟩ := k1; exact DataW.trod_lt m _ _ _ hm
  obtain ⟨sa1, sn1, sc1, s1, rfl, rb1, sl1⟩ := boxes_open (hval 1 24 v1 rfl rfl) h1
  obtain ⟨n2, rfl, rfl, rfl, wn2⟩ := open_int Try.underlying2 (hval 2 2 v2 rfl rfl) h2
  obtain ⟨n3, rfl, rfl, rfl, wn3⟩ := open_int Try.underlying2 (hval 3 2 v3 rfl rfl) h3
  obtain ⟨n4, rfl, rfl, rfl, wn4⟩ := open_int Try.underlying2 (hval 4 2 v4 rfl rfl) h4
  clear hA0 hval0
  refine (law_fa b0 s1 sl1 rb1 n2 n3 n4).mono fun e W' ⟨he, hg⟩ => ?_
  subst he
  exact ⟨_, rfl, _, _, _, [], _, [], hW', trodAll_mk1 (shut_bool Try.underlying4 _), (trodAll_cons_mk (box_shut wa0 wb0 wc0 wd0) (trodAll_cons_mk (Below.trod laidOut (by kernel_rfl) (of_decide_eq_true (by kernel_rfl)) k1 hg lt1) (trodAll_cons_mk (shut_int Try.underlying2 wn2) (trodAll_cons_mk (shut_int Try.underlying2 wn3) (trodAll_cons_mk (shut_int Try.underlying2 wn4) trodAll_mk0))))), rfl, hg.frame _, fun h => by cases h⟩

theorem fa_over : Rows.fnExactFillAreaRow.holds Try.pinned (OpenSpec.ofChange Rows.fnExactFillAreaSpec) :=
  OpenClaim.holds_of_wide 3 Try.f3 rfl rfl rfl rfl rfl rfl rfl ⟨rfl, rfl, rfl, rfl, rfl⟩ rfl rfl rfl rfl rfl (by kernel_rfl) Try.func3 (by kernel_rfl)
    (of_decide_eq_true (by kernel_rfl)) (by unfold Func.isWrapper; first | (rw [if_pos (by decide +kernel)]; kernel_rfl) | (rw [if_neg (by decide +kernel)]; exact ⟨rfl, rfl⟩))
    (fun os started H enc _ => fa_lifted os started H enc)

theorem fa_proved : Rows.FnExactFillAreaSaid :=
  fa_over
#print axioms fa_proved

end Go.Proofs.Ytpfnhiohbgconaa
