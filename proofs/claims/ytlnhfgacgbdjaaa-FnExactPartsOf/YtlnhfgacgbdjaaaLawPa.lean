/- Proved here: 'the program's PartsOf answers as the model's; it writes into no argument and keeps nothing of one; its answer owns its memory, behind another call too', for every list of boxes, without a condition. -/
import Derived.Test.YtlnhfgacgbdjaaaLawPS
import Derived.Test.YtlnhfgacgbdjaaaOpenBx
namespace Go.Proofs.Ytlnhfgacgbdjaaa
open Go.ChangeShapes Go.WideShapes Go.ChangeAt Go.RowKit Go.Joins
set_option linter.unusedVariables false
set_option linter.unusedSimpArgs false

/-- The blocks that a list of lists lies in. -/
def InB (v : Value) (vs : List Value) (m g : Nat) : Prop := v.ownBlock = some g ∨ ∃ i, i < m ∧ (vat vs i).ownBlock = some g
theorem PM.lt {w : World} {B g : Nat} {v : Value} {ls : List (List Bx)} {vs : List Value} {f : Nat → List Value} (h : PM w B v ls vs f) (hg : InB v vs ls.length g) : B ≤ g ∧ g < w.heap.size := by
  rcases hg with e | ⟨i, hi, e⟩
  · have := h.rowBlk e; exact ⟨this.1, this.2.1⟩
  · have := (h.bx i hi).blk e; exact ⟨this.1, this.2.1⟩
theorem PM.keep {w w' : World} {B : Nat} {v : Value} {ls : List (List Bx)} {vs : List Value} {f : Nat → List Value} (h : PM w B v ls vs f) (hb : ∀ g, InB v vs ls.length g → w'.heap[g]? = w.heap[g]?) : PM w' B v ls vs f :=
  h.kept (fun g hg => hb g (Or.inl hg)) fun i hi g hg => hb g (Or.inr ⟨i, hi, hg⟩)
theorem PM.low {w : World} {A B : Nat} {v : Value} {ls : List (List Bx)} {vs : List Value} {f : Nat → List Value} (h : PM w B v ls vs f) (hab : A ≤ B) : PM w A v ls vs f := by
  refine ⟨⟨h.o.1, ?_⟩, fun i hi => ?_, h.ds⟩
  · rcases h.o.2 with h' | ⟨g, cap, cur, rfl, hB, hr⟩
    · exact Or.inl h'
    · exact Or.inr ⟨g, cap, cur, rfl, by omega, hr⟩
  · obtain ⟨a, c, c', e, h1⟩ := h.bx i hi
    refine ⟨a, c, c', e, h1.1, ?_⟩
    rcases h1.2 with h' | ⟨g, cap, cur, e2, hB, hr⟩
    · exact Or.inl h'
    · exact Or.inr ⟨g, cap, cur, e2, by omega, hr⟩
theorem PM.toPL {w : World} {B : Nat} {v : Value} {ls : List (List Bx)} {vs : List Value} (h : PM w B v ls vs (fun i => bflat (ls.getD i []))) : PL w B v ls vs := by
  refine ⟨h.o, fun i hi => ?_, fun i j hij hj g hgi => h.ds i j (by omega) (by omega) hj g hgi⟩
  obtain ⟨a, c, c', e, h1⟩ := h.bx i hi
  exact ⟨a, c, c', e, h1⟩
theorem parts_few (s : List Bx) : (partsV s).length ≤ 150 ∧ ∀ i, ((partsV s).getD i []).length ≤ 45000 := by
  unfold partsV
  split
  · rename_i h
    have hl : s.length ≤ 150 := (boxesK_zero (shapeK_zeroP h).1).1
    have h1 := partsL_len s (partF s) s.length s.length
    refine ⟨by omega, fun i => ?_⟩
    have key : ∀ k, ∀ l ∈ partsL s (partF s) s.length k, l.length ≤ 45000 := by
      intro k
      induction k with
      | zero => intro l hl'; cases hl'
      | succ k ih =>
        intro l hl'
        simp only [partsL] at hl'
        split at hl'
        · rcases List.mem_append.1 hl' with h2 | h2
          · exact ih l h2
          · have e : l = opOf (takesK 1) (selB s (partF s) k s.length) [] := by simpa using h2
            have h3 := or_len (takesK 1) (selB s (partF s) k s.length)
            have h4 := selB_len s (partF s) k s.length
            have h5 : 2 * (selB s (partF s) k s.length).length * (selB s (partF s) k s.length).length ≤ 2 * 150 * 150 := Nat.mul_le_mul (Nat.mul_le_mul_left _ (by omega)) (by omega)
            rw [e]; omega
        · exact ih l hl'
    rw [List.getD_eq_getElem?_getD]
    cases hh : (partsL s (partF s) s.length s.length)[i]? with
    | none => simp
    | some l => simpa using key _ l (List.mem_of_getElem? hh)
  · simp
theorem tot_few {ls : List (List Bx)} (h : ∀ i, (ls.getD i []).length ≤ 45000) : ∀ i, tot ls i ≤ 45000 * i := by
  intro i
  induction i with
  | zero => exact Nat.le_refl _
  | succ i ih => simp only [tot]; have := h i; omega

set_option maxHeartbeats 800000 in
theorem eqPR {w : World} {A B : Nat} {va vb : Value} {ls : List (List Bx)} {us vs : List Value} (C : Int) (hl : ls.length ≤ 150) (hb : Hid (∀ i, (ls.getD i []).length ≤ 1048576)) (h : PL w A va ls us) (k : PL w B vb ls vs) :
    Calls Try.prog 9 #[.agg #[.int .i64 C, va], .agg #[.int .i64 C, vb]] w fun e w' => e = .returned (.bool true) ∧ Below w.heap.size w w' := by
  obtain ⟨a1, c1, rfl⟩ := h.form
  obtain ⟨a2, c2, rfl⟩ := k.form
  have H1 : Hid _ := h
  have H2 : Hid _ := k
  clear h k
  go_enter Try.func9, Try.ntmps9
  go_wp2_with (fail)
  refine (eqSS hl hb (H1.out.below (by (repeat' (first | (with_reducible exact Below.refl _ _) | (with_reducible assumption) | (with_reducible refine Below.setCell ?_ ?_ _) | (with_reducible refine Below.alloc ?_ ?_ _) | (with_reducible refine below_drewN ?_ _) | (with_reducible refine Below.drew ?_) | (with_reducible exact Nat.le_refl _) | omega | (simp; done) | (simp; omega))))) (H2.out.below (by (repeat' (first | (with_reducible exact Below.refl _ _) | (with_reducible assumption) | (with_reducible refine Below.setCell ?_ ?_ _) | (with_reducible refine Below.alloc ?_ ?_ _) | (with_reducible refine below_drewN ?_ _) | (with_reducible refine Below.drew ?_) | (with_reducible exact Nat.le_refl _) | omega | (simp; done) | (simp; omega)))))).mono ?_
  rintro e w' ⟨rfl, hb'⟩
  have HB : Hid (Below w.heap.size w w') := Below.trans (by (repeat' (first | (with_reducible exact Below.refl _ _) | (with_reducible assumption) | (with_reducible refine Below.setCell ?_ ?_ _) | (with_reducible refine Below.alloc ?_ ?_ _) | (with_reducible refine below_drewN ?_ _) | (with_reducible refine Below.drew ?_) | (with_reducible exact Nat.le_refl _) | omega | (simp; done) | (simp; omega)))) (hb'.mono (by simp; omega))
  clear hb'
  go_wp2
  go_returns
  exact ⟨rfl, HB.out⟩

/-- What was there is there still, but for the rows' own cells. -/
structure SaveR (vs : List Value) (m : Nat) (w w' : World) : Prop where
  os : w'.os = w.os
  tape : w'.tape = w.tape
  output : w'.output = w.output
  size : w.heap.size ≤ w'.heap.size
  block : ∀ k, k < w.heap.size → (∀ i, i < m → (vat vs i).ownBlock ≠ some k) → w'.heap[k]? = w.heap[k]?

set_option maxHeartbeats 800000 in
theorem markPR {w : World} {B : Nat} {v : Value} {ls : List (List Bx)} {vs : List Value} (C : Int) (hl : ls.length ≤ 150) (ht : Hid (∀ i, i ≤ ls.length → tot ls i ≤ 20000000)) (hb : Hid (∀ i, (ls.getD i []).length ≤ 1048576)) (h : PM w B v ls vs (fun i => bflat (ls.getD i []))) :
    Calls Try.prog 12 #[.agg #[.int .i64 C, v], .int .i64 1] w fun e w' => e = .returned (.int .i64 (1 + 4 * (tot ls ls.length : Int))) ∧ PM w' B v ls vs (fm ls ls.length) ∧ SaveR vs ls.length w w' := by
  obtain ⟨a1, c1, rfl⟩ := h.form
  have H : Hid _ := h
  clear h
  go_enter Try.func12, Try.ntmps12
  go_wp2_with (fail)
  refine (markSS hl ht hb (H.out.below (by (repeat' (first | (with_reducible exact Below.refl _ _) | (with_reducible assumption) | (with_reducible refine Below.setCell ?_ ?_ _) | (with_reducible refine Below.alloc ?_ ?_ _) | (with_reducible refine below_drewN ?_ _) | (with_reducible refine Below.drew ?_) | (with_reducible exact Nat.le_refl _) | omega | (simp; done) | (simp; omega)))))).mono ?_
  rintro e w1 ⟨rfl, hm, hon⟩
  go_wp2
  go_returns
  refine ⟨rfl, hm, ⟨hon.os, hon.tape, hon.output, ?_, fun k hk hkk => ?_⟩⟩
  · have hs := hon.size
    simp at hs
    omega
  · rw [hon.block k hkk]
    exact Below.heap_alloc _ _ _ hk

set_option maxHeartbeats 800000 in
theorem heldPR {w : World} {B : Nat} {v : Value} {ls : List (List Bx)} {vs : List Value} (C : Int) (hl : ls.length ≤ 150) (ht : Hid (∀ i, i ≤ ls.length → tot ls i ≤ 20000000)) (hb : Hid (∀ i, (ls.getD i []).length ≤ 1048576)) (h : PM w B v ls vs (fm ls ls.length)) :
    Calls Try.prog 13 #[.agg #[.int .i64 C, v], .int .i64 1] w fun e w' => e = .returned (.int .i64 (1 + 4 * (tot ls ls.length : Int))) ∧ Below w.heap.size w w' := by
  obtain ⟨a1, c1, rfl⟩ := h.form
  have H : Hid _ := h
  clear h
  have hneg : ¬ (1 + 4 * (tot ls ls.length : Int)) < 0 := by omega
  go_enter Try.func13, Try.ntmps13
  go_wp2_with (fail)
  refine (heldSS hl ht hb (H.out.below (by (repeat' (first | (with_reducible exact Below.refl _ _) | (with_reducible assumption) | (with_reducible refine Below.setCell ?_ ?_ _) | (with_reducible refine Below.alloc ?_ ?_ _) | (with_reducible refine below_drewN ?_ _) | (with_reducible refine Below.drew ?_) | (with_reducible exact Nat.le_refl _) | omega | (simp; done) | (simp; omega)))))).mono ?_
  rintro e w1 ⟨rfl, rfl⟩
  go_wp2
  go_returns
  exact ⟨rfl, by (repeat' (first | (with_reducible exact Below.refl _ _) | (with_reducible assumption) | (with_reducible refine Below.setCell ?_ ?_ _) | (with_reducible refine Below.alloc ?_ ?_ _) | (with_reducible refine below_drewN ?_ _) | (with_reducible refine Below.drew ?_) | (with_reducible exact Nat.le_refl _) | omega | (simp; done) | (simp; omega)))⟩

/-- What stands while the law goes on. -/
structure SP (w : World) (K0 K1 : Nat) (C : Int) (vs vg : Value) (L : List (List Bx)) (us gs : List Value) (f : Nat → List Value) (V : World) : Prop where
  k0 : V.heap[K0]? = some (.cells #[.int .i64 C, vs] 26)
  k1 : V.heap[K1]? = some (.cells #[.int .i64 C, vg] 26)
  is : PM V w.heap.size vs L us (fun i => bflat (L.getD i []))
  ig : PM V w.heap.size vg L gs f
  bl : Below w.heap.size w V
theorem lt_blkP {V : World} {k : Nat} {o : Obj} (h : V.heap[k]? = some o) : k < V.heap.size := by
  rcases Nat.lt_or_ge k V.heap.size with h' | h'
  · exact h'
  · rw [Array.getElem?_eq_none h'] at h; cases h
theorem SP.next {w : World} {K0 K1 : Nat} {C : Int} {vs vg : Value} {L : List (List Bx)} {us gs : List Value} {f : Nat → List Value} {V V' : World} (h : SP w K0 K1 C vs vg L us gs f V) (hb : Below V.heap.size V V') : SP w K0 K1 C vs vg L us gs f V' :=
  ⟨(hb.block _ (lt_blkP h.k0)).trans h.k0, (hb.block _ (lt_blkP h.k1)).trans h.k1, h.is.below hb, h.ig.below hb, h.bl.trans (hb.mono h.bl.size)⟩
theorem SP.only {w : World} {K0 K1 g : Nat} {C : Int} {vs vg : Value} {L : List (List Bx)} {us gs : List Value} {f : Nat → List Value} {V V' : World} (h : SP w K0 K1 C vs vg L us gs f V) (hb : Only g V V') (hw : w.heap.size ≤ g) (h0 : K0 ≠ g) (h1 : K1 ≠ g) (hs : ¬ InB vs us L.length g) (hg : ¬ InB vg gs L.length g) : SP w K0 K1 C vs vg L us gs f V' :=
  ⟨(hb.block _ h0).trans h.k0, (hb.block _ h1).trans h.k1, h.is.keep fun k hk => hb.block k (fun e => hs (by rw [← e]; exact hk)), h.ig.keep fun k hk => hb.block k (fun e => hg (by rw [← e]; exact hk)), h.bl.trans (hb.below hw)⟩
theorem SP.cells {w : World} {K0 K1 : Nat} {C : Int} {vs vg : Value} {L : List (List Bx)} {us gs : List Value} {f : Nat → List Value} {V : World} (h : SP w K0 K1 C vs vg L us gs f V) :
    V.cell? ⟨K0, 0, none⟩ = some (.int .i64 C) ∧ V.cell? ⟨K0, 1, none⟩ = some vs ∧ V.cell? ⟨K1, 0, none⟩ = some (.int .i64 C) ∧ V.cell? ⟨K1, 1, none⟩ = some vg := by
  simp [World.cell?, h.k0, h.k1]

set_option maxRecDepth 10000 in
set_option maxHeartbeats 8000000 in
theorem law_pa {a : Option Addr} {n c : Nat} (s : List Bx) (hm : s.length ≤ maxLen) {w : World} (h : RB w (.slice a n c) s) :
    Calls Try.prog 3 #[.slice a n c] w fun e w' => e = .returned (.bool true) ∧ Below w.heap.size w w' := by
  have hlen : s.length = n := by obtain ⟨_, _, e⟩ := h.form; injection e with _ e2 _; exact e2.symm
  have H : Hid (RB w (.slice a n c) s ∧ s.length = n) := ⟨h, hlen⟩
  rw [hlen] at hm
  unfold maxLen at hm
  clear h hlen
  by_cases hbig : (n : Int) ≤ 1048576
  · have hS : Hid (s.length ≤ 1048576) := by unfold Hid; rw [H.out.2]; omega
    obtain ⟨C, hC⟩ : ∃ C, C = shapeK s := ⟨_, rfl⟩
    obtain ⟨L, hL⟩ : ∃ L, L = partsV s := ⟨_, rfl⟩
    have hLl : L.length ≤ 150 := by rw [hL]; exact (parts_few s).1
    have HLE : Hid (∀ i, (L.getD i []).length ≤ 1048576) := fun i => by rw [hL]; have := (parts_few s).2 i; omega
    have HLT : Hid (∀ i, i ≤ L.length → tot L i ≤ 20000000) := fun i hi => by
      have h1 := tot_few (ls := L) (fun i => by rw [hL]; exact (parts_few s).2 i) i
      omega
    have HSP : Hid (∀ {W : World} {g : Nat}, RB W (.slice (some ⟨g, 0, none⟩) s.length s.length) s → Calls Try.prog 6 #[.slice (some ⟨g, 0, none⟩) s.length s.length] W fun e w' => ∃ v vs, e = .returned (.agg #[.int .i64 C, v]) ∧ PL w' W.heap.size v L vs ∧ Below W.heap.size W w') := fun {W g} h => by rw [hC, hL]; exact spec_partsOf (by have := hS.out; omega) (Nat.le_refl _) h
    have HIM : Hid (∀ {W : World} {g : Nat}, RB W (.slice (some ⟨g, 0, none⟩) s.length s.length) s → Calls Try.prog 8 #[.slice (some ⟨g, 0, none⟩) s.length s.length] W fun e w' => ∃ v vs, e = .returned (.agg #[.int .i64 C, v]) ∧ PL w' W.heap.size v L vs ∧ Below W.heap.size W w') := fun {W g} h => by rw [hC, hL]; exact impl_partsOf (by have := hS.out; omega) (Nat.le_refl _) h
    clear hC hL
    obtain ⟨T, hT⟩ : ∃ T : Int, T = 1 + 4 * (tot L L.length : Int) := ⟨_, rfl⟩
    have hT0 : ¬ T < 0 := by omega
    have HTE : Hid (T = 1 + 4 * (tot L L.length : Int)) := hT
    clear hT
    obtain ⟨m, hmm⟩ : ∃ m, m = L.length := ⟨_, rfl⟩
    have HM : Hid (m = L.length) := hmm
    clear hmm
    go_enter Try.func3, Try.ntmps3
    go_wp2_with (fail)
    refine (szBoxS_few a n c _ hbig).mono ?_
    rintro e w0 ⟨rfl, hw0⟩
    obtain rfl := hw0
    have hneg : ¬ 1048576 - (n : Int) < 0 := by omega
    go_wp2_with (fail)
    refine (toBoxS_any hS.out H.out.1).mono ?_
    rintro e w1 ⟨g1, rfl, hs1, hb1⟩
    have R1 : Hid (RB w1 (.slice (some ⟨g1, 0, none⟩) s.length s.length) s) := hs1.rb
    have B1 : Hid (Below w0.heap.size w0 w1) := hb1
    clear hs1 hb1
    go_wp2_with (fail)
    refine (HSP.out R1.out).mono ?_
    rintro e w2 ⟨vs, us, rfl, hvs, hb2⟩
    obtain ⟨sa, sc, hvf⟩ := hvs.form
    rw [← HM.out] at hvf
    subst hvf
    have B2 : Hid (Below w0.heap.size w0 w2) := B1.out.trans (hb2.mono B1.out.size)
    have I2 : Hid (PM w2 w0.heap.size (.slice sa m sc) L us (fun i => bflat (L.getD i []))) := hvs.pm.low B1.out.size
    clear hb2 hvs
    go_wp2_with (fail)
    obtain ⟨W2, hW2⟩ : ∃ W2, W2 = w2.alloc (.cells #[.int .i64 C, .slice sa m sc] 26) := ⟨_, rfl⟩
    rw [← hW2]
    have hbW2 : Below w2.heap.size w2 W2 := by rw [hW2]; exact (Below.refl _ _).alloc (Nat.le_refl _) _
    have HK2 : Hid (W2.heap[w2.heap.size]? = some (.cells #[.int .i64 C, .slice sa m sc] 26) ∧ w2.heap.size < W2.heap.size) := by rw [hW2]; exact ⟨heap_alloc_new _ _, by simp⟩
    have BW2 : Hid (Below w0.heap.size w0 W2) := B2.out.trans (hbW2.mono B2.out.size)
    have IW2 : Hid (PM W2 w0.heap.size (.slice sa m sc) L us (fun i => bflat (L.getD i []))) := I2.out.below hbW2
    have hvs2 : Hid (∀ g, InB (.slice sa m sc) us L.length g → g < w2.heap.size) := fun g hg => (I2.out.lt hg).2
    clear hW2 hbW2
    refine (toBoxS_any hS.out (H.out.1.below BW2.out)).mono ?_
    rintro e w3 ⟨g3, rfl, hs3, hb3⟩
    have X3 : Hid (BS w3 W2.heap.size (.slice (some ⟨g3, 0, none⟩) s.length s.length) s) := hs3
    have hg3 : Hid (W2.heap.size ≤ g3 ∧ g3 < w3.heap.size) := World.ownsRow.lt hs3 g3 rfl
    have B3 : Hid (Below w0.heap.size w0 w3) := BW2.out.trans (hb3.mono BW2.out.size)
    have K3 : Hid (w3.heap[w2.heap.size]? = some (.cells #[.int .i64 C, .slice sa m sc] 26)) := (hb3.block _ HK2.out.2).trans HK2.out.1
    have I3 : Hid (PM w3 w0.heap.size (.slice sa m sc) L us (fun i => bflat (L.getD i []))) := IW2.out.below hb3
    clear hs3 hb3
    go_wp2_with (fail)
    refine (HIM.out X3.out.rb).mono ?_
    rintro e w4 ⟨vg, gs, rfl, hvg, hb4⟩
    obtain ⟨ga, gc, hvf⟩ := hvg.form
    rw [← HM.out] at hvf
    subst hvf
    have hvg4 : Hid (∀ g, InB (.slice ga m gc) gs L.length g → w3.heap.size ≤ g ∧ g < w4.heap.size) := fun g hg => hvg.pm.lt hg
    have hz34 : Hid (w3.heap.size ≤ w4.heap.size) := hb4.size
    have S4 : Hid (SP w0 w2.heap.size w4.heap.size C (.slice sa m sc) (.slice ga m gc) L us gs (fun i => bflat (L.getD i [])) (w4.alloc (.cells #[.int .i64 C, .slice ga m gc] 26)) ∧ BS (w4.alloc (.cells #[.int .i64 C, .slice ga m gc] 26)) W2.heap.size (.slice (some ⟨g3, 0, none⟩) s.length s.length) s) := by
      have ha : Below w4.heap.size w4 (w4.alloc (.cells #[.int .i64 C, .slice ga m gc] 26)) := (Below.refl _ _).alloc (Nat.le_refl _) _
      have hb34 : Below w3.heap.size w3 (w4.alloc (.cells #[.int .i64 C, .slice ga m gc] 26)) := hb4.trans (ha.mono hb4.size)
      refine ⟨⟨(hb34.block _ (lt_blkP K3.out)).trans K3.out, heap_alloc_new _ _, I3.out.below hb34, (hvg.pm.low B3.out.size).below ha, B3.out.trans (hb34.mono B3.out.size)⟩, X3.out.below hb34⟩
    have hk01 : w2.heap.size < w4.heap.size := by have h1 := HK2.out.2; have h2 := hg3.out; have h3 := hb4.size; omega
    have p4 : w4.cell? ⟨w2.heap.size, 0, none⟩ = some (.int .i64 C) ∧ w4.cell? ⟨w2.heap.size, 1, none⟩ = some (.slice sa m sc) := by
      have := (hb4.block _ (lt_blkP K3.out)).trans K3.out
      simp [World.cell?, this]
    obtain ⟨p40, p41⟩ := p4
    clear hvg hb4
    go_wp2_with (fail)
    clear p40 p41
    obtain ⟨V4, hV4⟩ : ∃ V4, V4 = w4.alloc (.cells #[.int .i64 C, .slice ga m gc] 26) := ⟨_, rfl⟩
    rw [← hV4] at S4 ⊢
    clear hV4
    obtain ⟨K0, hK0⟩ : ∃ K0, K0 = w2.heap.size := ⟨_, rfl⟩
    obtain ⟨K1, hK1⟩ : ∃ K1, K1 = w4.heap.size := ⟨_, rfl⟩
    have HSEP : Hid (K0 < g3 ∧ g3 < K1 ∧ w0.heap.size ≤ K0 ∧ (∀ g, InB (.slice sa m sc) us L.length g → g < K0) ∧ (∀ g, InB (.slice ga m gc) gs L.length g → g3 < g ∧ g < K1)) := by
      rw [hK0, hK1]
      have h1 := HK2.out.2
      have h2 := hg3.out
      have h3 := hz34.out
      exact ⟨by omega, by omega, B2.out.size, hvs2.out, fun g hg => by have := hvg4.out g hg; omega⟩
    rw [← hK0, ← hK1] at S4 hk01
    rw [← hK0, ← hK1]
    clear hK0 hK1 HK2 hg3 hz34 hvs2 hvg4
    refine (eqPR C hLl HLE S4.out.1.ig.toPL S4.out.1.is.toPL).mono ?_
    rintro e V5 ⟨rfl, hb5⟩
    have S5 : Hid (SP w0 K0 K1 C (.slice sa m sc) (.slice ga m gc) L us gs (fun i => bflat (L.getD i [])) V5 ∧ BS V5 W2.heap.size (.slice (some ⟨g3, 0, none⟩) s.length s.length) s) := ⟨S4.out.1.next hb5, S4.out.2.below hb5⟩
    clear S4 hb5
    go_wp2_with (fail)
    refine (toBoxS_any hS.out (H.out.1.below S5.out.1.bl)).mono ?_
    rintro e V6 ⟨g6, rfl, hs6, hb6⟩
    have S6 : Hid (SP w0 K0 K1 C (.slice sa m sc) (.slice ga m gc) L us gs (fun i => bflat (L.getD i [])) V6 ∧ BS V6 W2.heap.size (.slice (some ⟨g3, 0, none⟩) s.length s.length) s ∧ RB V6 (.slice (some ⟨g6, 0, none⟩) s.length s.length) s) := ⟨S5.out.1.next hb6, S5.out.2.below hb6, hs6.rb⟩
    clear S5 hs6 hb6
    go_wp2_with (fail)
    refine (eqBoxS_same (by have := hS.out; omega) S6.out.2.1.rb S6.out.2.2).mono ?_
    rintro e V7 ⟨rfl, hb7⟩
    have S7 : Hid (SP w0 K0 K1 C (.slice sa m sc) (.slice ga m gc) L us gs (fun i => bflat (L.getD i [])) V7 ∧ BS V7 W2.heap.size (.slice (some ⟨g3, 0, none⟩) s.length s.length) s) := ⟨S6.out.1.next hb7, S6.out.2.1.below hb7⟩
    clear S6 hb7
    go_wp2_with (fail)
    refine (mark_any (B := W2.heap.size) hS.out S7.out.2).mono ?_
    rintro e V8 ⟨rfl, _, gm, _, hgm, hon⟩
    have S8 : Hid (SP w0 K0 K1 C (.slice sa m sc) (.slice ga m gc) L us gs (fun i => bflat (L.getD i [])) V8) := by
      rcases hgm with hgm | hgm
      · injection hgm with hgm
        have hgm' : g3 = gm := hgm
        subst hgm'
        have hq := HSEP.out
        exact S7.out.1.only hon (by omega) (by omega) (by omega) (fun e => by have := hq.2.2.2.1 g3 e; omega) (fun e => by have := (hq.2.2.2.2 g3 e).1; omega)
      · rw [hgm]; exact S7.out.1
    have hk1 : ¬ (1 + 4 * (s.length : Int)) < 0 := by omega
    clear S7 hgm hon
    obtain ⟨q0, q1, q2, q3⟩ := S8.out.cells
    go_wp2_with (fail)
    clear q0 q1 q2 q3
    refine (eqPR C hLl HLE S8.out.ig.toPL S8.out.is.toPL).mono ?_
    rintro e V9 ⟨rfl, hb9⟩
    have S9 : Hid (SP w0 K0 K1 C (.slice sa m sc) (.slice ga m gc) L us gs (fun i => bflat (L.getD i [])) V9) := S8.out.next hb9
    clear S8 hb9
    obtain ⟨q0, q1, q2, q3⟩ := S9.out.cells
    go_wp2_with (fail)
    clear q0 q1 q2 q3
    refine (markPR C hLl HLT HLE S9.out.ig).mono ?_
    rintro e V10 ⟨rfl, hm10, hsv⟩
    rw [← HTE.out]
    have S10 : Hid (SP w0 K0 K1 C (.slice sa m sc) (.slice ga m gc) L us gs (fm L L.length) V10) := by
      have hq := HSEP.out
      have l0 := lt_blkP S9.out.k0
      have l1 := lt_blkP S9.out.k1
      have far : ∀ k, k < V9.heap.size → (k ≤ g3 ∨ K1 ≤ k) → V10.heap[k]? = V9.heap[k]? := fun k hk hd => hsv.block k hk fun i hi e => by
        have := hq.2.2.2.2 k (Or.inr ⟨i, hi, e⟩)
        omega
      refine ⟨(far K0 l0 (by omega)).trans S9.out.k0, (far K1 l1 (by omega)).trans S9.out.k1, S9.out.is.keep (fun k hk => far k (S9.out.is.lt hk).2 (by have := hq.2.2.2.1 k hk; omega)), hm10, ?_⟩
      exact S9.out.bl.trans ⟨hsv.os, hsv.tape, hsv.output, hsv.size, fun j hj => far j (by have := S9.out.bl.size; omega) (by omega)⟩
    clear S9 hm10 hsv
    obtain ⟨q0, q1, q2, q3⟩ := S10.out.cells
    go_wp2_with (fail)
    clear q0 q1 q2 q3
    refine (heldPR C hLl HLT HLE S10.out.ig).mono ?_
    rintro e V11 ⟨rfl, hb11⟩
    rw [← HTE.out]
    have S11 : Hid (SP w0 K0 K1 C (.slice sa m sc) (.slice ga m gc) L us gs (fm L L.length) V11) := S10.out.next hb11
    clear S10 hb11
    go_wp2_with (fail)
    refine (toBoxS_any hS.out (H.out.1.below S11.out.bl)).mono ?_
    rintro e V12 ⟨g12, rfl, hs12, hb12⟩
    have S12 : Hid (SP w0 K0 K1 C (.slice sa m sc) (.slice ga m gc) L us gs (fm L L.length) V12 ∧ RB V12 (.slice (some ⟨g12, 0, none⟩) s.length s.length) s) := ⟨S11.out.next hb12, hs12.rb⟩
    clear S11 hs12 hb12
    go_wp2_with (fail)
    refine (HIM.out S12.out.2).mono ?_
    rintro e w13 ⟨vh, hs13, rfl, hvh, hb13⟩
    obtain ⟨ha, hcap, hvf⟩ := hvh.form
    rw [← HM.out] at hvf
    subst hvf
    have S13 : Hid (SP w0 K0 K1 C (.slice sa m sc) (.slice ga m gc) L us gs (fm L L.length) w13 ∧ PL w13 V12.heap.size (.slice ha m hcap) L hs13) := ⟨S12.out.1.next hb13, hvh⟩
    clear S12 hvh hb13
    obtain ⟨q0, q1, q2, q3⟩ := S13.out.1.cells
    have l0 := lt_blkP S13.out.1.k0
    go_wp2_with (fail)
    clear q0 q1 q2 q3
    obtain ⟨V13, hV13⟩ : ∃ V13, V13 = w13.alloc (.cells #[.int .i64 C, .slice ha m hcap] 26) := ⟨_, rfl⟩
    rw [← hV13]
    have hbV : Below w13.heap.size w13 V13 := by rw [hV13]; exact (Below.refl _ _).alloc (Nat.le_refl _) _
    have S14 : Hid (SP w0 K0 K1 C (.slice sa m sc) (.slice ga m gc) L us gs (fm L L.length) V13 ∧ PL V13 V12.heap.size (.slice ha m hcap) L hs13) := ⟨S13.out.1.next hbV, S13.out.2.below hbV⟩
    clear hV13 hbV S13
    refine (eqPR C hLl HLE S14.out.2 S14.out.1.is.toPL).mono ?_
    rintro e V15 ⟨rfl, hb15⟩
    have S15 : Hid (SP w0 K0 K1 C (.slice sa m sc) (.slice ga m gc) L us gs (fm L L.length) V15) := S14.out.1.next hb15
    clear S14 hb15
    obtain ⟨q0, q1, q2, q3⟩ := S15.out.cells
    go_wp2_with (fail)
    clear q0 q1 q2 q3
    refine (heldPR C hLl HLT HLE S15.out.ig).mono ?_
    rintro e V16 ⟨rfl, hb16⟩
    rw [← HTE.out]
    have S16 : Hid (Below w0.heap.size w0 V16) := (S15.out.next hb16).bl
    clear S15 hb16
    go_wp2
    go_returns
    exact ⟨rfl, S16.out⟩
  · have hgt : (1048576 : Int) < (n : Int) := by omega
    go_enter Try.func3, Try.ntmps3
    go_wp2_with (fail)
    refine (szBoxS_many a n c _ hgt (by omega)).mono ?_
    rintro e w0 ⟨rfl, hw0⟩
    obtain rfl := hw0
    go_wp2
    go_returns
    exact ⟨rfl, Below.refl _ _⟩

set_option maxRecDepth 100000 in
theorem pa_lifted (os : Os) (started : os.Started) (H : Type) (enc : TypeId × Value → H) :
    ReturnsInHanded {} Try.checked os 3 .any (Rows.fnExactPartsOfSpec.pre6 enc Try.prog Try.f3 Rows.fnExactPartsOfRow.domain false) (Rows.fnExactPartsOfSpec.post enc Try.prog Try.f3 false true false false) := by
  refine returnsInHanded_of_change (C := Try.checked) own started (by kernel_rfl) Try.func3
    (ChangeSpec.witness6 (enc := enc) (C := Try.checked) false ⟨#[], #[.slice none 0 0], []⟩ 8 (by kernel_rfl) (by kernel_rfl) (by kernel_rfl) (by kernel_rfl)) ?_
  intro W base args ds gs before hval0 hW hcnd _
  have hval : ∀ (j : Nat) t v, Try.f3.params[j]? = some t → args[j]? = some v → Value.okWide Try.prog W .any base t v := hval0
  have hW' := hW
  obtain ⟨p, q, hA0, hV, rfl, hfz, hnd⟩ := hW
  have hA : DataW.TrodAll enc Try.prog W 0 (fun _ => true) true Try.f3.params.toList args.toList ds p := hA0
  rw [Try.params3] at hA hval
  obtain ⟨v0, vs0, d0, ds0, p0, q0, hargs, rfl, rfl, h0, r0⟩ := trodAll_cons hA
  obtain ⟨rfl, rfl, rfl⟩ := trodAll_nil r0
  obtain rfl : args = #[v0] := by cases args; simp_all
  obtain ⟨rfl, rfl⟩ := trodVars_none hV
  have k0 := h0
  have lt0 : ∀ x ∈ p0, x.block < W.heap.size := by obtain ⟨m, hm⟩ := k0; exact DataW.trod_lt m _ _ _ hm
  obtain ⟨sa0, sn0, sc0, s0, rfl, rb0, sl0⟩ := boxes_open (hval 0 22 v0 rfl rfl) h0
  clear hA0 hval0
  refine (law_pa s0 sl0 rb0).mono fun e W' ⟨he, hg⟩ => ?_
  subst he
  exact ⟨_, rfl, _, _, _, [], _, [], hW', trodAll_mk1 (shut_bool Try.underlying4 _), (trodAll_cons_mk (Below.trod laidOut (by kernel_rfl) (of_decide_eq_true (by kernel_rfl)) k0 hg lt0) trodAll_mk0), rfl, hg.frame _, fun h => by cases h⟩

theorem pa_over : Rows.fnExactPartsOfRow.holds Try.pinned (OpenSpec.ofChange Rows.fnExactPartsOfSpec) :=
  OpenClaim.holds_of_wide 3 Try.f3 rfl rfl rfl rfl rfl rfl rfl ⟨rfl, rfl, rfl, rfl, rfl⟩ rfl rfl rfl rfl rfl (by kernel_rfl) Try.func3 (by kernel_rfl)
    (of_decide_eq_true (by kernel_rfl)) (by unfold Func.isWrapper; first | (rw [if_pos (by decide +kernel)]; kernel_rfl) | (rw [if_neg (by decide +kernel)]; exact ⟨rfl, rfl⟩))
    (fun os started H enc _ => pa_lifted os started H enc)

theorem pa_proved : Rows.FnExactPartsOfSaid :=
  pa_over
#print axioms pa_proved

end Go.Proofs.Ytlnhfgacgbdjaaa
