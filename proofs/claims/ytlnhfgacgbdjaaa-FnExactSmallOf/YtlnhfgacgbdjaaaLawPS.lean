/- Proved here: what the laws' package's small functions on lists of lists of boxes do: are two alike; write the numbers 1, 2, .. into one; does one hold them. -/
import Derived.Test.YtlnhfgacgbdjaaaLawMG
import Derived.Test.YtlnhfgacgbdjaaaPsG
namespace Go.Proofs.Ytlnhfgacgbdjaaa
open Go.ChangeShapes Go.WideShapes Go.ChangeAt Go.RowKit Go.Joins
set_option linter.unusedVariables false
set_option linter.unusedSimpArgs false

/-- A slice of the call's own with any capacity, whatever its cells hold. -/
def CW (w : World) (B : Nat) (v : Value) (n : Nat) (cs : List Value) : Prop := ∃ (a : Option Addr) (c : Nat) (c' : {c : Nat // n ≤ c}), v = .slice a n c' ∧ RW w B (.slice a n c) n cs
theorem CW.blk {w : World} {B g n : Nat} {v : Value} {cs : List Value} (h : CW w B v n cs) (hg : v.ownBlock = some g) : B ≤ g ∧ g < w.heap.size ∧ ∃ ds, w.heap[g]? = some (.cells ds 44 (0, 0)) := by
  obtain ⟨a, c, c', rfl, h⟩ := h
  have hg' : (Value.slice a n c).ownBlock = some g := by cases a <;> simp_all [Value.ownBlock]
  refine ⟨(World.ownsRow.lt h g hg').1, (World.ownsRow.lt h g hg').2, ?_⟩
  rcases h.2 with ⟨e, _⟩ | ⟨g', cap, cur, e, hB, hgg, hr⟩
  · rw [e] at hg'; cases hg'
  · rw [e] at hg'
    simp only [Value.ownBlock, Option.some.injEq] at hg'
    subst hg'
    exact ⟨_, hgg⟩
theorem CW.kept {w w' : World} {B n : Nat} {v : Value} {cs : List Value} (h : CW w B v n cs) (hb : ∀ g, v.ownBlock = some g → w'.heap[g]? = w.heap[g]?) : CW w' B v n cs := by
  obtain ⟨a, c, c', rfl, h⟩ := h
  exact ⟨a, c, c', rfl, row_kept h fun g hg => hb g (by cases a <;> simp_all [Value.ownBlock])⟩
/-- A list of lists, whatever the cells hold. -/
structure PM (w : World) (B : Nat) (v : Value) (ls : List (List Bx)) (vs : List Value) (f : Nat → List Value) : Prop where
  o : w.ownsRow B 28 1 v ls.length vs
  bx : ∀ i, i < ls.length → CW w B (vat vs i) (ls.getD i []).length (f i)
  ds : ∀ i j, i ≠ j → i < ls.length → j < ls.length → ∀ g, (vat vs i).ownBlock = some g → (vat vs j).ownBlock ≠ some g
theorem PL.pm {w : World} {B : Nat} {v : Value} {ls : List (List Bx)} {vs : List Value} (h : PL w B v ls vs) : PM w B v ls vs (fun i => bflat (ls.getD i [])) := by
  refine ⟨h.o, fun i hi => ?_, fun i j hij hi hj g hgi => ?_⟩
  · obtain ⟨a, c, c', e, h1⟩ := h.bx i hi
    exact ⟨a, c, c', e, h1⟩
  · rcases Nat.lt_or_ge i j with e | e
    · exact h.ds i j e hj g hgi
    · intro e2; exact h.ds j i (by omega) hi g e2 hgi
theorem PM.len {w : World} {B : Nat} {v : Value} {ls : List (List Bx)} {vs : List Value} {f : Nat → List Value} (h : PM w B v ls vs f) : vs.length = ls.length := by have := h.o.1; omega
theorem PM.rowBlk {w : World} {B g : Nat} {v : Value} {ls : List (List Bx)} {vs : List Value} {f : Nat → List Value} (h : PM w B v ls vs f) (hg : v.ownBlock = some g) : B ≤ g ∧ g < w.heap.size ∧ ∃ cs, w.heap[g]? = some (.cells cs 28 (0, 0)) := by
  refine ⟨(World.ownsRow.lt h.o g hg).1, (World.ownsRow.lt h.o g hg).2, ?_⟩
  rcases h.o.2 with ⟨e, _⟩ | ⟨g', cap, cur, e, hB, hgg, hr⟩
  · rw [e] at hg; cases hg
  · rw [e] at hg
    simp only [Value.ownBlock, Option.some.injEq] at hg
    subst hg
    exact ⟨_, hgg⟩
theorem PM.kept {w w' : World} {B : Nat} {v : Value} {ls : List (List Bx)} {vs : List Value} {f : Nat → List Value} (h : PM w B v ls vs f) (hr : ∀ g, v.ownBlock = some g → w'.heap[g]? = w.heap[g]?) (hb : ∀ i, i < ls.length → ∀ g, (vat vs i).ownBlock = some g → w'.heap[g]? = w.heap[g]?) : PM w' B v ls vs f :=
  ⟨row_kept h.o hr, fun i hi => (h.bx i hi).kept (hb i hi), h.ds⟩
theorem PM.below {w w' : World} {B : Nat} {v : Value} {ls : List (List Bx)} {vs : List Value} {f : Nat → List Value} (h : PM w B v ls vs f) (hb : Below w.heap.size w w') : PM w' B v ls vs f :=
  h.kept (fun g hg => hb.block g (h.rowBlk hg).2.1) fun i hi g hg => hb.block g ((h.bx i hi).blk hg).2.1
theorem PM.pos {w : World} {B : Nat} {v : Value} {ls : List (List Bx)} {vs : List Value} {f : Nat → List Value} (h : PM w B v ls vs f) (hp : 0 < ls.length) :
    ∃ g cap, v = .slice (some ⟨g, 0, none⟩) ls.length cap ∧ B ≤ g ∧ g < w.heap.size ∧ ∀ j, j < ls.length → w.cell? ⟨g, j, none⟩ = some (vat vs j) := by
  have hl := h.len
  have ho := h.o
  rcases h.o.2 with ⟨_, h0⟩ | ⟨g, cap, cur, rfl, hB, hg, hn, hm, hs, ht⟩
  · omega
  · refine ⟨g, cap, rfl, hB, (World.ownsRow.lt ho g rfl).2, fun j hj => ?_⟩
    have := World.ownsRow.cellAt (w := w) (g := g) (cap := cap) ho j (by omega)
    rw [this]
    simp [vat, List.getElem?_eq_getElem (show j < vs.length by omega)]
theorem PM.form {w : World} {B : Nat} {v : Value} {ls : List (List Bx)} {vs : List Value} {f : Nat → List Value} (h : PM w B v ls vs f) : ∃ a c, v = .slice a ls.length c := by
  rcases h.o.2 with ⟨rfl, h0⟩ | ⟨g, cap, cur, rfl, _⟩
  · exact ⟨none, 0, by rw [h0]⟩
  · exact ⟨_, _, rfl⟩
/-- Nothing has turned but the rows' own cells. -/
structure OnlyR (vs : List Value) (m : Nat) (w w' : World) : Prop where
  os : w'.os = w.os
  tape : w'.tape = w.tape
  output : w'.output = w.output
  size : w'.heap.size = w.heap.size
  block : ∀ k, (∀ i, i < m → (vat vs i).ownBlock ≠ some k) → w'.heap[k]? = w.heap[k]?
theorem OnlyR.refl (vs : List Value) (m : Nat) (w : World) : OnlyR vs m w w := ⟨rfl, rfl, rfl, rfl, fun _ _ => rfl⟩
/-- How many boxes the first i lists have. -/
def tot (ls : List (List Bx)) : Nat → Nat
  | 0 => 0
  | i + 1 => tot ls i + (ls.getD i []).length
def fm (ls : List (List Bx)) (j i : Nat) : List Value := if i < j then marksK (1 + 4 * (tot ls i : Int)) ((ls.getD i []).length * 4) else bflat (ls.getD i [])
theorem fm_zero (ls : List (List Bx)) : fm ls 0 = fun i => bflat (ls.getD i []) := by funext i; simp [fm]
theorem PM.mark {w w0 w' : World} {B g m j : Nat} {v : Value} {ls : List (List Bx)} {vs : List Value} (hm : m = ls.length) (hj : j < m) (h : PM w B v ls vs (fm ls j)) (hO : OnlyR vs m w0 w)
    {a : Option Addr} {c : Nat} {c' : {c : Nat // (ls.getD j []).length ≤ c}} (hv : vat vs j = .slice a (ls.getD j []).length c') (h1 : RW w' B (.slice a (ls.getD j []).length c) (ls.getD j []).length (marksK (1 + 4 * (tot ls j : Int)) ((ls.getD j []).length * 4))) (hgo : (Value.slice a (ls.getD j []).length c).ownBlock = some g ∨ w' = w) (hon : Only g w w') : PM w' B v ls vs (fm ls (j + 1)) ∧ OnlyR vs m w0 w' := by
  subst hm
  have hoe : (vat vs j).ownBlock = (Value.slice a (ls.getD j []).length c).ownBlock := by rw [hv]; cases a <;> rfl
  have hk : ∀ k, (vat vs j).ownBlock ≠ some k → w'.heap[k]? = w.heap[k]? := by
    intro k hk
    rcases hgo with e | e
    · exact hon.block k fun e2 => hk (by rw [hoe, e, e2])
    · rw [e]
  refine ⟨⟨row_kept h.o fun k hr => hk k fun e => ?_, fun i hi => ?_, h.ds⟩, ⟨hon.os.trans hO.os, hon.tape.trans hO.tape, hon.output.trans hO.output, hon.size.trans hO.size, fun k hkk => (hk k (hkk j hj)).trans (hO.block k hkk)⟩⟩
  · obtain ⟨_, _, cs, h3⟩ := h.rowBlk hr
    obtain ⟨_, _, ds, h4⟩ := (h.bx j hj).blk e
    exact kinds h3 h4 rfl
  · by_cases e : i = j
    · subst e
      refine ⟨a, c, c', hv, ?_⟩
      unfold fm; rw [if_pos (by omega)]; exact h1
    · have e2 : fm ls (j + 1) i = fm ls j i := by
        unfold fm
        by_cases e3 : i < j
        · rw [if_pos e3, if_pos (by omega)]
        · rw [if_neg e3, if_neg (by omega)]
      rw [e2]
      exact (h.bx i hi).kept fun k hki => hk k fun e4 => h.ds i j e hi hj k hki e4

set_option maxRecDepth 10000 in
set_option maxHeartbeats 4000000 in
theorem markSS {w : World} {B : Nat} {v : Value} {ls : List (List Bx)} {vs : List Value} (hl : ls.length ≤ 150) (ht : Hid (∀ i, i ≤ ls.length → tot ls i ≤ 20000000)) (hb : Hid (∀ i, (ls.getD i []).length ≤ 1048576)) (h : PM w B v ls vs (fun i => bflat (ls.getD i []))) :
    Calls Try.prog 26 #[v, .int .i64 1] w fun e w' => e = .returned (.int .i64 (1 + 4 * (tot ls ls.length : Int))) ∧ PM w' B v ls vs (fm ls ls.length) ∧ OnlyR vs ls.length w w' := by
  obtain ⟨a, c, rfl⟩ := h.form
  obtain ⟨m, hm⟩ : ∃ m, m = ls.length := ⟨_, rfl⟩
  have H : Hid (PM w B (.slice a m c) ls vs (fm ls 0)) := by unfold Hid; rw [fm_zero, hm]; exact h
  have HM : Hid (m = ls.length) := hm
  rw [← hm] at hl ht ⊢
  clear h hm
  go_enter Try.func26, Try.ntmps26
  go_wp2_with (fail)
  go_loopw [1, 5] (fun q i wr => ∃ (j : Nat) (z : Int), j ≤ m ∧ i = .int .i64 j ∧ q = .int .i64 z ∧ 0 ≤ z ∧ z ≤ 100000000 ∧ Hid (z = 1 + 4 * (tot ls j : Int) ∧ PM wr B (.slice a m c) ls vs (fm ls j) ∧ OnlyR vs m w wr)) (fun _ i _ => m - (intOf i).toNat)
  case atStart => exact ⟨0, 1, Nat.zero_le _, rfl, rfl, by omega, by omega, by simp [tot], H.out, OnlyR.refl _ _ _⟩
  case round =>
    clear H
    obtain ⟨j, z, hj, rfl, rfl, hz0, hz1, hR⟩ := hrel
    by_cases hlt : j < m
    · obtain ⟨gr, cr, he, hgB, hgl, hjr⟩ := hR.out.2.1.pos (by rw [← HM.out]; omega)
      simp only [Value.slice.injEq] at he
      obtain ⟨rfl, hx1, hx2⟩ := he
      clear hx1 hx2
      have r0 := hjr j (by rw [← HM.out]; exact hlt)
      obtain ⟨ea, ec, ec', hv, hrw⟩ := hR.out.2.1.bx j (by rw [← HM.out]; exact hlt)
      rw [hv] at r0
      have hbj := hb.out j
      have ht1 := ht.out (j + 1) (by omega)
      have HC : Hid (Calls Try.prog 11 #[.slice ea (ls.getD j []).length ec', .int .i64 z] wr fun e w' => e = .returned (.int .i64 (z + 4 * ((ls.getD j []).length : Int))) ∧ PM w' B (.slice (some ⟨gr, 0, none⟩) m c) ls vs (fm ls (j + 1)) ∧ OnlyR vs m w w') := by
        refine (mark_anyK z ⟨hz0, hz1⟩ ec' hbj hrw).mono ?_
        rintro e w' ⟨rfl, h1, g, _, hgo, hon⟩
        rw [hR.out.1] at h1
        have := PM.mark HM.out hlt hR.out.2.1 hR.out.2.2 hv h1 hgo hon
        exact ⟨rfl, this.1, this.2⟩
      have HT : Hid (z + 4 * ((ls.getD j []).length : Int) = 1 + 4 * (tot ls (j + 1) : Int)) := by unfold Hid; rw [hR.out.1]; simp only [tot]; omega
      clear hjr hR hv hrw
      generalize ec'.val = cq at r0 HC
      clear ec'
      generalize (ls.getD j []).length = L at r0 HC HT hbj
      have hz2 : 0 ≤ z + 4 * (L : Int) ∧ z + 4 * (L : Int) ≤ 100000000 := by rw [HT.out]; omega
      have b0 : (0 : Int) ≤ (j : Int) := by omega
      have b1 : (j : Int) < (m : Int) := by omega
      go_wp2_with (fail)
      refine HC.out.mono ?_
      rintro e w' ⟨rfl, hP, hO⟩
      have R : Hid (z + 4 * (L : Int) = 1 + 4 * (tot ls (j + 1) : Int) ∧ PM w' B (.slice (some ⟨gr, 0, none⟩) m c) ls vs (fm ls (j + 1)) ∧ OnlyR vs m w w') := ⟨HT.out, hP, hO⟩
      clear hP hO HC HT
      go_wp2
      go_roundw
      case rel => exact ⟨j + 1, _, by omega, by go_num, rfl, hz2.1, hz2.2, R.out⟩
      case measure => simp [intOf]; omega
    · have ej : m = j := by omega
      subst ej
      have HR : Hid _ := hR.out
      clear hR
      go_wp2
      go_returns
      exact ⟨by rw [HR.out.1]; rfl, HR.out.2.1, HR.out.2.2⟩

set_option maxRecDepth 10000 in
set_option maxHeartbeats 4000000 in
theorem heldSS {w : World} {B : Nat} {v : Value} {ls : List (List Bx)} {vs : List Value} (hl : ls.length ≤ 150) (ht : Hid (∀ i, i ≤ ls.length → tot ls i ≤ 20000000)) (hb : Hid (∀ i, (ls.getD i []).length ≤ 1048576)) (h : PM w B v ls vs (fm ls ls.length)) :
    Calls Try.prog 27 #[v, .int .i64 1] w fun e w' => e = .returned (.int .i64 (1 + 4 * (tot ls ls.length : Int))) ∧ w' = w := by
  obtain ⟨a, c, rfl⟩ := h.form
  obtain ⟨m, hm⟩ : ∃ m, m = ls.length := ⟨_, rfl⟩
  have HM : Hid (m = ls.length) := hm
  rw [← hm] at hl ht h ⊢
  have H : Hid (PM w B (.slice a m c) ls vs (fm ls m)) := h
  clear h hm
  go_enter Try.func27, Try.ntmps27
  go_wp2_with (fail)
  go_loopw [1, 5] (fun q i wr => ∃ (j : Nat) (z : Int), j ≤ m ∧ i = .int .i64 j ∧ q = .int .i64 z ∧ 0 ≤ z ∧ z ≤ 100000000 ∧ Hid (z = 1 + 4 * (tot ls j : Int) ∧ wr = w)) (fun _ i _ => m - (intOf i).toNat)
  case atStart => exact ⟨0, 1, Nat.zero_le _, rfl, rfl, by omega, by omega, by simp [tot], rfl⟩
  case round =>
    obtain ⟨j, z, hj, rfl, rfl, hz0, hz1, hR⟩ := hrel
    obtain ⟨hzj, rfl⟩ := hR.out
    have HZ : Hid (z = 1 + 4 * (tot ls j : Int)) := hzj
    clear hR hzj
    by_cases hlt : j < m
    · obtain ⟨gr, cr, he, hgB, hgl, hjr⟩ := H.out.pos (by rw [← HM.out]; omega)
      simp only [Value.slice.injEq] at he
      obtain ⟨rfl, hx1, hx2⟩ := he
      clear hx1 hx2
      have r0 := hjr j (by rw [← HM.out]; exact hlt)
      obtain ⟨ea, ec, ec', hv, hrw⟩ := H.out.bx j (by rw [← HM.out]; exact hlt)
      rw [hv] at r0
      have hbj := hb.out j
      have ht1 := ht.out (j + 1) (by omega)
      have HC : Hid (Calls Try.prog 35 #[.slice ea (ls.getD j []).length ec', .int .i64 z] wr fun e w' => e = .returned (.int .i64 (z + 4 * ((ls.getD j []).length : Int))) ∧ w' = wr) := by
        unfold fm at hrw
        rw [if_pos hlt, ← HZ.out] at hrw
        exact held_anyK z ⟨hz0, hz1⟩ ec' hbj hrw
      have HT : Hid (z + 4 * ((ls.getD j []).length : Int) = 1 + 4 * (tot ls (j + 1) : Int)) := by unfold Hid; rw [HZ.out]; simp only [tot]; omega
      clear hv hrw
      generalize ec'.val = cq at r0 HC
      clear ec'
      generalize (ls.getD j []).length = L at r0 HC HT hbj
      have hz2 : 0 ≤ z + 4 * (L : Int) ∧ z + 4 * (L : Int) ≤ 100000000 := by rw [HT.out]; omega
      have hz3 : ¬ z + 4 * (L : Int) < 0 := by omega
      clear hjr
      have b0 : (0 : Int) ≤ (j : Int) := by omega
      have b1 : (j : Int) < (m : Int) := by omega
      go_wp2_with (fail)
      refine HC.out.mono ?_
      rintro e w' ⟨rfl, rfl⟩
      go_wp2
      go_roundw
      case rel => exact ⟨j + 1, _, by omega, by go_num, rfl, hz2.1, hz2.2, HT.out, trivial⟩
      case measure => simp [intOf]; omega
    · have ej : m = j := by omega
      subst ej
      go_wp2
      go_returns
      exact ⟨by rw [HZ.out]; rfl, rfl⟩

set_option maxRecDepth 10000 in
set_option maxHeartbeats 4000000 in
theorem eqSS {w : World} {A B : Nat} {va vb : Value} {ls : List (List Bx)} {us vs : List Value} (hl : ls.length ≤ 150) (hb : Hid (∀ i, (ls.getD i []).length ≤ 1048576)) (h : PL w A va ls us) (k : PL w B vb ls vs) :
    Calls Try.prog 24 #[va, vb] w fun e w' => e = .returned (.bool true) ∧ Below w.heap.size w w' := by
  obtain ⟨a, c, rfl⟩ := h.form
  obtain ⟨b, d, rfl⟩ := k.form
  obtain ⟨m, hm⟩ : ∃ m, m = ls.length := ⟨_, rfl⟩
  have HM : Hid (m = ls.length) := hm
  rw [← hm] at hl h k ⊢
  have H : Hid (PL w A (.slice a m c) ls us ∧ PL w B (.slice b m d) ls vs) := ⟨h, k⟩
  clear h k hm
  go_enter Try.func24, Try.ntmps24
  go_wp2_with (fail)
  go_loopw [5] (fun i wr => ∃ j : Nat, j ≤ m ∧ i = .int .i64 j ∧ Hid (Below w.heap.size w wr)) (fun i _ => m - (intOf i).toNat)
  case atStart => exact ⟨0, Nat.zero_le _, rfl, Below.refl _ _⟩
  case round =>
    obtain ⟨j, hj, rfl, hR⟩ := hrel
    by_cases hlt : j < m
    · have hP := H.out.1.below hR.out
      have hQ := H.out.2.below hR.out
      obtain ⟨g1, c1, he, _, hg1, hj1⟩ := hP.pm.pos (by rw [← HM.out]; omega)
      simp only [Value.slice.injEq] at he
      obtain ⟨rfl, hx1, hx2⟩ := he
      clear hx1 hx2
      obtain ⟨g2, c2, he, _, hg2, hj2⟩ := hQ.pm.pos (by rw [← HM.out]; omega)
      simp only [Value.slice.injEq] at he
      obtain ⟨rfl, hx1, hx2⟩ := he
      clear hx1 hx2
      have r1 := hj1 j (by rw [← HM.out]; exact hlt)
      have r2 := hj2 j (by rw [← HM.out]; exact hlt)
      have k1 := (hP.bx j (by rw [← HM.out]; exact hlt)).rb
      have k2 := (hQ.bx j (by rw [← HM.out]; exact hlt)).rb
      obtain ⟨x1, y1, e1⟩ := k1.form
      obtain ⟨x2, y2, e2⟩ := k2.form
      have e1' : vat us j = .slice x1 (ls.getD j []).length y1 := e1
      have e2' : vat vs j = .slice x2 (ls.getD j []).length y2 := e2
      rw [e1'] at r1
      rw [e2'] at r2
      rw [e1] at k1
      rw [e2] at k2
      have hbj := hb.out j
      have HC : Hid (∀ W, Below wr.heap.size wr W → Calls Try.prog 10 #[.slice x1 (ls.getD j []).length y1, .slice x2 (ls.getD j []).length y2] W fun e w' => e = .returned (.bool true) ∧ Below W.heap.size W w') := fun W hW => eqBoxS_same (by omega) (k1.below hW) (k2.below hW)
      generalize (ls.getD j []).length = L at r1 r2 HC
      clear hP hQ hj1 hj2 k1 k2 e1 e2 e1' e2' hbj
      have b0 : (0 : Int) ≤ (j : Int) := by omega
      have b1 : (j : Int) < (m : Int) := by omega
      go_wp2_with (fail)
      (refine wp_region_und (by kernel_rfl) (by kernel_rfl) (fun hund => ?_); (repeat (go_big_quiet_step (first | (go_at_call 10; with_reducible refine und_call ?_ (HC.out _ (Und.below _)); exact Nat.le_refl _)))); with_reducible refine wpQuiet_nil ?_; clear hund; intro W1 hb1; obtain ⟨hc1, hf1⟩ := bcell hb1)
      have HB : Hid (Below w.heap.size w W1) := hR.out.trans (hb1.mono hR.out.size)
      clear hb1 hc1 hf1
      go_wp2
      go_roundw
      case rel => exact ⟨j + 1, by omega, by go_num, HB.out⟩
      case measure => simp [intOf]; omega
    · have HR : Hid _ := hR.out
      clear hR
      go_wp2
      go_returns
      exact ⟨rfl, HR.out⟩

end Go.Proofs.Ytlnhfgacgbdjaaa
