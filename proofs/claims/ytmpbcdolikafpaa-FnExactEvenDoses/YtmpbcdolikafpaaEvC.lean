/- Proved here: a shot's dose turned in memory; where an evening of doses stands in memory. (And ahead of it: Proved here: the state of a law: what lies in memory of its own, told by ranges of blocks. No condition on the program.) -/
import Derived.Test.YtmpbcdolikafpaaKept
import Derived.Test.YtmpbcdolikafpaaFloat
import Derived.Test.YtmpbcdolikafpaaSpM
import Derived.Test.YtmpbcdolikafpaaIntsBase
import Derived.Test.YtmpbcdolikafpaaNlJ
namespace Go.Proofs.Ytmpbcdolikafpaa
open Go.RowKit
set_option linter.unusedVariables false
set_option linter.unusedSimpArgs false

theorem cellOf {V : World} {k : Nat} {cs : Array Value} {T : TypeId} (h : V.heap[k]? = some (.cells cs T)) (i : Nat) {v : Value} (hi : cs[i]? = some v) : V.cell? ⟨k, i, none⟩ = some v := by
  simp [World.cell?, h, hi]
theorem frozOf {V : World} {k : Nat} {cs : Array Value} {T : TypeId} (h : V.heap[k]? = some (.cells cs T)) (i : Nat) : V.frozen? ⟨k, i, none⟩ = false := by
  simp [World.frozen?, h]
theorem ltOf {V : World} {k : Nat} {o : Obj} (h : V.heap[k]? = some o) : k < V.heap.size := by
  rcases Nat.lt_or_ge k V.heap.size with h' | h'
  · exact h'
  · rw [Array.getElem?_eq_none h'] at h; cases h
theorem cellSame {V V' : World} {k : Nat} {o : Obj} (h : V.heap[k]? = some o) (h' : V'.heap[k]? = some o) (i : Nat) : V'.cell? ⟨k, i, none⟩ = V.cell? ⟨k, i, none⟩ := by
  simp [World.cell?, h, h']

/-- What hangs on the blocks from lo on, below hi, alone. -/
structure Ow (lo hi : Nat) (P : World → Prop) (V : World) : Prop where
  is : P V
  keep : ∀ V' : World, (∀ q, lo ≤ q → q < hi → V'.heap[q]? = V.heap[q]?) → P V'
  le : lo ≤ hi ∧ hi ≤ V.heap.size
theorem Ow.same {lo hi : Nat} {P : World → Prop} {V V' : World} (h : Ow lo hi P V) (hs : V.heap.size ≤ V'.heap.size) (hq : ∀ q, lo ≤ q → q < hi → V'.heap[q]? = V.heap[q]?) : Ow lo hi P V' :=
  ⟨h.keep V' hq, fun V'' h2 => h.keep V'' fun q h3 h4 => (h2 q h3 h4).trans (hq q h3 h4), ⟨h.le.1, Nat.le_trans h.le.2 hs⟩⟩
theorem Ow.next {lo hi : Nat} {P : World → Prop} {V V' : World} (h : Ow lo hi P V) (hb : Below V.heap.size V V') : Ow lo hi P V' :=
  h.same hb.size fun q _ h2 => hb.block q (Nat.lt_of_lt_of_le h2 h.le.2)
theorem Ow.chg {lo hi A C : Nat} {P : World → Prop} {V V' : World} (h : Ow lo hi P V) (hc : Chg A C V V') (hd : hi ≤ A ∨ C ≤ lo) : Ow lo hi P V' :=
  h.same hc.size fun q h1 h2 => hc.block q (Nat.lt_of_lt_of_le h2 h.le.2) (by omega)
theorem Ow.block {V : World} {k : Nat} {o : Obj} (h : V.heap[k]? = some o) : Ow k (k + 1) (fun V => V.heap[k]? = some o) V :=
  ⟨h, fun V' hq => (hq k (Nat.le_refl _) (by omega)).trans h, ⟨by omega, ltOf h⟩⟩
theorem ownsRow_keep {V V' : World} {B T k n : Nat} {v : Value} {xs : List Value} (h : V.ownsRow B T k v n xs) (hq : ∀ g, v.ownBlock = some g → V'.heap[g]? = V.heap[g]?) : V'.ownsRow B T k v n xs := by
  refine ⟨h.1, ?_⟩
  rcases h.2 with h' | ⟨g, cap, cur, rfl, hB, hg, hr⟩
  · exact Or.inl h'
  · exact Or.inr ⟨g, cap, cur, rfl, hB, by rw [hq g rfl]; exact hg, hr⟩
theorem Ow.row {V : World} {B hi T k n : Nat} {v : Value} {xs : List Value} (h : V.ownsRow B T k v n xs) (h1 : B ≤ hi) (h2 : hi ≤ V.heap.size) (hh : ∀ g, v.ownBlock = some g → g < hi) : Ow B hi (fun V => V.ownsRow B T k v n xs) V :=
  ⟨h, fun V' hq => ownsRow_keep h fun g hg => hq g (World.ownsRow.lt h g hg).1 (hh g hg), ⟨h1, h2⟩⟩
theorem Ow.rowAll {V V0 : World} {T k n : Nat} {v : Value} {xs : List Value} (h : V.ownsRow V0.heap.size T k v n xs) (hb : Below V0.heap.size V0 V) : Ow V0.heap.size V.heap.size (fun V => V.ownsRow V0.heap.size T k v n xs) V :=
  Ow.row h hb.size (Nat.le_refl _) fun g hg => (World.ownsRow.lt h g hg).2
theorem Ow.and {lo hi : Nat} {P Q : World → Prop} {V : World} (h : Ow lo hi P V) (h' : Ow lo hi Q V) : Ow lo hi (fun V => P V ∧ Q V) V :=
  ⟨⟨h.is, h'.is⟩, fun V' hq => ⟨h.keep V' hq, h'.keep V' hq⟩, h.le⟩
theorem Ow.true {lo hi : Nat} {P : World → Prop} {V : World} (h : Ow lo hi P V) {V' : World} (hs : V.heap.size ≤ V'.heap.size) : Ow lo hi (fun _ => True) V' :=
  ⟨trivial, fun _ _ => trivial, ⟨h.le.1, Nat.le_trans h.le.2 hs⟩⟩
theorem Ow.wide {lo hi lo' hi' : Nat} {P : World → Prop} {V : World} (h : Ow lo hi P V) (h1 : lo' ≤ lo) (h2 : hi ≤ hi') (h3 : hi' ≤ V.heap.size) : Ow lo' hi' P V :=
  ⟨h.is, fun V' hq => h.keep V' fun q h4 h5 => hq q (by omega) (by omega), ⟨by have := h.le; omega, h3⟩⟩

/-- Where a law stands. -/
structure LS (w : World) (os : List (Nat × Nat × (World → Prop))) (V : World) : Prop where
  bl : Below w.heap.size w V
  ow : ∀ o ∈ os, Ow o.1 o.2.1 o.2.2 V
  pw : os.Pairwise (fun a b => a.2.1 ≤ b.1)
  lo : ∀ o ∈ os, w.heap.size ≤ o.1
theorem LS.start (w : World) : LS w [] w := ⟨Below.refl _ _, (fun _ h => by cases h), List.Pairwise.nil, (fun _ h => by cases h)⟩
theorem LS.own {w V : World} {os : List (Nat × Nat × (World → Prop))} (h : LS w os V) (i : Nat) {lo hi : Nat} {P : World → Prop} (ho : os[i]? = some (lo, hi, P)) : Ow lo hi P V := h.ow _ (List.mem_of_getElem? ho)
theorem LS.get {w V : World} {os : List (Nat × Nat × (World → Prop))} (h : LS w os V) (i : Nat) {lo hi : Nat} {P : World → Prop} (ho : os[i]? = some (lo, hi, P)) : P V := (h.own i ho).is
theorem LS.next {w V V' : World} {os : List (Nat × Nat × (World → Prop))} (h : LS w os V) (hb : Below V.heap.size V V') : LS w os V' :=
  ⟨h.bl.trans (hb.mono h.bl.size), fun o ho => (h.ow o ho).next hb, h.pw, h.lo⟩
theorem LS.push {w V V' : World} {os : List (Nat × Nat × (World → Prop))} {lo hi : Nat} {P : World → Prop} (h : LS w os V) (hb : Below V.heap.size V V') (ho : Ow lo hi P V') (hlo : V.heap.size ≤ lo) : LS w (os ++ [(lo, hi, P)]) V' := by
  refine ⟨h.bl.trans (hb.mono h.bl.size), fun o hm => ?_, ?_, fun o hm => ?_⟩
  · rcases List.mem_append.1 hm with hm | hm
    · exact (h.ow o hm).next hb
    · rw [List.mem_singleton.1 hm]; exact ho
  · rw [List.pairwise_append]
    refine ⟨h.pw, List.pairwise_singleton _ _, fun a ha b hb2 => ?_⟩
    rw [List.mem_singleton.1 hb2]
    exact Nat.le_trans (h.ow a ha).le.2 hlo
  · rcases List.mem_append.1 hm with hm | hm
    · exact h.lo o hm
    · rw [List.mem_singleton.1 hm]; exact Nat.le_trans h.bl.size hlo
theorem LS.put {w V V' : World} {os : List (Nat × Nat × (World → Prop))} {A C : Nat} {P P' : World → Prop} (h : LS w os V) (i : Nat) (ho : os[i]? = some (A, C, P)) (hc : Chg A C V V') (hn : Ow A C P' V') : LS w (os.set i (A, C, P')) V' := by
  obtain ⟨hi, he⟩ := List.getElem?_eq_some_iff.1 ho
  have hw : w.heap.size ≤ A := by have := h.lo _ (List.mem_of_getElem? ho); exact this
  refine ⟨h.bl.trans (hc.below hw h.bl.size), fun o hm => ?_, ?_, fun o hm => ?_⟩
  · obtain ⟨j, hj, rfl⟩ := List.getElem_of_mem hm
    rw [List.length_set] at hj
    by_cases hij : i = j
    · subst hij; simpa using hn
    · rw [List.getElem_set_ne hij]
      refine (h.ow _ (List.getElem_mem hj)).chg hc ?_
      have hp := List.pairwise_iff_getElem.1 h.pw
      rcases Nat.lt_or_ge j i with hlt | hge
      · have := hp j i hj hi hlt; rw [he] at this; exact Or.inl this
      · have := hp i j hi hj (by omega); rw [he] at this; exact Or.inr this
  · rw [List.pairwise_iff_getElem]
    intro a b ha hb hab
    rw [List.length_set] at ha hb
    have hp := List.pairwise_iff_getElem.1 h.pw a b ha hb hab
    rw [List.getElem_set, List.getElem_set]
    split <;> split
    · omega
    · rename_i h1 _; subst h1; rw [he] at hp; exact hp
    · rename_i _ h1; subst h1; rw [he] at hp; exact hp
    · exact hp
  · obtain ⟨j, hj, rfl⟩ := List.getElem_of_mem hm
    rw [List.length_set] at hj
    by_cases hij : i = j
    · subst hij; simpa using hw
    · rw [List.getElem_set_ne hij]; exact h.lo _ (List.getElem_mem hj)

/-- The numbers z, z + 1, .. as cells. -/
def mkV (z : Int) (n : Nat) : List Value := (List.range n).map fun j : Nat => Value.int .i64 (z + (j : Int))
theorem mkV_len (z : Int) (n : Nat) : (mkV z n).length = n := by simp [mkV]
theorem mkV_at {z : Int} {n j : Nat} (h : j < n) : (mkV z n)[j]? = some (.int .i64 (z + (j : Int))) := by simp [mkV, h]
theorem mkV_of {z : Int} {n : Nat} {ys : List Value} (hl : ys.length = n) (h : ∀ t, t < n → ys[t]? = some (.int .i64 (z + (t : Int)))) : ys = mkV z n := by
  apply List.ext_getElem?
  intro j
  by_cases hj : j < n
  · rw [h j hj, mkV_at hj]
  · rw [List.getElem?_eq_none (by omega), List.getElem?_eq_none (by rw [mkV_len]; omega)]

end Go.Proofs.Ytmpbcdolikafpaa

namespace Go.Proofs.Ytmpbcdolikafpaa
open Go.RowKit
set_option linter.unusedVariables false
set_option linter.unusedSimpArgs false

theorem fm_setD {L : List Sh} {k : Nat} (hk : k < L.length) (d : Int) : (L.flatMap shC).set (k * 5 + 4) (.int .i64 ((shA L k).d + d)) = (setD L k d).flatMap shC := by
  apply List.ext_getElem?
  intro j
  have hl := fm_length shC_len L
  have hl2 := fm_length shC_len (setD L k d)
  rw [setD_len] at hl2
  rw [List.getElem?_set]
  by_cases hj : j < L.length * 5
  · have hq : j / 5 < L.length := by omega
    have ej : j / 5 * 5 + j % 5 = j := by omega
    have h1 := fm_get shC_len L (j / 5) (j % 5) hq (by omega)
    have h2 := fm_get shC_len (setD L k d) (j / 5) (j % 5) (by rw [setD_len]; exact hq) (by omega)
    rw [ej] at h1 h2
    rw [h1, h2, hl]
    by_cases hkj : j / 5 = k
    · have e : (setD L k d)[j / 5]'(by rw [setD_len]; exact hq) = ⟨(shA L k).b, (shA L k).d + d⟩ := by simp [setD, hkj]
      have e0 : L[j / 5] = shA L k := by rw [shA_get hk]; simp [hkj]
      rw [e, e0]
      by_cases hi : k * 5 + 4 = j
      · have e4 : j % 5 = 4 := by omega
        rw [if_pos hi, if_pos (by omega), e4]; rfl
      · rw [if_neg hi]
        have h4 : j % 5 < 4 := by omega
        rcases (by omega : j % 5 = 0 ∨ j % 5 = 1 ∨ j % 5 = 2 ∨ j % 5 = 3) with e4 | e4 | e4 | e4 <;> rw [e4] <;> rfl
    · rw [if_neg (by omega)]
      have e : (setD L k d)[j / 5]'(by rw [setD_len]; exact hq) = L[j / 5] := by
        simp only [setD, List.getElem_set]
        rw [if_neg (fun h => hkj h.symm)]
      rw [e]
  · rw [if_neg (by omega), List.getElem?_eq_none (by omega), List.getElem?_eq_none (by omega)]
theorem og_len {w : World} {B g n c : Nat} {L : List Sh} (h : OG 48 5 shC w B (.slice (some ⟨g, 0, none⟩) n c) L) : n = L.length := by
  obtain ⟨_, _, e⟩ := (OG.rg shC_len h).form; injection e
theorem og_dose {w : World} {B g n c : Nat} {L : List Sh} (h : OG 48 5 shC w B (.slice (some ⟨g, 0, none⟩) n c) L) {k : Nat} (hk : k < L.length) : w.cell? ⟨g, k * 5 + 4, none⟩ = some (.int .i64 (shA L k).d) ∧ w.frozen? ⟨g, k * 5 + 4, none⟩ = false := by
  have hn := og_len h
  subst hn
  refine ⟨?_, World.ownsRow.frozenAt h _⟩
  rw [World.ownsRow.cellAt h _ (by omega), fm_get shC_len L k 4 hk (by omega), shA_get hk]
  rfl
theorem og_setD {w : World} {B g n c : Nat} {L : List Sh} (h : OG 48 5 shC w B (.slice (some ⟨g, 0, none⟩) n c) L) {k : Nat} (hk : k < L.length) (d : Int) : OG 48 5 shC (w.setCell ⟨g, k * 5 + 4, none⟩ (.int .i64 ((shA L k).d + d))) B (.slice (some ⟨g, 0, none⟩) n c) (setD L k d) := by
  have hn := og_len h
  subst hn
  have := (World.ownsRow.stored h (k * 5 + 4) (.int .i64 ((shA L k).d + d))).1
  unfold OG
  rw [setD_len, ← fm_setD hk d]
  exact this

/-- What tells the errors: a function value by its four boxes. -/
def ecV (q1 q2 q3 q4 : Nat) : Value := .func (Fn.func 39) #[] #[.pointer (some ⟨q1, 0, none⟩), .pointer (some ⟨q2, 0, none⟩), .pointer (some ⟨q3, 0, none⟩), .pointer (some ⟨q4, 0, none⟩)]
/-- Where an evening stands: its block, its book, its errors. All from lo on. -/
structure ED (lo ke : Nat) (bv ev fn : Value) (S : EvS) (V : World) : Prop where
  kb : V.heap[ke]? = some (.cells #[bv, ev, fn] 58)
  bo : OG 48 5 shC V lo bv S.1
  er : IS V lo ev S.2
  lk : lo ≤ ke
theorem row_type {V : World} {B T k n : Nat} {v : Value} {xs : List Value} (h : V.ownsRow B T k v n xs) {g : Nat} (hg : v.ownBlock = some g) : ∃ cur, V.heap[g]? = some (.cells cur T (0, 0)) := by
  rcases h.2 with ⟨e, _⟩ | ⟨g', cap, cur, e, _, hc, _⟩
  · rw [e] at hg; cases hg
  · rw [e] at hg
    have e2 : g' = g := Option.some.inj hg
    rw [← e2]
    exact ⟨cur, hc⟩
theorem ED.next {lo ke : Nat} {bv ev fn : Value} {S : EvS} {V V' : World} (h : ED lo ke bv ev fn S V) (hb : Below V.heap.size V V') : ED lo ke bv ev fn S V' :=
  ⟨(hb.block _ (ltOf h.kb)).trans h.kb, h.bo.below hb, h.er.bel hb, h.lk⟩
theorem ED.nek {lo ke : Nat} {bv ev fn : Value} {S : EvS} {V : World} (h : ED lo ke bv ev fn S V) : (∀ g, bv.ownBlock = some g → g ≠ ke) ∧ (∀ g, ev.ownBlock = some g → g ≠ ke) ∧ (∀ g, ev.ownBlock = some g → bv.ownBlock ≠ some g) := by
  refine ⟨fun g hg e => ?_, fun g hg e => ?_, fun g hg e => ?_⟩
  · obtain ⟨cur, hc⟩ := row_type h.bo hg
    rw [e, h.kb] at hc
    injection hc with e4
    injection e4 with _ e5
    cases e5
  · obtain ⟨cur, hc⟩ := row_type h.er hg
    rw [e, h.kb] at hc
    injection hc with e4
    injection e4 with _ e5
    cases e5
  · obtain ⟨cur, hc⟩ := row_type h.er hg
    obtain ⟨cur2, hc2⟩ := row_type h.bo e
    rw [hc] at hc2
    injection hc2 with e4
    injection e4 with _ e5
    cases e5
theorem three_at {w : World} {k : Nat} {a b c : Value} {T : TypeId} (h : w.heap[k]? = some (.cells #[a, b, c] T)) :
    w.cell? ⟨k, 0, none⟩ = some a ∧ w.cell? ⟨k, 1, none⟩ = some b ∧ w.cell? ⟨k, 2, none⟩ = some c ∧ (∀ i, w.frozen? ⟨k, i, none⟩ = false) ∧ k < w.heap.size :=
  ⟨cellOf h 0 rfl, cellOf h 1 rfl, cellOf h 2 rfl, frozOf h, ltOf h⟩

end Go.Proofs.Ytmpbcdolikafpaa
