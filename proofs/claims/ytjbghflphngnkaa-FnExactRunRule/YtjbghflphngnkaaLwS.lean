/- Proved here: the state of a law: what lies in memory of its own, told by ranges of blocks. No condition on the program. -/
import Derived.Test.YtjbghflphngnkaaKept
import Derived.Test.YtjbghflphngnkaaFloat
namespace Go.Proofs.Ytjbghflphngnkaa
open Go.RowKit
set_option linter.unusedVariables false
set_option linter.unusedSimpArgs false

theorem cellOf {V : World} {k : Nat} {cs : Array Value} {T : TypeId} (h : V.heap[k]? = some (.cells cs T)) (i : Nat) {v : Value} (hi : cs[i]? = some v) : V.cell? ⟨k, i, none⟩ = some v := by
  simp [World.cell?, h, hi]
theorem frozOf {V : World} {k : Nat} {cs : Array Value} {T : TypeId} (h : V.heap[k]? = some (.cells cs T)) (i : Nat) : V.frozen? ⟨k, i, none⟩ = false := by
  simp [World.frozen?, h]
theorem ltOf {V : World} {k : Nat} {o : Obj} (h : V.heap[k]? = some o) : k < V.heap.size := by
  rcases Nat.lt_or_ge k V.heap.size with h' | h'
  · exact h'
  · rw [Array.getElem?_eq_none h'] at h; cases h
theorem cellSame {V V' : World} {k : Nat} {o : Obj} (h : V.heap[k]? = some o) (h' : V'.heap[k]? = some o) (i : Nat) : V'.cell? ⟨k, i, none⟩ = V.cell? ⟨k, i, none⟩ := by
  simp [World.cell?, h, h']

/-- What hangs on the blocks from lo on, below hi, alone. -/
structure Ow (lo hi : Nat) (P : World → Prop) (V : World) : Prop where
  is : P V
  keep : ∀ V' : World, (∀ q, lo ≤ q → q < hi → V'.heap[q]? = V.heap[q]?) → P V'
  le : lo ≤ hi ∧ hi ≤ V.heap.size
theorem Ow.same {lo hi : Nat} {P : World → Prop} {V V' : World} (h : Ow lo hi P V) (hs : V.heap.size ≤ V'.heap.size) (hq : ∀ q, lo ≤ q → q < hi → V'.heap[q]? = V.heap[q]?) : Ow lo hi P V' :=
  ⟨h.keep V' hq, fun V'' h2 => h.keep V'' fun q h3 h4 => (h2 q h3 h4).trans (hq q h3 h4), ⟨h.le.1, Nat.le_trans h.le.2 hs⟩⟩
theorem Ow.next {lo hi : Nat} {P : World → Prop} {V V' : World} (h : Ow lo hi P V) (hb : Below V.heap.size V V') : Ow lo hi P V' :=
  h.same hb.size fun q _ h2 => hb.block q (Nat.lt_of_lt_of_le h2 h.le.2)
theorem Ow.chg {lo hi A C : Nat} {P : World → Prop} {V V' : World} (h : Ow lo hi P V) (hc : Chg A C V V') (hd : hi ≤ A ∨ C ≤ lo) : Ow lo hi P V' :=
  h.same hc.size fun q h1 h2 => hc.block q (Nat.lt_of_lt_of_le h2 h.le.2) (by omega)
theorem Ow.block {V : World} {k : Nat} {o : Obj} (h : V.heap[k]? = some o) : Ow k (k + 1) (fun V => V.heap[k]? = some o) V :=
  ⟨h, fun V' hq => (hq k (Nat.le_refl _) (by omega)).trans h, ⟨by omega, ltOf h⟩⟩
theorem ownsRow_keep {V V' : World} {B T k n : Nat} {v : Value} {xs : List Value} (h : V.ownsRow B T k v n xs) (hq : ∀ g, v.ownBlock = some g → V'.heap[g]? = V.heap[g]?) : V'.ownsRow B T k v n xs := by
  refine ⟨h.1, ?_⟩
  rcases h.2 with h' | ⟨g, cap, cur, rfl, hB, hg, hr⟩
  · exact Or.inl h'
  · exact Or.inr ⟨g, cap, cur, rfl, hB, by rw [hq g rfl]; exact hg, hr⟩
theorem Ow.row {V : World} {B hi T k n : Nat} {v : Value} {xs : List Value} (h : V.ownsRow B T k v n xs) (h1 : B ≤ hi) (h2 : hi ≤ V.heap.size) (hh : ∀ g, v.ownBlock = some g → g < hi) : Ow B hi (fun V => V.ownsRow B T k v n xs) V :=
  ⟨h, fun V' hq => ownsRow_keep h fun g hg => hq g (World.ownsRow.lt h g hg).1 (hh g hg), ⟨h1, h2⟩⟩
theorem Ow.rowAll {V V0 : World} {T k n : Nat} {v : Value} {xs : List Value} (h : V.ownsRow V0.heap.size T k v n xs) (hb : Below V0.heap.size V0 V) : Ow V0.heap.size V.heap.size (fun V => V.ownsRow V0.heap.size T k v n xs) V :=
  Ow.row h hb.size (Nat.le_refl _) fun g hg => (World.ownsRow.lt h g hg).2
theorem Ow.and {lo hi : Nat} {P Q : World → Prop} {V : World} (h : Ow lo hi P V) (h' : Ow lo hi Q V) : Ow lo hi (fun V => P V ∧ Q V) V :=
  ⟨⟨h.is, h'.is⟩, fun V' hq => ⟨h.keep V' hq, h'.keep V' hq⟩, h.le⟩
theorem Ow.true {lo hi : Nat} {P : World → Prop} {V : World} (h : Ow lo hi P V) {V' : World} (hs : V.heap.size ≤ V'.heap.size) : Ow lo hi (fun _ => True) V' :=
  ⟨trivial, fun _ _ => trivial, ⟨h.le.1, Nat.le_trans h.le.2 hs⟩⟩
theorem Ow.wide {lo hi lo' hi' : Nat} {P : World → Prop} {V : World} (h : Ow lo hi P V) (h1 : lo' ≤ lo) (h2 : hi ≤ hi') (h3 : hi' ≤ V.heap.size) : Ow lo' hi' P V :=
  ⟨h.is, fun V' hq => h.keep V' fun q h4 h5 => hq q (by omega) (by omega), ⟨by have := h.le; omega, h3⟩⟩

/-- Where a law stands. -/
structure LS (w : World) (os : List (Nat × Nat × (World → Prop))) (V : World) : Prop where
  bl : Below w.heap.size w V
  ow : ∀ o ∈ os, Ow o.1 o.2.1 o.2.2 V
  pw : os.Pairwise (fun a b => a.2.1 ≤ b.1)
  lo : ∀ o ∈ os, w.heap.size ≤ o.1
theorem LS.start (w : World) : LS w [] w := ⟨Below.refl _ _, (fun _ h => by cases h), List.Pairwise.nil, (fun _ h => by cases h)⟩
theorem LS.own {w V : World} {os : List (Nat × Nat × (World → Prop))} (h : LS w os V) (i : Nat) {lo hi : Nat} {P : World → Prop} (ho : os[i]? = some (lo, hi, P)) : Ow lo hi P V := h.ow _ (List.mem_of_getElem? ho)
theorem LS.get {w V : World} {os : List (Nat × Nat × (World → Prop))} (h : LS w os V) (i : Nat) {lo hi : Nat} {P : World → Prop} (ho : os[i]? = some (lo, hi, P)) : P V := (h.own i ho).is
theorem LS.next {w V V' : World} {os : List (Nat × Nat × (World → Prop))} (h : LS w os V) (hb : Below V.heap.size V V') : LS w os V' :=
  ⟨h.bl.trans (hb.mono h.bl.size), fun o ho => (h.ow o ho).next hb, h.pw, h.lo⟩
theorem LS.push {w V V' : World} {os : List (Nat × Nat × (World → Prop))} {lo hi : Nat} {P : World → Prop} (h : LS w os V) (hb : Below V.heap.size V V') (ho : Ow lo hi P V') (hlo : V.heap.size ≤ lo) : LS w (os ++ [(lo, hi, P)]) V' := by
  refine ⟨h.bl.trans (hb.mono h.bl.size), fun o hm => ?_, ?_, fun o hm => ?_⟩
  · rcases List.mem_append.1 hm with hm | hm
    · exact (h.ow o hm).next hb
    · rw [List.mem_singleton.1 hm]; exact ho
  · rw [List.pairwise_append]
    refine ⟨h.pw, List.pairwise_singleton _ _, fun a ha b hb2 => ?_⟩
    rw [List.mem_singleton.1 hb2]
    exact Nat.le_trans (h.ow a ha).le.2 hlo
  · rcases List.mem_append.1 hm with hm | hm
    · exact h.lo o hm
    · rw [List.mem_singleton.1 hm]; exact Nat.le_trans h.bl.size hlo
theorem LS.put {w V V' : World} {os : List (Nat × Nat × (World → Prop))} {A C : Nat} {P P' : World → Prop} (h : LS w os V) (i : Nat) (ho : os[i]? = some (A, C, P)) (hc : Chg A C V V') (hn : Ow A C P' V') : LS w (os.set i (A, C, P')) V' := by
  obtain ⟨hi, he⟩ := List.getElem?_eq_some_iff.1 ho
  have hw : w.heap.size ≤ A := by have := h.lo _ (List.mem_of_getElem? ho); exact this
  refine ⟨h.bl.trans (hc.below hw h.bl.size), fun o hm => ?_, ?_, fun o hm => ?_⟩
  · obtain ⟨j, hj, rfl⟩ := List.getElem_of_mem hm
    rw [List.length_set] at hj
    by_cases hij : i = j
    · subst hij; simpa using hn
    · rw [List.getElem_set_ne hij]
      refine (h.ow _ (List.getElem_mem hj)).chg hc ?_
      have hp := List.pairwise_iff_getElem.1 h.pw
      rcases Nat.lt_or_ge j i with hlt | hge
      · have := hp j i hj hi hlt; rw [he] at this; exact Or.inl this
      · have := hp i j hi hj (by omega); rw [he] at this; exact Or.inr this
  · rw [List.pairwise_iff_getElem]
    intro a b ha hb hab
    rw [List.length_set] at ha hb
    have hp := List.pairwise_iff_getElem.1 h.pw a b ha hb hab
    rw [List.getElem_set, List.getElem_set]
    split <;> split
    · omega
    · rename_i h1 _; subst h1; rw [he] at hp; exact hp
    · rename_i _ h1; subst h1; rw [he] at hp; exact hp
    · exact hp
  · obtain ⟨j, hj, rfl⟩ := List.getElem_of_mem hm
    rw [List.length_set] at hj
    by_cases hij : i = j
    · subst hij; simpa using hw
    · rw [List.getElem_set_ne hij]; exact h.lo _ (List.getElem_mem hj)

/-- The numbers z, z + 1, .. as cells. -/
def mkV (z : Int) (n : Nat) : List Value := (List.range n).map fun j : Nat => Value.int .i64 (z + (j : Int))
theorem mkV_len (z : Int) (n : Nat) : (mkV z n).length = n := by simp [mkV]
theorem mkV_at {z : Int} {n j : Nat} (h : j < n) : (mkV z n)[j]? = some (.int .i64 (z + (j : Int))) := by simp [mkV, h]
theorem mkV_of {z : Int} {n : Nat} {ys : List Value} (hl : ys.length = n) (h : ∀ t, t < n → ys[t]? = some (.int .i64 (z + (t : Int)))) : ys = mkV z n := by
  apply List.ext_getElem?
  intro j
  by_cases hj : j < n
  · rw [h j hj, mkV_at hj]
  · rw [List.getElem?_eq_none (by omega), List.getElem?_eq_none (by rw [mkV_len]; omega)]

end Go.Proofs.Ytjbghflphngnkaa
