/- Proved here: slices.Sort and slices.Compact at a list of numbers of the call's own: what is left is rising, with the same numbers. By the library's contracts. (And ahead of it: Proved here: slices.Sort at a list of numbers of the call's own: by the library's contract. (And ahead of it: Proved here: a row of the call's own whose cells the library has laid anew (putRow, grow): it is the call's own still, with the new cells. No condition on the program.)) -/
import Derived.Test.YtmdijanohjkeeaaKept
import Derived.Sort.Row
import Derived.Sort.Grow
import Derived.Test.YtmdijanohjkeeaaSort
import Derived.Test.YtmdijanohjkeeaaBxL
namespace Go.Proofs.Ytmdijanohjkeeaa
open Go.RowKit Go.Sort
set_option linter.unusedVariables false
set_option linter.unusedSimpArgs false

theorem put_block (w : World) (m g : Nat) (F : Array Value) (os : Array Obj) (k : Nat) (hk : k < w.heap.size) : (grow (putRow id (Sort.ahead w m) g 0 F) os).heap[k]? = if g = k then (w.heap[k]?).map (onCells (putCells id 0 F)) else w.heap[k]? := by
  show (((w.heap.modify g (onCells (putCells id 0 F)))) ++ os)[k]? = _
  rw [Array.getElem?_append_left (by simpa using hk), Array.getElem?_modify]

theorem put_below (w : World) (m g B : Nat) (F : Array Value) (os : Array Obj) (hB : B ≤ g) (hg : g < w.heap.size) : Below B w (grow (putRow id (Sort.ahead w m) g 0 F) os) := by
  refine ⟨rfl, rfl, rfl, ?_, fun k hk => ?_⟩
  · show w.heap.size ≤ ((w.heap.modify g (onCells (putCells id 0 F))) ++ os).size
    simp
  · rw [put_block w m g F os k (by omega), if_neg (by omega)]

theorem put_owns {w : World} {B T k g n cap : Nat} {cs : List Value} (h : w.ownsRow B T k (.slice (some ⟨g, 0, none⟩) n cap) n cs) (cs' : List Value) (hl : cs'.length = n * k) (m : Nat) (os : Array Obj) :
    (grow (putRow id (Sort.ahead w m) g 0 cs'.toArray) os).ownsRow B T k (.slice (some ⟨g, 0, none⟩) n cap) n cs' := by
  have hlt := (World.ownsRow.lt h g rfl).2
  refine ⟨hl, Or.inr ?_⟩
  rcases h.2 with ⟨e, _⟩ | ⟨g', cap', cur, e, hB, hg, hn, hm, hs, ht⟩
  · cases e
  · simp only [Value.slice.injEq, Option.some.injEq, Addr.mk.injEq, and_true, true_and] at e
    obtain ⟨rfl, rfl⟩ := e
    refine ⟨g, cap, putCells id 0 cs'.toArray cur, rfl, hB, ?_, hn, hm, by simpa [putCells] using hs, ?_⟩
    · rw [put_block w m g _ os g hlt, if_pos rfl, hg]
      rfl
    · apply List.ext_getElem?
      intro t
      rw [List.getElem?_take]
      have hnk : n * k ≤ cap * k := Nat.mul_le_mul_right _ hn
      rcases Nat.lt_or_ge t (n * k) with h1 | h1
      · rw [if_pos h1, Array.getElem?_toList]
        unfold putCells
        rw [Array.getElem?_mapIdx]
        have hc : t < cur.size := by omega
        rw [Array.getElem?_eq_getElem hc]
        have h2 : t < cs'.length := by omega
        simp [h1, h2, hl, List.getElem?_eq_getElem h2]
      · rw [if_neg (by omega), List.getElem?_eq_none (by omega)]

theorem owns_holds {w : World} {B T k g n cap : Nat} {cs : List Value} (h : w.ownsRow B T k (.slice (some ⟨g, 0, none⟩) n cap) n cs) : Holds id w g 0 cs.toArray := by
  intro j hj
  have hj' : j < cs.length := by simpa using hj
  rw [Nat.zero_add]
  refine ⟨?_, World.ownsRow.frozenAt h j⟩
  rw [World.ownsRow.cellAt h j (by have := h.1; omega)]
  simp [hj']

end Go.Proofs.Ytmdijanohjkeeaa

namespace Go.Proofs.Ytmdijanohjkeeaa
open Go.RowKit Go.Sort Go.Shelf Go.Lib
set_option linter.unusedVariables false
set_option linter.unusedSimpArgs false

theorem put_enc {α : Type} [Inhabited α] (enc : α → Value) (w : World) (g : Nat) (d : Array α) : putRow enc w g 0 d = putRow id w g 0 (d.map enc) := by
  unfold putRow
  have : putCells enc 0 d = putCells id 0 (d.map enc) := by
    funext c
    unfold putCells
    apply Array.ext_getElem?
    intro t
    simp only [Array.getElem?_mapIdx, Array.size_map]
    congr 1
    funext x
    by_cases h : 0 ≤ t ∧ t < 0 + d.size
    · rw [if_pos h, if_pos h]
      have h2 : t - 0 < d.size := by omega
      rw [getElem!_pos d _ h2, getElem!_pos (d.map enc) _ (by simpa using h2)]
      simp
    · rw [if_neg h, if_neg h]
  rw [this]
theorem int_holds {w : World} {B g n cap : Nat} {xs : List Int} (h : IS w B (.slice (some ⟨g, 0, none⟩) n cap) xs) (hn : n = xs.length) : Holds (Value.int .i64) w g 0 xs.toArray := by
  subst hn
  intro j hj
  obtain ⟨h1, h2⟩ := owns_holds h j (by simpa using hj)
  refine ⟨?_, h2⟩
  rw [h1]
  have hj' : j < xs.length := by simpa using hj
  simp [hj']

theorem ht_sort {w : World} {B g n cap : Nat} {xs : List Int} (h : IS w B (.slice (some ⟨g, 0, none⟩) n cap) xs) (hn : n = xs.length) (hs : n ≤ 1000000) :
    Calls Try.prog 64 #[.slice (some ⟨g, 0, none⟩) n cap] w fun e w' => e = .returned (.tuple #[]) ∧ IS w' B (.slice (some ⟨g, 0, none⟩) n cap) (xs.mergeSort fun x y => decide (x ≤ y)) ∧ Below B w w' := by
  have hlt := World.ownsRow.lt h g rfl
  have hH := int_holds h hn
  subst hn
  have hcon := AnyM.slices_Sort_int Try.sortI g 0 cap xs w hH hlt.2 (by omega)
  change Calls Try.prog 64 _ _ _ at hcon
  refine hcon.mono ?_
  rintro e w' ⟨rfl, n, os, rfl⟩
  rw [put_enc]
  refine ⟨rfl, ?_, put_below w n g B _ os hlt.1 hlt.2⟩
  have hl : (xs.mergeSort fun x y => decide (x ≤ y)).length = xs.length := List.length_mergeSort xs
  have := put_owns h ((xs.mergeSort fun x y => decide (x ≤ y)).map (Value.int .i64)) (by simp [hl]) n os
  unfold IS
  rw [hl]
  simpa using this

end Go.Proofs.Ytmdijanohjkeeaa

namespace Go.Proofs.Ytmdijanohjkeeaa
open Go.RowKit Go.Sort Go.Shelf Go.Lib
set_option linter.unusedVariables false
set_option linter.unusedSimpArgs false

theorem comp_ok (d : Array Int) (hs : ∀ i j, i < j → j < d.size → d[i]! ≤ d[j]!) : ∀ m, m ≤ d.size → Up (compactUpTo d m) ∧ ∀ v, v ∈ compactUpTo d m ↔ ∃ j, j < m ∧ d[j]! = v := by
  intro m
  induction m with
  | zero => intro _; exact ⟨List.Pairwise.nil, fun v => by simp [compactUpTo]⟩
  | succ m ih =>
    intro hm
    obtain ⟨hu, hmem⟩ := ih (by omega)
    rw [compactUpTo_succ]
    by_cases hk : keeps d m = true
    · rw [if_pos hk]
      refine ⟨?_, fun v => ?_⟩
      · unfold Up at hu ⊢
        rw [List.pairwise_append]
        refine ⟨hu, by simp, fun x hx y hy => ?_⟩
        obtain rfl : y = d[m]! := by simpa using hy
        obtain ⟨j, hj, rfl⟩ := (hmem x).1 hx
        have h1 : m ≠ 0 := by omega
        have h2 : d[m]! ≠ d[m - 1]! := by simpa [keeps, h1] using hk
        have h3 := hs (m - 1) m (by omega) (by omega)
        rcases (by omega : j = m - 1 ∨ j < m - 1) with e | e
        · rw [e]; omega
        · have h4 := hs j (m - 1) e (by omega); omega
      · rw [List.mem_append, hmem, List.mem_singleton]
        constructor
        · rintro (⟨j, hj, rfl⟩ | rfl)
          · exact ⟨j, by omega, rfl⟩
          · exact ⟨m, by omega, rfl⟩
        · rintro ⟨j, hj, rfl⟩
          rcases (by omega : j = m ∨ j < m) with e | e
          · right; rw [e]
          · left; exact ⟨j, e, rfl⟩
    · rw [if_neg hk, List.append_nil]
      refine ⟨hu, fun v => ?_⟩
      have h1 : ¬ (m = 0 ∨ d[m]! ≠ d[m - 1]!) := by simpa [keeps] using hk
      have hm0 : m ≠ 0 := fun e => h1 (Or.inl e)
      have he : d[m]! = d[m - 1]! := Classical.not_not.1 fun e => h1 (Or.inr e)
      rw [hmem]
      constructor
      · rintro ⟨j, hj, rfl⟩; exact ⟨j, by omega, rfl⟩
      · rintro ⟨j, hj, rfl⟩
        rcases (by omega : j = m ∨ j < m) with e | e
        · exact ⟨m - 1, by omega, by rw [e, he]⟩
        · exact ⟨j, e, rfl⟩

theorem IS.front {w : World} {B g n cap : Nat} {ys zs : List Int} (h : w.ownsRow B 2 1 (.slice (some ⟨g, 0, none⟩) n cap) n ((ys ++ zs).map (Value.int .i64))) : IS w B (.slice (some ⟨g, 0, none⟩) ys.length cap) ys := by
  have hl := h.1
  simp at hl
  refine ⟨by simp, Or.inr ?_⟩
  rcases h.2 with ⟨e, _⟩ | ⟨g', cap', cur, e, hB, hg, hn, hm, hs, ht⟩
  · cases e
  · simp only [Value.slice.injEq, Option.some.injEq, Addr.mk.injEq, and_true, true_and] at e
    obtain ⟨rfl, rfl⟩ := e
    refine ⟨g, cap, cur, rfl, hB, hg, by omega, hm, hs, ?_⟩
    have h2 := congrArg (List.take ys.length) ht
    rw [List.take_take, List.map_append, List.take_left' (by simp)] at h2
    rw [Nat.mul_one, ← h2]
    congr 1
    omega

theorem ht_compact {w : World} {B g n cap : Nat} {xs : List Int} (h : IS w B (.slice (some ⟨g, 0, none⟩) n cap) xs) (hn : n = xs.length) (hs : n ≤ 1000000) :
    Calls Try.prog 65 #[.slice (some ⟨g, 0, none⟩) n cap] w fun e w' => e = .returned (.slice (some ⟨g, 0, none⟩) (compactUpTo xs.toArray xs.length).length cap) ∧ IS w' B (.slice (some ⟨g, 0, none⟩) (compactUpTo xs.toArray xs.length).length cap) (compactUpTo xs.toArray xs.length) ∧ Below B w w' := by
  have hlt := World.ownsRow.lt h g rfl
  have hH := int_holds h hn
  subst hn
  have hcap : xs.length ≤ cap := by
    rcases h.2 with ⟨e, _⟩ | ⟨g', cap', cur, e, hB, hg, hn, hm, hs, ht⟩
    · cases e
    · simp only [Value.slice.injEq, true_and] at e
      rw [e.2]; exact hn
  have hcon := AnyE.slices_Compact Try.compI (Value.int .i64) (fun _ => rfl) (EqlAt.intD _ _ _) (NeqAt.intD _ _ _) 0 Try.zeroValue2 g 0 cap xs.toArray w hH (by simp; omega) (by simpa using hcap)
  change Calls Try.prog 65 _ _ _ at hcon
  refine hcon.mono ?_
  rintro e w' ⟨rfl, q, rfl⟩
  have hle : (compactUpTo xs.toArray xs.toArray.size).length ≤ xs.length := by
    unfold compactUpTo
    rw [List.length_map]
    refine Nat.le_trans (List.length_filter_le _ _) (by simp)
  obtain ⟨ys, hys⟩ : ∃ ys, ys = compactUpTo xs.toArray xs.toArray.size := ⟨_, rfl⟩
  have hsz : xs.toArray.size = xs.length := by simp
  rw [hsz] at hys hle ⊢
  rw [← hys] at hle ⊢
  have hg0 : ∀ W : World, W = grow W #[] := fun W => (grow_empty W).symm
  rw [put_enc, hg0 (putRow id (Sort.ahead w q) g 0 _)]
  refine ⟨rfl, ?_, put_below w q g B _ #[] hlt.1 hlt.2⟩
  have := put_owns h ((ys ++ List.replicate (xs.length - ys.length) 0).map (Value.int .i64)) (by simp; omega) q #[]
  have := IS.front this
  simpa using this

end Go.Proofs.Ytmdijanohjkeeaa
