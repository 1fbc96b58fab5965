/- Proved here: slices.Sort at a list of numbers of the call's own: by the library's contract. -/
import Derived.Test.YtmpbcdolikafpaaRowPut
import Derived.Test.YtmpbcdolikafpaaSort
namespace Go.Proofs.Ytmpbcdolikafpaa
open Go.RowKit Go.Sort Go.Shelf Go.Lib
set_option linter.unusedVariables false
set_option linter.unusedSimpArgs false

theorem put_enc {α : Type} [Inhabited α] (enc : α → Value) (w : World) (g : Nat) (d : Array α) : putRow enc w g 0 d = putRow id w g 0 (d.map enc) := by
  unfold putRow
  have : putCells enc 0 d = putCells id 0 (d.map enc) := by
    funext c
    unfold putCells
    apply Array.ext_getElem?
    intro t
    simp only [Array.getElem?_mapIdx, Array.size_map]
    congr 1
    funext x
    by_cases h : 0 ≤ t ∧ t < 0 + d.size
    · rw [if_pos h, if_pos h]
      have h2 : t - 0 < d.size := by omega
      rw [getElem!_pos d _ h2, getElem!_pos (d.map enc) _ (by simpa using h2)]
      simp
    · rw [if_neg h, if_neg h]
  rw [this]
theorem int_holds {w : World} {B g n cap : Nat} {xs : List Int} (h : IS w B (.slice (some ⟨g, 0, none⟩) n cap) xs) (hn : n = xs.length) : Holds (Value.int .i64) w g 0 xs.toArray := by
  subst hn
  intro j hj
  obtain ⟨h1, h2⟩ := owns_holds h j (by simpa using hj)
  refine ⟨?_, h2⟩
  rw [h1]
  have hj' : j < xs.length := by simpa using hj
  simp [hj']

theorem ht_sort {w : World} {B g n cap : Nat} {xs : List Int} (h : IS w B (.slice (some ⟨g, 0, none⟩) n cap) xs) (hn : n = xs.length) (hs : n ≤ 1000000) :
    Calls Try.prog 61 #[.slice (some ⟨g, 0, none⟩) n cap] w fun e w' => e = .returned (.tuple #[]) ∧ IS w' B (.slice (some ⟨g, 0, none⟩) n cap) (xs.mergeSort fun x y => decide (x ≤ y)) ∧ Below B w w' := by
  have hlt := World.ownsRow.lt h g rfl
  have hH := int_holds h hn
  subst hn
  have hcon := AnyM.slices_Sort_int Try.sortI g 0 cap xs w hH hlt.2 (by omega)
  change Calls Try.prog 61 _ _ _ at hcon
  refine hcon.mono ?_
  rintro e w' ⟨rfl, n, os, rfl⟩
  rw [put_enc]
  refine ⟨rfl, ?_, put_below w n g B _ os hlt.1 hlt.2⟩
  have hl : (xs.mergeSort fun x y => decide (x ≤ y)).length = xs.length := List.length_mergeSort xs
  have := put_owns h ((xs.mergeSort fun x y => decide (x ≤ y)).map (Value.int .i64)) (by simp [hl]) n os
  unfold IS
  rw [hl]
  simpa using this

end Go.Proofs.Ytmpbcdolikafpaa
