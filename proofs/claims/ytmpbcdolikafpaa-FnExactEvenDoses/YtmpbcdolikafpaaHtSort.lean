/- Proved here: slices.Sort and slices.Compact at a list of numbers of the call's own: what is left is rising, with the same numbers. By the library's contracts. -/
import Derived.Test.YtmpbcdolikafpaaBoxBase
import Derived.Test.YtmpbcdolikafpaaSoI
namespace Go.Proofs.Ytmpbcdolikafpaa
open Go.RowKit Go.Sort Go.Shelf Go.Lib
set_option linter.unusedVariables false
set_option linter.unusedSimpArgs false

theorem comp_ok (d : Array Int) (hs : ∀ i j, i < j → j < d.size → d[i]! ≤ d[j]!) : ∀ m, m ≤ d.size → Up (compactUpTo d m) ∧ ∀ v, v ∈ compactUpTo d m ↔ ∃ j, j < m ∧ d[j]! = v := by
  intro m
  induction m with
  | zero => intro _; exact ⟨List.Pairwise.nil, fun v => by simp [compactUpTo]⟩
  | succ m ih =>
    intro hm
    obtain ⟨hu, hmem⟩ := ih (by omega)
    rw [compactUpTo_succ]
    by_cases hk : keeps d m = true
    · rw [if_pos hk]
      refine ⟨?_, fun v => ?_⟩
      · unfold Up at hu ⊢
        rw [List.pairwise_append]
        refine ⟨hu, by simp, fun x hx y hy => ?_⟩
        obtain rfl : y = d[m]! := by simpa using hy
        obtain ⟨j, hj, rfl⟩ := (hmem x).1 hx
        have h1 : m ≠ 0 := by omega
        have h2 : d[m]! ≠ d[m - 1]! := by simpa [keeps, h1] using hk
        have h3 := hs (m - 1) m (by omega) (by omega)
        rcases (by omega : j = m - 1 ∨ j < m - 1) with e | e
        · rw [e]; omega
        · have h4 := hs j (m - 1) e (by omega); omega
      · rw [List.mem_append, hmem, List.mem_singleton]
        constructor
        · rintro (⟨j, hj, rfl⟩ | rfl)
          · exact ⟨j, by omega, rfl⟩
          · exact ⟨m, by omega, rfl⟩
        · rintro ⟨j, hj, rfl⟩
          rcases (by omega : j = m ∨ j < m) with e | e
          · right; rw [e]
          · left; exact ⟨j, e, rfl⟩
    · rw [if_neg hk, List.append_nil]
      refine ⟨hu, fun v => ?_⟩
      have h1 : ¬ (m = 0 ∨ d[m]! ≠ d[m - 1]!) := by simpa [keeps] using hk
      have hm0 : m ≠ 0 := fun e => h1 (Or.inl e)
      have he : d[m]! = d[m - 1]! := Classical.not_not.1 fun e => h1 (Or.inr e)
      rw [hmem]
      constructor
      · rintro ⟨j, hj, rfl⟩; exact ⟨j, by omega, rfl⟩
      · rintro ⟨j, hj, rfl⟩
        rcases (by omega : j = m ∨ j < m) with e | e
        · exact ⟨m - 1, by omega, by rw [e, he]⟩
        · exact ⟨j, e, rfl⟩

theorem IS.front {w : World} {B g n cap : Nat} {ys zs : List Int} (h : w.ownsRow B 2 1 (.slice (some ⟨g, 0, none⟩) n cap) n ((ys ++ zs).map (Value.int .i64))) : IS w B (.slice (some ⟨g, 0, none⟩) ys.length cap) ys := by
  have hl := h.1
  simp at hl
  refine ⟨by simp, Or.inr ?_⟩
  rcases h.2 with ⟨e, _⟩ | ⟨g', cap', cur, e, hB, hg, hn, hm, hs, ht⟩
  · cases e
  · simp only [Value.slice.injEq, Option.some.injEq, Addr.mk.injEq, and_true, true_and] at e
    obtain ⟨rfl, rfl⟩ := e
    refine ⟨g, cap, cur, rfl, hB, hg, by omega, hm, hs, ?_⟩
    have h2 := congrArg (List.take ys.length) ht
    rw [List.take_take, List.map_append, List.take_left' (by simp)] at h2
    rw [Nat.mul_one, ← h2]
    congr 1
    omega

theorem ht_compact {w : World} {B g n cap : Nat} {xs : List Int} (h : IS w B (.slice (some ⟨g, 0, none⟩) n cap) xs) (hn : n = xs.length) (hs : n ≤ 1000000) :
    Calls Try.prog 62 #[.slice (some ⟨g, 0, none⟩) n cap] w fun e w' => e = .returned (.slice (some ⟨g, 0, none⟩) (compactUpTo xs.toArray xs.length).length cap) ∧ IS w' B (.slice (some ⟨g, 0, none⟩) (compactUpTo xs.toArray xs.length).length cap) (compactUpTo xs.toArray xs.length) ∧ Below B w w' := by
  have hlt := World.ownsRow.lt h g rfl
  have hH := int_holds h hn
  subst hn
  have hcap : xs.length ≤ cap := by
    rcases h.2 with ⟨e, _⟩ | ⟨g', cap', cur, e, hB, hg, hn, hm, hs, ht⟩
    · cases e
    · simp only [Value.slice.injEq, true_and] at e
      rw [e.2]; exact hn
  have hcon := AnyE.slices_Compact Try.compI (Value.int .i64) (fun _ => rfl) (EqlAt.intD _ _ _) (NeqAt.intD _ _ _) 0 Try.zeroValue2 g 0 cap xs.toArray w hH (by simp; omega) (by simpa using hcap)
  change Calls Try.prog 62 _ _ _ at hcon
  refine hcon.mono ?_
  rintro e w' ⟨rfl, q, rfl⟩
  have hle : (compactUpTo xs.toArray xs.toArray.size).length ≤ xs.length := by
    unfold compactUpTo
    rw [List.length_map]
    refine Nat.le_trans (List.length_filter_le _ _) (by simp)
  obtain ⟨ys, hys⟩ : ∃ ys, ys = compactUpTo xs.toArray xs.toArray.size := ⟨_, rfl⟩
  have hsz : xs.toArray.size = xs.length := by simp
  rw [hsz] at hys hle ⊢
  rw [← hys] at hle ⊢
  have hg0 : ∀ W : World, W = grow W #[] := fun W => (grow_empty W).symm
  rw [put_enc, hg0 (putRow id (Sort.ahead w q) g 0 _)]
  refine ⟨rfl, ?_, put_below w q g B _ #[] hlt.1 hlt.2⟩
  have := put_owns h ((ys ++ List.replicate (xs.length - ys.length) 0).map (Value.int .i64)) (by simp; omega) q #[]
  have := IS.front this
  simpa using this

end Go.Proofs.Ytmpbcdolikafpaa
