/- Proved here: clusters in a map: what taking one more defect makes of them. -/
import Derived.Test.YtngpjglcjbdblaaVgM
import Derived.Test.YtngpjglcjbdblaaVoI
import Derived.Test.YtngpjglcjbdblaaTmC
import Derived.Test.YtngpjglcjbdblaaChg
namespace Go.Proofs.Ytngpjglcjbdblaa
open Go.RowKit Go.Maps
set_option linter.unusedVariables false
set_option linter.unusedSimpArgs false

def ik (c : Nat) : Lit := .int .i64 (c : Int)
theorem ik_lit (c : Nat) : WideAt.IsKeyLit (ik c) := by simp [ik, WideAt.IsKeyLit]
theorem ik_same (c : Nat) : (ik c).sameKey (ik c) = true := WideAt.sameKey_self (ik_lit c)
theorem ik_inj {a b : Nat} (h : ik a = ik b) : a = b := by unfold ik at h; injection h with _ h; omega
theorem ik_dec (a b : Nat) : (ik a).sameKey (ik b) = decide (b = a) := by
  by_cases h : b = a
  · subst h; rw [ik_same]; simp
  · rw [Maps.sameKey_ne (fun e => h (ik_inj e).symm)]; simp [h]
theorem ik_law : Maps.Keyed Try.prog 3 := Maps.int_keyed Try.underlying3
theorem ik_zero (w : World) : (zeroValue 44).run Try.prog w = .ok (.slice none 0 0) w := by kernel_rfl
theorem ik_key (x : Nat) (h : x ≤ 1000000) : keyOf Try.prog 3 (.int .i64 (x : Int)) = some (ik x) := Maps.keyOf_int_mk Try.underlying3 (ik_wf x (by omega) (by omega))
theorem ik_inv (key : Value) (kl : Lit) (h : keyOf Try.prog 3 key = some kl) : ∃ x : Int, key = .int .i64 x := by
  obtain ⟨x, rfl, _⟩ := Maps.keyOf_int_inv Try.underlying3 h; exact ⟨x, rfl⟩
def up (l : List Nat) : List Int := l.map (fun i : Nat => (i : Int))
def vmem (F : Nat → Nat) (k c : Nat) : List Nat := (List.range k).filter (fun i => decide (F i = c))
theorem vmem_mem {F : Nat → Nat} {k c i : Nat} : i ∈ vmem F k c ↔ i < k ∧ F i = c := by unfold vmem; simp
def vgm (F : Nat → Nat) (k : Nat) (q : Lit) : List Int := up ((List.range k).filter (fun i => q.sameKey (ik (F i))))
theorem vgm_at (F : Nat → Nat) (k c : Nat) : vgm F k (ik c) = up (vmem F k c) := by
  unfold vgm vmem
  congr 1
  apply List.filter_congr
  intro i _
  rw [ik_dec]
theorem vgm_key {F : Nat → Nat} {k : Nat} {q : Lit} (h : vgm F k q ≠ []) : ∃ i, i < k ∧ q = ik (F i) := by
  cases hv : (List.range k).filter (fun i => q.sameKey (ik (F i))) with
  | nil => exact absurd (by unfold vgm; rw [hv]; rfl) h
  | cons i t =>
    have hi : i ∈ (List.range k).filter (fun i => q.sameKey (ik (F i))) := by rw [hv]; exact List.mem_cons_self
    rw [List.mem_filter] at hi
    exact ⟨i, List.mem_range.1 hi.1, WideAt.sameKey_eq hi.2⟩
theorem tch_mem (nb : Nat → Nat → Bool) (k : Nat) (F : Nat → Nat) (c : Nat) : (vmem F k c).any (nb k) = tch nb k F c := by
  unfold vmem tch
  rw [List.any_filter]
/-- The clusters of the first k, in the map of block B. -/
def CLU (w : World) (B : Nat) (F : Nat → Nat) (k : Nat) : Prop := ∃ nn f, nn ≤ k ∧ GM 3 1 inC w 3 B (B + 1) nn f (vgm F k) ∧ ∀ q u, f q = some u → vgm F k q ≠ []
theorem CLU.below {w w' : World} {B k : Nat} {F : Nat → Nat} (h : CLU w B F k) (hb : Below w.heap.size w w') : CLU w' B F k := by
  obtain ⟨nn, f, h1, h2, h3⟩ := h
  exact ⟨nn, f, h1, h2.below hb, h3⟩
theorem clu_made (w : World) (F : Nat → Nat) : CLU (w.alloc (.map #[] 0)) w.heap.size F 0 := by
  refine ⟨0, fun _ => none, Nat.le_refl _, ?_, fun q u h => by cases h⟩
  have h := GM.made 3 1 inC w 3
  have e : (fun _ => []) = vgm F 0 := funext fun q => rfl
  rw [e] at h
  exact h
def gone (cs : List Nat) (q : Lit) : Bool := cs.any (fun c => q.sameKey (ik c))
theorem gone_iff {cs : List Nat} {q : Lit} : gone cs q = true ↔ ∃ c, c ∈ cs ∧ q = ik c := by
  unfold gone
  rw [List.any_eq_true]
  exact ⟨fun ⟨c, h1, h2⟩ => ⟨c, h1, WideAt.sameKey_eq h2⟩, fun ⟨c, h1, h2⟩ => ⟨c, h1, by rw [h2]; exact ik_same c⟩⟩
/-- The clusters that the next one is near to. -/
structure Fst (nb : Nat → Nat → Bool) (k : Nat) (F : Nat → Nat) (cs : List Nat) : Prop where
  nd : cs.Nodup
  mem : ∀ c, c ∈ cs ↔ tch nb k F c = true
section
variable {nb : Nat → Nat → Bool} {k : Nat} {cs : List Nat}
theorem fr_of (nb : Nat → Nat → Bool) (k i : Nat) : fr nb (k + 1) i = if i = k ∨ tch nb k (fr nb k) (fr nb k i) = true then mnF nb k (fr nb k) else fr nb k i := rfl
/-- What is put in, and what stays. -/
theorem vgm_next (hs : ∀ x y, nb x y = nb y x) (h : Fst nb k (fr nb k) cs) (q : Lit) : vgm (fr nb (k + 1)) (k + 1) q = if q.sameKey (ik (mnF nb k (fr nb k))) then up (vmem (fr nb (k + 1)) (k + 1) (mnF nb k (fr nb k))) else if gone cs q then [] else vgm (fr nb k) k q := by
  by_cases h1 : q.sameKey (ik (mnF nb k (fr nb k))) = true
  · rw [if_pos h1, WideAt.sameKey_eq h1, vgm_at]
  · rw [if_neg h1]
    have hT : ∀ i, (i = k ∨ tch nb k (fr nb k) (fr nb k i) = true) → q.sameKey (ik (fr nb (k + 1) i)) = false := fun i hi => by
      rw [fr_of, if_pos hi]; simpa using h1
    have hN : ∀ i, ¬ (i = k ∨ tch nb k (fr nb k) (fr nb k i) = true) → fr nb (k + 1) i = fr nb k i := fun i hi => by rw [fr_of, if_neg hi]
    unfold vgm
    rw [List.range_succ, List.filter_append]
    have e1 : [k].filter (fun i => q.sameKey (ik (fr nb (k + 1) i))) = [] := by simp [hT k (Or.inl rfl)]
    rw [e1, List.append_nil]
    by_cases h2 : gone cs q = true
    · rw [if_pos h2]
      obtain ⟨c, hc, rfl⟩ := gone_iff.1 h2
      have htc := (h.mem c).1 hc
      have e2 : (List.range k).filter (fun i => (ik c).sameKey (ik (fr nb (k + 1) i))) = [] := by
        rw [List.filter_eq_nil_iff]
        intro i hi
        have hik := List.mem_range.1 hi
        by_cases hT9 : i = k ∨ tch nb k (fr nb k) (fr nb k i) = true
        · rw [hT i hT9]; simp
        · rw [hN i hT9, ik_dec]
          simp only [decide_eq_true_eq]
          intro e
          exact hT9 (Or.inr (by rw [e]; exact htc))
      rw [e2]; rfl
    · rw [if_neg h2]
      congr 1
      apply List.filter_congr
      intro i hi
      have hik := List.mem_range.1 hi
      by_cases hT9 : i = k ∨ tch nb k (fr nb k) (fr nb k i) = true
      · rw [hT i hT9]
        cases h9 : q.sameKey (ik (fr nb k i)) with
        | false => rfl
        | true =>
          exfalso
          have hne : i ≠ k := by omega
          rcases hT9 with e | e
          · exact hne e
          · exact h2 (gone_iff.2 ⟨_, (h.mem _).2 e, WideAt.sameKey_eq h9⟩)
      · rw [hN i hT9]
def joinL (nb : Nat → Nat → Bool) (k : Nat) (cs : List Nat) : List Nat := k :: cs.flatMap (vmem (fr nb k) k)
theorem joinL_mem (h : Fst nb k (fr nb k) cs) (hs : ∀ x y, nb x y = nb y x) {i : Nat} : i ∈ joinL nb k cs ↔ i ∈ vmem (fr nb (k + 1)) (k + 1) (mnF nb k (fr nb k)) := by
  rw [vmem_mem]
  unfold joinL
  rw [List.mem_cons, List.mem_flatMap]
  have hL := fr_lab hs k
  constructor
  · rintro (rfl | ⟨c, hc, hi⟩)
    · exact ⟨by omega, by rw [fr_of, if_pos (Or.inl rfl)]⟩
    · obtain ⟨h1, h2⟩ := vmem_mem.1 hi
      exact ⟨by omega, by rw [fr_of, if_pos (Or.inr (by rw [h2]; exact (h.mem c).1 hc))]⟩
  · rintro ⟨h1, h2⟩
    by_cases e : i = k
    · exact Or.inl e
    · refine Or.inr ⟨fr nb k i, ?_, vmem_mem.2 ⟨by omega, rfl⟩⟩
      by_cases hT9 : i = k ∨ tch nb k (fr nb k) (fr nb k i) = true
      · rcases hT9 with e9 | e9
        · exact absurd e9 e
        · exact (h.mem _).2 e9
      · rw [fr_of, if_neg hT9] at h2
        have h3 : fr nb k i < k := by have := hL.le i (by omega); omega
        have h4 : lst (tch nb k (fr nb k)) k < k := by unfold mnF at h2; omega
        have h5 := lst_yes h4
        refine (h.mem _).2 ?_
        rw [h2]; exact h5
theorem vmem_sorted (F : Nat → Nat) (n c : Nat) : (vmem F n c).Pairwise (· < ·) := List.Pairwise.filter _ List.pairwise_lt_range
theorem joinL_nodup (h : Fst nb k (fr nb k) cs) : (joinL nb k cs).Nodup := by
  unfold joinL
  rw [List.nodup_cons]
  refine ⟨fun h9 => ?_, ?_⟩
  · obtain ⟨c, _, h8⟩ := List.mem_flatMap.1 h9
    have := (vmem_mem.1 h8).1
    omega
  · have hnd := h.nd
    clear h
    induction cs with
    | nil => simp
    | cons c t ih =>
      rw [List.flatMap_cons, List.nodup_append]
      obtain ⟨h1, h2⟩ := List.nodup_cons.1 hnd
      refine ⟨(vmem_sorted _ _ _).imp (fun h => by omega), ih h2, fun a ha b hb e => ?_⟩
      subst e
      obtain ⟨c2, hc2, h8⟩ := List.mem_flatMap.1 hb
      have e1 := (vmem_mem.1 ha).2
      have e2 := (vmem_mem.1 h8).2
      rw [e1] at e2
      exact h1 (by rw [e2]; exact hc2)
/-- A list of places put in order, told by its members. -/
theorem ord_eq {l m : List Nat} (hl : l.Nodup) (hm : m.Pairwise (· < ·)) (h : ∀ i, i ∈ l ↔ i ∈ m) : ordN (up l) = up m := by
  have hp : l.Perm m := (List.perm_ext_iff_of_nodup hl (hm.imp (fun h => by omega))).2 h
  have h1 : (ordN (up l)).Perm (up m) := (List.mergeSort_perm _ _).trans (hp.map _)
  have h2 : (ordN (up l)).Pairwise (fun a b => a ≤ b) := (List.pairwise_mergeSort (le := fun x y : Int => decide (x ≤ y)) (fun a b c h1 h2 => by simp at h1 h2 ⊢; omega) (fun a b => by simp; omega) (up l)).imp (fun h => by simpa using h)
  have h3 : (up m).Pairwise (fun a b => a ≤ b) := by
    unfold up
    rw [List.pairwise_map]
    exact hm.imp (fun h => by omega)
  exact h1.eq_of_pairwise (fun a b _ _ h4 h5 => by omega) h2 h3
theorem join_ord (hs : ∀ x y, nb x y = nb y x) (h : Fst nb k (fr nb k) cs) : ordN (up (joinL nb k cs)) = up (vmem (fr nb (k + 1)) (k + 1) (mnF nb k (fr nb k))) :=
  ord_eq (joinL_nodup h) (vmem_sorted _ _ _) (fun i => joinL_mem h hs)
theorem mn_lt (nb : Nat → Nat → Bool) (k : Nat) : mnF nb k (fr nb k) ≤ k := lst_le _ _
theorem vmem_head {F : Nat → Nat} {n c : Nat} (hle : ∀ i, i < n → F i ≤ i) (hc : c < n) (ho : F c = c) : ∃ t, vmem F n c = c :: t := by
  have h1 : c ∈ vmem F n c := vmem_mem.2 ⟨hc, ho⟩
  have h2 := vmem_sorted F n c
  cases hv : vmem F n c with
  | nil => rw [hv] at h1; cases h1
  | cons a t =>
    rw [hv] at h1 h2
    have ha : a ∈ vmem F n c := by rw [hv]; exact List.mem_cons_self
    obtain ⟨ha1, ha2⟩ := vmem_mem.1 ha
    have h3 := hle a ha1
    rcases List.mem_cons.1 h1 with e | e
    · exact ⟨t, by rw [e]⟩
    · have := (List.pairwise_cons.1 h2).1 c e
      omega
end

end Go.Proofs.Ytngpjglcjbdblaa
