/- Proved here: one more defect taken into the clusters, of the program. -/
import Derived.Test.YtngpjglcjbdblaaVgT
import Derived.Test.YtngpjglcjbdblaaVgN
import Derived.Test.YtngpjglcjbdblaaVgD
import Derived.Test.YtngpjglcjbdblaaRwG
import Derived.Deep.AppendLies
import Derived.StillTail
import Derived.Deep.DeepCutAuto
namespace Go.Proofs.Ytngpjglcjbdblaa
open Go.RowKit Go.Maps
set_option linter.unusedVariables false
set_option linter.unusedSimpArgs false

theorem up_len (l : List Nat) : (up l).length = l.length := by unfold up; simp
theorem up_app (l m : List Nat) : up (l ++ m) = up l ++ up m := by unfold up; simp
/-- The map with some keys taken out. -/
def fdel (cs : List Nat) (f : Lit → Option Sv) (q : Lit) : Option Sv := if gone cs q then none else f q
theorem fdel_nil (f : Lit → Option Sv) : fdel [] f = f := by funext q; simp [fdel, gone]
theorem fdel_snoc (cs : List Nat) (c : Nat) (f : Lit → Option Sv) : updF (fdel cs f) (ik c) none = fdel (cs ++ [c]) f := by
  funext q
  by_cases e : q = ik c
  · subst e
    rw [updF_same _ (ik_lit c)]
    unfold fdel
    rw [if_pos (gone_iff.2 ⟨c, by simp, rfl⟩)]
  · rw [updF_other e]
    unfold fdel
    have h9 : gone (cs ++ [c]) q = gone cs q := by
      unfold gone
      rw [List.any_append]
      simp [Maps.sameKey_ne e]
    rw [h9]
theorem fdel_at {cs : List Nat} {c : Nat} (h : c ∉ cs) (f : Lit → Option Sv) : fdel cs f (ik c) = f (ik c) := by
  unfold fdel
  rw [if_neg]
  intro h9
  obtain ⟨c2, h1, h2⟩ := gone_iff.1 h9
  exact h (by rw [ik_inj h2]; exact h1)
theorem Chg.grown {B Z : Nat} {w w' : World} {r : Option Nat} (h : w.grownBy w' r) (hr : ∀ g, r = some g → (B ≤ g ∧ g < Z) ∨ w.heap.size ≤ g) : Chg B Z w w' :=
  ⟨h.os, h.tape, h.output, h.size, fun k hk hb => h.block k hk (fun e => by rcases hr k e.symm with h9 | h9 <;> omega)⟩
theorem og_keepB {w w' : World} {T sz lo : Nat} {enc : Int → List Value} {v : Value} {l : List Int} (h : OG T sz enc w lo v l) (hb : ∀ g, v.ownBlock = some g → w'.heap[g]? = w.heap[g]?) : OG T sz enc w' lo v l := rowKept h hb
/-- All is in place: the clusters of one more. -/
theorem clu_put {nb : Nat → Nat → Bool} {V w7 w8 : World} {B k nn : Nat} {f : Lit → Option Sv} {cs : List Nat} {r : Sv} (hs : ∀ x y, nb x y = nb y x) (hF : Fst nb k (fr nb k) cs) (hnn : nn ≤ k) (hG : GM 3 1 inC V 3 B (B + 1) nn f (vgm (fr nb k) k)) (hne : ∀ q u, f q = some u → vgm (fr nb k) k q ≠ [])
    (hV : B + 1 ≤ V.heap.size) (hC : Chg B (B + 1) V w7) (hr : NT w7 V.heap.size r.v (up (vmem (fr nb (k + 1)) (k + 1) (mnF nb k (fr nb k))))) (hT : TM w8 3 B (nn + 1) (updF (fdel cs f) (ik (mnF nb k (fr nb k))) (some r))) (hg : w7.grownBy w8 (some B)) : CLU w8 B (fr nb (k + 1)) (k + 1) := by
  have hnx := vgm_next hs hF
  have hkeep : ∀ g, B + 1 ≤ g → g < V.heap.size → w8.heap[g]? = V.heap[g]? := fun g h1 h2 => by
    rw [hg.block g (Nat.lt_of_lt_of_le h2 hC.size) (fun e => by injection e with e; omega)]
    exact hC.block g h2 (Or.inr h1)
  have hog : OG 3 1 inC w8 (B + 1) r.v (up (vmem (fr nb (k + 1)) (k + 1) (mnF nb k (fr nb k)))) := by
    refine og_keep (OG.low (og_nt.2 hr) hV) hg ?_
    cases hv : r.v.ownBlock with
    | none => exact Or.inl rfl
    | some g => exact Or.inr (fun e => by injection e with e; have := (NT.lt hr g hv).1; omega)
  refine ⟨nn + 1, _, by omega, ⟨hT, fun q u hu => ?_, fun q hq => ?_, fun q1 q2 s1 s2 hq h1 h2 => ?_, hG.lt⟩, fun q u hu => ?_⟩
  · rw [hnx q]
    by_cases e : q = ik (mnF nb k (fr nb k))
    · subst e
      rw [updF_same _ (ik_lit _)] at hu
      cases hu
      rw [if_pos (ik_same _)]
      exact hog
    · rw [updF_other e] at hu
      unfold fdel at hu
      rw [if_neg (by rw [Maps.sameKey_ne e]; exact Bool.false_ne_true)]
      by_cases hgn : gone cs q = true
      · rw [if_pos hgn] at hu; cases hu
      · rw [if_neg hgn] at hu ⊢
        have h9 := hG.own q u hu
        exact og_keepB h9 (fun g hgb => hkeep g (OG.lt h9 g hgb).1 (OG.lt h9 g hgb).2)
  · rw [hnx q]
    by_cases e : q = ik (mnF nb k (fr nb k))
    · subst e; rw [updF_same _ (ik_lit _)] at hq; cases hq
    · rw [updF_other e] at hq
      rw [if_neg (by rw [Maps.sameKey_ne e]; exact Bool.false_ne_true)]
      unfold fdel at hq
      by_cases hgn : gone cs q = true
      · rw [if_pos hgn]
      · rw [if_neg hgn] at hq ⊢
        exact hG.no q hq
  · have hold : ∀ q u, q ≠ ik (mnF nb k (fr nb k)) → updF (fdel cs f) (ik (mnF nb k (fr nb k))) (some r) q = some u → f q = some u := fun q u e hu => by
      rw [updF_other e] at hu
      unfold fdel at hu
      by_cases hgn : gone cs q = true
      · rw [if_pos hgn] at hu; cases hu
      · rw [if_neg hgn] at hu; exact hu
    have hnew : ∀ q u, f q = some u → u.v.ownBlock = none ∨ u.v.ownBlock ≠ r.v.ownBlock := fun q u hu => by
      cases hx : u.v.ownBlock with
      | none => exact Or.inl rfl
      | some gx =>
        refine Or.inr (fun e => ?_)
        have h8 := (OG.lt (hG.own q u hu) gx hx).2
        have h7 := (NT.lt hr gx e.symm).1
        omega
    by_cases e1 : q1 = ik (mnF nb k (fr nb k))
    · subst e1
      rw [updF_same _ (ik_lit _)] at h1
      cases h1
      have h9 := hold q2 s2 (fun e => hq e.symm) h2
      cases hx : r.v.ownBlock with
      | none => exact Or.inl rfl
      | some gx =>
        refine Or.inr (fun e => ?_)
        have h8 := (OG.lt (hG.own q2 s2 h9) gx e.symm).2
        have h7 := (NT.lt hr gx hx).1
        omega
    · have h9 := hold q1 s1 e1 h1
      by_cases e2 : q2 = ik (mnF nb k (fr nb k))
      · subst e2
        rw [updF_same _ (ik_lit _)] at h2
        cases h2
        exact hnew q1 s1 h9
      · exact hG.ap q1 q2 s1 s2 hq h9 (hold q2 s2 e2 h2)
  · rw [hnx q]
    by_cases e : q = ik (mnF nb k (fr nb k))
    · subst e
      rw [if_pos (ik_same _)]
      have hL := fr_lab hs (k + 1)
      have hm : mnF nb k (fr nb k) < k + 1 := by have := mn_lt nb k; omega
      have ho : fr nb (k + 1) (mnF nb k (fr nb k)) = mnF nb k (fr nb k) := by
        have h1 := hL.own k (by omega)
        rw [show fr nb (k + 1) k = mnF nb k (fr nb k) from by rw [fr_of, if_pos (Or.inl rfl)]] at h1
        exact h1
      obtain ⟨t, ht⟩ := vmem_head hL.le hm ho
      rw [ht]; simp [up]
    · rw [updF_other e] at hu
      rw [if_neg (by rw [Maps.sameKey_ne e]; exact Bool.false_ne_true)]
      unfold fdel at hu
      by_cases hgn : gone cs q = true
      · rw [if_pos hgn] at hu; cases hu
      · rw [if_neg hgn] at hu ⊢
        exact hne q u hu

end Go.Proofs.Ytngpjglcjbdblaa
