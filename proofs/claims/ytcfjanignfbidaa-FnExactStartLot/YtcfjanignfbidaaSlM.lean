/- Proved here: what StartLot is to answer. -/
import Derived.Test.YtcfjanignfbidaaQcB
import Derived.Test.YtcfjanignfbidaaQbK
namespace Go.Proofs.Ytcfjanignfbidaa
open Go.RowKit Go.Maps
set_option linter.unusedVariables false
set_option linter.unusedSimpArgs false

def newL (id : Int) (ws : List Int) : Lo := ⟨id, 0, ws, false, []⟩
/-- May a lot have this number. -/
def nwI (b : Bk) (id : Int) : Bool := decide (1 ≤ id ∧ id ≤ 1000000) && decide (fdI (idA b.ls) id b.ls.length < 0)
def stC (b : Bk) (id : Int) (ws : List Int) : Int := if bkF b ≠ 0 then bkF b else if b.ls.length = 30 then 2 else if 25 < ws.length then 2 else if nwI b id = false then 1 else if ws.length = 0 then 4 else wfC (alL b) ws
def stB (b : Bk) (id : Int) (ws : List Int) : Bk := if stC b id ws ≠ 0 then bkZ else ⟨b.st, b.wn, b.ls ++ [newL id ws], b.sc⟩
theorem tS_app (ls ms : List Lo) : ∀ n, n ≤ ls.length → tS (ls ++ ms) n = tS ls n
  | 0, _ => rfl
  | n + 1, h => by
    have h1 : n < ls.length := h
    have h2 : n < (ls ++ ms).length := by rw [List.length_append]; omega
    rw [tS_at h1, tS_at h2, tS_app ls ms n (by omega), List.getElem_append_left h1]
theorem bkZ_smS : smBk 1048576 bkZ := ⟨by simp [bkZ], by simp [bkZ], by simp [bkZ], fun j h => absurd h (Nat.not_lt_zero _), by simp [bkZ, tS]⟩
/-- What is known where nothing is wrong. -/
structure OkS (b : Bk) (id : Int) (ws : List Int) : Prop where
  g : GBk b
  ln : b.ls.length < 30
  ws : ws.length ≤ 25 ∧ 0 < ws.length
  idr : 1 ≤ id ∧ id ≤ 1000000
  ne : ∀ i (hi : i < b.ls.length), b.ls[i].id ≠ id
theorem fdI_negS {f : Nat → Int} {x : Int} : ∀ {n : Nat}, fdI f x n < 0 → ∀ i, i < n → f i ≠ x := by
  intro n
  induction n with
  | zero => intro _ i hi; omega
  | succ n ih =>
    intro h i hi
    unfold fdI at h
    by_cases h0 : 0 ≤ fdI f x n
    · rw [if_pos h0] at h; omega
    rw [if_neg h0] at h
    by_cases h2 : f n = x
    · rw [if_pos h2] at h; omega
    rcases Nat.lt_or_ge i n with h1 | h1
    · exact ih (by omega) i h1
    · obtain rfl : i = n := by omega
      exact h2
theorem stC_ok {b : Bk} {id : Int} {ws : List Int} (h : stC b id ws = 0) : OkS b id ws := by
  unfold stC at h
  split at h
  · rename_i h1; exact absurd h h1
  rename_i h1
  split at h
  · omega
  rename_i h2
  split at h
  · omega
  rename_i h3
  split at h
  · omega
  rename_i h4
  split at h
  · omega
  rename_i h5
  have hg := bkF_zero (by simpa using h1)
  have h6 : nwI b id = true := by simpa using h4
  unfold nwI at h6
  rw [Bool.and_eq_true, decide_eq_true_iff, decide_eq_true_iff] at h6
  refine ⟨hg, by have := hg.ls; omega, by omega, h6.1, fun i hi e => ?_⟩
  exact fdI_negS h6.2 i hi (by rw [idA_at hi]; exact e)
theorem stB_sm {b : Bk} {id : Int} {ws : List Int} (h : smBk 1048576 b) : smBk 1048576 (stB b id ws) := by
  unfold stB
  split
  · exact bkZ_smS
  · rename_i h0
    have ho := stC_ok (by simpa using h0)
    have hg := ho.g
    refine ⟨h.wn, ?_, h.sc, fun j hj => ?_, ?_⟩
    · show ((b.ls ++ [newL id ws]).length : Int) ≤ _
      have := ho.ln
      rw [List.length_append, List.length_singleton]; omega
    · have hj' : j < (b.ls ++ [newL id ws]).length := hj
      show smLo 1048576 (b.ls ++ [newL id ws])[j]
      rcases Nat.lt_or_ge j b.ls.length with h3 | h3
      · rw [List.getElem_append_left h3]; exact h.at_ j h3
      · rw [List.getElem_append_right h3]
        simp only [List.getElem_singleton]
        have := ho.ws
        exact ⟨by show (ws.length : Int) ≤ _; omega, by show ((0 : Nat) : Int) ≤ _; omega, wf64 (by show (-1000000000000 : Int) ≤ 0 ∧ (0 : Int) ≤ 1000000000000; omega)⟩
    · show (tS (b.ls ++ [newL id ws]) (b.ls ++ [newL id ws]).length : Int) ≤ _
      have hT : ∀ n, n ≤ b.ls.length → tS b.ls n ≤ 65 * n := by
        intro n
        induction n with
        | zero => intro _; simp [tS]
        | succ n ih =>
          intro hn
          have h1 : n < b.ls.length := hn
          rw [tS_at h1]
          have h2 := ih (by omega)
          have h3 := hg.ws n h1
          have h4 := hg.dn n h1
          have h5 := hg.st
          omega
      rw [List.length_append, List.length_singleton, tS_at (by simp), tS_app _ _ _ (Nat.le_refl _), List.getElem_append_right (Nat.le_refl _)]
      have h6 := hT b.ls.length (Nat.le_refl _)
      have h7 := ho.ln
      have h8 := ho.ws
      simp only [List.getElem_singleton, Nat.sub_self, newL, List.length_nil]
      omega

end Go.Proofs.Ytcfjanignfbidaa
