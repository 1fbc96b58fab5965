/- The faults of a book of lots, place by place. Arithmetic alone. (And ahead of it: The first fault among places, where a number is first. Arithmetic alone.) -/
import Derived.Test.YtcfjanignfbidaaProg
import Derived.RowKit
import Derived.Test.YtcfjanignfbidaaQlB
namespace Go.Proofs.Ytcfjanignfbidaa
open Go.RowKit
set_option linter.unusedVariables false
set_option linter.unusedSimpArgs false

/-- The first code among m places from j on. -/
def frm (K : Nat → Int) (j : Nat) : Nat → Int
  | 0 => 0
  | m + 1 => if K j ≠ 0 then K j else frm K (j + 1) m
theorem frm_hit {K : Nat → Int} {j n : Nat} {t : Int} (hj : j < n) (ht : K j = t) (h : t ≠ 0) : frm K j (n - j) = t := by
  obtain ⟨m, hm⟩ : ∃ m, n - j = m + 1 := ⟨n - j - 1, by omega⟩
  rw [hm]; show (if K j ≠ 0 then K j else _) = t
  rw [ht, if_pos h]
theorem frm_miss {K : Nat → Int} {j n : Nat} (hj : j < n) (ht : K j = 0) : frm K j (n - j) = frm K (j + 1) (n - (j + 1)) := by
  obtain ⟨m, hm⟩ : ∃ m, n - j = m + 1 := ⟨n - j - 1, by omega⟩
  rw [hm, show n - (j + 1) = m by omega]; show (if K j ≠ 0 then K j else _) = _
  rw [ht, if_neg (by decide)]
theorem frm_end (K : Nat → Int) (n : Nat) : frm K n (n - n) = 0 := by rw [Nat.sub_self]; rfl
theorem frm_all {K : Nat → Int} : ∀ {m j : Nat}, frm K j m = 0 → ∀ i, j ≤ i → i < j + m → K i = 0 := by
  intro m
  induction m with
  | zero => intro j _ i h1 h2; omega
  | succ m ih =>
    intro j h i h1 h2
    unfold frm at h
    split at h
    · rename_i h3; exact absurd h h3
    · rename_i h3
      rcases Nat.lt_or_ge j i with h4 | h4
      · exact ih h i (by omega) (by omega)
      · have : i = j := by omega
        subst this
        exact Decidable.byContradiction fun h5 => h3 h5
theorem frm_zero {K : Nat → Int} {n : Nat} (h : frm K 0 (n - 0) = 0) (i : Nat) (hi : i < n) : K i = 0 := frm_all h i (Nat.zero_le _) (by omega)
/-- Where v is first among the first n; -1: nowhere. -/
def fdI (f : Nat → Int) (v : Int) : Nat → Int
  | 0 => -1
  | n + 1 => if 0 ≤ fdI f v n then fdI f v n else if f n = v then (n : Int) else -1
theorem fdI_cases (f : Nat → Int) (v : Int) : ∀ n, (fdI f v n = -1 ∧ ∀ i, i < n → f i ≠ v) ∨ ∃ i, i < n ∧ fdI f v n = (i : Int) ∧ f i = v ∧ ∀ k, k < i → f k ≠ v := by
  intro n
  induction n with
  | zero => exact Or.inl ⟨rfl, fun i h => by omega⟩
  | succ n ih =>
    unfold fdI
    rcases ih with ⟨h1, h2⟩ | ⟨i, h1, h2, h3, h4⟩
    · rw [if_neg (by omega)]
      by_cases h3 : f n = v
      · rw [if_pos h3]; exact Or.inr ⟨n, by omega, rfl, h3, h2⟩
      · rw [if_neg h3]
        refine Or.inl ⟨rfl, fun i hi => ?_⟩
        rcases (by omega : i < n ∨ i = n) with e | e
        · exact h2 i e
        · subst e; exact h3
    · rw [if_pos (by omega)]; exact Or.inr ⟨i, by omega, h2, h3, h4⟩
theorem fdI_neg {f : Nat → Int} {v : Int} {n : Nat} (h : fdI f v n < 0) : ∀ i, i < n → f i ≠ v := by
  rcases fdI_cases f v n with ⟨_, h2⟩ | ⟨i, _, h2, _⟩
  · exact h2
  · omega
theorem fdI_pos {f : Nat → Int} {v : Int} {n : Nat} (h : 0 ≤ fdI f v n) : ∃ i, i < n ∧ fdI f v n = (i : Int) ∧ f i = v ∧ ∀ k, k < i → f k ≠ v := by
  rcases fdI_cases f v n with ⟨h1, _⟩ | h2
  · omega
  · exact h2
theorem fdI_lt (f : Nat → Int) (v : Int) (n : Nat) : fdI f v n < n ∧ -1 ≤ fdI f v n := by
  rcases fdI_cases f v n with ⟨h1, _⟩ | ⟨i, h0, h2, _⟩ <;> omega
theorem fdI_is {f : Nat → Int} {v : Int} {n i : Nat} (hi : i < n) (h1 : f i = v) (h2 : ∀ k, k < i → f k ≠ v) : fdI f v n = (i : Int) := by
  rcases fdI_cases f v n with ⟨_, h3⟩ | ⟨j, h3, h4, h5, h6⟩
  · exact absurd h1 (h3 i hi)
  · rcases (by omega : j < i ∨ j = i ∨ i < j) with e | e | e
    · exact absurd h5 (h2 j e)
    · rw [h4, e]
    · exact absurd h1 (h6 i e)
theorem fdI_no {f : Nat → Int} {v : Int} {n : Nat} (h : ∀ i, i < n → f i ≠ v) : fdI f v n = -1 := by
  rcases fdI_cases f v n with ⟨h1, _⟩ | ⟨i, h0, _, h2, _⟩
  · exact h1
  · exact absurd h2 (h i h0)

end Go.Proofs.Ytcfjanignfbidaa

namespace Go.Proofs.Ytcfjanignfbidaa
open Go.RowKit
set_option linter.unusedVariables false
set_option linter.unusedSimpArgs false

def lo0 : Lo := ⟨0, 0, [], false, []⟩
def idA (ls : List Lo) (i : Nat) : Int := (ls.getD i lo0).id
theorem idA_at {ls : List Lo} {i : Nat} (h : i < ls.length) : idA ls i = ls[i].id := by simp [idA, List.getD, h]
/-- The places of the first n lots, by id: the last that has it. -/
def plF (ls : List Lo) : Nat → Int → Option Int
  | 0, _ => none
  | n + 1, x => if idA ls n = x then some (n : Int) else plF ls n x
theorem plF_some (ls : List Lo) (n : Nat) (x : Int) : (plF ls n x).isSome = decide (0 ≤ fdI (idA ls) x n) := by
  induction n with
  | zero => rfl
  | succ n ih =>
    unfold plF fdI
    by_cases h : idA ls n = x
    · rw [if_pos h]
      split
      · rename_i h2; simp [h2]
      · simp
    · rw [if_neg h, ih]
      split
      · rename_i h2; simp [h2]
      · rename_i h2; simp [h2]
/-- A window's fault. -/
def wdK (st : Int) (x : Wdw) : Int := if x.f < 0 ∨ x.t ≤ x.f ∨ st ≤ x.t then 1 else if 0 ≤ x.m ∧ x.m ≤ 1000000000 then 0 else 3
def wdA (b : Bk) (j : Nat) : Int := wdK b.st (b.wn.getD j ⟨0, 0, 0⟩)
/-- A time's fault. -/
def dnK (d : List Int) (k : Nat) : Int := if 0 ≤ d.getD k 0 ∧ d.getD k 0 ≤ 1000000000 then (if 0 < k ∧ d.getD k 0 < d.getD (k - 1) 0 then 1 else 0) else 3
/-- A lot's fault: h tells whether an id stands ahead. -/
def loC (st : Int) (h : Int → Bool) (l : Lo) : Int :=
  if (1 ≤ l.id ∧ l.id ≤ 1000000) ∧ h l.id = false then
    (if l.pa ≠ 0 ∧ h l.pa = false then 4 else if 25 < l.ws.length ∨ st < (l.dn.length : Int) then 2 else frm (dnK l.dn) 0 (l.dn.length - 0))
  else 1
def loA (b : Bk) (j : Nat) : Int := loC b.st (fun x => decide (0 ≤ fdI (idA b.ls) x j)) (b.ls.getD j lo0)
/-- The fault of wafers behind others. -/
def wfC (pre : List Int) : List Int → Int
  | [] => 0
  | x :: t => if 1 ≤ x ∧ x ≤ 1000000 then (if x ∈ pre then 7 else wfC (pre ++ [x]) t) else 3
theorem wfC_hit {pre xs : List Int} (ys : List Int) (h : wfC pre xs ≠ 0) : wfC pre (xs ++ ys) = wfC pre xs := by
  induction xs generalizing pre with
  | nil => exact absurd rfl h
  | cons x t ih =>
    simp only [List.cons_append, wfC] at h ⊢
    by_cases h1 : 1 ≤ x ∧ x ≤ 1000000
    · simp only [h1, if_true, and_self] at h ⊢
      by_cases h2 : x ∈ pre
      · simp only [h2, if_true]
      · simp only [h2, if_false] at h ⊢
        exact ih h
    · simp only [if_neg h1]
theorem wfC_miss {pre xs : List Int} (ys : List Int) (h : wfC pre xs = 0) : wfC pre (xs ++ ys) = wfC (pre ++ xs) ys := by
  induction xs generalizing pre with
  | nil => simp
  | cons x t ih =>
    simp only [List.cons_append, wfC] at h ⊢
    by_cases h1 : 1 ≤ x ∧ x ≤ 1000000
    · simp only [h1, if_true, and_self] at h ⊢
      by_cases h2 : x ∈ pre
      · simp only [h2, if_true] at h; cases h
      · simp only [h2, if_false] at h ⊢
        rw [ih h, List.append_assoc]; rfl
    · simp only [if_neg h1] at h; cases h
theorem wfC_congr {pre pre' : List Int} (h : ∀ x, x ∈ pre ↔ x ∈ pre') (xs : List Int) : wfC pre xs = wfC pre' xs := by
  induction xs generalizing pre pre' with
  | nil => rfl
  | cons x t ih =>
    simp only [wfC]
    rw [ih (pre := pre ++ [x]) (pre' := pre' ++ [x]) (fun y => by simp [h y])]
    simp only [h x]
/-- What a list without a fault is. -/
theorem wfC_zero {pre xs : List Int} (h : wfC pre xs = 0) : (∀ x ∈ xs, 1 ≤ x ∧ x ≤ 1000000) ∧ (∀ x ∈ xs, x ∉ pre) ∧ xs.Nodup := by
  induction xs generalizing pre with
  | nil => exact ⟨fun x h => by simp at h, fun x h => by simp at h, List.nodup_nil⟩
  | cons x t ih =>
    unfold wfC at h
    by_cases h1 : 1 ≤ x ∧ x ≤ 1000000
    · rw [if_pos h1] at h
      by_cases h2 : x ∈ pre
      · rw [if_pos h2] at h; cases h
      · rw [if_neg h2] at h
        obtain ⟨i1, i2, i3⟩ := ih h
        refine ⟨fun y hy => ?_, fun y hy => ?_, ?_⟩
        · rcases List.mem_cons.1 hy with e | e
          · subst e; exact h1
          · exact i1 y e
        · rcases List.mem_cons.1 hy with e | e
          · subst e; exact h2
          · exact fun e2 => i2 y e (by simp [e2])
        · exact List.nodup_cons.2 ⟨fun e => i2 x e (by simp), i3⟩
    · rw [if_neg h1] at h; cases h
def alL (b : Bk) : List Int := b.ls.flatMap Lo.ws ++ b.sc
/-- The wafers of the first n lots. -/
def preL (ls : List Lo) (n : Nat) : List Int := (ls.take n).flatMap Lo.ws
theorem preL_step {ls : List Lo} {n : Nat} (h : n < ls.length) : preL ls (n + 1) = preL ls n ++ ls[n].ws := by
  unfold preL; rw [← List.take_append_getElem h, List.flatMap_append]; simp
theorem preL_all (ls : List Lo) : preL ls ls.length = ls.flatMap Lo.ws := by unfold preL; rw [List.take_length]
/-- The one code. -/
def bkF (b : Bk) : Int :=
  if 1 ≤ b.st ∧ b.st ≤ 40 then
    (if 10 < b.wn.length ∨ 30 < b.ls.length then 2
    else if frm (wdA b) 0 (b.wn.length - 0) ≠ 0 then frm (wdA b) 0 (b.wn.length - 0)
    else if frm (loA b) 0 (b.ls.length - 0) ≠ 0 then frm (loA b) 0 (b.ls.length - 0)
    else if 200 < b.sc.length then 2
    else wfC [] (alL b))
  else 3
/-- A book without a fault. -/
structure GBk (b : Bk) : Prop where
  st : 1 ≤ b.st ∧ b.st ≤ 40
  wn : b.wn.length ≤ 10
  ls : b.ls.length ≤ 30
  wd : ∀ j (h : j < b.wn.length), 0 ≤ b.wn[j].f ∧ b.wn[j].f < b.wn[j].t ∧ b.wn[j].t < b.st ∧ 0 ≤ b.wn[j].m ∧ b.wn[j].m ≤ 1000000000
  id : ∀ j (h : j < b.ls.length), 1 ≤ b.ls[j].id ∧ b.ls[j].id ≤ 1000000
  ne : ∀ i j (hi : i < b.ls.length) (hj : j < b.ls.length), i < j → b.ls[i].id ≠ b.ls[j].id
  pa : ∀ j (h : j < b.ls.length), b.ls[j].pa = 0 ∨ ∃ i, ∃ (hi : i < b.ls.length), i < j ∧ b.ls[i].id = b.ls[j].pa
  ws : ∀ j (h : j < b.ls.length), b.ls[j].ws.length ≤ 25
  dn : ∀ j (h : j < b.ls.length), (b.ls[j].dn.length : Int) ≤ b.st
  tm : ∀ j (h : j < b.ls.length) k (hk : k < b.ls[j].dn.length), 0 ≤ b.ls[j].dn[k] ∧ b.ls[j].dn[k] ≤ 1000000000
  sc : b.sc.length ≤ 200
  wf : wfC [] (alL b) = 0
theorem bkF_zero {b : Bk} (h : bkF b = 0) : GBk b := by
  unfold bkF at h
  split at h
  · rename_i h1
    split at h
    · cases h
    · rename_i h2
      split at h
      · rename_i h3; exact absurd h h3
      · rename_i h3
        split at h
        · rename_i h4; exact absurd h h4
        · rename_i h4
          split at h
          · cases h
          · rename_i h5
            have e3 : frm (wdA b) 0 (b.wn.length - 0) = 0 := Decidable.byContradiction h3
            have e4 : frm (loA b) 0 (b.ls.length - 0) = 0 := Decidable.byContradiction h4
            have hl : ∀ j (hj : j < b.ls.length), (1 ≤ b.ls[j].id ∧ b.ls[j].id ≤ 1000000) ∧ fdI (idA b.ls) b.ls[j].id j < 0 ∧ (b.ls[j].pa = 0 ∨ 0 ≤ fdI (idA b.ls) b.ls[j].pa j) ∧ ¬ (25 < b.ls[j].ws.length ∨ b.st < (b.ls[j].dn.length : Int)) ∧ frm (dnK b.ls[j].dn) 0 (b.ls[j].dn.length - 0) = 0 := by
              intro j hj
              have e := frm_zero e4 j hj
              unfold loA at e
              rw [show b.ls.getD j lo0 = b.ls[j] from by simp [List.getD, hj]] at e
              unfold loC at e
              split at e
              · rename_i g1
                split at e
                · cases e
                · rename_i g2
                  split at e
                  · cases e
                  · rename_i g3
                    simp only [decide_eq_false_iff_not] at g1 g2
                    exact ⟨g1.1, by omega, by omega, g3, e⟩
              · cases e
            refine ⟨h1, by omega, by omega, fun j hj => ?_, fun j hj => (hl j hj).1, fun i j hi hj hij => ?_, fun j hj => ?_, fun j hj => ?_, fun j hj => ?_, fun j hj k hk => ?_, by omega, h⟩
            · have e := frm_zero e3 j hj
              unfold wdA wdK at e
              rw [show b.wn.getD j ⟨0, 0, 0⟩ = b.wn[j] from by simp [List.getD, hj]] at e
              split at e
              · cases e
              · split at e
                · omega
                · cases e
            · have e := fdI_neg (hl j hj).2.1 i hij
              rw [idA_at hi] at e
              exact e
            · rcases (hl j hj).2.2.1 with e | e
              · exact Or.inl e
              · obtain ⟨i, h6, _, h7, _⟩ := fdI_pos e
                refine Or.inr ⟨i, by omega, h6, ?_⟩
                rw [← h7, idA_at (by omega)]
            · have := (hl j hj).2.2.2.1; omega
            · have := (hl j hj).2.2.2.1; omega
            · have e := frm_zero (hl j hj).2.2.2.2 k hk
              unfold dnK at e
              rw [show b.ls[j].dn.getD k 0 = b.ls[j].dn[k] from by simp [List.getD, hk]] at e
              split at e
              · rename_i h8; exact h8
              · cases e
  · cases h

end Go.Proofs.Ytcfjanignfbidaa
