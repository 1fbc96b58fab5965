/- Proved here: the arithmetic of a cluster: its fault, the end of a list of hauls. -/
import Derived.Test.YtcfcknfaeliodaaFzM
namespace Go.Proofs.Ytcfcknfaeliodaa
set_option linter.unusedVariables false
set_option linter.unusedSimpArgs false

/-- The place k of a route is right. -/
def rtK (n : Int) (r : List Int) (k : Nat) : Prop := (1 ≤ r.getD k 0 ∧ r.getD k 0 ≤ n) ∧ (0 < k → r.getD k 0 ≠ r.getD (k - 1) 0)
def rtB (n : Int) (r : List Int) : Bool := (List.range r.length).all fun k => decide (1 ≤ r.getD k 0 ∧ r.getD k 0 ≤ n) && (decide (k = 0) || decide (r.getD k 0 ≠ r.getD (k - 1) 0))
theorem rtB_iff {n : Int} {r : List Int} : rtB n r = true ↔ ∀ k, k < r.length → rtK n r k := by
  unfold rtB rtK
  simp only [List.all_eq_true, List.mem_range, Bool.and_eq_true, Bool.or_eq_true, decide_eq_true_eq]
  constructor
  · intro h k hk
    obtain ⟨h1, h2⟩ := h k hk
    exact ⟨h1, fun h3 => h2.resolve_left (by omega)⟩
  · intro h k hk
    obtain ⟨h1, h2⟩ := h k hk
    refine ⟨h1, ?_⟩
    by_cases h3 : k = 0
    · exact Or.inl h3
    · exact Or.inr (h2 (by omega))
theorem rtB_not {n : Int} {r : List Int} {k : Nat} (hk : k < r.length) (h : ¬ rtK n r k) : rtB n r = false := by
  cases hd : rtB n r with
  | false => rfl
  | true => exact absurd (rtB_iff.1 hd k hk) h
/-- The fault of a cluster. -/
def clF (M : Int) (s r : List Int) : Int :=
  if s.length = 0 ∨ r.length = 0 then 1 else if 6 < s.length ∨ 8 < r.length then 2
  else if chG 1 1000 s ≠ 0 ∨ ¬ (1 ≤ M ∧ M ≤ 100) then 3 else if rtB (s.length : Int) r = true then 0 else 1
/-- A cluster without a fault. -/
structure ClOk (M : Int) (s r : List Int) : Prop where
  ls : 0 < s.length ∧ s.length ≤ 6
  lr : 0 < r.length ∧ r.length ≤ 8
  mv : 1 ≤ M ∧ M ≤ 100
  ts : ∀ k, k < s.length → 1 ≤ s.getD k 0 ∧ s.getD k 0 ≤ 1000
  rs : ∀ k, k < r.length → rtK (s.length : Int) r k
theorem clF_ok {M : Int} {s r : List Int} (h : clF M s r = 0) : ClOk M s r := by
  unfold clF at h
  by_cases h1 : s.length = 0 ∨ r.length = 0
  · rw [if_pos h1] at h; cases h
  rw [if_neg h1] at h
  by_cases h2 : 6 < s.length ∨ 8 < r.length
  · rw [if_pos h2] at h; cases h
  rw [if_neg h2] at h
  by_cases h3 : chG 1 1000 s ≠ 0 ∨ ¬ (1 ≤ M ∧ M ≤ 100)
  · rw [if_pos h3] at h; cases h
  rw [if_neg h3] at h
  by_cases h4 : rtB (s.length : Int) r = true
  · have h5 : chG 1 1000 s = 0 := Decidable.byContradiction fun e => h3 (Or.inl e)
    exact ⟨by omega, by omega, Decidable.byContradiction fun e => h3 (Or.inr e), chG_iff.1 h5, rtB_iff.1 h4⟩
  · rw [if_neg h4] at h; cases h

/-- The greatest of numbers, 0 at least. -/
def mxL (s : List Int) : Int := s.foldl max 0
theorem mxL_snoc (s : List Int) (x : Int) : mxL (s ++ [x]) = max (mxL s) x := by simp [mxL]
theorem mxL_take {s : List Int} {k : Nat} (h : k < s.length) : mxL (s.take (k + 1)) = max (mxL (s.take k)) (s.getD k 0) := by
  rw [List.take_add_one, List.getElem?_eq_getElem h, Option.toList, mxL_snoc, gdI h]
theorem mxL_nn (s : List Int) : 0 ≤ mxL s := by
  have : ∀ (s : List Int) (a : Int), a ≤ s.foldl max a := by
    intro s
    induction s with
    | nil => intro a; simp
    | cons b t ih => intro a; exact Int.le_trans (Int.le_max_left a b) (ih (max a b))
  exact this s 0
/-- The code and the end of a list of hauls that begin at these times. -/
def eoC (M : Int) (s r : List Int) (ts : List Int) : Int := if clF M s r ≠ 0 then clF M s r else if 200 < ts.length then 2 else chG 0 1000000000 ts
def eoV (M : Int) (s r : List Int) (ts : List Int) : Int := if eoC M s r ts = 0 ∧ 0 < ts.length then mxL ts + M else 0

end Go.Proofs.Ytcfcknfaeliodaa
