/- Proved here: the arithmetic of what lines print: sums of weights by cells. -/
import Derived.Test.YtfjcebgknpccbabLnF
import Derived.Test.YtfjcebgknpccbabKnF
namespace Go.Proofs.Ytfjcebgknpccbab
set_option linter.unusedVariables false
set_option linter.unusedSimpArgs false

def hasL (l : Ln) (y : Int) : Bool := decide (l.f ≤ y) && decide (y < l.t)
def hasB (ls : List Ln) (y : Int) : Bool := ls.any fun l => hasL l y
def wtA (ws : List Int) (x y : Nat) : Int := ws.getD ((x : Int) - (y : Int)).natAbs 0
/-- The sum at x over the cells below y. -/
def psum (ls : List Ln) (ws : List Int) (x : Nat) : Nat → Int
  | 0 => 0
  | y + 1 => psum ls ws x y + (if hasB ls (y : Int) = true then wtA ws x y else 0)
def psL (ls : List Ln) (ws : List Int) (L y : Nat) : List Int := (List.range L).map fun x => psum ls ws x y
def sumsK (ls : List Ln) (ws : List Int) (L : Nat) : List Int := psL ls ws L L
def OkW (ws : List Int) : Prop := 0 < ws.length ∧ ws.length ≤ 8 ∧ ∀ x ∈ ws, 0 ≤ x ∧ x ≤ 1000
theorem psL_len (ls : List Ln) (ws : List Int) (L y : Nat) : (psL ls ws L y).length = L := by simp [psL]
theorem sumsK_len (ls : List Ln) (ws : List Int) (L : Nat) : (sumsK ls ws L).length = L := by simp [sumsK, psL]
theorem OkW.at {ws : List Int} (h : OkW ws) (i : Nat) : 0 ≤ ws.getD i 0 ∧ ws.getD i 0 ≤ 1000 := by
  rw [List.getD_eq_getElem?_getD]
  rcases Nat.lt_or_ge i ws.length with hi | hi
  · rw [List.getElem?_eq_getElem hi]; exact h.2.2 _ (List.getElem_mem hi)
  · rw [List.getElem?_eq_none hi]; simp
theorem psum_bd {ls : List Ln} {ws : List Int} (h : OkW ws) (x : Nat) : ∀ y : Nat, 0 ≤ psum ls ws x y ∧ psum ls ws x y ≤ 1000 * (y : Int)
  | 0 => by simp [psum]
  | y + 1 => by
    have ih := psum_bd (ls := ls) h x y
    have ha := h.at ((x : Int) - (y : Int)).natAbs
    rw [psum]
    unfold wtA
    split <;> omega
theorem wtA_far {ws : List Int} {x y : Nat} (h : (ws.length : Int) ≤ (x : Int) - (y : Int) ∨ (ws.length : Int) ≤ (y : Int) - (x : Int)) : wtA ws x y = 0 := by
  unfold wtA
  rw [List.getD_eq_getElem?_getD, List.getElem?_eq_none (by omega)]
  rfl
theorem psum_gap {ls : List Ln} {ws : List Int} {x A : Nat} : ∀ B : Nat, A ≤ B → (∀ y : Nat, A ≤ y → y < B → hasB ls (y : Int) = false) → psum ls ws x B = psum ls ws x A
  | 0, h, _ => by rw [show A = 0 by omega]
  | B + 1, h, hn => by
    rcases Nat.lt_or_ge B A with hb | hb
    · rw [show A = B + 1 by omega]
    · rw [psum, hn B hb (by omega), if_neg (by simp), psum_gap B hb (fun y h1 h2 => hn y h1 (by omega))]
      omega
theorem psL_gap {ls : List Ln} {ws : List Int} {L A B : Nat} (h : A ≤ B) (hn : ∀ y : Nat, A ≤ y → y < B → hasB ls (y : Int) = false) : psL ls ws L B = psL ls ws L A := by
  unfold psL
  apply List.map_congr_left
  intro x _
  exact psum_gap B h hn

/-- Lines that rise. -/
def Rise (len : Int) : Int → List Ln → Prop
  | _, [] => True
  | a, x :: t => a < x.f ∧ 0 ≤ x.f ∧ x.f < x.t ∧ x.t ≤ len ∧ Rise len x.t t
theorem rise_of {len : Int} : ∀ (ls : List Ln) (a : Int), lnG len a ls = 0 → Rise len a ls
  | [], _, _ => trivial
  | x :: t, a, h => by
    rw [lnG] at h
    split at h
    · cases h
    · split at h
      · cases h
      · rename_i h1 h2
        exact ⟨by omega, by omega, by omega, by omega, rise_of t x.t h⟩
theorem lnF_good {ls : List Ln} {len : Int} (h : lnF ls len = 0) : 1 ≤ len ∧ len ≤ 60 ∧ ls.length ≤ 12 ∧ Rise len (-1) ls := by
  unfold lnF at h
  split at h
  · split at h
    · cases h
    · rename_i h1 h2
      exact ⟨h1.1, h1.2, by omega, rise_of _ _ h⟩
  · cases h
theorem rise_low {len : Int} : ∀ (ls : List Ln) (a : Int), Rise len a ls → ∀ l ∈ ls, a < l.f ∧ l.t ≤ len
  | [], _, _, _, hl => by cases hl
  | x :: t, a, h, l, hl => by
    rcases List.mem_cons.1 hl with rfl | hl
    · exact ⟨h.1, h.2.2.2.1⟩
    · have := rise_low t x.t h.2.2.2.2 l hl
      have h2 := h.2.2.1
      have h1 := h.1
      exact ⟨by omega, this.2⟩
theorem hasB_no {ls : List Ln} {y : Int} (h : ∀ l ∈ ls, y < l.f ∨ l.t ≤ y) : hasB ls y = false := by
  unfold hasB
  rw [List.any_eq_false]
  intro l hl
  have := h l hl
  simp only [hasL, Bool.and_eq_true, decide_eq_true_eq]
  omega
theorem hasB_yes {ls : List Ln} {y : Int} {l : Ln} (hl : l ∈ ls) (h1 : l.f ≤ y) (h2 : y < l.t) : hasB ls y = true := by
  unfold hasB
  rw [List.any_eq_true]
  exact ⟨l, hl, by simp [hasL, h1, h2]⟩
theorem split_at (ls : List Ln) (k : Nat) {l : Ln} (h : l ∈ ls) : l ∈ ls.take k ∨ l ∈ ls.drop k := by
  rw [← List.take_append_drop k ls] at h
  exact List.mem_append.1 h

/-- Where the program stands ahead of line k: all cells below A are summed. -/
structure Stand (ls : List Ln) (len : Int) (k A : Nat) : Prop where
  lo : ∀ l ∈ ls.take k, l.t ≤ A
  le : (A : Int) ≤ len
  up : ∃ a : Int, (a = -1 ∧ A = 0 ∨ a = (A : Int)) ∧ Rise len a (ls.drop k)
theorem Stand.start {ls : List Ln} {len : Int} (h : Rise len (-1) ls) (h1 : 0 ≤ len) : Stand ls len 0 0 :=
  ⟨fun l hl => by simp at hl, by simpa using h1, -1, Or.inl ⟨rfl, rfl⟩, by simpa using h⟩
theorem Stand.line {ls : List Ln} {len : Int} {k A : Nat} (h : Stand ls len k A) (hk : k < ls.length) :
    ∃ F T : Nat, ls[k].f = F ∧ ls[k].t = T ∧ A ≤ F ∧ F < T ∧ (T : Int) ≤ len ∧ (∀ y : Nat, A ≤ y → y < F → hasB ls (y : Int) = false) ∧ (∀ y : Nat, F ≤ y → y < T → hasB ls (y : Int) = true) ∧ Stand ls len (k + 1) T := by
  obtain ⟨a, ha, hr⟩ := h.up
  rw [List.drop_eq_getElem_cons hk] at hr
  have hr' := hr
  obtain ⟨r1, r2, r3, r4, r5⟩ := hr
  refine ⟨ls[k].f.toNat, ls[k].t.toNat, by omega, by omega, by omega, by omega, by omega, fun y h1 h2 => hasB_no fun l hl => ?_, fun y h1 h2 => hasB_yes (List.getElem_mem hk) (by omega) (by omega), ⟨fun l hl => ?_, by omega, ls[k].t, Or.inr (by omega), r5⟩⟩
  · rcases split_at ls k hl with hl | hl
    · have := h.lo l hl; right; omega
    · left
      rw [List.drop_eq_getElem_cons hk] at hl
      rcases List.mem_cons.1 hl with rfl | hl
      · omega
      · have := (rise_low _ _ r5 l hl).1; omega
  · rw [List.take_succ_eq_append_getElem hk] at hl
    rcases List.mem_append.1 hl with hl | hl
    · have := h.lo l hl; omega
    · rw [List.mem_singleton.1 hl]; omega
theorem Stand.done {ls : List Ln} {len : Int} {k A : Nat} (h : Stand ls len k A) (hk : ls.length ≤ k) : ∀ y : Nat, A ≤ y → hasB ls (y : Int) = false := by
  intro y hy
  refine hasB_no fun l hl => ?_
  have := h.lo l (by rw [List.take_of_length_le hk]; exact hl)
  right; omega

/-- The sums under way: those below x have cell y, too. -/
def mixL (ls : List Ln) (ws : List Int) (L y x : Nat) : List Int := (List.range L).map fun j => if j < x then psum ls ws j (y + 1) else psum ls ws j y
theorem mixL_len (ls : List Ln) (ws : List Int) (L y x : Nat) : (mixL ls ws L y x).length = L := by simp [mixL]
theorem mixL_at {ls : List Ln} {ws : List Int} {L y x : Nat} (h : x < L) : (mixL ls ws L y x).getD x 0 = psum ls ws x y := by simp [mixL, h]
theorem psum_far {ls : List Ln} {ws : List Int} {x y : Nat} (h : (ws.length : Int) ≤ (x : Int) - (y : Int) ∨ (ws.length : Int) ≤ (y : Int) - (x : Int)) : psum ls ws x (y + 1) = psum ls ws x y := by
  rw [psum, wtA_far h]; simp
theorem mixL_start {ls : List Ln} {ws : List Int} {L y x : Nat} (h : x = 0 ∨ (x : Int) + (ws.length : Int) ≤ (y : Int) + 1) : mixL ls ws L y x = psL ls ws L y := by
  unfold mixL psL
  apply List.map_congr_left
  intro j _
  split
  · exact psum_far (by omega)
  · rfl
theorem mixL_end {ls : List Ln} {ws : List Int} {L y x : Nat} (h : L ≤ x ∨ (y : Int) + (ws.length : Int) ≤ (x : Int)) : mixL ls ws L y x = psL ls ws L (y + 1) := by
  unfold mixL psL
  apply List.map_congr_left
  intro j hj
  rw [List.mem_range] at hj
  split
  · rfl
  · exact (psum_far (by omega)).symm
theorem mixL_set {ls : List Ln} {ws : List Int} {L y x : Nat} (h : x < L) (hy : hasB ls (y : Int) = true) : (mixL ls ws L y x).set x (psum ls ws x y + wtA ws x y) = mixL ls ws L y (x + 1) := by
  apply List.ext_getElem
  · simp [mixL]
  · intro j h1 h2
    simp only [List.getElem_set, mixL, List.getElem_map, List.getElem_range]
    by_cases hj : x = j
    · subst hj; simp [psum, hy]
    · by_cases hj2 : j < x
      · simp [hj, hj2, show j < x + 1 by omega]
      · simp [hj, hj2, show ¬ j < x + 1 by omega]
theorem psL_zero (ls : List Ln) (ws : List Int) (L : Nat) : psL ls ws L 0 = List.replicate L 0 := by
  apply List.ext_getElem
  · simp [psL]
  · intro j h1 h2
    simp [psL, psum]

end Go.Proofs.Ytfjcebgknpccbab
