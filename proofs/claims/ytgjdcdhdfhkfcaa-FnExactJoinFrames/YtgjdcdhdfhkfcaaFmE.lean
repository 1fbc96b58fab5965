/- Proved here: two frames compared as values. -/
import Derived.Test.YtgjdcdhdfhkfcaaFmA
import Derived.ChangeKeysEq
namespace Go.Proofs.Ytgjdcdhdfhkfcaa
open Go.RowKit
set_option linter.unusedVariables false
set_option linter.unusedSimpArgs false

def frE (f g : Nat → Int) : Bool := (f 0 == g 0) && (f 1 == g 1) && (f 2 == g 2) && (f 3 == g 3) && (f 4 == g 4) && (f 5 == g 5) && (f 6 == g 6) && (f 7 == g 7)
theorem frE_iff (f g : Nat → Int) : frE f g = true ↔ ∀ i, i < 8 → f i = g i := by
  unfold frE
  simp only [Bool.and_eq_true, beq_iff_eq]
  constructor
  · rintro ⟨⟨⟨⟨⟨⟨⟨h0, h1⟩, h2⟩, h3⟩, h4⟩, h5⟩, h6⟩, h7⟩ i hi
    have : i = 0 ∨ i = 1 ∨ i = 2 ∨ i = 3 ∨ i = 4 ∨ i = 5 ∨ i = 6 ∨ i = 7 := by omega
    rcases this with rfl | rfl | rfl | rfl | rfl | rfl | rfl | rfl <;> assumption
  · intro h
    exact ⟨⟨⟨⟨⟨⟨⟨h 0 (by omega), h 1 (by omega)⟩, h 2 (by omega)⟩, h 3 (by omega)⟩, h 4 (by omega)⟩, h 5 (by omega)⟩, h 6 (by omega)⟩, h 7 (by omega)⟩
theorem info_u8b : ∃ i, Try.prog.info? 72 = some i := Option.isSome_iff_exists.1 (by kernel_rfl)
set_option maxRecDepth 10000 in
set_option maxHeartbeats 3200000 in
theorem neq_fr (f g : Nat → Int) (w : World) : (binOp .neq 74 (.agg (arF f)) (.agg (arF g))).run Try.prog w = .ok (.bool (!frE f g)) w := by
  obtain ⟨i0, hi⟩ := info_u8b
  have hu : Try.prog.underlying 74 = some (.array 8 72) := by kernel_rfl
  have hv : Try.prog.underlying 72 = some (.int .u64) := by kernel_rfl
  have k1 : Try.prog.cellsOf 72 = 1 := by kernel_rfl
  have hf : ∀ d (x y : Int) w, (Op.equalIn (d + 1) 72 (.int .u64 x) (.int .u64 y)).run Try.prog w = .ok (x == y) w := fun d x y w => by
    simp [Op.equalIn, run_underlying hv]
  rw [run_neq_struct, run_equalIn_array (e := 72) (n := 8) w 9999 _ _ hu hi]
  have hr : List.range 8 = [0, 1, 2, 3, 4, 5, 6, 7] := rfl
  rw [hr, k1]
  have hp : ∀ (f : Nat → Int) (i : Nat) (w : World) (v : Value), (arF f)[i]? = some v → (part 72 (arF f) i).run Try.prog w = .ok v w := fun f i w v h => by
    simp [part, isAgg, run_underlying hv, h]
  simp [Op.eqItems, hp f 0 _ (.int .u64 (f 0)) rfl, hp g 0 _ (.int .u64 (g 0)) rfl, hp f 1 _ (.int .u64 (f 1)) rfl, hp g 1 _ (.int .u64 (g 1)) rfl, hp f 2 _ (.int .u64 (f 2)) rfl, hp g 2 _ (.int .u64 (g 2)) rfl, hp f 3 _ (.int .u64 (f 3)) rfl, hp g 3 _ (.int .u64 (g 3)) rfl, hp f 4 _ (.int .u64 (f 4)) rfl, hp g 4 _ (.int .u64 (g 4)) rfl, hp f 5 _ (.int .u64 (f 5)) rfl, hp g 5 _ (.int .u64 (g 5)) rfl, hp f 6 _ (.int .u64 (f 6)) rfl, hp g 6 _ (.int .u64 (g 6)) rfl, hp f 7 _ (.int .u64 (f 7)) rfl, hp g 7 _ (.int .u64 (g 7)) rfl, Result.andThen_ok, hf]
  by_cases h0 : f 0 = g 0
  · by_cases h1 : f 1 = g 1
    · by_cases h2 : f 2 = g 2
      · by_cases h3 : f 3 = g 3
        · by_cases h4 : f 4 = g 4
          · by_cases h5 : f 5 = g 5
            · by_cases h6 : f 6 = g 6
              · by_cases h7 : f 7 = g 7
                · simp [frE, h0, h1, h2, h3, h4, h5, h6, h7]
                · simp [frE, h0, h1, h2, h3, h4, h5, h6, h7]
              · simp [frE, h0, h1, h2, h3, h4, h5, h6]
            · simp [frE, h0, h1, h2, h3, h4, h5]
          · simp [frE, h0, h1, h2, h3, h4]
        · simp [frE, h0, h1, h2, h3]
      · simp [frE, h0, h1, h2]
    · simp [frE, h0, h1]
  · simp [frE, h0]
/-- How many numbers of a list there are ahead of the NaN at its end. -/
def trK (l : List Nat) : Nat → Nat
  | 0 => 0
  | k + 1 => if (fv (l.getD k 0)).isNone then trK l k else k + 1
theorem trK_le (l : List Nat) : ∀ k, trK l k ≤ k := by
  intro k
  induction k with
  | zero => simp [trK]
  | succ k ih => rw [trK]; split <;> omega
theorem trK_after (l : List Nat) : ∀ k i, trK l k ≤ i → i < k → fv (l.getD i 0) = none := by
  intro k
  induction k with
  | zero => intro i _ h; omega
  | succ k ih =>
    intro i h1 h2
    rw [trK] at h1
    by_cases hn : (fv (l.getD k 0)).isNone = true
    · rw [if_pos hn] at h1
      by_cases hik : i = k
      · subst hik; exact Option.isNone_iff_eq_none.1 hn
      · exact ih i h1 (by omega)
    · rw [if_neg hn] at h1; omega
theorem trK_last (l : List Nat) : ∀ k, 0 < trK l k → fv (l.getD (trK l k - 1) 0) ≠ none := by
  intro k
  induction k with
  | zero => intro h; simp [trK] at h
  | succ k ih =>
    intro h
    rw [trK] at h ⊢
    by_cases hn : (fv (l.getD k 0)).isNone = true
    · rw [if_pos hn] at h ⊢; exact ih h
    · rw [if_neg hn]
      intro e
      simp at e
      rw [List.getD_eq_getElem?_getD] at hn
      rw [e] at hn
      simp at hn
theorem bt_miss {x : Nat} : btV x = 9221120237041090560 ↔ fv x = none := by
  unfold btV
  cases h : fv x with
  | none => simp
  | some y =>
    simp only [Option.isNone_some, Bool.false_eq_true, if_false]
    constructor
    · intro e
      have : x = 9221120237041090560 := by omega
      subst this
      rw [show fv 9221120237041090560 = none by decide] at h
      cases h
    · intro e; cases e
/-- So many numbers make the frame: just if behind them there are only NaN. -/
theorem fr_same {s : List Nat} (hl : s.length = 8) {k : Nat} (hk : k ≤ 8) : (∀ i, i < 8 → frV (s.take k) i = frV s i) ↔ trK s 8 ≤ k := by
  have ht : (s.take k).length = k := by rw [List.length_take]; omega
  constructor
  · intro h
    rcases Nat.lt_or_ge k (trK s 8) with h1 | h1
    · exfalso
      have h2 := trK_last s 8 (by omega)
      have h3 := h (trK s 8 - 1) (by have := trK_le s 8; omega)
      unfold frV at h3
      rw [ht, if_neg (by omega), if_pos (by have := trK_le s 8; omega)] at h3
      exact h2 (bt_miss.1 h3.symm)
    · exact h1
  · intro h i hi
    unfold frV
    rw [ht, hl, if_pos hi]
    by_cases hik : i < k
    · rw [if_pos hik]
      congr 1
      rw [List.getD_eq_getElem?_getD, List.getElem?_take_of_lt hik, ← List.getD_eq_getElem?_getD]
    · rw [if_neg hik]
      exact (bt_miss.2 (trK_after s 8 i (by omega) hi)).symm

end Go.Proofs.Ytgjdcdhdfhkfcaa
