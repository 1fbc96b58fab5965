/- Proved here: the program's ModImage. -/
import Derived.Test.YtcplddblfhbejaaMiQ
namespace Go.Proofs.Ytcplddblfhbejaa
open Go.RowKit
set_option linter.unusedVariables false
set_option linter.unusedSimpArgs false

/-- The lengths are not right. -/
def badN (n m : Nat) : Prop := n = 0 ∨ ¬ bits BinOp.and .i64 (n : Int) ((n : Int) - 1) = 0 ∨ ¬ m = n
instance (n m : Nat) : Decidable (badN n m) := by unfold badN; infer_instance
def miC (n m l : Nat) : Int := if badN n m then 1 else if 32 < n ∨ 12 < l then 2 else 0

set_option maxHeartbeats 6400000 in
theorem impl_mi_form {al ab aS : Option Addr} {n cl m cb l cs : Nat} (w : World) (hn : n ≤ 1048576) (h : badN n m) :
    Calls Try.prog 10 #[.slice al n cl, .slice ab m cb, .slice aS l cs] w fun e w' => e = .returned (.agg #[.int .i64 1, .slice none 0 0]) ∧ Below w.heap.size w w' := by
  by_cases h0 : n = 0
  · subst h0
    go_enter Try.func10, Try.ntmps10
    go_wp2
    go_returns
    exact ⟨rfl, by (repeat' (first | (with_reducible exact Below.refl _ _) | (with_reducible assumption) | (with_reducible refine Below.setCell ?_ ?_ _) | (with_reducible refine Below.alloc ?_ ?_ _) | (with_reducible refine below_drewN ?_ _) | (with_reducible refine Below.drew ?_) | (with_reducible exact Nat.le_refl _) | omega | (simp; done) | (simp; omega)))⟩
  have hn0 : ((n : Int) == 0) = false := by simp; omega
  have hn1 : ¬ (n : Int) = 0 := by omega
  by_cases h1 : bits BinOp.and .i64 (n : Int) ((n : Int) - 1) = 0
  case neg =>
    go_enter Try.func10, Try.ntmps10
    go_wp2
    go_returns
    exact ⟨rfl, by (repeat' (first | (with_reducible exact Below.refl _ _) | (with_reducible assumption) | (with_reducible refine Below.setCell ?_ ?_ _) | (with_reducible refine Below.alloc ?_ ?_ _) | (with_reducible refine below_drewN ?_ _) | (with_reducible refine Below.drew ?_) | (with_reducible exact Nat.le_refl _) | omega | (simp; done) | (simp; omega)))⟩
  have h2 : ((m : Int) != (n : Int)) = true := by
    rcases h with h | h | h
    · exact absurd h h0
    · exact absurd h1 h
    · simp; omega
  have h3 : ¬ (m : Int) = (n : Int) := by simpa using h2
  go_enter Try.func10, Try.ntmps10
  go_wp2
  go_returns
  exact ⟨rfl, by (repeat' (first | (with_reducible exact Below.refl _ _) | (with_reducible assumption) | (with_reducible refine Below.setCell ?_ ?_ _) | (with_reducible refine Below.alloc ?_ ?_ _) | (with_reducible refine below_drewN ?_ _) | (with_reducible refine Below.drew ?_) | (with_reducible exact Nat.le_refl _) | omega | (simp; done) | (simp; omega)))⟩

set_option maxHeartbeats 6400000 in
theorem impl_mi_many {al ab aS : Option Addr} {n cl m cb l cs : Nat} (w : World) (hn : n ≤ 1048576) (h : ¬ badN n m) (h2 : 32 < n ∨ 12 < l) :
    Calls Try.prog 10 #[.slice al n cl, .slice ab m cb, .slice aS l cs] w fun e w' => e = .returned (.agg #[.int .i64 2, .slice none 0 0]) ∧ Below w.heap.size w w' := by
  unfold badN at h
  have h0 : ¬ n = 0 := fun e => h (Or.inl e)
  have h1 : bits BinOp.and .i64 (n : Int) ((n : Int) - 1) = 0 := Classical.not_not.1 fun e => h (Or.inr (Or.inl e))
  obtain rfl : m = n := Classical.not_not.1 fun e => h (Or.inr (Or.inr e))
  clear h
  have hn0 : ((m : Int) == 0) = false := by simp; omega
  have hn1 : ¬ (m : Int) = 0 := by omega
  by_cases h3 : 32 < m
  · have h3' : (32 : Int) < (m : Int) := by omega
    go_enter Try.func10, Try.ntmps10
    go_wp2
    go_returns
    exact ⟨rfl, by (repeat' (first | (with_reducible exact Below.refl _ _) | (with_reducible assumption) | (with_reducible refine Below.setCell ?_ ?_ _) | (with_reducible refine Below.alloc ?_ ?_ _) | (with_reducible refine below_drewN ?_ _) | (with_reducible refine Below.drew ?_) | (with_reducible exact Nat.le_refl _) | omega | (simp; done) | (simp; omega)))⟩
  · have h3' : ¬ (32 : Int) < (m : Int) := by omega
    have h4 : (12 : Int) < (l : Int) := by omega
    go_enter Try.func10, Try.ntmps10
    go_wp2
    go_returns
    exact ⟨rfl, by (repeat' (first | (with_reducible exact Below.refl _ _) | (with_reducible assumption) | (with_reducible refine Below.setCell ?_ ?_ _) | (with_reducible refine Below.alloc ?_ ?_ _) | (with_reducible refine below_drewN ?_ _) | (with_reducible refine Below.drew ?_) | (with_reducible exact Nat.le_refl _) | omega | (simp; done) | (simp; omega)))⟩

/-- The sums under way: those of the places below x are done, at x those of the first i shifts. -/
def smK (mk bk ss : List Int) (n x i : Nat) : List Int := (List.range n).map fun j => if j < x then imK mk bk ss (rtK n) n j ss.length else if j = x then imK mk bk ss (rtK n) n j i else 0
theorem smK_len (mk bk ss : List Int) (n x i : Nat) : (smK mk bk ss n x i).length = n := by simp [smK]
theorem smK_at {mk bk ss : List Int} {n x i : Nat} (h : x < n) : (smK mk bk ss n x i).getD x 0 = imK mk bk ss (rtK n) n x i := by simp [smK, h]
theorem smK_set {mk bk ss : List Int} {n x i : Nat} (h : x < n) : (smK mk bk ss n x i).set x (imK mk bk ss (rtK n) n x (i + 1)) = smK mk bk ss n x (i + 1) := by
  apply List.ext_getElem
  · simp [smK]
  · intro j h1 h2
    simp only [List.getElem_set, smK, List.getElem_map, List.getElem_range]
    by_cases hj : x = j
    · subst hj; simp
    · simp [hj, Ne.symm hj]
theorem smK_next {mk bk ss : List Int} {n x : Nat} : smK mk bk ss n x ss.length = smK mk bk ss n (x + 1) 0 := by
  apply List.ext_getElem
  · simp [smK]
  · intro j h1 h2
    simp only [smK, List.getElem_map, List.getElem_range]
    by_cases hj : j < x
    · simp [hj, show j < x + 1 by omega]
    · by_cases hj2 : j = x
      · subst hj2; simp
      · simp [hj, hj2, show ¬ j < x + 1 by omega]
        intro _; rfl
theorem smK_zero {mk bk ss : List Int} {n : Nat} : smK mk bk ss n 0 0 = List.replicate n 0 := by
  apply List.ext_getElem
  · simp [smK]
  · intro j h1 h2
    simp only [smK, List.getElem_map, List.getElem_range]
    simp
    intro _; rfl
theorem smK_done {mk bk ss : List Int} (i : Nat) : smK mk bk ss mk.length mk.length i = miK mk bk ss := by
  apply List.ext_getElem
  · simp [smK, miK]
  · intro j h1 h2
    have hj : j < mk.length := by simpa [smK] using h1
    simp [smK, miK, hj]
theorem IS.setM {w : World} {B g n c : Nat} {xs : List Int} (h : IS w B (.slice (some ⟨g, 0, none⟩) n c) xs) (j : Nat) (y : Int) : IS (w.setCell ⟨g, j, none⟩ (.int .i64 y)) B (.slice (some ⟨g, 0, none⟩) n c) (xs.set j y) := by
  have hn : n = xs.length := by obtain ⟨_, _, e⟩ := h.form; injection e
  subst hn
  have := (World.ownsRow.stored h j (.int .i64 y)).1
  unfold IS
  rw [List.length_set, List.map_set]
  exact this

end Go.Proofs.Ytcplddblfhbejaa
