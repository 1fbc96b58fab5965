/- Proved here: two cells of one block; a call's answer with a code and rows (or a number), read out of its block. -/
import Derived.Test.YthmddnachancfabLwS
import Derived.Test.YthmddnachancfabGfM
namespace Go.Proofs.Ythmddnachancfab
open Go.RowKit
set_option linter.unusedVariables false
set_option linter.unusedSimpArgs false

theorem two_of {w : World} {k : Nat} {a b : Value} {T : TypeId} (h : w.heap[k]? = some (.cells #[a, b] T)) :
    w.cell? ⟨k, 0, none⟩ = some a ∧ w.cell? ⟨k, 1, none⟩ = some b ∧ w.frozen? ⟨k, 0, none⟩ = false ∧ w.frozen? ⟨k, 1, none⟩ = false ∧ k < w.heap.size :=
  ⟨cellOf h 0 rfl, cellOf h 1 rfl, frozOf h 0, frozOf h 1, ltOf h⟩

def sumI (s : List Int) : Nat → Int
  | 0 => 0
  | k + 1 => sumI s k + s.getD k 0
def totV (ls : List (List Int)) : Nat → Int
  | 0 => 0
  | i + 1 => totV ls i + sumI (ls.getD i []) (ls.getD i []).length
def suV (ls : List (List Int)) : Int := if gfC ls 1000000 = 0 then totV ls ls.length else 0
theorem sumI_bd {M : Int} {ls : List (List Int)} (h : GG M ls) (hM : 0 ≤ M) (i k : Nat) : 0 ≤ sumI (ls.getD i []) k ∧ sumI (ls.getD i []) k ≤ k * M := by
  induction k with
  | zero => simp [sumI]
  | succ k ih =>
    have := h.at i k
    have e : (((k + 1 : Nat) : Int)) * M = k * M + M := by rw [Int.natCast_add]; rw [Int.add_mul]; simp
    rw [sumI, e]; omega
theorem totV_bd {ls : List (List Int)} (h : GG 1000000 ls) {i : Nat} (hi : i ≤ ls.length) : 0 ≤ totV ls i ∧ totV ls i ≤ i * 16000000 := by
  induction i with
  | zero => simp [totV]
  | succ i ih =>
    have h1 := sumI_bd h (by omega) i (ls.getD i []).length
    have h2 := ih (by omega)
    have h3 := h.row (show i < ls.length by omega)
    have h4 := h.w1
    rw [totV]
    omega

end Go.Proofs.Ythmddnachancfab
