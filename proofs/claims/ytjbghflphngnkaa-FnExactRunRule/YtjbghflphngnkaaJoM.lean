/- The library's stable sort of jobs as functions on lists. Arithmetic alone. (And ahead of it: Proved here: jobs: their cells.) -/
import Derived.Test.YtjbghflphngnkaaGen
namespace Go.Proofs.Ytjbghflphngnkaa
open Go.RowKit
set_option linter.unusedVariables false
set_option linter.unusedSimpArgs false

/-- A job. -/
structure Jb where
  id : Int
  co : Int
  ti : Int
  se : Int
  du : Int
  we : Int
  ki : Int
deriving DecidableEq
instance : Inhabited Jb := ⟨⟨0, 0, 0, 0, 0, 0, 0⟩⟩

def jbC (x : Jb) : List Value := [.int .i64 x.id, .int .i64 x.co, .int .i64 x.ti, .int .i64 x.se, .int .i64 x.du, .int .i64 x.we, .int .i64 x.ki]
theorem jbC_len (x : Jb) : (jbC x).length = 7 := rfl
theorem jbC_one (x : Jb) : ∀ u ∈ jbC x, u.oneCell' = true := by
  intro u hu
  simp only [jbC, List.mem_cons, List.not_mem_nil, or_false] at hu
  rcases hu with rfl | rfl | rfl | rfl | rfl | rfl | rfl <;> rfl
theorem info_Job : (Try.prog.info? 51).map (fun i => (i.zero, i.size, i.bytes)) = some (some (.agg #[.int .i64 0, .int .i64 0, .int .i64 0, .int .i64 0, .int .i64 0, .int .i64 0, .int .i64 0]), 7, 56) := by kernel_rfl
/-- The cells of an element, one by one. -/
theorem jbC_at {w : World} {g o : Nat} {x : Jb} (h : ∀ i, i < 7 → w.cell? ⟨g, o + i, none⟩ = (jbC x)[i]?) : w.cell? ⟨g, o, none⟩ = some (.int .i64 x.id) ∧ w.cell? ⟨g, o + 1, none⟩ = some (.int .i64 x.co) ∧ w.cell? ⟨g, o + 2, none⟩ = some (.int .i64 x.ti) ∧ w.cell? ⟨g, o + 3, none⟩ = some (.int .i64 x.se) ∧ w.cell? ⟨g, o + 4, none⟩ = some (.int .i64 x.du) ∧ w.cell? ⟨g, o + 5, none⟩ = some (.int .i64 x.we) ∧ w.cell? ⟨g, o + 6, none⟩ = some (.int .i64 x.ki) :=
  ⟨h 0 (by omega), h 1 (by omega), h 2 (by omega), h 3 (by omega), h 4 (by omega), h 5 (by omega), h 6 (by omega)⟩

end Go.Proofs.Ytjbghflphngnkaa

namespace Go.Proofs.Ytjbghflphngnkaa
open Go.RowKit
set_option linter.unusedVariables false
set_option linter.unusedSimpArgs false


def jA (l : List Jb) (i : Nat) : Jb := l.getD i default
theorem jA_at {l : List Jb} {i : Nat} (h : i < l.length) : jA l i = l[i] := by simp [jA, List.getD, h]
/-- Two exchanged. -/
def sw (l : List Jb) (i j : Nat) : List Jb := (l.set i (jA l j)).set j (jA l i)
theorem sw_len (l : List Jb) (i j : Nat) : (sw l i j).length = l.length := by simp [sw]
/-- One moved down to its place. -/
def insJ (c : Jb → Jb → Int) (a : Nat) : Nat → List Jb → List Jb
  | 0, l => l
  | j + 1, l => if a < j + 1 ∧ c (jA l (j + 1)) (jA l j) < 0 then insJ c a j (sw l (j + 1) j) else l
theorem insJ_len (c : Jb → Jb → Int) (a : Nat) : ∀ (j : Nat) (l : List Jb), (insJ c a j l).length = l.length := by
  intro j
  induction j with
  | zero => intro l; rfl
  | succ j ih =>
    intro l
    unfold insJ
    split
    · rw [ih, sw_len]
    · rfl
def insO (c : Jb → Jb → Int) (a : Nat) : Nat → Nat → List Jb → List Jb
  | 0, _, l => l
  | n + 1, i, l => insO c a n (i + 1) (insJ c a i l)
theorem insO_len (c : Jb → Jb → Int) (a : Nat) : ∀ (n i : Nat) (l : List Jb), (insO c a n i l).length = l.length := by
  intro n
  induction n with
  | zero => intro i l; rfl
  | succ n ih => intro i l; unfold insO; rw [ih, insJ_len]
/-- insertionSortCmpFunc(data, a, b). -/
def insS (c : Jb → Jb → Int) (a b : Nat) (l : List Jb) : List Jb := insO c a (b - (a + 1)) (a + 1) l
/-- swapRangeCmpFunc: what is left of n exchanges, from the i-th on. -/
def swR (a b : Nat) : Nat → Nat → List Jb → List Jb
  | 0, _, l => l
  | n + 1, i, l => swR a b n (i + 1) (sw l (a + i) (b + i))
theorem swR_len (a b : Nat) : ∀ (n i : Nat) (l : List Jb), (swR a b n i l).length = l.length := by
  intro n
  induction n with
  | zero => intro i l; rfl
  | succ n ih => intro i l; unfold swR; rw [ih, sw_len]
/-- rotateCmpFunc. -/
def rotF (m : Nat) : Nat → Nat → Nat → List Jb → List Jb
  | 0, _, _, l => l
  | f + 1, i, j, l => if i = j then swR (m - i) m i 0 l else if j < i then rotF m f (i - j) j (swR (m - i) m j 0 l) else rotF m f i (j - i) (swR (m - i) (m + j - i) i 0 l)
theorem rotF_len (m : Nat) : ∀ (f i j : Nat) (l : List Jb), (rotF m f i j l).length = l.length := by
  intro f
  induction f with
  | zero => intro i j l; rfl
  | succ f ih =>
    intro i j l
    unfold rotF
    split
    · rw [swR_len]
    · split
      · rw [ih, swR_len]
      · rw [ih, swR_len]
/-- A search by halves: where P is false for the first time. -/
def bsF (P : Nat → Bool) : Nat → Nat → Nat → Nat
  | 0, i, _ => i
  | f + 1, i, j => if i < j then (if P ((i + j) / 2) = true then bsF P f ((i + j) / 2 + 1) j else bsF P f i ((i + j) / 2)) else i
theorem bsF_bnd (P : Nat → Bool) : ∀ (f i j : Nat), i ≤ j → i ≤ bsF P f i j ∧ bsF P f i j ≤ j := by
  intro f
  induction f with
  | zero => intro i j h; exact ⟨Nat.le_refl _, h⟩
  | succ f ih =>
    intro i j h
    unfold bsF
    split
    · split
      · have := ih ((i + j) / 2 + 1) j (by omega); omega
      · have := ih i ((i + j) / 2) (by omega); omega
    · omega
def shU : Nat → Nat → List Jb → List Jb
  | 0, _, l => l
  | n + 1, k, l => shU n (k + 1) (sw l k (k + 1))
theorem shU_len : ∀ (n k : Nat) (l : List Jb), (shU n k l).length = l.length := by
  intro n
  induction n with
  | zero => intro k l; rfl
  | succ n ih => intro k l; unfold shU; rw [ih, sw_len]
def shD (i : Nat) : Nat → List Jb → List Jb
  | 0, l => l
  | k + 1, l => if i < k + 1 then shD i k (sw l (k + 1) k) else l
theorem shD_len (i : Nat) : ∀ (k : Nat) (l : List Jb), (shD i k l).length = l.length := by
  intro k
  induction k with
  | zero => intro l; rfl
  | succ k ih =>
    intro l
    unfold shD
    split
    · rw [ih, sw_len]
    · rfl
def psB (c : Jb → Jb → Int) (l : List Jb) (m h : Nat) : Bool := decide (¬ c (jA l m) (jA l h) < 0)
def psC (c : Jb → Jb → Int) (l : List Jb) (p q : Nat) : Bool := decide (¬ c (jA l (p - q)) (jA l q) < 0)
def midF (a b : Nat) : Nat := (a + b) / 2
def stF (c : Jb → Jb → Int) (a m b : Nat) (l : List Jb) : Nat :=
  if midF a b < m then bsF (psC c l (midF a b + m - 1)) b (midF a b + m - b) (midF a b)
  else bsF (psC c l (midF a b + m - 1)) b a m
def roF (c : Jb → Jb → Int) (a m b : Nat) (l : List Jb) : List Jb :=
  if stF c a m b l < m ∧ m < midF a b + m - stF c a m b l then rotF m b (m - stF c a m b l) (midF a b + m - stF c a m b l - m) l else l
/-- symMergeCmpFunc. -/
def symF (c : Jb → Jb → Int) : Nat → Nat → Nat → Nat → List Jb → List Jb
  | 0, _, _, _, l => l
  | f + 1, a, m, b, l =>
    if m - a = 1 then shU (bsF (fun h => decide (c (jA l h) (jA l a) < 0)) b m b - 1 - a) a l
    else if b - m = 1 then shD (bsF (psB c l m) b a m) m l
    else
      let st := stF c a m b l
      let en := midF a b + m - st
      let l1 := roF c a m b l
      let l2 := if a < st ∧ st < midF a b then symF c f a st (midF a b) l1 else l1
      if midF a b < en ∧ en < b then symF c f (midF a b) en b l2 else l2
theorem insS_len (c : Jb → Jb → Int) (a b : Nat) (l : List Jb) : (insS c a b l).length = l.length := insO_len _ _ _ _ _

end Go.Proofs.Ytjbghflphngnkaa
