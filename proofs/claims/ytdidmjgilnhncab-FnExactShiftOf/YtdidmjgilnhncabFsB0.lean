/- Proved here: answers with a code have no fraction. (And ahead of it: Proved here: lists of fractions: their cells. (And ahead of it: Proved here: the fault of marks, told in two ways.)) -/
import Derived.Test.YtdidmjgilnhncabMaC
import Derived.Test.YtdidmjgilnhncabGen
import Derived.Test.YtdidmjgilnhncabFqM
import Derived.Test.YtdidmjgilnhncabLwS
namespace Go.Proofs.Ytdidmjgilnhncab
open Go.RowKit
set_option linter.unusedVariables false
set_option linter.unusedSimpArgs false

/-- A mark that lies beyond the bounds. -/
def beyM (m : Mrk) : Bool := !(decide (-50 ≤ m.x ∧ m.x ≤ 50)) || !(decide (-50 ≤ m.y ∧ m.y ≤ 50)) || !(decide (-1000 ≤ m.dx ∧ m.dx ≤ 1000)) || !(decide (-1000 ≤ m.dy ∧ m.dy ≤ 1000))
def aptM (a m : Mrk) : Bool := decide (a.x ≠ m.x) || decide (a.y ≠ m.y)
def msG (a : Mrk) (one : Bool) : List Mrk → Int
  | [] => if one then 1 else 0
  | m :: t => if beyM m then 3 else msG a (one && !aptM a m) t
def msF (s : List Mrk) : Int :=
  if s.length < 2 then 1 else if 20 < s.length then 2 else
  match s with
  | [] => 1
  | a :: t => if (a :: t).any beyM then 3 else if !((a :: t).any (aptM a)) then 1 else 0
theorem msG_is (a : Mrk) : ∀ (s : List Mrk) (one : Bool), msG a one s = if s.any beyM then 3 else if one && !(s.any (aptM a)) then 1 else 0 := by
  intro s
  induction s with
  | nil => intro one; cases one <;> rfl
  | cons m t ih =>
    intro one
    rw [msG, ih]
    cases hb : beyM m
    · simp only [List.any_cons, hb, Bool.false_or]
      rw [show (one && !aptM a m && !t.any (aptM a)) = (one && !(aptM a m || t.any (aptM a))) by rw [Bool.not_or, Bool.and_assoc]]
      simp
    · simp [hb]
theorem msF_few {s : List Mrk} (h : s.length < 2) : msF s = 1 := by unfold msF; rw [if_pos h]
theorem msF_many {s : List Mrk} (h : 20 < s.length) : msF s = 2 := by unfold msF; rw [if_neg (by omega), if_pos h]
theorem msF_is {a : Mrk} {t : List Mrk} (h1 : ¬ (a :: t).length < 2) (h2 : ¬ 20 < (a :: t).length) : msF (a :: t) = msG a true (a :: t) := by
  rw [msG_is]; unfold msF; rw [if_neg h1, if_neg h2]; simp
theorem msF_is2 {a : Mrk} {t : List Mrk} (h1 : ¬ (a :: t).length < 2) (h2 : ¬ 20 < (a :: t).length) : msF (a :: t) = if (a :: t).any beyM then 3 else if !((a :: t).any (aptM a)) then 1 else 0 := by
  unfold msF; rw [if_neg h1, if_neg h2]
/-- Marks without a fault. -/
theorem msF_ok {s : List Mrk} (h : msF s = 0) : 2 ≤ s.length ∧ s.length ≤ 20 ∧ (∀ m ∈ s, -50 ≤ m.x ∧ m.x ≤ 50 ∧ -50 ≤ m.y ∧ m.y ≤ 50 ∧ -1000 ≤ m.dx ∧ m.dx ≤ 1000 ∧ -1000 ≤ m.dy ∧ m.dy ≤ 1000) := by
  by_cases h1 : s.length < 2
  · rw [msF_few h1] at h; exact absurd h (by decide)
  by_cases h2 : 20 < s.length
  · rw [msF_many h2] at h; exact absurd h (by decide)
  refine ⟨by omega, by omega, fun m hm => ?_⟩
  cases s with
  | nil => cases hm
  | cons a t =>
    rw [msF_is2 h1 h2] at h
    cases hb : (a :: t).any beyM with
    | true => rw [if_pos hb] at h; exact absurd h (by decide)
    | false =>
      have := List.any_eq_false.1 hb m hm
      unfold beyM at this
      simp only [Bool.or_eq_true, not_or, Bool.not_eq_true', Bool.not_eq_false, decide_eq_true_eq] at this
      omega
theorem any_drop {α : Type} {P : α → Bool} {s : List α} {k : Nat} (h : k < s.length) : (s.drop k).any P = (P s[k] || (s.drop (k + 1)).any P) := by
  rw [List.drop_eq_getElem_cons h, List.any_cons]

end Go.Proofs.Ytdidmjgilnhncab

namespace Go.Proofs.Ytdidmjgilnhncab
open Go.RowKit
set_option linter.unusedVariables false
set_option linter.unusedSimpArgs false

def frC (x : Fr) : List Value := [.int .i64 x.n, .int .i64 x.d]
theorem frC_len (x : Fr) : (frC x).length = 2 := rfl
theorem frC_one (x : Fr) : ∀ u ∈ frC x, u.oneCell' = true := by
  intro u hu
  simp only [frC, List.mem_cons, List.not_mem_nil, or_false] at hu
  rcases hu with rfl | rfl <;> rfl
theorem info_Frac : (Try.prog.info? 31).map (fun i => (i.zero, i.size, i.bytes)) = some (some (.agg #[.int .i64 0, .int .i64 0]), 2, 16) := by kernel_rfl
theorem frC_at {w : World} {g o : Nat} {x : Fr} (h : ∀ i, i < 2 → w.cell? ⟨g, o + i, none⟩ = (frC x)[i]?) : w.cell? ⟨g, o, none⟩ = some (.int .i64 x.n) ∧ w.cell? ⟨g, o + 1, none⟩ = some (.int .i64 x.d) :=
  ⟨h 0 (by omega), h 1 (by omega)⟩
theorem og_nil (T k : Nat) {α : Type} (enc : α → List Value) (w : World) (B : Nat) : OG T k enc w B (.slice none 0 0) ([] : List α) := ⟨by simp, Or.inl ⟨rfl, rfl⟩⟩

end Go.Proofs.Ytdidmjgilnhncab

namespace Go.Proofs.Ytdidmjgilnhncab
open Go.RowKit
set_option linter.unusedVariables false
set_option linter.unusedSimpArgs false

theorem rqQ_tidy (n d : Int) : Tidy (rqQ n d) := by
  intro h
  unfold rqQ rqC rqN rqD at *
  cases hb : inB (lowN n d) (lowD n d) with
  | true => rw [hb] at h; exact absurd rfl h
  | false => exact ⟨rfl, rfl⟩
theorem adQ_tidy (a b : Fr) : Tidy (adQ a b) := by
  unfold adQ; split
  · exact rqQ_tidy _ _
  · exact fun _ => ⟨rfl, rfl⟩
theorem suQ_tidy (a b : Fr) : Tidy (suQ a b) := by
  unfold suQ; split
  · exact rqQ_tidy _ _
  · exact fun _ => ⟨rfl, rfl⟩
theorem muQ_tidy (a b : Fr) : Tidy (muQ a b) := by
  unfold muQ; split
  · exact rqQ_tidy _ _
  · exact fun _ => ⟨rfl, rfl⟩
theorem zq_bad {q : QR} (h : Tidy q) (hc : q.c ≠ 0) : q = ⟨q.c, 0, 0⟩ := by
  obtain ⟨h1, h2⟩ := h hc
  exact QR.ext rfl h1 h2
theorem zq_ok {q : QR} (h : q.c = 0) : zq q = q := by unfold zq; rw [if_pos h]
theorem zq_not {q : QR} (h : q.c ≠ 0) : zq q = ⟨q.c, 0, 0⟩ := by unfold zq; rw [if_neg h]
theorem three_c {w : World} {k : Nat} {a b c : Value} {T : TypeId} (h : w.heap[k]? = some (.cells #[a, b, c] T)) :
    w.cell? ⟨k, 0, none⟩ = some a ∧ w.cell? ⟨k, 1, none⟩ = some b ∧ w.cell? ⟨k, 2, none⟩ = some c ∧ w.frozen? ⟨k, 0, none⟩ = false ∧ w.frozen? ⟨k, 1, none⟩ = false ∧ w.frozen? ⟨k, 2, none⟩ = false ∧ k < w.heap.size :=
  ⟨cellOf h 0 rfl, cellOf h 1 rfl, cellOf h 2 rfl, frozOf h 0, frozOf h 1, frozOf h 2, ltOf h⟩
theorem two_c {w : World} {k : Nat} {a b : Value} {T : TypeId} (h : w.heap[k]? = some (.cells #[a, b] T)) :
    w.cell? ⟨k, 0, none⟩ = some a ∧ w.cell? ⟨k, 1, none⟩ = some b ∧ w.frozen? ⟨k, 0, none⟩ = false ∧ w.frozen? ⟨k, 1, none⟩ = false ∧ k < w.heap.size :=
  ⟨cellOf h 0 rfl, cellOf h 1 rfl, frozOf h 0, frozOf h 1, ltOf h⟩
theorem al_second (w : World) (a b : Obj) : ((w.alloc a).alloc b).heap[w.heap.size + 1]? = some b := by have := heap_alloc_new (w.alloc a) b; simpa using this
theorem there_three {w : World} {k : Nat} {a b c : Value} {T : TypeId} (h : w.heap[k]? = some (.cells #[a, b, c] T)) : w.there k 0 3 := by
  intro j hj
  have hj2 : j < 3 := hj
  simp [World.cell?, World.frozen?, h, hj2]
theorem set3 {w : World} {k : Nat} {a b c a' b' c' : Value} {T : TypeId} (h : w.heap[k]? = some (.cells #[a, b, c] T)) : (((w.setCell ⟨k, 0, none⟩ a').setCell ⟨k, 1, none⟩ b').setCell ⟨k, 2, none⟩ c').heap[k]? = some (.cells #[a', b', c'] T) := by
  have h1 := heap_setCell_same w k 0 _ _ a' h
  have h2 := heap_setCell_same _ k 1 _ _ b' h1
  have h3 := heap_setCell_same _ k 2 _ _ c' h2
  simpa using h3
theorem set3_other {w : World} {k j : Nat} {a' b' c' : Value} (h : j ≠ k) : (((w.setCell ⟨k, 0, none⟩ a').setCell ⟨k, 1, none⟩ b').setCell ⟨k, 2, none⟩ c').heap[j]? = w.heap[j]? := by
  rw [heap_setCell_other _ _ _ _ (by simpa using h), heap_setCell_other _ _ _ _ (by simpa using h), heap_setCell_other _ _ _ _ (by simpa using h)]

end Go.Proofs.Ytdidmjgilnhncab
