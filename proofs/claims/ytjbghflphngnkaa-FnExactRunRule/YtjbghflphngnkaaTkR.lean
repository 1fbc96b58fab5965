/- Proved here: a list cut off behind so many elements is read. (And ahead of it: Proved here: 'inside' of the program.) (And ahead of it: Proved here: what it is that a slice of the call's own holds a list of numbers, and that it stays while its block does. No condition on the program but one on its table of types.) (And ahead of it: The faults of jobs, place by place. Arithmetic alone. (And ahead of it: The first fault among places, where a number is first. Arithmetic alone.)) -/
import Derived.Test.YtjbghflphngnkaaProg
import Derived.RowKit
import Derived.Test.YtjbghflphngnkaaJoM
import Derived.Test.YtjbghflphngnkaaUnd
import Derived.Test.YtjbghflphngnkaaRows
import Derived.LoopTactic
import Derived.Test.YtjbghflphngnkaaGen
namespace Go.Proofs.Ytjbghflphngnkaa
open Go.RowKit
set_option linter.unusedVariables false
set_option linter.unusedSimpArgs false

/-- The first code among m places from j on. -/
def frm (K : Nat → Int) (j : Nat) : Nat → Int
  | 0 => 0
  | m + 1 => if K j ≠ 0 then K j else frm K (j + 1) m
theorem frm_hit {K : Nat → Int} {j n : Nat} {t : Int} (hj : j < n) (ht : K j = t) (h : t ≠ 0) : frm K j (n - j) = t := by
  obtain ⟨m, hm⟩ : ∃ m, n - j = m + 1 := ⟨n - j - 1, by omega⟩
  rw [hm]; show (if K j ≠ 0 then K j else _) = t
  rw [ht, if_pos h]
theorem frm_miss {K : Nat → Int} {j n : Nat} (hj : j < n) (ht : K j = 0) : frm K j (n - j) = frm K (j + 1) (n - (j + 1)) := by
  obtain ⟨m, hm⟩ : ∃ m, n - j = m + 1 := ⟨n - j - 1, by omega⟩
  rw [hm, show n - (j + 1) = m by omega]; show (if K j ≠ 0 then K j else _) = _
  rw [ht, if_neg (by decide)]
theorem frm_end (K : Nat → Int) (n : Nat) : frm K n (n - n) = 0 := by rw [Nat.sub_self]; rfl
theorem frm_all {K : Nat → Int} : ∀ {m j : Nat}, frm K j m = 0 → ∀ i, j ≤ i → i < j + m → K i = 0 := by
  intro m
  induction m with
  | zero => intro j _ i h1 h2; omega
  | succ m ih =>
    intro j h i h1 h2
    unfold frm at h
    split at h
    · rename_i h3; exact absurd h h3
    · rename_i h3
      rcases Nat.lt_or_ge j i with h4 | h4
      · exact ih h i (by omega) (by omega)
      · have : i = j := by omega
        subst this
        exact Decidable.byContradiction fun h5 => h3 h5
theorem frm_zero {K : Nat → Int} {n : Nat} (h : frm K 0 (n - 0) = 0) (i : Nat) (hi : i < n) : K i = 0 := frm_all h i (Nat.zero_le _) (by omega)
/-- Where v is first among the first n; -1: nowhere. -/
def fdI (f : Nat → Int) (v : Int) : Nat → Int
  | 0 => -1
  | n + 1 => if 0 ≤ fdI f v n then fdI f v n else if f n = v then (n : Int) else -1
theorem fdI_cases (f : Nat → Int) (v : Int) : ∀ n, (fdI f v n = -1 ∧ ∀ i, i < n → f i ≠ v) ∨ ∃ i, i < n ∧ fdI f v n = (i : Int) ∧ f i = v ∧ ∀ k, k < i → f k ≠ v := by
  intro n
  induction n with
  | zero => exact Or.inl ⟨rfl, fun i h => by omega⟩
  | succ n ih =>
    unfold fdI
    rcases ih with ⟨h1, h2⟩ | ⟨i, h1, h2, h3, h4⟩
    · rw [if_neg (by omega)]
      by_cases h3 : f n = v
      · rw [if_pos h3]; exact Or.inr ⟨n, by omega, rfl, h3, h2⟩
      · rw [if_neg h3]
        refine Or.inl ⟨rfl, fun i hi => ?_⟩
        rcases (by omega : i < n ∨ i = n) with e | e
        · exact h2 i e
        · subst e; exact h3
    · rw [if_pos (by omega)]; exact Or.inr ⟨i, by omega, h2, h3, h4⟩
theorem fdI_neg {f : Nat → Int} {v : Int} {n : Nat} (h : fdI f v n < 0) : ∀ i, i < n → f i ≠ v := by
  rcases fdI_cases f v n with ⟨_, h2⟩ | ⟨i, _, h2, _⟩
  · exact h2
  · omega
theorem fdI_pos {f : Nat → Int} {v : Int} {n : Nat} (h : 0 ≤ fdI f v n) : ∃ i, i < n ∧ fdI f v n = (i : Int) ∧ f i = v ∧ ∀ k, k < i → f k ≠ v := by
  rcases fdI_cases f v n with ⟨h1, _⟩ | h2
  · omega
  · exact h2
theorem fdI_lt (f : Nat → Int) (v : Int) (n : Nat) : fdI f v n < n ∧ -1 ≤ fdI f v n := by
  rcases fdI_cases f v n with ⟨h1, _⟩ | ⟨i, h0, h2, _⟩ <;> omega
theorem fdI_is {f : Nat → Int} {v : Int} {n i : Nat} (hi : i < n) (h1 : f i = v) (h2 : ∀ k, k < i → f k ≠ v) : fdI f v n = (i : Int) := by
  rcases fdI_cases f v n with ⟨_, h3⟩ | ⟨j, h3, h4, h5, h6⟩
  · exact absurd h1 (h3 i hi)
  · rcases (by omega : j < i ∨ j = i ∨ i < j) with e | e | e
    · exact absurd h5 (h2 j e)
    · rw [h4, e]
    · exact absurd h1 (h6 i e)
theorem fdI_no {f : Nat → Int} {v : Int} {n : Nat} (h : ∀ i, i < n → f i ≠ v) : fdI f v n = -1 := by
  rcases fdI_cases f v n with ⟨h1, _⟩ | ⟨i, h0, _, h2, _⟩
  · exact h1
  · exact absurd h2 (h i h0)

end Go.Proofs.Ytjbghflphngnkaa

namespace Go.Proofs.Ytjbghflphngnkaa
open Go.RowKit
set_option linter.unusedVariables false
set_option linter.unusedSimpArgs false

def jdA (s : List Jb) (i : Nat) : Int := (s.getD i default).id
theorem jdA_at {s : List Jb} {i : Nat} (h : i < s.length) : jdA s i = s[i].id := by simp [jdA, List.getD, h]
def rgJ (j : Jb) : Prop := ((0 ≤ j.co ∧ j.co ≤ 1000000) ∧ (0 ≤ j.se ∧ j.se ≤ 1000000) ∧ (0 ≤ j.du ∧ j.du ≤ 1000000)) ∧ (1 ≤ j.ti ∧ j.ti ≤ 1000000) ∧ (0 ≤ j.we ∧ j.we ≤ 100) ∧ (0 ≤ j.ki ∧ j.ki ≤ 9)
instance (j : Jb) : Decidable (rgJ j) := by unfold rgJ; infer_instance
/-- The fault of one job, where seen tells whether a job ahead has its number. -/
def j1C (seen : Bool) (j : Jb) : Int := if j.id < 1 ∨ seen = true then 1 else if rgJ j then 0 else 3
def jbK (s : List Jb) (i : Nat) : Int := j1C (decide (0 ≤ fdI (jdA s) (jdA s i) i)) (s.getD i default)
theorem jbK_at {s : List Jb} {i : Nat} (h : i < s.length) : jbK s i = j1C (decide (0 ≤ fdI (jdA s) s[i].id i)) s[i] := by
  unfold jbK; rw [jdA_at h]; simp [List.getD, h]
def jbF (s : List Jb) : Int := if 30 < s.length then 2 else frm (jbK s) 0 (s.length - 0)
theorem fdI_congr {f g : Nat → Int} {v : Int} : ∀ {n : Nat}, (∀ i, i < n → f i = g i) → fdI f v n = fdI g v n := by
  intro n
  induction n with
  | zero => intro _; rfl
  | succ n ih => intro h; unfold fdI; rw [ih fun i hi => h i (by omega), h n (by omega)]
theorem jdA_take {s : List Jb} {k i : Nat} (h : i < k) (hk : k ≤ s.length) : jdA (s.take k) i = jdA s i := by
  rw [jdA_at (by simp; omega), jdA_at (by omega)]; simp
/-- What is true of jobs without a fault. -/
structure OkJ (s : List Jb) : Prop where
  len : s.length ≤ 30
  pos : ∀ i (h : i < s.length), 1 ≤ s[i].id
  rg : ∀ i (h : i < s.length), rgJ s[i]
  uniq : ∀ i j (h : i < s.length) (h' : j < s.length), s[i].id = s[j].id → i = j
theorem jbF_ok {s : List Jb} (h : jbF s = 0) : OkJ s := by
  unfold jbF at h
  split at h
  · cases h
  · rename_i hl
    have hz := frm_zero h
    have h1 : ∀ i (hi : i < s.length), ¬ (s[i].id < 1 ∨ decide (0 ≤ fdI (jdA s) s[i].id i) = true) ∧ rgJ s[i] := fun i hi => by
      have := hz i hi
      rw [jbK_at hi, j1C] at this
      split at this
      · cases this
      · rename_i h2
        split at this
        · rename_i h3; exact ⟨h2, h3⟩
        · cases this
    have hlt : ∀ i j (hi : i < s.length) (hj : j < s.length), i < j → s[i].id ≠ s[j].id := fun i j hi hj hij e => by
      have h2 := (h1 j hj).1
      have h3 : fdI (jdA s) s[j].id j < 0 := by
        rcases Int.lt_or_le (fdI (jdA s) s[j].id j) 0 with h4 | h4
        · exact h4
        · exact absurd (Or.inr (decide_eq_true h4)) h2
      exact fdI_neg h3 i hij (by rw [jdA_at hi]; exact e)
    refine ⟨by omega, fun i hi => by have := (h1 i hi).1; omega, fun i hi => (h1 i hi).2, fun i j hi hj e => ?_⟩
    rcases (by omega : i < j ∨ i = j ∨ j < i) with h2 | h2 | h2
    · exact absurd e (hlt i j hi hj h2)
    · exact h2
    · exact absurd e.symm (hlt j i hj hi h2)

end Go.Proofs.Ytjbghflphngnkaa

namespace Go.Proofs.Ytjbghflphngnkaa
open Go.RowKit
set_option linter.unusedVariables false

theorem info_i64 : (Try.prog.info? 2).map (fun i => (i.zero, i.size, i.bytes)) = some (some (.int .i64 0), 1, 8) := by kernel_rfl

/-- A list of numbers that a slice of the call's own holds. -/
def IS (w : World) (B : Nat) (v : Value) (xs : List Int) : Prop := w.ownsRow B 2 1 v xs.length (xs.map (Value.int .i64))

theorem IS.zero {w : World} {B : Nat} {v : Value} (h : IS w B v []) : ∃ a c, v = .slice a 0 c := by
  rcases h.2 with ⟨rfl, _⟩ | ⟨g, cap, cur, rfl, _⟩
  · exact ⟨_, _, rfl⟩
  · exact ⟨_, _, rfl⟩
theorem IS.form {w : World} {B : Nat} {v : Value} {xs : List Int} (h : IS w B v xs) : ∃ a c, v = .slice a xs.length c := by
  rcases h.2 with ⟨rfl, h0⟩ | ⟨g, cap, cur, rfl, _⟩
  · exact ⟨none, 0, by rw [h0]⟩
  · exact ⟨_, _, rfl⟩
theorem IS.pos {w : World} {B : Nat} {v : Value} {xs : List Int} (h : IS w B v xs) (hp : 0 < xs.length) :
    ∃ g cap, v = .slice (some ⟨g, 0, none⟩) xs.length cap ∧ B ≤ g ∧ g < w.heap.size ∧ ∀ j, j < xs.length → w.cell? ⟨g, j, none⟩ = some (.int .i64 (xs.getD j 0)) := by
  rcases h.2 with ⟨_, h0⟩ | ⟨g, cap, cur, rfl, hB, hg, hn, hm, hs, ht⟩
  · omega
  · refine ⟨g, cap, rfl, hB, ?_, fun j hj => ?_⟩
    · rcases Nat.lt_or_ge g w.heap.size with h' | h'
      · exact h'
      · rw [Array.getElem?_eq_none h'] at hg; cases hg
    · have := World.ownsRow.cellAt (w := w) (g := g) (cap := cap) h j (by omega)
      rw [this]
      simp [List.getElem?_map, List.getElem?_eq_getElem hj]

/-- Nothing has turned but the cells of block g. -/
structure Only (g : Nat) (w w' : World) : Prop where
  os : w'.os = w.os
  tape : w'.tape = w.tape
  output : w'.output = w.output
  size : w'.heap.size = w.heap.size
  block : ∀ k, k ≠ g → w'.heap[k]? = w.heap[k]?
theorem Only.refl (g : Nat) (w : World) : Only g w w := ⟨rfl, rfl, rfl, rfl, fun _ _ => rfl⟩
theorem Only.set {g : Nat} {w w' : World} (h : Only g w w') (o : Nat) (u : Value) : Only g w (w'.setCell ⟨g, o, none⟩ u) :=
  ⟨h.os, h.tape, h.output, by simpa using h.size, fun k hk => (heap_setCell_other w' ⟨g, o, none⟩ k u (fun e => hk (by simpa using e))).trans (h.block k hk)⟩
theorem Only.below {g B : Nat} {w w' : World} (h : Only g w w') (hg : B ≤ g) : Below B w w' :=
  ⟨h.os, h.tape, h.output, by rw [h.size]; exact Nat.le_refl _, fun k hk => h.block k (by omega)⟩

/-- A list stays while its block does. -/
theorem IS.kept {w w' : World} {B : Nat} {v : Value} {xs : List Int} (h : IS w B v xs) (hb : ∀ g, v.ownBlock = some g → w'.heap[g]? = w.heap[g]?) : IS w' B v xs := by
  refine ⟨h.1, ?_⟩
  rcases h.2 with h' | ⟨g, cap, cur, rfl, hB, hg, hr⟩
  · exact Or.inl h'
  · exact Or.inr ⟨g, cap, cur, rfl, hB, by rw [hb g rfl]; exact hg, hr⟩

end Go.Proofs.Ytjbghflphngnkaa

namespace Go.Proofs.Ytjbghflphngnkaa
open Go.RowKit
set_option linter.unusedVariables false
set_option linter.unusedSimpArgs false

set_option maxHeartbeats 800000 in
theorem impl_insC (n a b : Int) (r : Bool) (hr : r = decide (a ≤ n ∧ n ≤ b)) (w : World) : Calls Try.prog 61 #[.int .i64 n, .int .i64 a, .int .i64 b] w fun e w' => e = .returned (.bool r) ∧ w' = w := by
  have H : Hid ((¬ a ≤ n → r = false) ∧ (a ≤ n → n ≤ b → r = true) ∧ (a ≤ n → ¬ n ≤ b → r = false)) := by
    unfold Hid; rw [hr]
    exact ⟨fun h => by simp [h], fun h1 h2 => by simp [h1, h2], fun h1 h2 => by simp [h1, h2]⟩
  clear hr
  by_cases h1 : a ≤ n
  · by_cases h2 : n ≤ b
    · obtain rfl := H.out.2.1 h1 h2
      go_enter Try.func61, Try.ntmps61
      go_wp2
      go_returns
      exact ⟨rfl, rfl⟩
    · obtain rfl := H.out.2.2 h1 h2
      go_enter Try.func61, Try.ntmps61
      go_wp2
      go_returns
      exact ⟨rfl, rfl⟩
  · obtain rfl := H.out.1 h1
    go_enter Try.func61, Try.ntmps61
    go_wp2
    go_returns
    exact ⟨rfl, rfl⟩

end Go.Proofs.Ytjbghflphngnkaa

namespace Go.Proofs.Ytjbghflphngnkaa
open Go.RowKit
set_option linter.unusedVariables false
set_option linter.unusedSimpArgs false

theorem rg_take {α : Type} {k : Nat} {enc : α → List Value} {w : World} {a : Option Addr} {n c c' j : Nat} {s : List α} (h : RG k enc w (.slice a n c) s) (hj : j ≤ n) : RG k enc w (.slice a j c') (s.take j) := by
  have hl := h.len
  obtain ⟨a', c2, e, h⟩ := h
  simp only [Value.slice.injEq] at e
  obtain ⟨rfl, rfl, rfl⟩ := e
  refine ⟨a, c', by rw [List.length_take, Nat.min_eq_left hj], fun hn => ?_⟩
  obtain ⟨g, o, rfl, hg, hc⟩ := h (by intro e; subst e; simp at hn)
  refine ⟨g, o, rfl, hg, fun i hi q hq => ?_⟩
  rw [List.length_take] at hi
  rw [hc i (by omega) q hq]
  simp

end Go.Proofs.Ytjbghflphngnkaa
