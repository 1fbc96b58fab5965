/- Proved here: chains of bits. Arithmetic; a list of numbers in its own room. -/
import Derived.Test.YtkdpifplhhcpaaaPbM
import Derived.Test.YtkdpifplhhcpaaaVkE
import Derived.Laws.CopyOwn
namespace Go.Proofs.Ytkdpifplhhcpaaa
open Go.RowKit
set_option linter.unusedVariables false
set_option linter.unusedSimpArgs false

/-- What stands at the taps, added. -/
def smT (now tp : List Int) : Int := (tp.map fun t => now.getD t.toNat 0).sum
theorem smT_step {now tp : List Int} {k : Nat} (h : k < tp.length) : smT now (tp.take (k + 1)) = smT now (tp.take k) + now.getD (tp.getD k 0).toNat 0 := by
  unfold smT
  rw [List.take_add_one, List.getElem?_eq_getElem h, getD_at h, Option.toList_some, List.map_append, List.sum_append]
  simp
def Bits (l : List Int) : Prop := ∀ i, 0 ≤ l.getD i 0 ∧ l.getD i 0 ≤ 1
theorem smT_rg {now : List Int} (h : Bits now) : ∀ tp : List Int, 0 ≤ smT now tp ∧ smT now tp ≤ tp.length := by
  intro tp
  induction tp with
  | nil => exact ⟨Int.le_refl _, Int.le_refl _⟩
  | cons a t ih =>
    have h1 := h a.toNat
    have e : smT now (a :: t) = now.getD a.toNat 0 + smT now t := by simp [smT]
    rw [e, List.length_cons]
    omega
def stN (tp : List Int) (now : List Int) (x : Int) : List Int := ((x + smT now tp) % 2) :: now.take (now.length - 1)
def ssL (st tp inn : List Int) : List Int := inn.foldl (stN tp) st
theorem ssL_step {st tp inn : List Int} {k : Nat} (h : k < inn.length) : ssL st tp (inn.take (k + 1)) = stN tp (ssL st tp (inn.take k)) (inn.getD k 0) := by
  unfold ssL
  rw [List.take_add_one, List.getElem?_eq_getElem h, getD_at h, Option.toList_some, List.foldl_append]
  rfl
theorem stN_len {tp now : List Int} (x : Int) (h : 0 < now.length) : (stN tp now x).length = now.length := by
  simp [stN]; omega
theorem ssL_len {st tp : List Int} (h : 0 < st.length) : ∀ inn : List Int, (ssL st tp inn).length = st.length := by
  intro inn
  unfold ssL
  induction inn generalizing st with
  | nil => rfl
  | cons a t ih => rw [List.foldl_cons, ih (by rw [stN_len _ h]; exact h), stN_len _ h]
theorem getD_takeI (l : List Int) (m i : Nat) : (l.take m).getD i 0 = if i < m then l.getD i 0 else 0 := by
  simp only [List.getD_eq_getElem?_getD, List.getElem?_take]
  by_cases h : i < m
  · rw [if_pos h, if_pos h]
  · rw [if_neg h, if_neg h]; rfl
theorem stN_bits {tp now : List Int} {x : Int} (h : Bits now) : Bits (stN tp now x) := by
  intro i
  unfold stN
  cases i with
  | zero => simp only [List.getD_cons_zero]; omega
  | succ i =>
    simp only [List.getD_cons_succ]
    rw [getD_takeI]
    by_cases h1 : i < now.length - 1
    · rw [if_pos h1]; exact h i
    · rw [if_neg h1]; omega
theorem ssL_bits {st tp : List Int} (h : Bits st) : ∀ inn : List Int, Bits (ssL st tp inn) := by
  intro inn
  unfold ssL
  induction inn generalizing st with
  | nil => exact h
  | cons a t ih => exact ih (stN_bits h)
theorem bits_of {s : List Int} (h : s.any (oo 0 1) = false) : Bits s := by
  intro i
  rcases Nat.lt_or_ge i s.length with h1 | h1
  · exact oo_at h h1
  · rw [List.getD_eq_getElem?_getD, List.getElem?_eq_none h1]; exact ⟨Int.le_refl _, by decide⟩
def scC (st tp inn : List Int) : Int := if st.length = 0 then 1 else if 32 < st.length ∨ 200 < inn.length then 2 else if st.any (oo 0 1) = true then 3 else if inn.any (oo 0 1) = true then 3 else if tp.any (oo 0 ((st.length : Int) - 1)) = true then 3 else if 32 < tp.length then 2 else 0
def scL (st tp inn : List Int) : List Int := if scC st tp inn = 0 then ssL st tp inn else []
theorem scC_ok {st tp inn : List Int} (h : scC st tp inn = 0) : 0 < st.length ∧ st.length ≤ 32 ∧ inn.length ≤ 200 ∧ st.any (oo 0 1) = false ∧ inn.any (oo 0 1) = false ∧ tp.any (oo 0 ((st.length : Int) - 1)) = false ∧ tp.length ≤ 32 := by
  unfold scC at h
  by_cases h1 : st.length = 0
  · rw [if_pos h1] at h; cases h
  rw [if_neg h1] at h
  by_cases h2 : 32 < st.length ∨ 200 < inn.length
  · rw [if_pos h2] at h; cases h
  rw [if_neg h2] at h
  cases h3 : st.any (oo 0 1) with
  | true => rw [h3, if_pos rfl] at h; cases h
  | false =>
    rw [h3, if_neg (by decide)] at h
    cases h4 : inn.any (oo 0 1) with
    | true => rw [h4, if_pos rfl] at h; cases h
    | false =>
      rw [h4, if_neg (by decide)] at h
      cases h5 : tp.any (oo 0 ((st.length : Int) - 1)) with
      | true => rw [h5, if_pos rfl] at h; cases h
      | false =>
        rw [h5, if_neg (by decide)] at h
        by_cases h6 : 32 < tp.length
        · rw [if_pos h6] at h; cases h
        · exact ⟨by omega, by omega, by omega, rfl, rfl, rfl, by omega⟩
theorem scL_no {st tp inn : List Int} (h : scC st tp inn ≠ 0) : scL st tp inn = [] := by rw [scL, if_neg h]
theorem scL_len (st tp inn : List Int) : (scL st tp inn).length ≤ 32 := by
  by_cases h : scC st tp inn = 0
  · rw [scL, if_pos h]
    have h1 := scC_ok h
    rw [ssL_len h1.1]; exact h1.2.1
  · rw [scL_no h]; simp
/-- A list of numbers from the first cell of its block on. -/
structure NW (V : World) (g n c : Nat) (cur : List Value) (l : List Int) : Prop where
  hg : V.heap[g]? = some (.cells cur.toArray 2 (0, 0))
  hc : cur.length = c
  le : n ≤ c
  mx : c ≤ maxLen
  ln : l.length = n
  tk : cur.take n = l.map (Value.int .i64)
theorem IS.nw {V : World} {B n : Nat} {v : Value} {l : List Int} (h : IS V B v l) (hp : 0 < l.length) (hn : n = l.length) : ∃ g c cur, v = .slice (some ⟨g, 0, none⟩) n c ∧ B ≤ g ∧ g < V.heap.size ∧ NW V g n c cur l := by
  rcases h.2 with ⟨_, h0⟩ | ⟨g, cap, cur, hv, hB, hg, h1, h2, h3, h4⟩
  · omega
  · have hlt : g < V.heap.size := by
      rcases Nat.lt_or_ge g V.heap.size with h9 | h9
      · exact h9
      · rw [Array.getElem?_eq_none h9] at hg; cases hg
    refine ⟨g, cap, cur.toList, by rw [hv, hn], hB, hlt, ⟨by simpa using hg, by simpa using h3, by omega, h2, hn.symm, by rw [hn]; simpa using h4⟩⟩
theorem NW.is {V : World} {g n c B : Nat} {cur : List Value} {l : List Int} (h : NW V g n c cur l) (hB : B ≤ g) : IS V B (.slice (some ⟨g, 0, none⟩) n c) l := by
  refine ⟨by simp, Or.inr ⟨g, c, cur.toArray, by rw [h.ln], hB, h.hg, by rw [h.ln]; exact h.le, h.mx, by simpa using h.hc, by simpa [h.ln] using h.tk⟩⟩
theorem NW.at {V : World} {g n c : Nat} {cur : List Value} {l : List Int} (h : NW V g n c cur l) {j : Nat} (hj : j < n) : V.cell? ⟨g, j, none⟩ = some (.int .i64 (l.getD j 0)) ∧ V.frozen? ⟨g, j, none⟩ = false := by
  refine ⟨?_, by simp [World.frozen?, h.hg]⟩
  have h1 : cur[j]? = some (.int .i64 (l.getD j 0)) := by
    have h2 : (cur.take n)[j]? = (l.map (Value.int .i64))[j]? := by rw [h.tk]
    rw [List.getElem?_take, if_pos hj, List.getElem?_map] at h2
    rw [h2, List.getElem?_eq_getElem (by rw [h.ln]; exact hj), getD_at (by rw [h.ln]; exact hj)]; rfl
  simp [World.cell?, h.hg, h1]
/-- The others moved on by one place, a new one in front. -/
theorem NW.shift {V V2 : World} {g d c : Nat} {cur : List Value} {l : List Int} (h : NW V g (d + 1) c cur l) (x : Int) {X : List Value} (hX : X = (l.take d).map (Value.int .i64)) (h2 : V2.heap[g]? = some (.cells (splice cur 1 X).toArray 2 (0, 0))) :
    ∃ cur', NW (V2.setCell ⟨g, 0, none⟩ (.int .i64 x)) g (d + 1) c cur' (x :: l.take d) := by
  have hcl := h.hc
  have hle := h.le
  have hml : X.length = d := by rw [hX]; simp [h.ln]
  obtain ⟨u, t, rfl⟩ : ∃ u t, cur = u :: t := by
    cases cur with
    | nil => simp at hcl; omega
    | cons u t => exact ⟨u, t, rfl⟩
  refine ⟨.int .i64 x :: (X ++ (u :: t).drop (1 + d)), ⟨?_, ?_, hle, h.mx, ?_, ?_⟩⟩
  · have h3 := heap_setCell_same V2 g 0 _ _ (.int .i64 x) h2
    rw [h3]
    simp only [splice, hml, List.take_succ_cons, List.take_zero, List.singleton_append, List.setIfInBounds_toArray, List.set_cons_zero]
  · simp only [List.length_cons] at hcl
    simp only [List.length_cons, List.length_append, List.length_drop, hml]; omega
  · simp [h.ln]
  · rw [List.take_succ_cons, List.take_append_of_le_length (by rw [hml]; exact Nat.le_refl _), List.take_of_length_le (by rw [hml]; exact Nat.le_refl _), hX]
    simp
theorem IS.capN {w : World} {B n c : Nat} {a : Option Addr} {l : List Int} (h : IS w B (.slice a n c) l) : n ≤ c := by
  rcases h.2 with ⟨h1, _⟩ | ⟨g, cap, cur, h1, _, _, h2, _⟩
  · injection h1 with h2 h3 h4; omega
  · injection h1 with h3 h4 h5; omega
theorem apN {X w2 : World} {v : Value} {n : Nat} {l : List Int} (hn : n = l.length) (hown : w2.ownsRow X.heap.size 2 1 v (0 + n) ([] ++ l.map (Value.int .i64))) (hg : (X.alloc (.cells #[] 2)).grownBy w2 (Value.slice (some ⟨X.heap.size, 0, none⟩) 0 0).ownBlock) : IS w2 X.heap.size v l ∧ Below X.heap.size X w2 := by
  refine ⟨by unfold IS; rw [hn] at hown; simpa using hown, ((Below.refl _ _).alloc (Nat.le_refl _) _).grown hg (by simp) (fun j hj => by cases hj; exact Nat.le_refl _)⟩
theorem apO {X w2 : World} {v : Value} {d : Nat} {x : Int} {l : List Int} (hn : d = l.length) (hown : w2.ownsRow X.heap.size 2 1 v (1 + d) ([Value.int .i64 x] ++ l.map (Value.int .i64))) (hg : (X.alloc (.cells #[.int .i64 x] 2)).grownBy w2 (Value.slice (some ⟨X.heap.size, 0, none⟩) 1 1).ownBlock) : IS w2 X.heap.size v (x :: l) ∧ Below X.heap.size X w2 := by
  refine ⟨by unfold IS; rw [hn, Nat.add_comm] at hown; simpa using hown, ((Below.refl _ _).alloc (Nat.le_refl _) _).grown hg (by simp) (fun j hj => by cases hj; exact Nat.le_refl _)⟩

end Go.Proofs.Ytkdpifplhhcpaaa
