/- Proved here: the first class that fits a defect: by places of each kind, sorted, or one by one. -/
import Derived.Test.YtjacmneopijiaaaVdM
import Derived.Test.YtjacmneopijiaaaVcM
namespace Go.Proofs.Ytjacmneopijiaaa
open Go.RowKit
set_option linter.unusedVariables false
set_option linter.unusedSimpArgs false

def vsz (d : Dft) (c : Cls) : Bool := decide (c.lo ≤ d.z ∧ d.z ≤ c.hi)
def vfit (d : Dft) (c : Cls) : Bool := (decide (c.k = -1) || decide (c.k = d.k)) && vsz d c
/-- The place of the first class that fits; how many there are, if none does. -/
def vff (d : Dft) (cs : List Cls) : Nat := cs.findIdx (vfit d)
theorem vff_le (d : Dft) (cs : List Cls) : vff d cs ≤ cs.length := List.findIdx_le_length
/-- Class i asks for kind k. -/
def vhas (cs : List Cls) (k : Int) (i : Nat) : Bool :=
  match cs[i]? with
  | some c => decide (c.k = k)
  | none => false
/-- Of the first j classes, the places of those that ask for kind k. -/
def vpl (cs : List Cls) (j : Nat) (k : Int) : List Int := ((List.range j).filter (vhas cs k)).map (fun i : Nat => (i : Int))
theorem vpl_zero (cs : List Cls) (k : Int) : vpl cs 0 k = [] := rfl
theorem vpl_succ {cs : List Cls} {j : Nat} (hj : j < cs.length) (k : Int) : vpl cs (j + 1) k = if cs[j].k = k then vpl cs j k ++ [(j : Int)] else vpl cs j k := by
  have hv : vhas cs k j = decide (cs[j].k = k) := by unfold vhas; rw [List.getElem?_eq_getElem hj]
  unfold vpl
  rw [List.range_succ, List.filter_append, List.map_append]
  by_cases h : cs[j].k = k
  · rw [if_pos h]; simp [hv, h]
  · rw [if_neg h]; simp [hv, h]
theorem vpl_mem {cs : List Cls} {j : Nat} {k x : Int} : x ∈ vpl cs j k ↔ ∃ i : Nat, i < j ∧ x = i ∧ vhas cs k i = true := by
  unfold vpl
  simp only [List.mem_map, List.mem_filter, List.mem_range]
  constructor
  · rintro ⟨i, ⟨h1, h2⟩, rfl⟩; exact ⟨i, h1, rfl, h2⟩
  · rintro ⟨i, h1, rfl, h2⟩; exact ⟨i, ⟨h1, h2⟩, rfl⟩
theorem vpl_len (cs : List Cls) (j : Nat) (k : Int) : (vpl cs j k).length ≤ j := by
  unfold vpl
  rw [List.length_map]
  exact Nat.le_trans (List.length_filter_le _ _) (by simp)
/-- Keys of a table of classes. -/
def vtL (cs : List Cls) (j : Nat) (kl : Lit) : List Int :=
  match kl with
  | .int .i64 k => vpl cs j k
  | _ => []
theorem vtL_int (cs : List Cls) (j : Nat) (k : Int) : vtL cs j (.int .i64 k) = vpl cs j k := rfl
theorem vtL_zero (cs : List Cls) (kl : Lit) : vtL cs 0 kl = [] := by
  unfold vtL
  split
  · rfl
  · rfl
theorem vtL_succ {cs : List Cls} {j : Nat} (hj : j < cs.length) (q : Lit) : (if q.sameKey (.int .i64 cs[j].k) then vpl cs j cs[j].k ++ [(j : Int)] else vtL cs j q) = vtL cs (j + 1) q := by
  by_cases h : q = .int .i64 cs[j].k
  · subst h
    rw [if_pos (WideAt.sameKey_self (by simp [WideAt.IsKeyLit])), vtL_int, vpl_succ hj, if_pos rfl]
  · rw [if_neg (by rw [Maps.sameKey_ne h]; exact Bool.false_ne_true)]
    unfold vtL
    split
    · rename_i k
      rw [vpl_succ hj, if_neg]
      intro e; exact h (by rw [e])
    · rfl
/-- In a sorted list of the places of all classes that may fit, the first that fits in size is the first that fits. -/
theorem vff_here {d : Dft} {cs : List Cls} {L : List Int} (hs : L.Pairwise (· ≤ ·)) (hm : ∀ x, x ∈ L ↔ ∃ i : Nat, i < cs.length ∧ x = i ∧ (vhas cs (-1) i = true ∨ vhas cs d.k i = true)) {t i : Nat} (ht : t < L.length) (hi : i < cs.length) (hx : L[t] = (i : Int))
    (hno : ∀ j (hj : j < t) (q : Nat) (hq : q < cs.length), L[j] = (q : Int) → vsz d cs[q] = false) (hy : vsz d cs[i] = true) : vff d cs = i := by
  unfold vff
  rw [List.findIdx_eq hi]
  constructor
  · obtain ⟨i', hi', e, hk⟩ := (hm L[t]).1 (List.getElem_mem ht)
    obtain rfl : i = i' := by rw [hx] at e; omega
    unfold vfit
    rw [hy]
    unfold vhas at hk
    rw [List.getElem?_eq_getElem hi] at hk
    simpa using hk
  · intro q hq
    cases hf : vfit d cs[q] with
    | false => rfl
    | true =>
      exfalso
      have hql : q < cs.length := by omega
      unfold vfit at hf
      simp only [Bool.and_eq_true, Bool.or_eq_true, decide_eq_true_eq] at hf
      have hmem : (q : Int) ∈ L := (hm _).2 ⟨q, hql, rfl, by unfold vhas; rw [List.getElem?_eq_getElem hql]; simpa using hf.1⟩
      obtain ⟨t', ht', e⟩ := List.getElem_of_mem hmem
      rcases Nat.lt_or_ge t' t with h1 | h1
      · rw [hno t' h1 q hql e] at hf; cases hf.2
      · rcases Nat.eq_or_lt_of_le h1 with h2 | h2
        · subst h2; rw [hx] at e; omega
        · have := List.pairwise_iff_getElem.1 hs t t' ht ht' h2
          rw [hx, e] at this
          omega
theorem vff_none {d : Dft} {cs : List Cls} {L : List Int} (hm : ∀ x, x ∈ L ↔ ∃ i : Nat, i < cs.length ∧ x = i ∧ (vhas cs (-1) i = true ∨ vhas cs d.k i = true))
    (hno : ∀ j (hj : j < L.length) (q : Nat) (hq : q < cs.length), L[j] = (q : Int) → vsz d cs[q] = false) : vff d cs = cs.length := by
  unfold vff
  rw [List.findIdx_eq_length]
  intro c hc
  obtain ⟨q, hq, rfl⟩ := List.getElem_of_mem hc
  cases hf : vfit d cs[q] with
  | false => rfl
  | true =>
    exfalso
    unfold vfit at hf
    simp only [Bool.and_eq_true, Bool.or_eq_true, decide_eq_true_eq] at hf
    have hmem : (q : Int) ∈ L := (hm _).2 ⟨q, hq, rfl, by unfold vhas; rw [List.getElem?_eq_getElem hq]; simpa using hf.1⟩
    obtain ⟨t', ht', e⟩ := List.getElem_of_mem hmem
    rw [hno t' ht' q hq e] at hf; cases hf.2
/-- All places that may fit, sorted. -/
def vord (d : Dft) (cs : List Cls) : List Int := (vpl cs cs.length d.k ++ vpl cs cs.length (-1)).mergeSort fun x y => decide (x ≤ y)
theorem vord_mem {d : Dft} {cs : List Cls} (x : Int) : x ∈ vord d cs ↔ ∃ i : Nat, i < cs.length ∧ x = i ∧ (vhas cs (-1) i = true ∨ vhas cs d.k i = true) := by
  unfold vord
  rw [List.mem_mergeSort, List.mem_append, vpl_mem, vpl_mem]
  constructor
  · rintro (⟨i, h1, h2, h3⟩ | ⟨i, h1, h2, h3⟩)
    · exact ⟨i, h1, h2, Or.inr h3⟩
    · exact ⟨i, h1, h2, Or.inl h3⟩
  · rintro ⟨i, h1, h2, h3 | h3⟩
    · exact Or.inr ⟨i, h1, h2, h3⟩
    · exact Or.inl ⟨i, h1, h2, h3⟩
theorem vord_sorted (d : Dft) (cs : List Cls) : (vord d cs).Pairwise (· ≤ ·) := by
  have h := List.pairwise_mergeSort (le := fun x y : Int => decide (x ≤ y)) (fun a b c h1 h2 => by simp at h1 h2 ⊢; omega) (fun a b => by simp; omega) (vpl cs cs.length d.k ++ vpl cs cs.length (-1))
  unfold vord
  exact h.imp (fun h => by simpa using h)
theorem vord_len (d : Dft) (cs : List Cls) : (vord d cs).length ≤ 2 * cs.length := by
  unfold vord
  rw [List.length_mergeSort, List.length_append]
  have h1 := vpl_len cs cs.length d.k
  have h2 := vpl_len cs cs.length (-1)
  omega
/-- What is asked at the t-th place: all ahead of it do not fit in size. -/
def Vno (d : Dft) (cs : List Cls) (t : Nat) : Prop := ∀ j (hj : j < t) (hj2 : j < (vord d cs).length) (q : Nat) (hq : q < cs.length), (vord d cs)[j] = (q : Int) → vsz d cs[q] = false
theorem Vno.zero (d : Dft) (cs : List Cls) : Vno d cs 0 := fun j hj => absurd hj (by omega)
theorem Vno.succ {d : Dft} {cs : List Cls} {t i : Nat} (h : Vno d cs t) (ht : t < (vord d cs).length) (hi : i < cs.length) (hx : (vord d cs)[t] = (i : Int)) (hy : vsz d cs[i] = false) : Vno d cs (t + 1) := by
  intro j hj hj2 q hq e
  rcases Nat.lt_or_ge j t with h1 | h1
  · exact h j h1 hj2 q hq e
  · obtain rfl : j = t := by omega
    rw [hx] at e
    obtain rfl : i = q := by omega
    exact hy
theorem Vno.here {d : Dft} {cs : List Cls} {t i : Nat} (h : Vno d cs t) (ht : t < (vord d cs).length) (hi : i < cs.length) (hx : (vord d cs)[t] = (i : Int)) (hy : vsz d cs[i] = true) : vff d cs = i :=
  vff_here (vord_sorted d cs) (fun x => vord_mem x) ht hi hx (fun j hj q hq e => h j hj (by omega) q hq e) hy
theorem Vno.none {d : Dft} {cs : List Cls} {t : Nat} (h : Vno d cs t) (ht : (vord d cs).length ≤ t) : vff d cs = cs.length :=
  vff_none (fun x => vord_mem x) (fun j hj q hq e => h j (by omega) hj q hq e)
theorem vord_at {d : Dft} {cs : List Cls} {t : Nat} (ht : t < (vord d cs).length) : ∃ i : Nat, i < cs.length ∧ (vord d cs)[t] = (i : Int) := by
  obtain ⟨i, h1, h2, _⟩ := (vord_mem (d := d) (cs := cs) _).1 (List.getElem_mem ht)
  exact ⟨i, h1, h2⟩

end Go.Proofs.Ytjacmneopijiaaa
