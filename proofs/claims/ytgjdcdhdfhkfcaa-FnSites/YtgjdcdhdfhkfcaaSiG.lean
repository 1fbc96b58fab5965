/- Proved here: sites are the same upside down, rise, lie within the circle, on the grid; there is one at least. No program. -/
import Derived.Test.YtgjdcdhdfhkfcaaSiM
namespace Go.Proofs.Ytgjdcdhdfhkfcaa
open Go.RowKit
set_option linter.unusedVariables false
set_option linter.unusedSimpArgs false

def ngS (s : Sit) : Sit := ⟨-s.x, -s.y⟩
def inS (r : Int) (s : Sit) : Bool := decide (s.x * s.x + s.y * s.y ≤ r * r)
def ptS (st : Int) (M : Nat) (j k : Nat) : Sit := ⟨((k : Int) - M) * st, ((j : Int) - M) * st⟩
theorem siR_fil (r st : Int) (M j k : Nat) : siR r st M (((j : Int) - M) * st) k = ((List.range k).map (ptS st M j)).filter (inS r) := by
  induction k with
  | zero => rfl
  | succ k ih =>
    rw [siR, ih, List.range_succ, List.map_append, List.filter_append]
    congr 1
    simp only [List.map_cons, List.map_nil, List.filter_cons, List.filter_nil, inS, ptS, decide_eq_true_eq]
theorem siA_fil (r st : Int) (M j : Nat) : siA r st M j = ((List.range j).flatMap fun i => (List.range (2 * M + 1)).map (ptS st M i)).filter (inS r) := by
  induction j with
  | zero => rfl
  | succ j ih =>
    rw [siA, ih, List.range_succ (n := j), List.flatMap_append, List.filter_append, siR_fil]
    congr 1
    simp
theorem pt_neg (st : Int) {M j k : Nat} (hj : j ≤ 2 * M) (hk : k ≤ 2 * M) : ptS st M (2 * M - j) (2 * M - k) = ngS (ptS st M j k) := by
  unfold ptS ngS
  rw [show (((2 * M - k : Nat) : Int) - M) = -((k : Int) - M) by omega, show (((2 * M - j : Nat) : Int) - M) = -((j : Int) - M) by omega, Int.neg_mul, Int.neg_mul]
theorem range_rev (n : Nat) : (List.range n).reverse = (List.range n).map (fun i => n - 1 - i) := by
  apply List.ext_getElem
  · simp
  · intro i h1 h2
    simp at h1 h2 ⊢
theorem row_rev (st : Int) {M j : Nat} (hj : j ≤ 2 * M) : ((List.range (2 * M + 1)).map (ptS st M (2 * M - j))).reverse = ((List.range (2 * M + 1)).map (ptS st M j)).map ngS := by
  rw [← List.map_reverse, range_rev, List.map_map, List.map_map]
  apply List.map_congr_left
  intro k hk
  rw [List.mem_range] at hk
  simp only [Function.comp]
  rw [show 2 * M + 1 - 1 - k = 2 * M - k by omega, pt_neg st hj (by omega)]
theorem grid_rev (st : Int) (M : Nat) : ((List.range (2 * M + 1)).flatMap fun i => (List.range (2 * M + 1)).map (ptS st M i)).reverse = ((List.range (2 * M + 1)).flatMap fun i => (List.range (2 * M + 1)).map (ptS st M i)).map ngS := by
  rw [List.reverse_flatMap, range_rev, List.flatMap_map, List.map_flatMap]
  rw [List.flatMap_def, List.flatMap_def]
  congr 1
  apply List.map_congr_left
  intro j hj
  rw [List.mem_range] at hj
  simp only [Function.comp]
  rw [show 2 * M + 1 - 1 - j = 2 * M - j by omega]
  exact row_rev st (by omega)
theorem siG_rev (r st : Int) : (siG r st).reverse = (siG r st).map ngS := by
  unfold siG
  generalize siM r st = M
  rw [siA_fil, ← List.filter_reverse, grid_rev, List.filter_map]
  congr 1
  apply List.filter_congr
  intro s _
  simp only [Function.comp, inS, ngS, Int.neg_mul_neg]
theorem opp_at {r st : Int} {i : Nat} {a b : Sit} (h : i < (siG r st).length) (ha : (siG r st)[i]? = some a) (hb : (siG r st)[(siG r st).length - 1 - i]? = some b) : a.x = -b.x ∧ a.y = -b.y := by
  have h1 := congrArg (fun l => l[i]?) (siG_rev r st)
  simp only [List.getElem?_reverse h, List.getElem?_map, ha, hb, Option.map_some, Option.some.injEq] at h1
  rw [h1]; unfold ngS; simp
theorem siG_mem {r st : Int} {s : Sit} (h : s ∈ siG r st) : s.x * s.x + s.y * s.y ≤ r * r ∧ ∃ j k : Nat, j < 2 * siM r st + 1 ∧ k < 2 * siM r st + 1 ∧ s = ptS st (siM r st) j k := by
  unfold siG at h
  rw [siA_fil, List.mem_filter, List.mem_flatMap] at h
  obtain ⟨⟨j, hj, hm⟩, hi⟩ := h
  rw [List.mem_map] at hm
  obtain ⟨k, hk, rfl⟩ := hm
  rw [List.mem_range] at hj hk
  exact ⟨by simpa [inS] using hi, j, k, hj, hk, rfl⟩
def ltS (a b : Sit) : Prop := a.y < b.y ∨ (a.y = b.y ∧ a.x < b.x)
theorem pt_lt {st : Int} (hs : 1 ≤ st) {M : Nat} {a b : Nat} (h : a < b) : ((a : Int) - M) * st < ((b : Int) - M) * st := Int.mul_lt_mul_of_pos_right (by omega) (by omega)
theorem siG_rise {r st : Int} (hs : 1 ≤ st) : (siG r st).Pairwise ltS := by
  unfold siG
  generalize siM r st = M
  rw [siA_fil]
  apply List.Pairwise.filter
  rw [List.flatMap_def, List.pairwise_flatten]
  refine ⟨?_, ?_⟩
  · intro l hl
    rw [List.mem_map] at hl
    obtain ⟨j, _, rfl⟩ := hl
    rw [List.pairwise_map]
    exact List.Pairwise.imp (fun {a b} h => .inr ⟨rfl, pt_lt hs h⟩) List.pairwise_lt_range
  · rw [List.pairwise_map]
    refine List.Pairwise.imp (fun {a b} h => ?_) List.pairwise_lt_range
    intro s hs1 t ht
    rw [List.mem_map] at hs1 ht
    obtain ⟨k, _, rfl⟩ := hs1
    obtain ⟨q, _, rfl⟩ := ht
    exact .inl (pt_lt hs h)
theorem rise_at {r st : Int} (hs : 1 ≤ st) {i : Nat} {a b : Sit} (ha : (siG r st)[i]? = some a) (hb : (siG r st)[i + 1]? = some b) : ltS a b := by
  obtain ⟨h1, rfl⟩ := List.getElem?_eq_some_iff.1 ha
  obtain ⟨h2, rfl⟩ := List.getElem?_eq_some_iff.1 hb
  exact List.pairwise_iff_getElem.1 (siG_rise hs) i (i + 1) h1 h2 (by omega)
theorem siG_some (r st : Int) : 0 < (siG r st).length := by
  have hm : (⟨0, 0⟩ : Sit) ∈ siG r st := by
    unfold siG
    generalize siM r st = M
    rw [siA_fil, List.mem_filter, List.mem_flatMap]
    refine ⟨⟨M, List.mem_range.2 (by omega), List.mem_map.2 ⟨M, List.mem_range.2 (by omega), ?_⟩⟩, ?_⟩
    · unfold ptS; simp
    · have h5 : 0 ≤ r * r := by
        rcases Int.le_total 0 r with h | h
        · exact Int.mul_nonneg h h
        · have := Int.mul_nonneg (show 0 ≤ -r by omega) (show 0 ≤ -r by omega)
          rw [Int.neg_mul_neg] at this
          exact this
      simp only [inS, decide_eq_true_eq]; omega
  exact List.length_pos_of_mem hm
/-- All that the law asks of one site. -/
structure SiOk (r st : Int) (n i : Nat) (a b : Sit) : Prop where
  ox : a.x = -b.x
  oy : a.y = -b.y
  mx : a.x.tmod st = 0
  my : a.y.tmod st = 0
  ins : a.x * a.x + a.y * a.y ≤ r * r
  xb : -100 ≤ a.x ∧ a.x ≤ 100
  yb : -100 ≤ a.y ∧ a.y ≤ 100
theorem si_ok {r st : Int} (hr : 0 ≤ r ∧ r ≤ 50) (hs : 1 ≤ st ∧ st ≤ 50) {i : Nat} {a b : Sit} (h : i < (siG r st).length) (ha : (siG r st)[i]? = some a) (hb : (siG r st)[(siG r st).length - 1 - i]? = some b) : SiOk r st (siG r st).length i a b := by
  obtain ⟨o1, o2⟩ := opp_at h ha hb
  obtain ⟨m1, j, k, hj, hk, rfl⟩ := siG_mem (List.mem_of_getElem? ha)
  have bj := at_b hr hs rfl (show j ≤ 2 * siM r st + 1 by omega)
  have bk := at_b hr hs rfl (show k ≤ 2 * siM r st + 1 by omega)
  exact ⟨o1, o2, Int.mul_tmod_left _ _, Int.mul_tmod_left _ _, m1, ⟨bk.1, bk.2.1⟩, ⟨bj.1, bj.2.1⟩⟩

end Go.Proofs.Ytgjdcdhdfhkfcaa
