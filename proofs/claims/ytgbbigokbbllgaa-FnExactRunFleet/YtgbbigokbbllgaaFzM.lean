/- Proved here: the arithmetic of a fleet on a ring: its fault, who is to move, a step, many steps. -/
import Derived.Test.YtgbbigokbbllgaaChM
namespace Go.Proofs.Ytgbbigokbbllgaa
set_option linter.unusedVariables false
set_option linter.unusedSimpArgs false

theorem gdI {s : List Int} {j : Nat} (h : j < s.length) : s.getD j 0 = s[j] := by
  rw [List.getD_eq_getElem?_getD, List.getElem?_eq_getElem h]; rfl
theorem gdMem {s : List Int} {j : Nat} (h : j < s.length) : s.getD j 0 ∈ s := by rw [gdI h]; exact List.getElem_mem h
theorem memGd {s : List Int} {x : Int} (h : x ∈ s) : ∃ j, j < s.length ∧ s.getD j 0 = x := by
  obtain ⟨j, hj, e⟩ := List.getElem_of_mem h
  exact ⟨j, hj, by rw [gdI hj]; exact e⟩
theorem chG_iff {lo hi : Int} {s : List Int} : chG lo hi s = 0 ↔ ∀ k, k < s.length → lo ≤ s.getD k 0 ∧ s.getD k 0 ≤ hi := by
  constructor
  · intro h k hk
    exact chG_good h _ (gdMem hk)
  · intro h
    induction s with
    | nil => rfl
    | cons a t ih =>
      rw [chG, if_pos (by have := h 0 (by simp); simpa using this)]
      exact ih fun k hk => by have := h (k + 1) (by simp; omega); simpa using this
/-- No place ahead of i has the number at i. -/
def newAt (s : List Int) (i : Nat) : Prop := ∀ k, k < i → s.getD k 0 ≠ s.getD i 0
theorem new_take {s : List Int} {i : Nat} (h : i < s.length) : newAt s i ↔ s.getD i 0 ∉ s.take i := by
  constructor
  · intro hn hm
    obtain ⟨j, hj, e⟩ := List.getElem_of_mem hm
    have hj' : j < i := by rw [List.length_take] at hj; omega
    rw [List.getElem_take] at e
    exact hn j hj' (by rw [gdI (by omega), e])
  · intro hm k hk e
    apply hm
    rw [← e, gdI (by omega)]
    have : (s.take i)[k]'(by rw [List.length_take]; omega) = s[k] := List.getElem_take
    rw [← this]
    exact List.getElem_mem _
/-- All numbers differ. -/
def dif (s : List Int) : Bool := (List.range s.length).all fun i => (List.range i).all fun k => decide (s.getD k 0 ≠ s.getD i 0)
theorem dif_iff {s : List Int} : dif s = true ↔ ∀ i, i < s.length → newAt s i := by
  unfold dif newAt
  simp only [List.all_eq_true, List.mem_range, decide_eq_true_eq]
theorem dif_inj {s : List Int} (h : dif s = true) {i j : Nat} (hi : i < s.length) (hj : j < s.length) (e : s.getD i 0 = s.getD j 0) : i = j := by
  have h' := dif_iff.1 h
  rcases Nat.lt_trichotomy i j with hlt | rfl | hlt
  · exact absurd e (h' j hj i hlt)
  · rfl
  · exact absurd e.symm (h' i hi j hlt)
theorem dif_not {s : List Int} {i : Nat} (hi : i < s.length) (h : ¬ newAt s i) : dif s = false := by
  cases hd : dif s with
  | false => rfl
  | true => exact absurd (dif_iff.1 hd i hi) h

/-- The fault of a fleet. -/
def flF (Z : Int) (s t : List Int) : Int :=
  if ¬ (1 ≤ Z ∧ Z ≤ 30) then 3 else if t.length ≠ s.length then 1 else if Z < (s.length : Int) then 2
  else if chG 0 (Z - 1) s ≠ 0 ∨ chG 0 (Z - 1) t ≠ 0 then 3 else if dif s = true then 0 else 7
/-- A fleet without a fault. -/
structure FlOk (Z : Int) (s t : List Int) : Prop where
  z : 1 ≤ Z ∧ Z ≤ 30
  l : t.length = s.length
  m : (s.length : Int) ≤ Z
  a : ∀ k, k < s.length → 0 ≤ s.getD k 0 ∧ s.getD k 0 < Z
  b : ∀ k, k < t.length → 0 ≤ t.getD k 0 ∧ t.getD k 0 < Z
  d : dif s = true
theorem flF_ok {Z : Int} {s t : List Int} (h : flF Z s t = 0) : FlOk Z s t := by
  unfold flF at h
  by_cases h1 : ¬ (1 ≤ Z ∧ Z ≤ 30)
  · rw [if_pos h1] at h; cases h
  rw [if_neg h1] at h
  by_cases h2 : t.length ≠ s.length
  · rw [if_pos h2] at h; cases h
  rw [if_neg h2] at h
  by_cases h3 : Z < (s.length : Int)
  · rw [if_pos h3] at h; cases h
  rw [if_neg h3] at h
  by_cases h4 : chG 0 (Z - 1) s ≠ 0 ∨ chG 0 (Z - 1) t ≠ 0
  · rw [if_pos h4] at h; cases h
  rw [if_neg h4] at h
  by_cases h5 : dif s = true
  · have h6 : chG 0 (Z - 1) s = 0 := Decidable.byContradiction fun e => h4 (Or.inl e)
    have h7 : chG 0 (Z - 1) t = 0 := Decidable.byContradiction fun e => h4 (Or.inr e)
    refine ⟨Decidable.byContradiction h1, Decidable.byContradiction h2, by omega, fun k hk => ?_, fun k hk => ?_, h5⟩
    · have := chG_iff.1 h6 k hk; omega
    · have := chG_iff.1 h7 k hk; omega
  · rw [if_neg h5] at h; cases h
theorem flF_zero {Z : Int} {s t : List Int} (h : FlOk Z s t) : flF Z s t = 0 := by
  unfold flF
  rw [if_neg (by have := h.z; omega), if_neg (by have := h.l; omega), if_neg (by have := h.m; omega), if_neg, if_pos h.d]
  rintro (e | e)
  · exact e (chG_iff.2 fun k hk => by have := h.a k hk; omega)
  · exact e (chG_iff.2 fun k hk => by have := h.b k hk; omega)

/-- Is the vehicle in that zone not at its place? -/
def ownZ (s t : List Int) (z : Int) : Prop := ∃ k, k < s.length ∧ s.getD k 0 = z ∧ s.getD k 0 ≠ t.getD k 0
def ownB (s t : List Int) (z : Int) : Bool := (List.range s.length).any fun k => decide (s.getD k 0 = z) && decide (s.getD k 0 ≠ t.getD k 0)
theorem ownB_iff {s t : List Int} {z : Int} : ownB s t z = true ↔ ownZ s t z := by
  unfold ownB ownZ
  simp only [List.any_eq_true, List.mem_range, Bool.and_eq_true, decide_eq_true_eq]
theorem ownZ_mem {s t : List Int} {z : Int} (h : ownZ s t z) : z ∈ s := by
  obtain ⟨k, hk, e, _⟩ := h
  rw [← e]; exact gdMem hk
theorem ownZ_at {s t : List Int} {i : Nat} (hd : dif s = true) (hi : i < s.length) : ownZ s t (s.getD i 0) ↔ s.getD i 0 ≠ t.getD i 0 := by
  constructor
  · rintro ⟨k, hk, e, h⟩
    obtain rfl := dif_inj hd hk hi e
    exact h
  · exact fun h => ⟨i, hi, rfl, h⟩
/-- Pushed on by one that stands d zones behind. -/
def UgD (Z : Int) (s t : List Int) (d : Nat) (z : Int) : Prop := ownZ s t ((z - (d : Int)) % Z) ∧ ∀ e, e < d → (z - (e : Int)) % Z ∈ s
def ugB (Z : Int) (s t : List Int) (z : Int) : Bool := (List.range 30).any fun d => ownB s t ((z - (d : Int)) % Z) && (List.range d).all fun e => decide ((z - (e : Int)) % Z ∈ s)
theorem ugB_some {Z : Int} {s t : List Int} {z : Int} (h : ugB Z s t z = true) : ∃ d, UgD Z s t d z := by
  unfold ugB at h
  simp only [List.any_eq_true, List.mem_range, Bool.and_eq_true, List.all_eq_true, decide_eq_true_eq] at h
  obtain ⟨d, _, h1, h2⟩ := h
  exact ⟨d, ownB_iff.1 h1, h2⟩
theorem ugD_short {Z : Int} {s t : List Int} {z : Int} {d : Nat} (hZ : 1 ≤ Z) (h : UgD Z s t d z) : ∃ d' : Nat, (d' : Int) < Z ∧ UgD Z s t d' z := by
  have hm0 := Int.emod_nonneg (d : Int) (show Z ≠ 0 by omega)
  have hm1 := Int.emod_lt_of_pos (d : Int) (show 0 < Z by omega)
  refine ⟨((d : Int) % Z).toNat, by omega, ?_, fun e he => ?_⟩
  · have : (z - ((((d : Int) % Z).toNat : Nat) : Int)) % Z = (z - (d : Int)) % Z := by
      rw [Int.toNat_of_nonneg hm0, Int.sub_emod z ((d : Int) % Z), Int.emod_emod_of_dvd _ (Int.dvd_refl Z), ← Int.sub_emod]
    rw [this]; exact h.1
  · refine h.2 e ?_
    by_cases hlt : (d : Int) < Z
    · rw [Int.emod_eq_of_lt (by omega) hlt] at he; omega
    · omega
theorem ugB_iff {Z : Int} {s t : List Int} {z : Int} (hZ : 1 ≤ Z ∧ Z ≤ 30) : ugB Z s t z = true ↔ ∃ d, UgD Z s t d z := by
  constructor
  · exact ugB_some
  · rintro ⟨d, h⟩
    obtain ⟨d', h1, h2⟩ := ugD_short hZ.1 h
    unfold ugB
    simp only [List.any_eq_true, List.mem_range, Bool.and_eq_true, List.all_eq_true, decide_eq_true_eq]
    exact ⟨d', by omega, ownB_iff.2 h2.1, h2.2⟩

theorem ug_own {Z : Int} {s t : List Int} {z : Int} (hz : 0 ≤ z ∧ z < Z) (h : ownZ s t z) : UgD Z s t 0 z :=
  ⟨by simpa [Int.emod_eq_of_lt hz.1 hz.2] using h, fun e he => by omega⟩
theorem ug_zero {Z : Int} {s t : List Int} {z : Int} (hz : 0 ≤ z ∧ z < Z) (h : UgD Z s t 0 z) : ownZ s t z := by
  simpa [UgD, Int.emod_eq_of_lt hz.1 hz.2] using h.1
theorem em_back (z Z : Int) (e : Nat) : ((z - 1) % Z - (e : Int)) % Z = (z - ((e + 1 : Nat) : Int)) % Z := by
  rw [Int.sub_emod, Int.emod_emod_of_dvd _ (Int.dvd_refl Z), ← Int.sub_emod]
  congr 1
  omega
/-- One that stands ahead of one that is to move is to move, and the other way about. -/
theorem ug_push {Z : Int} {s t : List Int} {z : Int} {d : Nat} (hz : 0 ≤ z ∧ z < Z) (hm : z ∈ s) (h : UgD Z s t d ((z - 1) % Z)) : UgD Z s t (d + 1) z := by
  refine ⟨by rw [← em_back]; exact h.1, fun e he => ?_⟩
  cases e with
  | zero => simpa [Int.emod_eq_of_lt hz.1 hz.2] using hm
  | succ e => rw [← em_back]; exact h.2 e (by omega)
theorem ug_pull {Z : Int} {s t : List Int} {z : Int} {d : Nat} (hz : 0 ≤ z ∧ z < Z) (h : UgD Z s t (d + 1) z) : z ∈ s ∧ (z - 1) % Z ∈ s ∧ UgD Z s t d ((z - 1) % Z) := by
  have h0 := h.2 0 (by omega)
  have hu : UgD Z s t d ((z - 1) % Z) := ⟨by rw [em_back]; exact h.1, fun e he => by rw [em_back]; exact h.2 (e + 1) (by omega)⟩
  refine ⟨by simpa [Int.emod_eq_of_lt hz.1 hz.2] using h0, ?_, hu⟩
  cases d with
  | zero => have := ownZ_mem hu.1; simpa using this
  | succ d => have := hu.2 0 (by omega); simpa using this
theorem em_on {Z z : Int} (hz : 0 ≤ z ∧ z < Z) : ((z + 1) % Z - 1) % Z = z := by
  rw [Int.sub_emod, Int.emod_emod_of_dvd _ (Int.dvd_refl Z), ← Int.sub_emod]
  have : z + 1 - 1 = z := by omega
  rw [this, Int.emod_eq_of_lt hz.1 hz.2]
theorem em_bd {Z : Int} (hZ : 1 ≤ Z) (z : Int) : 0 ≤ z % Z ∧ z % Z < Z := ⟨Int.emod_nonneg _ (by omega), Int.emod_lt_of_pos _ (by omega)⟩

/-- Who is to move, one number a vehicle. -/
def urL (Z : Int) (s t : List Int) : List Int := rgL (fun i => if ugB Z s t (s.getD i 0) = true then 1 else 0) s.length
theorem urL_len (Z : Int) (s t : List Int) : (urL Z s t).length = s.length := rgL_len _ _
theorem rgL_at (f : Nat → Int) {n i : Nat} (h : i < n) : (rgL f n).getD i 0 = f i := by
  rw [List.getD_eq_getElem?_getD]; unfold rgL; simp [h]
theorem urL_at {Z : Int} {s t : List Int} {i : Nat} (h : i < s.length) : (urL Z s t).getD i 0 = if ugB Z s t (s.getD i 0) = true then 1 else 0 := rgL_at _ h

/-- Does the vehicle i go on? -/
def mvB (Z : Int) (s t : List Int) (i : Nat) : Bool := ugB Z s t (s.getD i 0) && !decide ((s.getD i 0 + 1) % Z ∈ s)
def mvX (Z : Int) (s t : List Int) (i : Nat) : Int := if mvB Z s t i = true then (s.getD i 0 + 1) % Z else s.getD i 0
/-- The zones behind a step. -/
def mvA (Z : Int) (s t : List Int) : List Int := rgL (mvX Z s t) s.length
/-- Who has moved. -/
def mvM (Z : Int) (s t : List Int) (n : Nat) : List Int := ((List.range n).filter (mvB Z s t)).map fun i : Nat => (i : Int)
theorem mvA_len (Z : Int) (s t : List Int) : (mvA Z s t).length = s.length := rgL_len _ _
theorem mvA_at {Z : Int} {s t : List Int} {i : Nat} (h : i < s.length) : (mvA Z s t).getD i 0 = mvX Z s t i := rgL_at _ h
theorem mvM_len (Z : Int) (s t : List Int) (n : Nat) : (mvM Z s t n).length ≤ n := by
  unfold mvM
  rw [List.length_map]
  exact Nat.le_trans (List.length_filter_le _ _) (by simp)
theorem mvM_yes {Z : Int} {s t : List Int} {n : Nat} (h : mvB Z s t n = true) : mvM Z s t (n + 1) = mvM Z s t n ++ [(n : Int)] := by
  unfold mvM; rw [List.range_succ, List.filter_append, List.map_append]; simp [h]
theorem mvM_no {Z : Int} {s t : List Int} {n : Nat} (h : mvB Z s t n = false) : mvM Z s t (n + 1) = mvM Z s t n := by
  unfold mvM; rw [List.range_succ, List.filter_append, List.map_append]; simp [h]
theorem mvX_bd {Z : Int} {s t : List Int} (h : FlOk Z s t) {i : Nat} (hi : i < s.length) : 0 ≤ mvX Z s t i ∧ mvX Z s t i < Z := by
  unfold mvX
  split
  · exact em_bd h.z.1 _
  · exact h.a i hi
theorem em_inj {Z a b : Int} (ha : 0 ≤ a ∧ a < Z) (hb : 0 ≤ b ∧ b < Z) (e : (a + 1) % Z = (b + 1) % Z) : a = b := by
  rw [← em_on ha, ← em_on hb, e]
theorem mv_ok {Z : Int} {s t : List Int} (h : FlOk Z s t) : FlOk Z (mvA Z s t) t := by
  refine ⟨h.z, by rw [mvA_len]; exact h.l, by rw [mvA_len]; exact h.m, fun k hk => ?_, h.b, ?_⟩
  · rw [mvA_len] at hk; rw [mvA_at hk]; exact mvX_bd h hk
  · rw [dif_iff]
    intro i hi k hk e
    rw [mvA_len] at hi
    have hkl : k < s.length := by omega
    rw [mvA_at hi, mvA_at hkl] at e
    have hne : s.getD k 0 ≠ s.getD i 0 := dif_iff.1 h.d i hi k hk
    unfold mvX at e
    cases h1 : mvB Z s t k <;> cases h2 : mvB Z s t i <;> simp only [h1, h2, if_true, if_false, Bool.false_eq_true] at e
    · exact hne e
    · unfold mvB at h2
      simp only [Bool.and_eq_true, Bool.not_eq_true', decide_eq_false_iff_not] at h2
      exact h2.2 (by rw [← e]; exact gdMem hkl)
    · unfold mvB at h1
      simp only [Bool.and_eq_true, Bool.not_eq_true', decide_eq_false_iff_not] at h1
      exact h1.2 (by rw [e]; exact gdMem hi)
    · exact hne (em_inj (h.a k hkl) (h.a i hi) e)
/-- The zones behind k steps, and how many moved in each. -/
def ruA (Z : Int) (s t : List Int) : Nat → List Int
  | 0 => s
  | k + 1 => mvA Z (ruA Z s t k) t
def ruM (Z : Int) (s t : List Int) (k : Nat) : List Int := rgL (fun j => ((mvM Z (ruA Z s t j) t (ruA Z s t j).length).length : Int)) k
theorem ruA_ok {Z : Int} {s t : List Int} (h : FlOk Z s t) : ∀ k, FlOk Z (ruA Z s t k) t
  | 0 => h
  | k + 1 => mv_ok (ruA_ok h k)
theorem ruA_len (Z : Int) (s t : List Int) : ∀ k, (ruA Z s t k).length = s.length
  | 0 => rfl
  | k + 1 => by rw [ruA, mvA_len, ruA_len Z s t k]
theorem ruM_len (Z : Int) (s t : List Int) (k : Nat) : (ruM Z s t k).length = k := rgL_len _ _

/-- The first place that has the number; -1: none. -/
def fxI (s : List Int) (z : Int) : Int := if z ∈ s then ((s.findIdx (fun x => decide (x = z)) : Nat) : Int) else -1
theorem fxI_hit {s : List Int} {z : Int} {j : Nat} (hj : j < s.length) (h : s.getD j 0 = z) (hb : ∀ k, k < j → s.getD k 0 ≠ z) : fxI s z = (j : Int) := by
  unfold fxI
  rw [if_pos (by rw [← h]; exact gdMem hj)]
  congr 1
  rw [List.findIdx_eq hj]
  refine ⟨by rw [gdI hj] at h; exact decide_eq_true h, fun k hk => ?_⟩
  have := hb k hk
  rw [gdI (by omega)] at this
  exact decide_eq_false this
theorem fxI_none {s : List Int} {z : Int} (h : ∀ k, k < s.length → s.getD k 0 ≠ z) : fxI s z = -1 := by
  unfold fxI
  rw [if_neg]
  intro hm
  obtain ⟨j, hj, e⟩ := memGd hm
  exact h j hj e
theorem fxI_neg {s : List Int} {z : Int} (h : z ∉ s) : fxI s z = -1 := by unfold fxI; rw [if_neg h]
theorem fxI_pos {s : List Int} {z : Int} (h : z ∈ s) : ∃ k : Nat, k < s.length ∧ fxI s z = (k : Int) ∧ s.getD k 0 = z := by
  unfold fxI
  rw [if_pos h]
  have hl : s.findIdx (fun x => decide (x = z)) < s.length := List.findIdx_lt_length_of_exists ⟨z, h, by simp⟩
  refine ⟨_, hl, rfl, ?_⟩
  rw [gdI hl]
  have := List.findIdx_getElem (w := hl)
  simpa using this
theorem fxI_new {s : List Int} {i : Nat} (hi : i < s.length) : fxI s (s.getD i 0) = (i : Int) ↔ newAt s i := by
  constructor
  · intro e k hk e2
    obtain ⟨k', h1, h2, h3⟩ := fxI_pos (gdMem hi)
    unfold fxI at e
    rw [if_pos (gdMem hi)] at e
    have hf : s.findIdx (fun x => decide (x = s.getD i 0)) = i := by omega
    rw [List.findIdx_eq hi] at hf
    have := hf.2 k hk
    rw [← gdI (by omega)] at this
    exact of_decide_eq_false this e2
  · exact fun h => fxI_hit hi rfl h

end Go.Proofs.Ytgbbigokbbllgaa
