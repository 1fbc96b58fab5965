/- Proved here: the boxes of a shape rise; l4Beside of the model. (And ahead of it: Proved here: parts numbered by their first boxes: what a search from each first box finds. No condition on the program.) -/
import Derived.Test.YtlnhfgacgbdjaaaPrF
import Derived.Test.YtlnhfgacgbdjaaaSpMM
namespace Go.Proofs.Ytlnhfgacgbdjaaa
set_option linter.unusedVariables false
set_option linter.unusedSimpArgs false

/-- Two boxes that have a side in common. -/
def Bes (s : List Bx) (x y : Nat) : Prop := 0 < fB (bat s x) (bat s y) ∨ 0 < fB (bat s y) (bat s x)
/-- A box stands only on those ahead of it. -/
def Rise (s : List Bx) : Prop := ∀ x y, x < s.length → y < s.length → 0 < fB (bat s x) (bat s y) → x < y
theorem bes_tc {s : List Bx} (h : Rise s) {x y : Nat} (hx : x < s.length) (hy : y < s.length) : Bes s x y ↔ Tc s s.length 0 x y := by
  constructor
  · rintro (k | k)
    · exact Or.inl ⟨h x y hx hy k, Or.inl hy, k⟩
    · exact Or.inr ⟨h y x hy hx k, Or.inl hx, k⟩
  · rintro (⟨_, _, k⟩ | ⟨_, _, k⟩)
    · exact Or.inl k
    · exact Or.inr k
theorem tc_lt {s : List Bx} {n x y : Nat} (h : Tc s n 0 x y) : x < n ∧ y < n := by
  rcases h with ⟨h1, h2, _⟩ | ⟨h1, h2, _⟩ <;> omega
theorem lab_ex (s : List Bx) : ∀ k, ∃ F, Lab (Tc s k 0) k F := by
  intro k
  induction k with
  | zero => exact ⟨fun _ => 0, Lab.empty _ _⟩
  | succ k ih =>
    have step : ∀ j, j ≤ k → ∃ F, Lab (Tc s k j) (k + 1) F := by
      intro j
      induction j with
      | zero => intro _; obtain ⟨F, hF⟩ := ih; exact ⟨_, Lab.put (Tc_sym s k 0) (Tc_top s k) hF⟩
      | succ j ihj =>
        intro hj
        obtain ⟨F, hF⟩ := ihj (by omega)
        by_cases h : 0 < fB (bat s j) (bat s k)
        · exact ⟨_, (Lab.join (Tc_sym s k j) (u := j) (v := k) (by omega) (by omega) hF).congr (Tc_yes (by omega) h) fun _ _ => rfl⟩
        · exact ⟨_, hF.congr (Tc_no h) fun _ _ => rfl⟩
    obtain ⟨F, hF⟩ := step k (Nat.le_refl _)
    exact ⟨F, hF.congr (Tc_end s k) fun _ _ => rfl⟩

/-- How many first boxes stand ahead of k. -/
def cnt (F : Nat → Nat) : Nat → Nat
  | 0 => 0
  | k + 1 => if F k = k then cnt F k + 1 else cnt F k
theorem cnt_le (F : Nat → Nat) (k : Nat) : cnt F k ≤ k := by
  induction k with
  | zero => exact Nat.le_refl _
  | succ k ih => simp only [cnt]; split <;> omega
/-- The numbers, once all boxes ahead of i have been tried. -/
def outA (F : Nat → Nat) (i a : Nat) : Int := if F a < i then (cnt F (F a) : Nat) else -1
theorem outA_neg (F : Nat → Nat) (i a : Nat) : outA F i a < 0 ↔ ¬ F a < i := by unfold outA; split <;> omega
theorem outA_skip {E : Nat → Nat → Prop} {n : Nat} {F : Nat → Nat} (h : Lab E n F) {i : Nat} (hi : F i ≠ i) {a : Nat} (ha : a < n) : outA F (i + 1) a = outA F i a := by
  have : F a ≠ i := fun e => hi (by rw [← e]; exact h.own a ha)
  unfold outA
  by_cases k : F a < i
  · rw [if_pos k, if_pos (by omega)]
  · rw [if_neg k, if_neg (by omega)]

/-- The search from box i: what has been numbered, and what is still to be looked at. -/
structure DF (s : List Bx) (n : Nat) (F : Nat → Nat) (i : Nat) (xs : List Int) (td : List Nat) (k j : Nat) : Prop where
  ln : xs.length = n
  old : ∀ a, a < n → F a < i → xs.getD a 0 = (cnt F (F a) : Nat)
  new : ∀ a, a < n → ¬ F a < i → xs.getD a 0 = -1 ∨ (xs.getD a 0 = (cnt F i : Nat) ∧ F a = i)
  tdk : ∀ a, a ∈ td → a < n ∧ F a = i ∧ 0 ≤ xs.getD a 0
  cl : ∀ a, a < n → F a = i → 0 ≤ xs.getD a 0 → a ∈ td ∨ ∀ b, b < n → (a = k → b < j) → Bes s a b → 0 ≤ xs.getD b 0
  st : 0 ≤ xs.getD i 0
theorem DF.same {s : List Bx} {n : Nat} {F : Nat → Nat} {i k j : Nat} {xs : List Int} {td : List Nat} (h : DF s n F i xs td k j) (hx : ¬ (xs.getD j 0 < 0 ∧ Bes s k j)) : DF s n F i xs td k (j + 1) := by
  refine ⟨h.ln, h.old, h.new, h.tdk, fun a ha hF h0 => ?_, h.st⟩
  rcases h.cl a ha hF h0 with h1 | h1
  · exact Or.inl h1
  · refine Or.inr fun b hb hk hB => ?_
    by_cases e : a = k ∧ b = j
    · obtain ⟨rfl, rfl⟩ := e
      by_cases hz : xs.getD b 0 < 0
      · exact absurd ⟨hz, hB⟩ hx
      · omega
    · exact h1 b hb (fun e' => by have := hk e'; omega) hB
theorem getD_set (xs : List Int) (j a : Nat) (z : Int) (hj : j < xs.length) : (xs.set j z).getD a 0 = if a = j then z else xs.getD a 0 := by
  rw [List.getD_eq_getElem?_getD, List.getElem?_set]
  by_cases e : j = a
  · subst e; simp [hj]
  · rw [if_neg e, if_neg (fun e' => e e'.symm), List.getD_eq_getElem?_getD]
theorem DF.mark {s : List Bx} {n : Nat} {F : Nat → Nat} {i k j : Nat} {xs : List Int} {td : List Nat} (h : DF s n F i xs td k j) (hj : j < n) (hF : F j = i) (hx : xs.getD j 0 < 0) : DF s n F i (xs.set j (cnt F i : Nat)) (td ++ [j]) k (j + 1) := by
  have g := fun a => getD_set xs j a (cnt F i : Nat) (by rw [h.ln]; exact hj)
  have up : ∀ a, 0 ≤ xs.getD a 0 → 0 ≤ (xs.set j (cnt F i : Nat)).getD a 0 := fun a ha => by rw [g]; split <;> omega
  refine ⟨by rw [List.length_set]; exact h.ln, fun a ha hl => ?_, fun a ha hl => ?_, fun a ha => ?_, fun a ha hFa h0 => ?_, up i h.st⟩
  · rw [g, if_neg (by intro e; subst e; omega)]; exact h.old a ha hl
  · rw [g]
    by_cases e : a = j
    · subst e; rw [if_pos rfl]; exact Or.inr ⟨rfl, hF⟩
    · rw [if_neg e]; exact h.new a ha hl
  · rcases List.mem_append.1 ha with ha | ha
    · obtain ⟨h1, h2, h3⟩ := h.tdk a ha; exact ⟨h1, h2, up a h3⟩
    · have : a = j := by simpa using ha
      subst this
      exact ⟨hj, hF, by rw [g, if_pos rfl]; omega⟩
  · by_cases e : a = j
    · subst e; exact Or.inl (List.mem_append.2 (Or.inr (by simp)))
    · rw [g, if_neg e] at h0
      rcases h.cl a ha hFa h0 with h1 | h1
      · exact Or.inl (List.mem_append.2 (Or.inl h1))
      · refine Or.inr fun b hb hk hB => ?_
        by_cases e2 : b = j
        · subst e2; rw [g, if_pos rfl]; omega
        · exact up b (h1 b hb (fun e' => by have := hk e'; omega) hB)
theorem DF.pop {s : List Bx} {n : Nat} {F : Nat → Nat} {i k q : Nat} {xs : List Int} {td : List Nat} (h : DF s n F i xs (td ++ [q]) k n) : DF s n F i xs td q 0 ∧ q < n ∧ F q = i := by
  have hq := h.tdk q (by simp)
  refine ⟨⟨h.ln, h.old, h.new, fun a ha => h.tdk a (by simp [ha]), fun a ha hF h0 => ?_, h.st⟩, hq.1, hq.2.1⟩
  by_cases e : a = q
  · exact Or.inr fun b hb hk hB => by have := hk e; omega
  · rcases h.cl a ha hF h0 with h1 | h1
    · rcases List.mem_append.1 h1 with h1 | h1
      · exact Or.inl h1
      · exact absurd (by simpa using h1) e
    · exact Or.inr fun b hb hk hB => h1 b hb (fun _ => hb) hB
theorem DF.start {s : List Bx} {n : Nat} {F : Nat → Nat} {i : Nat} {xs : List Int} (hl : xs.length = n) (hi : i < n) (hF : F i = i) (h : ∀ a, a < n → xs.getD a 0 = outA F i a) : DF s n F i (xs.set i (cnt F i : Nat)) [i] n n := by
  have g := fun a => getD_set xs i a (cnt F i : Nat) (by rw [hl]; exact hi)
  refine ⟨by rw [List.length_set]; exact hl, fun a ha hla => ?_, fun a ha hla => ?_, fun a ha => ?_, fun a ha hFa h0 => ?_, by rw [g, if_pos rfl]; omega⟩
  · rw [g, if_neg (by intro e; subst e; omega), h a ha]; unfold outA; rw [if_pos hla]
  · rw [g]
    by_cases e : a = i
    · subst e; rw [if_pos rfl]; exact Or.inr ⟨rfl, hF⟩
    · rw [if_neg e, h a ha]; unfold outA; rw [if_neg hla]; exact Or.inl rfl
  · have : a = i := by simpa using ha
    subst this
    exact ⟨hi, hF, by rw [g, if_pos rfl]; omega⟩
  · by_cases e : a = i
    · subst e; exact Or.inl (by simp)
    · rw [g, if_neg e, h a ha] at h0
      have := (outA_neg F i a).2 (by omega)
      omega
theorem DF.done {s : List Bx} {n : Nat} {F : Nat → Nat} {i k : Nat} {xs : List Int} (hs : n = s.length) (hr : Rise s) (hL : Lab (Tc s n 0) n F) (hi : i < n) (hF : F i = i) (h : DF s n F i xs [] k n) : ∀ a, a < n → xs.getD a 0 = outA F (i + 1) a := by
  intro a ha
  unfold outA
  by_cases h1 : F a < i
  · rw [if_pos (by omega)]; exact h.old a ha h1
  · by_cases h2 : F a = i
    · rw [if_pos (by omega), h2]
      have hc : Conn (Tc s n 0) i a := (hL.same i a hi ha).1 (by rw [hF, h2])
      have hP := hc (fun b => b < n ∧ F b = i ∧ 0 ≤ xs.getD b 0) ⟨hi, hF, h.st⟩ (by
        rintro x y ⟨hx1, hx2, hx3⟩ hxy
        have hy := (tc_lt hxy).2
        refine ⟨hy, ?_, ?_⟩
        · rw [← hx2]; exact ((hL.same x y hx1 hy).2 (Conn.one hxy)).symm
        · rcases h.cl x hx1 hx2 hx3 with h' | h'
          · cases h'
          · refine h' y hy (fun _ => hy) ?_
            rw [hs] at hxy
            exact (bes_tc hr (by omega) (by omega)).2 hxy)
      rcases h.new a ha h1 with h3 | h3
      · omega
      · exact h3.1
    · rw [if_neg (by omega)]
      rcases h.new a ha h1 with h3 | h3
      · exact h3
      · exact absurd h3.2 h2
theorem DF.join {s : List Bx} {n : Nat} {F : Nat → Nat} (hs : n = s.length) (hr : Rise s) (hL : Lab (Tc s n 0) n F) {k j : Nat} (hk : k < n) (hj : j < n) (h : Bes s k j) : F j = F k := by
  have := (bes_tc hr (by omega) (by omega)).1 h
  rw [← hs] at this
  exact ((hL.same k j hk hj).2 (Conn.one this)).symm
/-- How many have no number. -/
def negs (f : Nat → Int) : Nat → Nat
  | 0 => 0
  | k + 1 => if f k < 0 then negs f k + 1 else negs f k
theorem negs_congr {f g : Nat → Int} {n : Nat} (h : ∀ a, a < n → f a = g a) : negs f n = negs g n := by
  induction n with
  | zero => rfl
  | succ k ih => simp only [negs]; rw [ih fun a ha => h a (by omega), h k (by omega)]
theorem negs_mark {xs : List Int} {j : Nat} {z : Int} (hj : j < xs.length) (h : xs.getD j 0 < 0) (hz : 0 ≤ z) : ∀ n, negs (fun a => (xs.set j z).getD a 0) n + (if j < n then 1 else 0) = negs (fun a => xs.getD a 0) n := by
  intro n
  induction n with
  | zero => simp [negs]
  | succ n ih =>
    have hg := getD_set xs j n z hj
    have e1 : negs (fun a => (xs.set j z).getD a 0) (n + 1) = if (xs.set j z).getD n 0 < 0 then negs (fun a => (xs.set j z).getD a 0) n + 1 else negs (fun a => (xs.set j z).getD a 0) n := rfl
    have e2 : negs (fun a => xs.getD a 0) (n + 1) = if xs.getD n 0 < 0 then negs (fun a => xs.getD a 0) n + 1 else negs (fun a => xs.getD a 0) n := rfl
    rw [e1, e2]
    by_cases e : n = j
    · subst e
      rw [if_pos rfl] at hg
      rw [if_neg (by omega : ¬ (xs.set n z).getD n 0 < 0), if_pos h, if_pos (by omega)]
      rw [if_neg (by omega)] at ih
      omega
    · rw [if_neg e] at hg
      rw [hg]
      by_cases e2 : j < n
      · rw [if_pos (by omega : j < n + 1)]; rw [if_pos e2] at ih
        split <;> omega
      · rw [if_neg (by omega : ¬ j < n + 1)]; rw [if_neg e2] at ih
        split <;> omega

end Go.Proofs.Ytlnhfgacgbdjaaa

namespace Go.Proofs.Ytlnhfgacgbdjaaa
open Go.RowKit
set_option linter.unusedVariables false
set_option linter.unusedSimpArgs false

theorem fB_pos (a b : Bx) : 0 < fB a b ↔ a.y1 = b.y0 ∧ maxI a.x0 b.x0 < minI a.x1 b.x1 := by
  unfold fB ovB
  by_cases h : a.y1 = b.y0
  · rw [if_pos h]; unfold maxI minI; repeat' split
    all_goals omega
  · rw [if_neg h]; simp [h]
theorem rise_of {s : List Bx} (hv : ∀ b ∈ s, b.x0 < b.x1 ∧ b.y0 < b.y1) (h : inForm s.length [] s = true) : Rise s := by
  obtain ⟨rows, hr, hF⟩ := inForm_rows _ [] s (Nat.le_refl _) hv ⟨0, 0, Canon.nil _ _⟩ h
  have hp := (FormB.rise rows [] hF).1
  rw [← hr] at hp
  intro x y hx hy hf
  have h1 := ((fB_pos _ _).1 hf).1
  rw [bat_get hx, bat_get hy] at h1
  have h2 := (hv _ (List.getElem_mem hx)).2
  have h3 := (hv _ (List.getElem_mem hy)).2
  rcases Nat.lt_trichotomy x y with e | e | e
  · exact e
  · subst e; omega
  · have := List.pairwise_iff_getElem.1 hp y x (by omega) hx e
    omega
def besB (a b : Bx) : Bool := decide ((a.y1 = b.y0 ∨ b.y1 = a.y0) ∧ maxI a.x0 b.x0 < minI a.x1 b.x1)
theorem besB_bes (s : List Bx) (x y : Nat) : besB (bat s x) (bat s y) = true ↔ Bes s x y := by
  unfold besB Bes
  rw [fB_pos, fB_pos, maxI_comm (bat s y).x0, minI_comm (bat s y).x1]
  simp only [decide_eq_true_eq]
  constructor
  · rintro ⟨h | h, k⟩
    · exact Or.inl ⟨h, k⟩
    · exact Or.inr ⟨h, k⟩
  · rintro (⟨h, k⟩ | ⟨h, k⟩)
    · exact ⟨Or.inl h, k⟩
    · exact ⟨Or.inr h, k⟩

set_option maxRecDepth 10000 in
set_option maxHeartbeats 4000000 in
theorem spec_beside (a b : Bx) (w : World) : Calls Try.prog 48 #[.agg #[.int .i64 a.x0, .int .i64 a.y0, .int .i64 a.x1, .int .i64 a.y1], .agg #[.int .i64 b.x0, .int .i64 b.y0, .int .i64 b.x1, .int .i64 b.y1]] w fun e w' => e = .returned (.bool (besB a b)) ∧ Below w.heap.size w w' := by
  obtain ⟨p, hp⟩ : ∃ p, p = minI a.x1 b.x1 := ⟨_, rfl⟩
  obtain ⟨q, hq⟩ : ∃ q, q = maxI a.x0 b.x0 := ⟨_, rfl⟩
  have k1 : Hid (∀ W, Calls Try.prog 64 #[.int .i64 a.x1, .int .i64 b.x1] W fun e w' => e = .returned (.int .i64 p) ∧ w' = W) := fun W => by rw [hp]; exact spec_min _ _ W
  have k2 : Hid (∀ W, Calls Try.prog 65 #[.int .i64 a.x0, .int .i64 b.x0] W fun e w' => e = .returned (.int .i64 q) ∧ w' = W) := fun W => by rw [hq]; exact spec_max _ _ W
  have HE : Hid (besB a b = decide ((a.y1 = b.y0 ∨ b.y1 = a.y0) ∧ q < p)) := by unfold Hid besB; rw [hp, hq]
  clear hp hq
  by_cases h1 : a.y1 = b.y0
  · have d1 : (a.y1 == b.y0) = true := by simpa using h1
    go_enter Try.func48, Try.ntmps48
    go_wp2_with (fail)
    go_quiet (first | (go_at_call 64; refine Calls.quiet_of_same (k1.out _)) | (go_at_call 65; refine Calls.quiet_of_same (k2.out _)))
    go_wp2
    go_returns
    refine ⟨?_, by (repeat' (first | (with_reducible exact Below.refl _ _) | (with_reducible assumption) | (with_reducible refine Below.setCell ?_ ?_ _) | (with_reducible refine Below.alloc ?_ ?_ _) | (with_reducible refine below_drewN ?_ _) | (with_reducible refine Below.drew ?_) | (with_reducible exact Nat.le_refl _) | omega | (simp; done) | (simp; omega)))⟩
    rw [HE.out]
    simp [h1]
  · have d1 : (a.y1 == b.y0) = false := by simpa using h1
    by_cases h2 : b.y1 = a.y0
    · have d2 : (b.y1 == a.y0) = true := by simpa using h2
      go_enter Try.func48, Try.ntmps48
      go_wp2_with (fail)
      go_quiet (first | (go_at_call 64; refine Calls.quiet_of_same (k1.out _)) | (go_at_call 65; refine Calls.quiet_of_same (k2.out _)))
      go_wp2
      go_returns
      refine ⟨?_, by (repeat' (first | (with_reducible exact Below.refl _ _) | (with_reducible assumption) | (with_reducible refine Below.setCell ?_ ?_ _) | (with_reducible refine Below.alloc ?_ ?_ _) | (with_reducible refine below_drewN ?_ _) | (with_reducible refine Below.drew ?_) | (with_reducible exact Nat.le_refl _) | omega | (simp; done) | (simp; omega)))⟩
      rw [HE.out]
      simp [h2]
    · have d2 : (b.y1 == a.y0) = false := by simpa using h2
      go_enter Try.func48, Try.ntmps48
      go_wp2_with (fail)
      go_quiet (fail)
      go_wp2
      go_returns
      refine ⟨?_, by (repeat' (first | (with_reducible exact Below.refl _ _) | (with_reducible assumption) | (with_reducible refine Below.setCell ?_ ?_ _) | (with_reducible refine Below.alloc ?_ ?_ _) | (with_reducible refine below_drewN ?_ _) | (with_reducible refine Below.drew ?_) | (with_reducible exact Nat.le_refl _) | omega | (simp; done) | (simp; omega)))⟩
      rw [HE.out]
      simp [h1, h2]

end Go.Proofs.Ytlnhfgacgbdjaaa
