/- Proved here: who is to move, as the program reckons it: around the ring twice. -/
import Derived.Test.YtgbbigokbbllgaaFzM
namespace Go.Proofs.Ytgbbigokbbllgaa
open Go.RowKit
set_option linter.unusedVariables false
set_option linter.unusedSimpArgs false

theorem setB {xs : List Bool} {i j : Nat} {y : Bool} (h : j < xs.length) : (xs.set i y).getD j false = if j = i then y else xs.getD j false := by
  by_cases e : j = i
  · subst e; simp [List.getD_eq_getElem?_getD, List.getElem?_set, h]
  · simp [List.getD_eq_getElem?_getD, List.getElem?_set, e, show i ≠ j by omega]
/-- The two lists behind k vehicles. -/
structure FI (N : Nat) (s t : List Int) (k : Nat) (tk ug : List Bool) : Prop where
  l : tk.length = N
  m : ug.length = N
  a : ∀ z, z < N → (tk.getD z false = true ↔ ∃ j, j < k ∧ s.getD j 0 = (z : Int))
  b : ∀ z, z < N → (ug.getD z false = true ↔ ∃ j, j < k ∧ s.getD j 0 = (z : Int) ∧ s.getD j 0 ≠ t.getD j 0)
theorem FI.start (N : Nat) (s t : List Int) : FI N s t 0 (List.replicate N false) (List.replicate N false) := by
  refine ⟨by simp, by simp, fun z hz => ?_, fun z hz => ?_⟩
  · simp [List.getD_eq_getElem?_getD, List.getElem?_replicate, hz]
  · simp [List.getD_eq_getElem?_getD, List.getElem?_replicate, hz]
theorem FI.step {N : Nat} {s t : List Int} {k p : Nat} {tk ug : List Bool} (h : FI N s t k tk ug) (ho : FlOk (N : Int) s t) (hk : k < s.length) (hp : s.getD k 0 = (p : Int)) (hpN : p < N) : FI N s t (k + 1) (tk.set p true) (ug.set p (s.getD k 0 != t.getD k 0)) := by
  have hnew : ∀ j, j < k → s.getD j 0 ≠ (p : Int) := fun j hj e => dif_iff.1 ho.d k hk j hj (by rw [e, hp])
  refine ⟨by rw [List.length_set]; exact h.l, by rw [List.length_set]; exact h.m, fun z hz => ?_, fun z hz => ?_⟩
  · rw [setB (by rw [h.l]; exact hz)]
    by_cases e : z = p
    · rw [if_pos e]
      exact ⟨fun _ => ⟨k, by omega, by rw [hp, e]⟩, fun _ => rfl⟩
    · rw [if_neg e, h.a z hz]
      constructor
      · rintro ⟨j, hj, e2⟩; exact ⟨j, by omega, e2⟩
      · rintro ⟨j, hj, e2⟩
        rcases (by omega : j < k ∨ j = k) with h3 | rfl
        · exact ⟨j, h3, e2⟩
        · exfalso; rw [hp] at e2; omega
  · rw [setB (by rw [h.m]; exact hz)]
    by_cases e : z = p
    · rw [if_pos e]
      constructor
      · intro e3; exact ⟨k, by omega, by rw [hp, e], by simpa using e3⟩
      · rintro ⟨j, hj, e2, e3⟩
        rcases (by omega : j < k ∨ j = k) with h3 | rfl
        · exact absurd (by rw [e2, e]) (hnew j h3)
        · simpa using e3
    · rw [if_neg e, h.b z hz]
      constructor
      · rintro ⟨j, hj, e2⟩; exact ⟨j, by omega, e2⟩
      · rintro ⟨j, hj, e2, e3⟩
        rcases (by omega : j < k ∨ j = k) with h3 | rfl
        · exact ⟨j, h3, e2, e3⟩
        · exfalso; rw [hp] at e2; omega
/-- Behind m turns: all that are told are to move, and those that can be told by now are. -/
structure UI (N : Nat) (s t : List Int) (m : Nat) (ug : List Bool) : Prop where
  l : ug.length = N
  a : ∀ z, z < N → ug.getD z false = true → ∃ d, UgD (N : Int) s t d (z : Int)
  b : ∀ p, p ≤ m → ∀ d, d ≤ p → UgD (N : Int) s t d ((p % N : Nat) : Int) → ug.getD (p % N) false = true
  o : ∀ z, z < N → ownZ s t (z : Int) → ug.getD z false = true
theorem FI.taken {N : Nat} {s t : List Int} {tk ug : List Bool} (h : FI N s t s.length tk ug) {z : Nat} (hz : z < N) : tk.getD z false = decide ((z : Int) ∈ s) := by
  by_cases hm : (z : Int) ∈ s
  · rw [decide_eq_true hm, h.a z hz]
    obtain ⟨j, hj, e⟩ := memGd hm
    exact ⟨j, hj, e⟩
  · rw [decide_eq_false hm]
    cases ht : tk.getD z false with
    | false => rfl
    | true =>
      obtain ⟨j, hj, e⟩ := (h.a z hz).1 ht
      exact absurd (by rw [← e]; exact gdMem hj) hm
theorem FI.ui {N : Nat} {s t : List Int} {tk ug : List Bool} (h : FI N s t s.length tk ug) (hN : 0 < N) : UI N s t 0 ug := by
  have ho : ∀ z, z < N → (ug.getD z false = true ↔ ownZ s t (z : Int)) := fun z hz => by
    rw [h.b z hz]
    exact ⟨fun ⟨j, h1, h2, h3⟩ => ⟨j, h1, h2, h3⟩, fun ⟨j, h1, h2, h3⟩ => ⟨j, h1, h2, h3⟩⟩
  refine ⟨h.m, fun z hz e => ⟨0, ug_own (by omega) ((ho z hz).1 e)⟩, fun p hp d hd hu => ?_, fun z hz e => (ho z hz).2 e⟩
  obtain rfl : p = 0 := by omega
  obtain rfl : d = 0 := by omega
  have hz : 0 % N < N := Nat.mod_lt _ hN
  exact (ho _ hz).2 (ug_zero (by omega) hu)
theorem mod_next {N m : Nat} (hN : 0 < N) : (((m % N : Nat) : Int) + 1) % (N : Int) = (((m + 1) % N : Nat) : Int) := by
  rw [Int.natCast_emod, Int.natCast_emod, Int.emod_add_emod]
  simp
theorem UI.step {N : Nat} {s t : List Int} {m : Nat} {ug : List Bool} (h : UI N s t m ug) (hN : 0 < N) (c : Bool) (hc : c = (ug.getD (m % N) false && decide ((((m + 1) % N : Nat) : Int) ∈ s))) :
    UI N s t (m + 1) (if c = true then ug.set ((m + 1) % N) true else ug) := by
  have hz : m % N < N := Nat.mod_lt _ hN
  have hq : (m + 1) % N < N := Nat.mod_lt _ hN
  have hback : ((((m + 1) % N : Nat) : Int) - 1) % (N : Int) = ((m % N : Nat) : Int) := by
    rw [← mod_next hN]; exact em_on (by omega)
  have hcomp : ∀ ug' : List Bool, ug'.length = N → (∀ z, z < N → ug.getD z false = true → ug'.getD z false = true) → (c = true → ug'.getD ((m + 1) % N) false = true) → ∀ p, p ≤ m + 1 → ∀ d, d ≤ p → UgD (N : Int) s t d ((p % N : Nat) : Int) → ug'.getD (p % N) false = true := by
    intro ug' hl hmono hset p hp d hd hu
    rcases (by omega : p ≤ m ∨ p = m + 1) with h3 | rfl
    · exact hmono _ (Nat.mod_lt _ hN) (h.b p h3 d hd hu)
    · cases d with
      | zero => exact hmono _ hq (h.o _ hq (ug_zero (by omega) hu))
      | succ d =>
        obtain ⟨h4, h5, h6⟩ := ug_pull (by omega) hu
        rw [hback] at h6
        have h7 := h.b m (Nat.le_refl _) d (by omega) h6
        exact hset (by rw [hc, h7, decide_eq_true h4]; rfl)
  cases c with
  | false =>
    simp only [Bool.false_eq_true, if_false]
    exact ⟨h.l, h.a, hcomp ug h.l (fun _ _ e => e) (fun e => by cases e), h.o⟩
  | true =>
    simp only [if_true]
    have hc2 : ug.getD (m % N) false = true ∧ (((m + 1) % N : Nat) : Int) ∈ s := by
      have := hc.symm
      rw [Bool.and_eq_true, decide_eq_true_eq] at this
      exact this
    have hm : ∀ z, z < N → ug.getD z false = true → (ug.set ((m + 1) % N) true).getD z false = true := fun z hz e => by
      rw [setB (by rw [h.l]; exact hz)]; split
      · rfl
      · exact e
    have hs : (ug.set ((m + 1) % N) true).getD ((m + 1) % N) false = true := by rw [setB (by rw [h.l]; exact hq), if_pos rfl]
    refine ⟨by rw [List.length_set]; exact h.l, fun z hz e => ?_, hcomp _ (by rw [List.length_set]; exact h.l) hm (fun _ => hs), fun z hz e => hm z hz (h.o z hz e)⟩
    rw [setB (by rw [h.l]; exact hz)] at e
    by_cases e2 : z = (m + 1) % N
    · obtain ⟨d, hd⟩ := h.a _ (Nat.mod_lt m hN) hc2.1
      rw [e2]
      exact ⟨d + 1, ug_push (by omega) hc2.2 (by rw [hback]; exact hd)⟩
    · rw [if_neg e2] at e
      exact h.a z hz e
theorem UI.done {N : Nat} {s t : List Int} {ug : List Bool} (h : UI N s t (2 * N) ug) (hN : 1 ≤ N ∧ N ≤ 30) {z : Nat} (hz : z < N) : ug.getD z false = ugB (N : Int) s t (z : Int) := by
  cases hu : ugB (N : Int) s t (z : Int) with
  | true =>
    obtain ⟨d, hd⟩ := ugB_some hu
    obtain ⟨d', h1, h2⟩ := ugD_short (by omega) hd
    have e : (N + z) % N = z := by rw [Nat.add_mod_left]; exact Nat.mod_eq_of_lt hz
    have := h.b (N + z) (by omega) d' (by omega) (by rw [e]; exact h2)
    rw [e] at this
    exact this
  | false =>
    cases hg : ug.getD z false with
    | false => rfl
    | true =>
      have := (ugB_iff (Z := (N : Int)) (by omega)).2 (h.a z hz hg)
      rw [hu] at this
      cases this

end Go.Proofs.Ytgbbigokbbllgaa
