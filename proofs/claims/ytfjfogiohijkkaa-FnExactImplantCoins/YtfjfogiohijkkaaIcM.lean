/- Proved here: the arithmetic of implanting by coins. No condition. -/
import Derived.Test.YtfjfogiohijkkaaDoM
import Derived.Test.YtfjfogiohijkkaaPfW
import Derived.Test.YtfjfogiohijkkaaCoinMath
namespace Go.Proofs.Ytfjfogiohijkkaa
open Go.RowKit
set_option linter.unusedVariables false

/-- How deep the atom a is kicked. -/
def dpt (co : List Int) (kc a : Nat) : Int := suL ((co.drop (a * kc)).take kc)
theorem drop_at (co : List Int) (i k : Nat) : (co.drop i).getD k 0 = co.getD (i + k) 0 := by simp [List.getD, List.getElem?_drop]
def C2 (co : List Int) : Prop := ∀ i, 0 ≤ co.getD i 0 ∧ co.getD i 0 ≤ 2
theorem C2_coins (s : Int) (k : Nat) : C2 (coinsK s 3 k) := by
  intro i
  by_cases h : i < k
  · rw [show (coinsK s 3 k).getD i 0 = coin (seedK s (i + 1)) 3 from by simp [coinsK, List.getD, h]]
    unfold coin; omega
  · rw [show (coinsK s 3 k).getD i 0 = 0 from by simp [coinsK, List.getD, h]]; omega
theorem su2_bd {co : List Int} (h : C2 co) (i : Nat) : ∀ k, k ≤ (co.drop i).length → 0 ≤ suL ((co.drop i).take k) ∧ suL ((co.drop i).take k) ≤ 2 * k := by
  intro k
  induction k with
  | zero => intro _; simp [suL]
  | succ k ih =>
    intro hk
    rw [suL_take (by omega), drop_at]
    have := ih (by omega)
    have := h (i + k)
    omega
theorem dpt_bd {co : List Int} (h : C2 co) {kc a : Nat} (hl : a * kc + kc ≤ co.length) (hk : kc ≤ 20) : 0 ≤ dpt co kc a ∧ dpt co kc a ≤ 40 := by
  have := su2_bd h (a * kc) kc (by rw [List.length_drop]; omega)
  unfold dpt
  omega
def Kd : Type := { d : Nat // d ≤ 40 }
def kdE (x : Kd) : Array Value := #[.int .i64 (x.1 : Int)]
def kdA (co : List Int) (kc a : Nat) : Kd := ⟨min 40 (dpt co kc a).toNat, Nat.min_le_left _ _⟩
def kdL (co : List Int) (kc m : Nat) : List Kd := (List.range m).map (kdA co kc)
theorem kdL_succ (co : List Int) (kc m : Nat) : kdL co kc (m + 1) = kdL co kc m ++ [kdA co kc m] := by simp [kdL, List.range_succ]
theorem kdL_len (co : List Int) (kc m : Nat) : (kdL co kc m).length = m := by simp [kdL]
theorem kdA_is {co : List Int} (h : C2 co) {kc a : Nat} (hl : a * kc + kc ≤ co.length) (hk : kc ≤ 20) : (kdA co kc a).1 = (dpt co kc a).toNat ∧ ((kdA co kc a).1 : Int) = dpt co kc a := by
  have := dpt_bd h hl hk
  unfold kdA
  simp only
  omega
def icL (s : List Int) (co : List Int) (kc : Nat) : Nat → List Int
  | 0 => s
  | a + 1 => ptL (icL s co kc a) (dpt co kc a).toNat 1
def icO (s : List Int) (o : Int) (co : List Int) (kc : Nat) : Nat → Int
  | 0 => o
  | a + 1 => ptO (icL s co kc a) (icO s o co kc a) (dpt co kc a).toNat 1
theorem icL_len (s co : List Int) (kc a : Nat) : (icL s co kc a).length = s.length := by
  induction a with
  | zero => rfl
  | succ a ih => rw [icL, ptL_len, ih]
def icF (s : List Int) (o : Int) (pre : List Kd) : List Int × Int := pre.foldl (fun q x => (ptL q.1 x.1 1, ptO q.1 q.2 x.1 1)) (s, o)
theorem icF_snoc (s : List Int) (o : Int) (pre : List Kd) (x : Kd) : icF s o (pre ++ [x]) = (ptL (icF s o pre).1 x.1 1, ptO (icF s o pre).1 (icF s o pre).2 x.1 1) := by
  unfold icF; rw [List.foldl_append]; rfl
theorem icF_all {s co : List Int} {o : Int} (h : C2 co) {kc m : Nat} (hl : m * kc ≤ co.length) (hk : kc ≤ 20) : ∀ a, a ≤ m → icF s o (kdL co kc a) = (icL s co kc a, icO s o co kc a) := by
  intro a
  induction a with
  | zero => intro _; rfl
  | succ a ih =>
    intro ha
    have h1 : a * kc + kc ≤ co.length := by
      have : (a + 1) * kc ≤ m * kc := Nat.mul_le_mul_right _ ha
      rw [Nat.succ_mul] at this; omega
    rw [kdL_succ, icF_snoc, ih (by omega), icL, icO, (kdA_is h h1 hk).1]
theorem ptL_atC (L : List Int) (d : Nat) (a : Int) (j : Nat) : (ptL L d a).getD j 0 = if j = d ∧ d < L.length then L.getD d 0 + a else L.getD j 0 := by
  unfold ptL
  by_cases h : j = d
  · subst h
    by_cases h2 : j < L.length
    · rw [if_pos ⟨rfl, h2⟩]; simp [List.getD, h2]
    · rw [if_neg (by omega), List.set_eq_of_length_le (by omega)]
  · rw [if_neg (by omega)]; simp [List.getD, List.getElem?_set_ne (fun e => h e.symm)]
theorem ic_step {M : Int} {q : List Int × Int} (h : (∀ j, 0 ≤ q.1.getD j 0 ∧ q.1.getD j 0 ≤ M) ∧ 0 ≤ q.2 ∧ q.2 ≤ M) (d : Nat) : (∀ j, 0 ≤ (ptL q.1 d 1).getD j 0 ∧ (ptL q.1 d 1).getD j 0 ≤ M + 1) ∧ 0 ≤ ptO q.1 q.2 d 1 ∧ ptO q.1 q.2 d 1 ≤ M + 1 := by
  refine ⟨fun j => ?_, ?_⟩
  · rw [ptL_atC]; have := h.1 j; have := h.1 d; split <;> omega
  · unfold ptO; have := h.2; split <;> omega
theorem icF_bd {s : List Int} {o : Int} (h : PG s o) (pre : List Kd) : (∀ j, 0 ≤ (icF s o pre).1.getD j 0 ∧ (icF s o pre).1.getD j 0 ≤ 1000000000 + pre.length) ∧ 0 ≤ (icF s o pre).2 ∧ (icF s o pre).2 ≤ 1000000000 + pre.length := by
  have key : ∀ (r : List Kd) (m : Nat) (q : List Int × Int), ((∀ j, 0 ≤ q.1.getD j 0 ∧ q.1.getD j 0 ≤ 1000000000 + (m : Int)) ∧ 0 ≤ q.2 ∧ q.2 ≤ 1000000000 + (m : Int)) →
      ((∀ j, 0 ≤ (r.foldl (fun q x => (ptL q.1 x.1 1, ptO q.1 q.2 x.1 1)) q).1.getD j 0 ∧ (r.foldl (fun q x => (ptL q.1 x.1 1, ptO q.1 q.2 x.1 1)) q).1.getD j 0 ≤ 1000000000 + ((m + r.length : Nat) : Int)) ∧ 0 ≤ (r.foldl (fun q x => (ptL q.1 x.1 1, ptO q.1 q.2 x.1 1)) q).2 ∧ (r.foldl (fun q x => (ptL q.1 x.1 1, ptO q.1 q.2 x.1 1)) q).2 ≤ 1000000000 + ((m + r.length : Nat) : Int)) := by
    intro r
    induction r with
    | nil => intro m q hq; simpa using hq
    | cons x r ih =>
      intro m q hq
      rw [List.foldl_cons, List.length_cons, show m + (r.length + 1) = (m + 1) + r.length by omega]
      apply ih (m + 1)
      have := ic_step hq x.1
      have e : (1000000000 : Int) + ((m + 1 : Nat) : Int) = 1000000000 + (m : Int) + 1 := by omega
      rw [e]
      exact this
  have := key pre 0 (s, o) ⟨fun j => by have h1 := h.c j; exact ⟨h1.1, by have := h1.2; simpa using this⟩, h.o0.1, by have := h.o0.2; simpa using this⟩
  simpa [icF] using this
theorem icL_bd {s co : List Int} {o : Int} (h : PG s o) (kc : Nat) : ∀ a : Nat, (∀ j, 0 ≤ (icL s co kc a).getD j 0 ∧ (icL s co kc a).getD j 0 ≤ 1000000000 + (a : Int)) ∧ 0 ≤ icO s o co kc a ∧ icO s o co kc a ≤ 1000000000 + (a : Int) := by
  intro a
  induction a with
  | zero => exact ⟨fun j => by have h1 := h.c j; exact ⟨h1.1, by have := h1.2; simpa [icL] using this⟩, h.o0.1, by have := h.o0.2; simpa [icO] using this⟩
  | succ a ih =>
    have := ic_step (q := (icL s co kc a, icO s o co kc a)) ih (dpt co kc a).toNat
    have e : (1000000000 : Int) + ((a + 1 : Nat) : Int) = 1000000000 + (a : Int) + 1 := by omega
    rw [e]
    exact this
/-- What ImplantCoins answers. -/
def icB (m k : Int) : Bool := decide ((0 ≤ m ∧ m ≤ 200) ∧ 1 ≤ k ∧ k ≤ 20)
def icK (sd : Int) (m k : Int) : List Int := coinsK sd 3 (m.toNat * k.toNat)
def icC (s : List Int) (o m k sd : Int) : Int := if pfC s o = 0 then if 1 ≤ sd ∧ sd ≤ 2147483646 then if icB m k = true then pfC (icL s (icK sd m k) k.toNat m.toNat) (icO s o (icK sd m k) k.toNat m.toNat) else 3 else 1 else pfC s o
theorem icC_bad {s : List Int} {o m k sd : Int} (h : pfC s o ≠ 0) : icC s o m k sd = pfC s o := by rw [icC, if_neg h]
theorem icC_sd {s : List Int} {o m k sd : Int} (h : pfC s o = 0) (h2 : ¬ (1 ≤ sd ∧ sd ≤ 2147483646)) : icC s o m k sd = 1 := by rw [icC, if_pos h, if_neg h2]
theorem icC_out {s : List Int} {o m k sd : Int} (h : pfC s o = 0) (h2 : 1 ≤ sd ∧ sd ≤ 2147483646) (h3 : icB m k = false) : icC s o m k sd = 3 := by rw [icC, if_pos h, if_pos h2, if_neg (by rw [h3]; decide)]
theorem icC_in {s : List Int} {o m k sd : Int} (h : pfC s o = 0) (h2 : 1 ≤ sd ∧ sd ≤ 2147483646) (h3 : icB m k = true) : icC s o m k sd = pfC (icL s (icK sd m k) k.toNat m.toNat) (icO s o (icK sd m k) k.toNat m.toNat) := by rw [icC, if_pos h, if_pos h2, if_pos h3]

end Go.Proofs.Ytfjfogiohijkkaa
