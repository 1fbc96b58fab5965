/- Proved here: small rules on worlds that have grown: what was there is there still. No condition on the program. (And ahead of it: Proved here: worlds that differ in some blocks alone. No condition on the program.) (And ahead of it: Proved here: 'inside' of the program.) (And ahead of it: Proved here: shifts of lists: sums at a shift, the best shift, faults; bounds. No condition on the program.) -/
import Derived.Test.YtdidmjgilnhncabNlJ
import Derived.Test.YtdidmjgilnhncabUnd
namespace Go.Proofs.Ytdidmjgilnhncab
open Go.RowKit
set_option linter.unusedVariables false
set_option linter.unusedSimpArgs false

/-- The sum at a shift, over the first k places. -/
def tmK (a b : List Int) (t : Int) (k : Nat) : Int := if 0 ≤ (k : Int) + t ∧ (k : Int) + t < (b.length : Int) then a.getD k 0 * b.getD ((k : Int) + t).toNat 0 else 0
def scK (a b : List Int) (t : Int) : Nat → Int
  | 0 => 0
  | k + 1 => scK a b t k + tmK a b t k
def scA (a b : List Int) (t : Int) : Int := scK a b t a.length
/-- The shifts by rising size. -/
def tK (k : Nat) : Int := if k % 2 = 1 then -(((k + 1) / 2 : Nat) : Int) else (((k + 1) / 2 : Nat) : Int)
def bsK (a b : List Int) : Nat → Int × Int
  | 0 => (0, scA a b 0)
  | k + 1 => if (bsK a b k).2 < scA a b (tK (k + 1)) then (tK (k + 1), scA a b (tK (k + 1))) else bsK a b k
def outS (n : Int) : Bool := !(decide (-1000 ≤ n ∧ n ≤ 1000))
def sgF (a b : List Int) (most : Int) : Int :=
  if a.length = 0 ∨ b.length = 0 then 1 else if 200 < a.length ∨ 200 < b.length then 2 else if a.any outS = true ∨ b.any outS = true ∨ ¬ (0 ≤ most ∧ most ≤ 100) then 3 else 0
def shC (a b : List Int) (most : Int) : Int := sgF a b most
def shV (a b : List Int) (most : Int) : Int := if sgF a b most = 0 then (bsK a b (2 * most.toNat)).1 else 0
theorem any_dropI {P : Int → Bool} {s : List Int} {k : Nat} (h : k < s.length) : (s.drop k).any P = (P (s.getD k 0) || (s.drop (k + 1)).any P) := by
  rw [List.drop_eq_getElem_cons h, List.any_cons, List.getD_eq_getElem?_getD, List.getElem?_eq_getElem h]; rfl
theorem inL {s : List Int} (h : s.any outS = false) (j : Nat) : -1000 ≤ s.getD j 0 ∧ s.getD j 0 ≤ 1000 := by
  rcases Nat.lt_or_ge j s.length with hj | hj
  · have := List.any_eq_false.1 h (s.getD j 0) (by rw [List.getD_eq_getElem?_getD, List.getElem?_eq_getElem hj]; exact List.getElem_mem hj)
    unfold outS at this
    simpa using this
  · rw [List.getD_eq_getElem?_getD, List.getElem?_eq_none hj]; exact ⟨by decide, by decide⟩
theorem mul_in {x y A B : Int} (h1 : -A ≤ x) (h2 : x ≤ A) (h3 : -B ≤ y) (h4 : y ≤ B) : -(A * B) ≤ x * y ∧ x * y ≤ A * B := by
  have key : ∀ u v : Int, 0 ≤ u → u ≤ A → 0 ≤ v → v ≤ B → 0 ≤ u * v ∧ u * v ≤ A * B := fun u v a b c d =>
    ⟨Int.mul_nonneg a c, Int.mul_le_mul b d c (by omega)⟩
  rcases Int.le_total 0 x with hx | hx <;> rcases Int.le_total 0 y with hy | hy
  · have := key x y hx h2 hy h4; omega
  · have := key x (-y) hx h2 (by omega) (by omega); rw [Int.mul_neg] at this; omega
  · have := key (-x) y (by omega) (by omega) hy h4; rw [Int.neg_mul] at this; omega
  · have := key (-x) (-y) (by omega) (by omega) (by omega) (by omega); rw [Int.neg_mul_neg] at this; omega
theorem tmK_bd {a b : List Int} (ha : a.any outS = false) (hb : b.any outS = false) (t : Int) (k : Nat) : -1000000 ≤ tmK a b t k ∧ tmK a b t k ≤ 1000000 := by
  unfold tmK
  split
  · have h1 := inL ha k
    have h2 := inL hb ((k : Int) + t).toNat
    have := mul_in (A := 1000) (B := 1000) h1.1 h1.2 h2.1 h2.2
    omega
  · omega
theorem scK_bd {a b : List Int} (ha : a.any outS = false) (hb : b.any outS = false) (t : Int) (k : Nat) : -(1000000 * (k : Int)) ≤ scK a b t k ∧ scK a b t k ≤ 1000000 * (k : Int) := by
  induction k with
  | zero => rw [scK]; omega
  | succ k ih => have := tmK_bd ha hb t k; rw [scK]; omega
theorem tK_odd (m : Nat) : tK (2 * m + 1) = -((m + 1 : Nat) : Int) := by
  unfold tK; rw [if_pos (by omega), show (2 * m + 1 + 1) / 2 = m + 1 by omega]
theorem tK_even (m : Nat) : tK (2 * m + 1 + 1) = ((m + 1 : Nat) : Int) := by
  unfold tK; rw [if_neg (by omega), show (2 * m + 1 + 1 + 1) / 2 = m + 1 by omega]
theorem bsK_bd {a b : List Int} (k : Nat) : -(k : Int) ≤ (bsK a b k).1 ∧ (bsK a b k).1 ≤ (k : Int) := by
  induction k with
  | zero => rw [bsK]; omega
  | succ k ih =>
    rw [bsK]; split
    · show -((k + 1 : Nat) : Int) ≤ tK (k + 1) ∧ tK (k + 1) ≤ ((k + 1 : Nat) : Int)
      unfold tK; split <;> omega
    · omega
theorem sgF_ok {a b : List Int} {m : Int} (h : sgF a b m = 0) : 0 < a.length ∧ 0 < b.length ∧ a.length ≤ 200 ∧ b.length ≤ 200 ∧ a.any outS = false ∧ b.any outS = false ∧ 0 ≤ m ∧ m ≤ 100 := by
  unfold sgF at h
  split at h
  · exact absurd h (by decide)
  · split at h
    · exact absurd h (by decide)
    · split at h
      · exact absurd h (by decide)
      · rename_i h1 h2 h3
        have h4 : a.any outS = false := by cases e : a.any outS with | false => rfl | true => exact absurd (Or.inl e) h3
        have h5 : b.any outS = false := by cases e : b.any outS with | false => rfl | true => exact absurd (Or.inr (Or.inl e)) h3
        have h6 : 0 ≤ m ∧ m ≤ 100 := Classical.byContradiction fun e => h3 (Or.inr (Or.inr e))
        exact ⟨by omega, by omega, by omega, by omega, h4, h5, h6.1, h6.2⟩

end Go.Proofs.Ytdidmjgilnhncab

namespace Go.Proofs.Ytdidmjgilnhncab
open Go.RowKit
set_option linter.unusedVariables false
set_option linter.unusedSimpArgs false

set_option maxHeartbeats 800000 in
theorem impl_insC (n a b : Int) (r : Bool) (hr : r = decide (a ≤ n ∧ n ≤ b)) (w : World) : Calls Try.prog 81 #[.int .i64 n, .int .i64 a, .int .i64 b] w fun e w' => e = .returned (.bool r) ∧ w' = w := by
  have H : Hid ((¬ a ≤ n → r = false) ∧ (a ≤ n → n ≤ b → r = true) ∧ (a ≤ n → ¬ n ≤ b → r = false)) := by
    unfold Hid; rw [hr]
    exact ⟨fun h => by simp [h], fun h1 h2 => by simp [h1, h2], fun h1 h2 => by simp [h1, h2]⟩
  clear hr
  by_cases h1 : a ≤ n
  · by_cases h2 : n ≤ b
    · obtain rfl := H.out.2.1 h1 h2
      go_enter Try.func81, Try.ntmps81
      go_wp2
      go_returns
      exact ⟨rfl, rfl⟩
    · obtain rfl := H.out.2.2 h1 h2
      go_enter Try.func81, Try.ntmps81
      go_wp2
      go_returns
      exact ⟨rfl, rfl⟩
  · obtain rfl := H.out.1 h1
    go_enter Try.func81, Try.ntmps81
    go_wp2
    go_returns
    exact ⟨rfl, rfl⟩

end Go.Proofs.Ytdidmjgilnhncab

namespace Go.Proofs.Ytdidmjgilnhncab
open Go.RowKit
set_option linter.unusedVariables false
set_option linter.unusedSimpArgs false

/-- Nothing but blocks from B on and below Z has turned. -/
structure Chg (B Z : Nat) (w w' : World) : Prop where
  os : w'.os = w.os
  tape : w'.tape = w.tape
  output : w'.output = w.output
  size : w.heap.size ≤ w'.heap.size
  block : ∀ k, k < w.heap.size → (k < B ∨ Z ≤ k) → w'.heap[k]? = w.heap[k]?

theorem Chg.refl (B Z : Nat) (w : World) : Chg B Z w w := ⟨rfl, rfl, rfl, Nat.le_refl _, fun _ _ _ => rfl⟩
theorem Chg.trans {B Z : Nat} {w w' w'' : World} (h : Chg B Z w w') (h' : Chg B Z w' w'') : Chg B Z w w'' :=
  ⟨h'.os.trans h.os, h'.tape.trans h.tape, h'.output.trans h.output, Nat.le_trans h.size h'.size, fun k hk hb => (h'.block k (Nat.lt_of_lt_of_le hk h.size) hb).trans (h.block k hk hb)⟩
theorem Chg.set {B Z g o : Nat} (w : World) (u : Value) (h1 : B ≤ g) (h2 : g < Z) : Chg B Z w (w.setCell ⟨g, o, none⟩ u) :=
  ⟨rfl, rfl, rfl, by simp, fun k hk hb => heap_setCell_other _ _ _ _ (by simp; omega)⟩
theorem Chg.only {B Z g : Nat} {w w' : World} (h : Only g w w') (h1 : B ≤ g) (h2 : g < Z) : Chg B Z w w' :=
  ⟨h.os, h.tape, h.output, by rw [h.size]; exact Nat.le_refl _, fun k hk hb => h.block k (by omega)⟩
theorem Chg.below {B Z A : Nat} {w w' : World} (h : Chg B Z w w') (hA : A ≤ B) (hs : A ≤ w.heap.size) : Below A w w' :=
  ⟨h.os, h.tape, h.output, h.size, fun k hk => h.block k (by omega) (Or.inl (by omega))⟩
theorem Chg.of_below {B Z : Nat} {w w' : World} (h : Below w.heap.size w w') : Chg B Z w w' :=
  ⟨h.os, h.tape, h.output, h.size, fun k hk _ => h.block k hk⟩

end Go.Proofs.Ytdidmjgilnhncab

namespace Go.Proofs.Ytdidmjgilnhncab
open Go.RowKit
set_option linter.unusedVariables false

/-- What lay in W lies in w still. -/
def KS (W w : World) : Prop := (∀ b o, b < W.heap.size → w.cell? ⟨b, o, none⟩ = W.cell? ⟨b, o, none⟩) ∧ Below W.heap.size W w

theorem KS.of {W w : World} (h : Below W.heap.size W w) : KS W w := ⟨fun b o hb => h.cell (p := ⟨b, o, none⟩) hb, h⟩
theorem KS.start (W : World) : KS W W.drew := KS.of ((Below.refl _ _).drew)
theorem KS.call {W w w' : World} (h : KS W w) (hb : Below w.heap.size w w') : KS W w' := KS.of (h.2.trans (hb.mono h.2.size))
theorem KS.alloc {W w : World} (h : KS W w) (o : Obj) : KS W (w.alloc o) := KS.of (h.2.alloc h.2.size o)
theorem KS.set {W w : World} (h : KS W w) {p : Addr} (hp : W.heap.size ≤ p.block) (u : Value) : KS W (w.setCell p u) := KS.of (h.2.setCell hp u)

end Go.Proofs.Ytdidmjgilnhncab
