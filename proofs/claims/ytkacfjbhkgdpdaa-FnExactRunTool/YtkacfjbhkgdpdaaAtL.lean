/- The place of a name in a list of names; the first number that is not 0. Arithmetic alone. (And ahead of it: Proved here: texts that are not alike, as the model of the language compares them.) (And ahead of it: Proved here: a general rule for a statement whose operations Go may carry out in several orders, and which reads old memory and calls functions that make new memory alone: one walk in the order of the text serves every order. No condition on the program.) -/
import Derived.WalkKit
import Derived.ProofKit
import Derived.Handy
import Derived.WalkSpells
import Derived.WalkLawsBesides
import Derived.BigQuiet
import Derived.BigRegion
import Derived.Deep.Quiet
import Derived.Deep.QuietTactic
namespace Go.Proofs.Ytkacfjbhkgdpdaa
open Go.RowKit
set_option linter.unusedVariables false

/-- A world that, below block B, is as w was. -/
structure Und (B : Nat) (w : World) where
  W : World
  below : Below B w W

@[go_sem] theorem und_const {B : Nat} {w : World} (p : Prop) : (Und B w → p) ↔ p := ⟨fun h => h ⟨w, Below.refl B w⟩, fun h _ => h⟩

theorem Und.cell {w : World} (x : Und w.heap.size w) (b o : Nat) (h : b < w.heap.size) : x.W.cell? ⟨b, o, none⟩ = w.cell? ⟨b, o, none⟩ :=
  x.below.cell (p := ⟨b, o, none⟩) h
theorem Und.size {w : World} (x : Und w.heap.size w) : w.heap.size ≤ x.W.heap.size := x.below.size

/-- Every order at once, over the worlds that are as w was below its size. -/
theorem wp_region_und {P : Program} {id : Nat} {Q : Exit → Act → World → Prop} {a : Act} {w : World} {l : List Oper} (hm : P.follows .mixedOrders = true) (hB : Region.lexB .any l.toArray = true)
    (h : (∀ (x : Und w.heap.size w) (b o : Nat), b < w.heap.size → x.W.cell? ⟨b, o, none⟩ = w.cell? ⟨b, o, none⟩) → wpQuiet P l.toArray (fun w' => ∃ x : Und w.heap.size w, w' = x.W) (fun a' => ∀ w', Below w.heap.size w w' → Q .normal a' w') l a) : (Code.region id l.toArray true).wp P Q a w := by
  refine wp_region_quiet (C := fun w' => ∃ x : Und w.heap.size w, w' = x.W) hm hB ⟨⟨_, (Below.refl _ w).drew⟩, rfl⟩ ?_
  have h' := h Und.cell
  have e : (fun a' => ∀ w', Below w.heap.size w w' → Q .normal a' w') = (fun a' => ∀ w', (∃ x : Und w.heap.size w, w' = x.W) → Q .normal a' w') := by
    funext a'
    apply propext
    constructor
    · rintro h _ ⟨x, rfl⟩; exact h _ x.below
    · intro h w' hb; exact h w' ⟨⟨w', hb⟩, rfl⟩
  rw [e] at h'
  simpa using h'

/-- A callee's contract, met in such a world. -/
theorem und_call {P : Program} {f : FuncId} {args : Array Value} {B : Nat} {w : World} {v : Value} {x : Und B w} (hB : B ≤ w.heap.size)
    (h : Calls P f args x.W fun e w' => e = .returned v ∧ Below x.W.heap.size x.W w') : Calls P f args x.W fun e w'' => e = .returned v ∧ ∃ y : Und B w, w'' = y.W :=
  h.mono fun _ w' ⟨he, hb⟩ => ⟨he, ⟨⟨w', x.below.trans (hb.mono (Nat.le_trans hB x.below.size))⟩, rfl⟩⟩
theorem und_call_same {P : Program} {f : FuncId} {args : Array Value} {B : Nat} {w : World} {v : Value} {x : Und B w}
    (h : Calls P f args x.W fun e w' => e = .returned v ∧ w' = x.W) : Calls P f args x.W fun e w'' => e = .returned v ∧ ∃ y : Und B w, w'' = y.W :=
  h.mono fun _ w' ⟨he, hb⟩ => ⟨he, ⟨x, hb⟩⟩
theorem und_call_drewN {P : Program} {f : FuncId} {args : Array Value} {B : Nat} {w : World} {v : Value} {x : Und B w}
    (h : Calls P f args x.W fun e w' => e = .returned v ∧ ∃ n, w' = x.W.drewN n) : Calls P f args x.W fun e w'' => e = .returned v ∧ ∃ y : Und B w, w'' = y.W :=
  h.mono fun _ w' ⟨he, n, hb⟩ => ⟨he, ⟨⟨w', by rw [hb]; exact below_drewN x.below n⟩, rfl⟩⟩

theorem undcell {W w1 : World} (hb : Below W.heap.size W w1) : (∀ b o, b < W.heap.size → w1.cell? ⟨b, o, none⟩ = W.cell? ⟨b, o, none⟩) ∧ (∀ b o, b < W.heap.size → w1.frozen? ⟨b, o, none⟩ = W.frozen? ⟨b, o, none⟩) :=
  ⟨fun b o h => hb.cell (p := ⟨b, o, none⟩) h, fun b o h => hb.frozen (p := ⟨b, o, none⟩) h⟩

end Go.Proofs.Ytkacfjbhkgdpdaa

namespace Go.Proofs.Ytkacfjbhkgdpdaa
open Go.RowKit
set_option linter.unusedVariables false
set_option linter.unusedSimpArgs false

theorem toList_loop (bs : ByteArray) : ∀ (n i : Nat) (r : List UInt8), n = bs.size - i → i ≤ bs.size → ByteArray.toList.loop bs i r = r.reverse ++ bs.data.toList.drop i := by
  have hs : bs.data.toList.length = bs.size := Array.length_toList
  intro n
  induction n with
  | zero =>
    intro i r hn hi
    rw [ByteArray.toList.loop, if_neg (by omega), List.drop_eq_nil_of_le (by omega), List.append_nil]
  | succ n ih =>
    intro i r hn hi
    have hlt : i < bs.size := by omega
    rw [ByteArray.toList.loop, if_pos hlt, ih (i + 1) _ (by omega) (by omega)]
    have hl : i < bs.data.toList.length := by omega
    rw [List.drop_eq_getElem_cons hl]
    have hg : bs.get! i = bs.data.toList[i] := by
      show bs.data[i]! = _
      have h2 : i < bs.data.size := hlt
      rw [getElem!_pos bs.data i h2, Array.getElem_toList]
    rw [hg, List.reverse_cons, List.append_assoc]
    rfl
theorem toList_eq (bs : ByteArray) : bs.toList = bs.data.toList := by
  unfold ByteArray.toList
  rw [toList_loop bs _ 0 [] rfl (Nat.zero_le _)]
  rfl
theorem toList_inj {x y : ByteArray} (h : x.toList = y.toList) : x = y := by
  rw [toList_eq, toList_eq] at h
  exact ByteArray.ext (Array.toList_inj.1 h)
theorem str_ne {x y : ByteArray} (h : ¬ x = y) : (x.toList == y.toList) = false := by
  rw [beq_eq_false_iff_ne]
  exact fun e => h (toList_inj e)

theorem ne_empty {s : ByteArray} (h : ¬ s = ⟨#[]⟩) : s.toList.isEmpty = false ∧ 0 < s.size := by
  have h0 : 0 < s.size := by
    rcases Nat.eq_zero_or_pos s.size with e | e
    · exact absurd (ByteArray.ext (Array.eq_empty_of_size_eq_zero e)) h
    · exact e
  refine ⟨?_, h0⟩
  have hl : s.toList.length = s.size := by rw [toList_eq]; rfl
  cases hs : s.toList with
  | nil => rw [hs] at hl; simp at hl; omega
  | cons a b => rfl
end Go.Proofs.Ytkacfjbhkgdpdaa

namespace Go.Proofs.Ytkacfjbhkgdpdaa
open Go.RowKit
set_option linter.unusedVariables false
set_option linter.unusedSimpArgs false

/-- The place of a name in a list of names; -1: it is not there. -/
def atL : List ByteArray → ByteArray → Int
  | [], _ => -1
  | x :: l, nm => if x = nm then 0 else (if atL l nm < 0 then -1 else atL l nm + 1)
theorem atL_none : ∀ {l : List ByteArray} {nm : ByteArray}, (∀ i (h : i < l.length), ¬ l[i] = nm) → atL l nm = -1
  | [], _, _ => rfl
  | x :: l, nm, h => by
    have h0 := h 0 (by simp)
    have ih := atL_none (l := l) (nm := nm) (fun i hi => by have := h (i + 1) (by simpa using hi); simpa using this)
    unfold atL
    rw [if_neg (by simpa using h0), ih]; rfl
theorem atL_some : ∀ {l : List ByteArray} {nm : ByteArray} {k : Nat} (hk : k < l.length), (∀ i (h : i < l.length), i < k → ¬ l[i] = nm) → l[k] = nm → atL l nm = k
  | x :: l, nm, 0, hk, h, e => by
    unfold atL
    rw [if_pos (by simpa using e)]; rfl
  | x :: l, nm, k + 1, hk, h, e => by
    have h0 := h 0 (by simp) (by omega)
    have ih := atL_some (l := l) (nm := nm) (k := k) (by simpa using hk) (fun i hi hik => by have := h (i + 1) (by simpa using hi) (by omega); simpa using this) (by simpa using e)
    unfold atL
    rw [if_neg (by simpa using h0), ih, if_neg (by omega)]
    omega
theorem atL_cases (l : List ByteArray) (nm : ByteArray) : (atL l nm = -1 ∧ ∀ i (h : i < l.length), ¬ l[i] = nm) ∨ ∃ k, ∃ h : k < l.length, atL l nm = k ∧ l[k] = nm ∧ ∀ i (h : i < l.length), i < k → ¬ l[i] = nm := by
  induction l with
  | nil => exact Or.inl ⟨rfl, fun i h => by simp at h⟩
  | cons x l ih =>
    by_cases hx : x = nm
    · refine Or.inr ⟨0, by simp, ?_, by simpa using hx, fun i h hi => by omega⟩
      unfold atL; rw [if_pos hx]; rfl
    · rcases ih with ⟨h1, h2⟩ | ⟨k, hk, h1, h2, h3⟩
      · refine Or.inl ⟨?_, fun i hi => ?_⟩
        · unfold atL; rw [if_neg hx, h1]; rfl
        · cases i with
          | zero => simpa using hx
          | succ i => simpa using h2 i (by simpa using hi)
      · refine Or.inr ⟨k + 1, by simpa using hk, ?_, by simpa using h2, fun i hi hik => ?_⟩
        · unfold atL; rw [if_neg hx, h1, if_neg (by omega)]; omega
        · cases i with
          | zero => simpa using hx
          | succ i => simpa using h3 i (by simpa using hi) (by omega)
theorem atL_bnd (l : List ByteArray) (nm : ByteArray) : -1 ≤ atL l nm ∧ atL l nm < l.length := by
  rcases atL_cases l nm with ⟨h, _⟩ | ⟨k, hk, h, _⟩
  · rw [h]; omega
  · rw [h]; omega
/-- The first number that is not 0 among so many. -/
def fnz (f : Nat → Int) : Nat → Int
  | 0 => 0
  | n + 1 => if fnz f n = 0 then f n else fnz f n
theorem fnz_zero {f : Nat → Int} : ∀ {n : Nat}, (∀ i, i < n → f i = 0) → fnz f n = 0
  | 0, _ => rfl
  | n + 1, h => by
    unfold fnz
    rw [if_pos (fnz_zero (fun i hi => h i (by omega))), h n (by omega)]
theorem fnz_stop {f : Nat → Int} {k : Nat} : ∀ {n : Nat}, k < n → (∀ i, i < k → f i = 0) → ¬ f k = 0 → fnz f n = f k
  | n + 1, hk, h, hf => by
    unfold fnz
    rcases (by omega : k = n ∨ k < n) with rfl | hk'
    · rw [if_pos (fnz_zero h)]
    · rw [fnz_stop hk' h hf, if_neg hf]
theorem fnz_congr {f g : Nat → Int} : ∀ {n : Nat}, (∀ i, i < n → f i = g i) → fnz f n = fnz g n
  | 0, _ => rfl
  | n + 1, h => by unfold fnz; rw [fnz_congr (fun i hi => h i (by omega)), h n (by omega)]

end Go.Proofs.Ytkacfjbhkgdpdaa
