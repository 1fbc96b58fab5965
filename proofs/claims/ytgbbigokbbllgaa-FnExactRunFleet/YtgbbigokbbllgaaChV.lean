/- Proved here: worlds that differ in a value's own block alone. (And ahead of it: Proved here: what RunFleet answers.) -/
import Derived.Test.YtgbbigokbbllgaaCpA
import Derived.Test.YtgbbigokbbllgaaLpM
import Derived.Test.YtgbbigokbbllgaaTwA
import Derived.Test.YtgbbigokbbllgaaGzM
namespace Go.Proofs.Ytgbbigokbbllgaa
open Go.RowKit
set_option linter.unusedVariables false
set_option linter.unusedSimpArgs false

def rfC (Z : Int) (s t : List Int) (m : Int) : Int := if flF Z s t ≠ 0 then flF Z s t else if 0 ≤ m ∧ m ≤ 200 then 0 else 3
def rfZ (Z : Int) (s t : List Int) (m : Int) : Int := if rfC Z s t m = 0 then Z else 0
def rfA (Z : Int) (s t : List Int) (m : Int) : List Int := if rfC Z s t m = 0 then ruA Z s t m.toNat else []
def rfT (Z : Int) (s t : List Int) (m : Int) : List Int := if rfC Z s t m = 0 then t else []
def rfM (Z : Int) (s t : List Int) (m : Int) : List Int := if rfC Z s t m = 0 then ruM Z s t m.toNat else []
theorem rfC_ok {Z : Int} {s t : List Int} {m : Int} (h : rfC Z s t m = 0) : flF Z s t = 0 ∧ 0 ≤ m ∧ m ≤ 200 := by
  unfold rfC at h
  by_cases h1 : flF Z s t = 0
  · rw [if_neg (fun e => e h1)] at h
    by_cases h2 : 0 ≤ m ∧ m ≤ 200
    · exact ⟨h1, h2⟩
    · rw [if_neg h2] at h; cases h
  · rw [if_pos h1] at h; exact absurd h h1
theorem rf_none {Z : Int} {s t : List Int} {m : Int} (h : rfC Z s t m ≠ 0) : rfZ Z s t m = 0 ∧ rfA Z s t m = [] ∧ rfT Z s t m = [] ∧ rfM Z s t m = [] := by
  unfold rfZ rfA rfT rfM
  rw [if_neg h, if_neg h, if_neg h, if_neg h]
  exact ⟨rfl, rfl, rfl, rfl⟩
theorem rf_some {Z : Int} {s t : List Int} {m : Int} (h : rfC Z s t m = 0) : rfZ Z s t m = Z ∧ rfA Z s t m = ruA Z s t m.toNat ∧ rfT Z s t m = t ∧ rfM Z s t m = ruM Z s t m.toNat := by
  unfold rfZ rfA rfT rfM
  rw [if_pos h, if_pos h, if_pos h, if_pos h]
  exact ⟨rfl, rfl, rfl, rfl⟩
theorem rf_len (Z : Int) (s t : List Int) (m : Int) : (rfA Z s t m).length ≤ 1048576 ∧ (rfT Z s t m).length ≤ 1048576 ∧ (rfM Z s t m).length ≤ 1048576 := by
  by_cases h : rfC Z s t m = 0
  · obtain ⟨h0, h1, h2⟩ := rfC_ok h
    have ho := flF_ok h0
    obtain ⟨_, e1, e2, e3⟩ := rf_some h
    rw [e1, e2, e3, ruA_len, ruM_len, ho.l]
    have h3 := ho.m
    have h4 := ho.z
    omega
  · obtain ⟨_, e1, e2, e3⟩ := rf_none h
    rw [e1, e2, e3]
    simp
theorem ruM_next (Z : Int) (s t : List Int) (k : Nat) : ruM Z s t (k + 1) = ruM Z s t k ++ [((mvM Z (ruA Z s t k) t s.length).length : Int)] := by
  unfold ruM
  rw [rgL_succ, ruA_len]

end Go.Proofs.Ytgbbigokbbllgaa

namespace Go.Proofs.Ytgbbigokbbllgaa
open Go.RowKit
set_option linter.unusedVariables false
set_option linter.unusedSimpArgs false

structure ChV (v : Value) (w w' : World) : Prop where
  os : w'.os = w.os
  tape : w'.tape = w.tape
  output : w'.output = w.output
  size : w.heap.size ≤ w'.heap.size
  block : ∀ k, k < w.heap.size → v.ownBlock ≠ some k → w'.heap[k]? = w.heap[k]?
theorem ChV.refl (v : Value) (w : World) : ChV v w w := ⟨rfl, rfl, rfl, Nat.le_refl _, fun _ _ _ => rfl⟩
theorem ChV.trans {v : Value} {w w' w'' : World} (h : ChV v w w') (h' : ChV v w' w'') : ChV v w w'' :=
  ⟨h'.os.trans h.os, h'.tape.trans h.tape, h'.output.trans h.output, Nat.le_trans h.size h'.size, fun k hk hb => (h'.block k (Nat.lt_of_lt_of_le hk h.size) hb).trans (h.block k hk hb)⟩
theorem ChV.of_below {v : Value} {w w' : World} (h : Below w.heap.size w w') : ChV v w w' := ⟨h.os, h.tape, h.output, h.size, fun k hk _ => h.block k hk⟩
theorem ChV.set {g n c o : Nat} (w : World) (u : Value) : ChV (.slice (some ⟨g, 0, none⟩) n c) w (w.setCell ⟨g, o, none⟩ u) :=
  ⟨rfl, rfl, rfl, by simp, fun k hk hb => heap_setCell_other _ _ _ _ (by
    intro e
    apply hb
    show some g = some k
    have : k = g := by simpa using e
    rw [this])⟩
theorem ChV.below {v : Value} {A : Nat} {w w' : World} (h : ChV v w w') (hA : A ≤ w.heap.size) (hv : ∀ g, v.ownBlock = some g → A ≤ g) : Below A w w' :=
  ⟨h.os, h.tape, h.output, h.size, fun k hk => h.block k (by omega) (fun e => by have := hv k e; omega)⟩

end Go.Proofs.Ytgbbigokbbllgaa
