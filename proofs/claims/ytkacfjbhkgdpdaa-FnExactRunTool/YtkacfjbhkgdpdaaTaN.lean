/- Proved here: what ToolAct answers. (And ahead of it: Proved here: what an event makes of a tool. (And ahead of it: Proved here: what RecoverTool answers.)) -/
import Derived.Test.YtkacfjbhkgdpdaaTrA
namespace Go.Proofs.Ytkacfjbhkgdpdaa
open Go.RowKit
set_option linter.unusedVariables false
set_option linter.unusedSimpArgs false

def onI (C x : Int) : Int := if C = 0 then x else 0
def onB (C : Int) (x : Bool) : Bool := if C = 0 then x else false
def onS (C : Int) (x : ByteArray) : ByteArray := if C = 0 then x else ⟨#[]⟩
def onL (C : Int) (s : List Ap) : List Ap := if C = 0 then s else []
theorem on_no {C : Int} (h : C ≠ 0) (x : Int) (b : Bool) (t : ByteArray) (s : List Ap) : onI C x = 0 ∧ onB C b = false ∧ onS C t = ⟨#[]⟩ ∧ onL C s = [] := ⟨if_neg h, if_neg h, if_neg h, if_neg h⟩
theorem onL_len {C : Int} {s : List Ap} {n : Nat} (h : C = 0 → s.length ≤ n) : (onL C s).length ≤ n := by
  unfold onL
  by_cases e : C = 0
  · rw [if_pos e]; exact h e
  · rw [if_neg e]; simp
def rtA (A : Int) : Int := if A = 0 then 0 else if A = 5 then 5 else 6
def rtQ (A : Int) (Q : Bool) : Bool := if A = 0 then Q else false
theorem ap_none (w : World) (B : Nat) : OG 72 2 apC w B (.slice none 0 0) [] := ⟨rfl, Or.inl ⟨rfl, rfl⟩⟩
theorem tr_eight {w : World} {k : Nat} {z a b c d e f g : Value} {T : TypeId} (h : w.heap[k]? = some (.cells #[z, a, b, c, d, e, f, g] T)) :
    (w.cell? ⟨k, 0, none⟩ = some z ∧ w.cell? ⟨k, 1, none⟩ = some a ∧ w.cell? ⟨k, 2, none⟩ = some b ∧ w.cell? ⟨k, 3, none⟩ = some c ∧ w.cell? ⟨k, 4, none⟩ = some d ∧ w.cell? ⟨k, 5, none⟩ = some e ∧ w.cell? ⟨k, 6, none⟩ = some f ∧ w.cell? ⟨k, 7, none⟩ = some g) ∧ (w.frozen? ⟨k, 0, none⟩ = false ∧ w.frozen? ⟨k, 1, none⟩ = false ∧ w.frozen? ⟨k, 2, none⟩ = false ∧ w.frozen? ⟨k, 3, none⟩ = false ∧ w.frozen? ⟨k, 4, none⟩ = false ∧ w.frozen? ⟨k, 5, none⟩ = false ∧ w.frozen? ⟨k, 6, none⟩ = false ∧ w.frozen? ⟨k, 7, none⟩ = false) ∧ k < w.heap.size :=
  ⟨⟨cellOf h 0 rfl, cellOf h 1 rfl, cellOf h 2 rfl, cellOf h 3 rfl, cellOf h 4 rfl, cellOf h 5 rfl, cellOf h 6 rfl, cellOf h 7 rfl⟩, ⟨frozOf h 0, frozOf h 1, frozOf h 2, frozOf h 3, frozOf h 4, frozOf h 5, frozOf h 6, frozOf h 7⟩, ltOf h⟩

end Go.Proofs.Ytkacfjbhkgdpdaa

namespace Go.Proofs.Ytkacfjbhkgdpdaa
open Go.RowKit
set_option linter.unusedVariables false
set_option linter.unusedSimpArgs false

/-- May an event come in a state? -/
def mayB (k A : Int) : Bool := decide ((k = 1 ∧ A = 0) ∨ (k = 2 ∧ (A = 1 ∨ A = 2)) ∨ (k = 3 ∧ A = 2) ∨ (k = 4 ∧ A = 3) ∨ (k = 5 ∧ 1 ≤ A ∧ A ≤ 3) ∨ (k = 6 ∧ A = 4) ∨ (k = 7 ∧ (A = 1 ∨ A = 4 ∨ A = 6)) ∨ (k = 8 ∧ A = 5) ∨ k = 9)
def taC (A U L : Int) (Q : Bool) (k : Int) (ap : Bool) : Int :=
  if ¬ (1 ≤ k ∧ k ≤ 9) then 5 else if mayB k A = false then 1 else if k = 2 then (if ap = false then 4 else if Q = false then 7 else 0) else if k = 3 ∧ U = L then 2 else 0
def taA (k : Int) : Int := if k = 2 then 2 else if k = 3 then 3 else if k = 5 then 4 else if k = 7 then 5 else if k = 9 then 6 else 1
def taR (k : Int) (R er : ByteArray) : ByteArray := if k = 2 then er else if k = 3 then R else ⟨#[]⟩
def taS (k S es : Int) : Int := if k = 2 then es else if k = 3 then S else 0
def taU (A U k : Int) : Int := if k = 8 then 0 else if A = 3 then U + 1 else U
def taQ (k : Int) (Q : Bool) : Bool := if k = 7 ∨ k = 9 then false else if k = 8 then true else Q
def onV (C : Int) (v : Value) : Value := if C = 0 then v else .slice none 0 0

end Go.Proofs.Ytkacfjbhkgdpdaa

namespace Go.Proofs.Ytkacfjbhkgdpdaa
open Go.RowKit
set_option linter.unusedVariables false
set_option linter.unusedSimpArgs false

def tzC (A : Int) (R : ByteArray) (S U L : Int) (Q : Bool) (s : List Ap) (k : Int) (er : ByteArray) (es : Int) : Int := if tlF A R S U L Q s ≠ 0 then tlF A R S U L Q s else taC A U L Q k (apB s er es)
theorem tl_zero {A : Int} {R : ByteArray} {S U L : Int} {Q : Bool} {s : List Ap} (h : tlF A R S U L Q s = 0) : (0 ≤ A ∧ A ≤ 6) ∧ kpF U L s = 0 ∧ (0 ≤ U ∧ U ≤ 1000) ∧ s.length ≤ 20 ∧ fsB A R S U L Q s = true := by
  unfold tlF at h
  by_cases h1 : 0 ≤ A ∧ A ≤ 6
  · rw [if_neg (fun e => e h1)] at h
    by_cases h2 : kpF U L s = 0
    · rw [if_neg (fun e => e h2)] at h
      by_cases h3 : fsB A R S U L Q s = true
      · refine ⟨h1, h2, ?_, (kpF_le h2).2, h3⟩
        unfold kpF at h2
        by_cases h4 : ¬ (1 ≤ L ∧ L ≤ 1000) ∨ ¬ (0 ≤ U ∧ U ≤ L)
        · rw [if_pos h4] at h2; cases h2
        · have h5 : 1 ≤ L ∧ L ≤ 1000 := Decidable.byContradiction fun e => h4 (Or.inl e)
          have h6 : 0 ≤ U ∧ U ≤ L := Decidable.byContradiction fun e => h4 (Or.inr e)
          omega
      · rw [if_neg h3] at h; cases h
    · rw [if_pos h2] at h; exact absurd h h2
  · rw [if_pos h1] at h; cases h
theorem tzC_no {A : Int} {R : ByteArray} {S U L : Int} {Q : Bool} {s : List Ap} {k : Int} {er : ByteArray} {es : Int} (h : tlF A R S U L Q s ≠ 0) : tzC A R S U L Q s k er es = tlF A R S U L Q s := if_pos h
theorem tzC_yes {A : Int} {R : ByteArray} {S U L : Int} {Q : Bool} {s : List Ap} {k : Int} {er : ByteArray} {es : Int} (h : tlF A R S U L Q s = 0) : tzC A R S U L Q s k er es = taC A U L Q k (apB s er es) := if_neg (fun e => e h)
theorem tzC_len {A : Int} {R : ByteArray} {S U L : Int} {Q : Bool} {s : List Ap} {k : Int} {er : ByteArray} {es : Int} (h : tzC A R S U L Q s k er es = 0) : s.length ≤ 20 := by
  by_cases e : tlF A R S U L Q s = 0
  · exact (tl_zero e).2.2.2.1
  · rw [tzC_no e] at h; exact absurd h e
theorem fs_rest {A : Int} {R : ByteArray} {S U L : Int} {Q : Bool} {s : List Ap} (h : fsB A R S U L Q s = true) (h2 : A ≠ 2) (h3 : A ≠ 3) : R = ⟨#[]⟩ ∧ S = 0 := by
  unfold fsB at h
  rw [if_neg h2, if_neg h3] at h
  simpa using h

end Go.Proofs.Ytkacfjbhkgdpdaa
