/- Proved here: blocks: their sums, what is read of one; the arithmetic alone. -/
import Derived.Test.YtejpjbihdclngaaByC
namespace Go.Proofs.Ytejpjbihdclngaa
open Go.RowKit
set_option linter.unusedVariables false
set_option linter.unusedSimpArgs false

/-- A list of bytes with its room. -/
def RBc (w : World) (v : Value) (s : List UInt8) : Prop := RBy w v s ∧ ∃ a c, v = .slice a s.length c ∧ s.length ≤ c
theorem RBc.by {w : World} {v : Value} {s : List UInt8} (h : RBc w v s) : RBy w v s := h.1
theorem RBc.form {w : World} {v : Value} {s : List UInt8} (h : RBc w v s) : ∃ a c, v = .slice a s.length c ∧ s.length ≤ c := h.2
theorem RBc.below {w w' : World} {v : Value} {s : List UInt8} (h : RBc w v s) (hb : Below w.heap.size w w') : RBc w' v s := ⟨h.1.below hb, h.2⟩
theorem OBy.rc {w : World} {B : Nat} {v : Value} {s : List UInt8} (h : OBy w B v s) : RBc w v s := by
  refine ⟨h.rg, ?_⟩
  rcases h.2 with ⟨rfl, h0⟩ | ⟨g, cap, cur, rfl, hB, hg, hn, hm, hs, ht⟩
  · exact ⟨none, 0, by rw [h0], by omega⟩
  · exact ⟨_, cap, rfl, hn⟩
/-- The sum of the first bytes. -/
def suK (s : List UInt8) : Nat → Nat
  | 0 => 0
  | k + 1 => (suK s k + (s.getD k 0).toNat) % 65536
theorem suK_lt (s : List UInt8) : ∀ k, suK s k < 65536
  | 0 => by show 0 < 65536; decide
  | k + 1 => Nat.mod_lt _ (by decide)
def suV (s : List UInt8) : Nat := suK s s.length
/-- The two bytes of a sum. -/
def hiB (n : Nat) : UInt8 := UInt8.ofNat (n / 256)
def loB (n : Nat) : UInt8 := UInt8.ofNat n
theorem hiB_nat {n : Nat} (h : n < 65536) : (hiB n).toNat = n / 256 := by unfold hiB; rw [UInt8.toNat_ofNat_of_lt' (by show n / 256 < 256; omega)]
theorem loB_nat (n : Nat) : (loB n).toNat = n % 256 := by unfold loB; rw [UInt8.toNat_ofNat']
theorem u8_ext {x y : UInt8} (h : x.toNat = y.toNat) : x = y := UInt8.toNat_inj.1 h
/-- Two bytes are those of a sum just if they tell it. -/
theorem two_sum {x y : UInt8} {n : Nat} (h : n < 65536) : ([x, y] = [hiB n, loB n]) ↔ (n : Int) = (x.toNat : Int) * 256 + (y.toNat : Int) := by
  have hx := x.toNat_lt
  have hy := y.toNat_lt
  constructor
  · intro e
    simp only [List.cons.injEq, and_true] at e
    obtain ⟨rfl, rfl⟩ := e
    rw [hiB_nat h, loB_nat]; omega
  · intro e
    have e1 : x = hiB n := u8_ext (by rw [hiB_nat h]; omega)
    have e2 : y = loB n := u8_ext (by rw [loB_nat]; omega)
    rw [e1, e2]
/-- What is read of a block. -/
def byN (s : List UInt8) (k : Nat) : Int := ((s.getD k 0).toNat : Int)
theorem byN_bd (s : List UInt8) (k : Nat) : 0 ≤ byN s k ∧ byN s k ≤ 255 := by unfold byN; exact by_lt _
def rbF (s : List UInt8) : Bool := decide (8 ≤ s.length) && (decide (5 ≤ byN s 0 ∧ byN s 0 ≤ 37) && decide ((s.length : Int) = byN s 0 + 3))
def rbS (s : List UInt8) : Bool := decide ((suV ((s.take (s.length - 2)).drop 1) : Int) = byN s (s.length - 2) * 256 + byN s (s.length - 1))
def rbR (s : List UInt8) : Bool := decide (1 ≤ byN s 1 ∧ byN s 1 ≤ 127) && (!(byN s 3 == 0) && !(decide (1 < byN s 5)))
def rbC (s : List UInt8) : Int := if rbF s then (if rbS s then (if rbR s then 0 else 3) else 6) else 5
def rbX (s : List UInt8) (k : Nat) : Int := if rbC s = 0 then byN s k else 0
def rbL (s : List UInt8) : Bool := decide (rbC s = 0) && (byN s 5 == 1)
def rbD (s : List UInt8) : List UInt8 := if rbC s = 0 then (s.take (s.length - 2)).drop 6 else []
theorem rbD_len (s : List UInt8) : (rbD s).length ≤ 32 := by
  unfold rbD
  split
  · rename_i h
    unfold rbC at h
    split at h
    · rename_i h1
      simp only [rbF, Bool.and_eq_true, decide_eq_true_eq] at h1
      simp only [List.length_drop, List.length_take]; omega
    · exact absurd h (by decide)
  · simp
theorem rb_five {s : List UInt8} (h : rbF s = false) : rbC s = 5 ∧ (∀ k, rbX s k = 0) ∧ rbL s = false ∧ rbD s = [] := by
  have h0 : rbC s = 5 := by unfold rbC; rw [h]; rfl
  refine ⟨h0, fun k => ?_, ?_, ?_⟩
  · unfold rbX; rw [h0]; rfl
  · unfold rbL; rw [h0]; rfl
  · unfold rbD; rw [h0]; rfl
theorem rb_six {s : List UInt8} (h : rbF s = true) (h1 : rbS s = false) : rbC s = 6 ∧ (∀ k, rbX s k = 0) ∧ rbL s = false ∧ rbD s = [] := by
  have h0 : rbC s = 6 := by unfold rbC; rw [h, h1]; rfl
  refine ⟨h0, fun k => ?_, ?_, ?_⟩
  · unfold rbX; rw [h0]; rfl
  · unfold rbL; rw [h0]; rfl
  · unfold rbD; rw [h0]; rfl
theorem rb_three {s : List UInt8} (h : rbF s = true) (h1 : rbS s = true) (h2 : rbR s = false) : rbC s = 3 ∧ (∀ k, rbX s k = 0) ∧ rbL s = false ∧ rbD s = [] := by
  have h0 : rbC s = 3 := by unfold rbC; rw [h, h1, h2]; rfl
  refine ⟨h0, fun k => ?_, ?_, ?_⟩
  · unfold rbX; rw [h0]; rfl
  · unfold rbL; rw [h0]; rfl
  · unfold rbD; rw [h0]; rfl
theorem rb_good {s : List UInt8} (h : rbF s = true) (h1 : rbS s = true) (h2 : rbR s = true) : rbC s = 0 ∧ (∀ k, rbX s k = byN s k) ∧ rbL s = (byN s 5 == 1) ∧ rbD s = (s.take (s.length - 2)).drop 6 := by
  have h0 : rbC s = 0 := by unfold rbC; rw [h, h1, h2]; rfl
  refine ⟨h0, fun k => ?_, ?_, ?_⟩
  · unfold rbX; rw [h0]; rfl
  · unfold rbL; rw [h0]; simp
  · unfold rbD; rw [h0]; rfl
/-- A list that is cut: cells from a place on. -/
theorem RBy.cut {w : World} {g o n c : Nat} {s : List UInt8} (h : RBy w (.slice (some ⟨g, o, none⟩) n c) s) (i j c' : Nat) (hij : i ≤ j) (hj : j ≤ n) : RBy w (.slice (some ⟨g, o + i, none⟩) (j - i) c') ((s.take j).drop i) := by
  have hn : n = s.length := h.len
  have hl : ((s.take j).drop i).length = j - i := by simp; omega
  refine ⟨some ⟨g, o + i, none⟩, c', by rw [hl], fun hne => ?_⟩
  have hp : 0 < ((s.take j).drop i).length := List.length_pos_iff.2 hne
  obtain ⟨g', o', c2, he, hg, hx⟩ := h.pos (by omega)
  simp only [Value.slice.injEq, Option.some.injEq, Addr.mk.injEq] at he
  obtain ⟨⟨rfl, rfl, _⟩, _, _⟩ := he
  refine ⟨g, o + i, rfl, hg, fun k hk m hm => ?_⟩
  have := hx (i + k) (by omega) m hm
  rw [show o + i + k * 1 + m = o + (i + k) * 1 + m by omega, this]
  congr 1
  simp [List.getElem_drop, List.getElem_take]
theorem cut0 (s : List UInt8) (j : Nat) : (s.take j).drop 0 = s.take j := rfl
theorem by_cellN {w : World} {g o n c : Nat} {s : List UInt8} (h : RBy w (.slice (some ⟨g, o, none⟩) n c) s) {k : Nat} (hk : k < n) : w.cell? ⟨g, o + k, none⟩ = some (.int .u8 (byN s k)) ∧ g < w.heap.size := by
  obtain ⟨g', o', z, he, hg, hz, hc⟩ := rb_at h hk
  simp only [Option.some.injEq, Addr.mk.injEq] at he
  obtain ⟨rfl, rfl, _⟩ := he
  refine ⟨?_, hg⟩
  rw [hc]
  unfold byN
  rw [by_get hz]

end Go.Proofs.Ytejpjbihdclngaa
