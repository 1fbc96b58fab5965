/- Proved here: complex numbers of the language: sums, lists of them in memory. No condition on the program but on its table of types. -/
import Derived.Test.YtgaabcgdfbgchaaZL
import Derived.Test.YtgaabcgdfbgchaaUrI
namespace Go.Proofs.Ytgaabcgdfbgchaa
open Go.RowKit
set_option linter.unusedVariables false
set_option linter.unusedSimpArgs false

/-- What lay in W lies in w still, but for block G. -/
def KX (G : Nat) (W w : World) : Prop := (∀ b o, b ≠ G → b < W.heap.size → w.cell? ⟨b, o, none⟩ = W.cell? ⟨b, o, none⟩) ∧ W.heap.size ≤ w.heap.size
theorem KX.of {G : Nat} {W w : World} (h : Below W.heap.size W w) : KX G W w := ⟨fun b o _ hb => h.cell (p := ⟨b, o, none⟩) hb, h.size⟩
theorem KX.set {G : Nat} {W w : World} (h : KX G W w) (o : Nat) (u : Value) : KX G W (w.setCell ⟨G, o, none⟩ u) :=
  ⟨fun b o' hb hl => (World.cell?_of_block (w := w) (heap_setCell_other _ _ _ _ hb)).trans (h.1 b o' hb hl), by simpa using h.2⟩

section
variable {P : Program} (w : World)
@[go_sem] theorem run_cx_add (t : TypeId) (a b c d : Nat) : (binOp .add t (.complex .f64 a b) (.complex .f64 c d)).run P w = .ok (.complex .f64 (fres .add a c w) (fres .add b d (w.drewN (fnn .add a c)))) ((w.drewN (fnn .add a c)).drewN (fnn .add b d)) := by
  have e : ∀ (x y : Nat) (w : World), (Op.Complex.arith .add .f64 x y).run P w = .ok (fres .add x y w) (w.drewN (fnn .add x y)) := fun x y w => by
    have h := run_fl_add (P := P) w t x y
    have h' : (Op.floatArith .add .f64 x y).run P w = .ok (.float .f64 (fres .add x y w)) (w.drewN (fnn .add x y)) := by
      simpa [binOp] using h
    simp [Op.Complex.arith, h']
  simp only [binOp, Op.complexOp]
  simp [e]
end

def cC (z : Zf) : List Value := [.complex .f64 z.re z.im]
theorem cC_len (z : Zf) : (cC z).length = 1 := rfl
theorem info_c : (Try.prog.info? 68).map (fun i => (i.zero, i.size, i.bytes)) = some (some (.complex .f64 0 0), 1, 16) := by kernel_rfl
abbrev RCs (w : World) (v : Value) (s : List Zf) : Prop := RG 1 cC w v s
abbrev OCs (w : World) (B : Nat) (v : Value) (s : List Zf) : Prop := OG 68 1 cC w B v s
theorem OCs.rg {w : World} {B : Nat} {v : Value} {s : List Zf} (h : OCs w B v s) : RCs w v s := OG.rg cC_len h
theorem rc_at {w : World} {a : Option Addr} {n c : Nat} {s : List Zf} (h : RCs w (.slice a n c) s) {j : Nat} (hj : j < n) : ∃ (g o : Nat) (z : Zf), a = some ⟨g, o, none⟩ ∧ g < w.heap.size ∧ s[j]? = some z ∧ w.cell? ⟨g, o + j, none⟩ = some (.complex .f64 z.re z.im) := by
  have hn : n = s.length := h.len
  obtain ⟨g, o, c2, he, hg, hx⟩ := h.pos (by omega)
  injection he with he1 he2 he3
  subst he1
  have hl : j < s.length := by omega
  refine ⟨g, o, s[j], rfl, hg, List.getElem?_eq_getElem hl, ?_⟩
  have := hx j hl 0 (by omega)
  rw [Nat.add_zero, Nat.mul_one] at this
  rw [this]; rfl
theorem cC_fm (s : List Zf) : s.flatMap cC = s.map (fun z => Value.complex .f64 z.re z.im) := by
  induction s with
  | nil => rfl
  | cons a t ih => rw [List.flatMap_cons, ih]; rfl
/-- One of them is written. -/
theorem OCs.put {w : World} {B g n c : Nat} {s : List Zf} (h : OCs w B (.slice (some ⟨g, 0, none⟩) n c) s) (j : Nat) (z : Zf) : OCs (w.setCell ⟨g, j, none⟩ (.complex .f64 z.re z.im)) B (.slice (some ⟨g, 0, none⟩) n c) (s.set j z) := by
  have hn : n = s.length := h.rg.len
  subst hn
  show World.ownsRow _ B 68 1 _ (s.set j z).length ((s.set j z).flatMap cC)
  have h' : w.ownsRow B 68 1 (.slice (some ⟨g, 0, none⟩) s.length c) s.length (s.flatMap cC) := h
  rw [cC_fm] at h' ⊢
  have := (World.ownsRow.stored h' j (.complex .f64 z.re z.im)).1
  rw [List.length_set, List.map_set]
  exact this
theorem OCs.frz {w : World} {B g n c : Nat} {s : List Zf} (h : OCs w B (.slice (some ⟨g, 0, none⟩) n c) s) (j : Nat) : w.frozen? ⟨g, j, none⟩ = false := by
  rcases h.2 with ⟨h1, _⟩ | ⟨g', cap, cur, h1, h2, h3, _⟩
  · cases h1
  · injection h1 with h1
    injection h1 with h1
    injection h1 with h1
    subst h1
    simp [World.frozen?, h3]
/-- A whole array, loaded. -/
theorem exec_load {P : Program} {a : Act} {op : Oper} {ty : TypeId} {x : Operand} {b : Nat} {cs : List Value} {d : TypeDesc} {w : World} (ho : op.op = .load ty x) (hx : a.eval x = .pointer (some ⟨b, 0, none⟩)) (hc : w.rangeAt b 0 cs)
    (hu : P.underlying ty = some d) (hd : d.isRow = true) (hi : (P.info? ty).map (·.size) = some cs.length) : (execOp a.eval op).run P w = .ok (.value (.agg cs.toArray)) w := by
  unfold execOp
  simp only [ho, hx, Instr.loadAt, Instr.sureAddr, Sem.run_bind, Sem.run_pure, Result.andThen_ok, run_loadVar_mid w b 0 ty cs d hc hu hd hi]

end Go.Proofs.Ytgaabcgdfbgchaa
