/- Proved here: how lists of jobs and of numbers that came in are read, with their numbers of their kind. -/
import Derived.Test.YtecobfhlpjlpkaaDjB
import Derived.Test.YtecobfhlpjlpkaaNlW
namespace Go.Proofs.Ytecobfhlpjlpkaa
open Go.ChangeShapes Go.WideShapes Go.ChangeAt Go.RowKit Go.Joins Go.Deep
set_option linter.unusedVariables false
set_option linter.unusedSimpArgs false

theorem list7jobW {α : Type} {l : List α} (h : l.length = 7) : ∃ c0 c1 c2 c3 c4 c5 c6, l = [c0, c1, c2, c3, c4, c5, c6] := by
  match l, h with
  | [c0, c1, c2, c3, c4, c5, c6], _ => exact ⟨c0, c1, c2, c3, c4, c5, c6, rfl⟩
set_option maxRecDepth 100000 in
theorem jobW_cells {H : Type} {enc : TypeId × Value → H} {W : World} {fuel : Nat} {cs : List Value} {x : DataW H × List MemPlace} (h : DataW.trod enc Try.prog W 0 (fun _ => true) true fuel 52 cs = some x) : ∃ a : Jb, cs = jbC a ∧ (Lit.int .i64 a.id).wf = true := by
  obtain ⟨n, hl, hf⟩ := trod_fields Try.underlying52 (by kernel_rfl) (by kernel_rfl) h
  obtain ⟨c0, c1, c2, c3, c4, c5, c6, rfl⟩ := list7jobW hl
  obtain ⟨_, y0, e0, t0⟩ := hf 0 _ rfl
  obtain ⟨_, y1, e1, t1⟩ := hf 1 _ rfl
  obtain ⟨_, y2, e2, t2⟩ := hf 2 _ rfl
  obtain ⟨_, y3, e3, t3⟩ := hf 3 _ rfl
  obtain ⟨_, y4, e4, t4⟩ := hf 4 _ rfl
  obtain ⟨_, y5, e5, t5⟩ := hf 5 _ rfl
  obtain ⟨_, y6, e6, t6⟩ := hf 6 _ rfl
  obtain ⟨n0, k0, _, wf0⟩ := DataW.trod_int Try.underlying2 t0
  obtain ⟨n1, k1, _, wf1⟩ := DataW.trod_int Try.underlying2 t1
  obtain ⟨n2, k2, _, wf2⟩ := DataW.trod_int Try.underlying2 t2
  obtain ⟨n3, k3, _, wf3⟩ := DataW.trod_int Try.underlying2 t3
  obtain ⟨n4, k4, _, wf4⟩ := DataW.trod_int Try.underlying2 t4
  obtain ⟨n5, k5, _, wf5⟩ := DataW.trod_int Try.underlying2 t5
  obtain ⟨n6, k6, _, wf6⟩ := DataW.trod_int Try.underlying2 t6
  simp at e0 e1 e2 e3 e4 e5 e6 k0 k1 k2 k3 k4 k5 k6
  subst e0 e1 e2 e3 e4 e5 e6
  subst k0 k1 k2 k3 k4 k5 k6
  exact ⟨⟨n0, n1, n2, n3, n4, n5, n6⟩, rfl, wf0⟩

set_option maxRecDepth 100000 in
theorem jobsW_open {H : Type} {enc : TypeId × Value → H} {W : World} {base : Nat} {v : Value} {d : DataW H} {p : List MemPlace}
    (hv : Value.okWide Try.prog W .any base 22 v) (h : DataW.Trod enc Try.prog W 0 (fun _ => true) true 22 v d p) :
    ∃ (a : Option Addr) (n c : Nat) (s : List Jb), v = .slice a n c ∧ RG 7 jbC W (.slice a n c) s ∧ s.length ≤ maxLen ∧ ∀ j (h : j < s.length), (Lit.int .i64 s[j].id).wf = true := by
  obtain ⟨a0, len0, cap0, rfl⟩ := okWide_slice Try.underlying22 hv
  obtain ⟨fuel, hf⟩ := h
  have : Nonempty Jb := ⟨⟨0, 0, 0, 0, 0, 0, 0⟩⟩
  obtain ⟨a, n, c, s, k, h1, h2, h3⟩ := rg_of_trod (Q := fun a => (Lit.int .i64 a.id).wf = true) Try.underlying22 (show Try.prog.cellsOf 52 = 7 by kernel_rfl) (by omega) jbC_len (fun _ _ _ h => jobW_cells h) hf
  simp [Value.cells] at k
  obtain ⟨rfl, rfl, rfl⟩ := k
  exact ⟨_, _, _, s, rfl, h1, h2, h3⟩

theorem intW_cell {H : Type} {enc : TypeId × Value → H} {W : World} {fuel : Nat} {cs : List Value} {x : DataW H × List MemPlace} (h : DataW.trod enc Try.prog W 0 (fun _ => true) true fuel 2 cs = some x) : ∃ a : Int, cs = inC a ∧ (Lit.int .i64 a).wf = true := by
  obtain ⟨n, k, _, hw⟩ := DataW.trod_int Try.underlying2 h
  exact ⟨n, k, hw⟩
set_option maxRecDepth 100000 in
theorem intsW_open {H : Type} {enc : TypeId × Value → H} {W : World} {base : Nat} {v : Value} {d : DataW H} {p : List MemPlace}
    (hv : Value.okWide Try.prog W .any base 29 v) (h : DataW.Trod enc Try.prog W 0 (fun _ => true) true 29 v d p) :
    ∃ (a : Option Addr) (n c : Nat) (s : List Int), v = .slice a n c ∧ RdI W v s ∧ s.length ≤ maxLen ∧ ∀ i, i < s.length → (Lit.int .i64 (s.getD i 0)).wf = true := by
  obtain ⟨a0, len0, cap0, rfl⟩ := okWide_slice Try.underlying29 hv
  obtain ⟨fuel, hf⟩ := h
  have : Nonempty Int := ⟨0⟩
  obtain ⟨a, n, c, s, hcs, h1, h2, h3⟩ := rg_of_trod (Q := fun a => (Lit.int .i64 a).wf = true) Try.underlying29 (show Try.prog.cellsOf 2 = 1 by kernel_rfl) (by omega) inC_len (fun _ _ _ h => intW_cell h) hf
  simp [Value.cells] at hcs
  obtain ⟨rfl, rfl, rfl⟩ := hcs
  refine ⟨a0, len0, cap0, s, rfl, h1, h2, fun i hi => ?_⟩
  have e : s.getD i 0 = s[i] := by simp [List.getD, hi]
  rw [e]; exact h3 i hi

end Go.Proofs.Ytecobfhlpjlpkaa
