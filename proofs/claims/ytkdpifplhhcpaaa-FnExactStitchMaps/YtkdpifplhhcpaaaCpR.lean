/- Proved here: slices.Clone of a list of numbers. -/
import Derived.Test.YtkdpifplhhcpaaaCpA
namespace Go.Proofs.Ytkdpifplhhcpaaa
open Go.RowKit
set_option linter.unusedVariables false
set_option linter.unusedSimpArgs false

set_option maxRecDepth 10000 in
set_option maxHeartbeats 1600000 in
theorem cl_row {w : World} {v : Value} {s : List Int} (hp : 0 < s.length) (hn : s.length ≤ 1048576) (h : RdI w v s) :
    Calls Try.prog 54 #[v] w fun e w' => ∃ v', e = .returned v' ∧ IS w' w.heap.size v' s ∧ Below w.heap.size w w' := by
  obtain ⟨i0, hi, hz0, hz1, hz2⟩ := info_parts info_i64
  have qT : ∀ (w : World) (a : Option Addr) (n c : Nat), (binOp .eql 22 (.slice a n c) (.slice none 0 0)).run Try.prog w = .ok (.bool a.isNone) w := fun w a n c => Lib.run_eql_slice_nil w _ _ a n c 0 0 Try.underlying22
  obtain ⟨g, o, cap, rfl, hg, _⟩ := h.ri hp
  obtain ⟨n, hnn⟩ : ∃ n, n = s.length := ⟨_, rfl⟩
  rw [← hnn] at hn h ⊢
  have H : Hid ((∀ j u, (s.map (Value.int .i64))[j]? = some u → (w.alloc (.cells #[] 2)).cell? ((⟨g, o, none⟩ : Addr).add j) = some u) ∧ n = s.length) := ⟨row_news (h.below (by (repeat' (first | (with_reducible exact Below.refl _ _) | (with_reducible assumption) | (with_reducible refine Below.setCell ?_ ?_ _) | (with_reducible refine Below.alloc ?_ ?_ _) | (with_reducible refine below_drewN ?_ _) | (with_reducible refine Below.drew ?_) | (with_reducible exact Nat.le_refl _) | omega | (simp; done) | (simp; omega))))), hnn⟩
  clear hnn h
  go_enter Try.func54, Try.ntmps54
  go_wp2_with (at_builtin; (refine wpList_append_own _ rfl _ _ 22 rfl w.heap.size 2 i0 (.int .i64 0) 1 8 Try.underlying22 hi hz0 hz1 hz2 rfl (by decide) (.slice (some ⟨w.heap.size, 0, none⟩) 0 0) 0 [] rfl (is_lit0 w _ (Nat.le_refl _)) ⟨g, o, none⟩ n cap (s.map (Value.int .i64)) rfl (by rw [H.out.2]; simp) H.out.1 (ones_int _) (by unfold maxLen; omega) (by omega) (by simp) ?_; intro v1 w1 hown1 hgrow1 hnil1))
  have R : Hid (IS w1 w.heap.size v1 s ∧ Below w.heap.size w w1) := by
    refine ⟨?_, ((Below.refl _ _).alloc (Nat.le_refl _) _).grown hgrow1 (by simp) (fun j hj => by cases hj; exact Nat.le_refl _)⟩
    rw [H.out.2] at hown1
    unfold IS
    simpa using hown1
  clear hown1 hgrow1 hnil1
  go_returns
  exact ⟨_, rfl, R.out.1, R.out.2⟩

end Go.Proofs.Ytkdpifplhhcpaaa
