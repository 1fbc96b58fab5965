/- Proved here: slices.Clone of a list of numbers and of a list of windows. -/
import Derived.Test.YtbkklnbcoegamaaQkX
import Derived.Test.YtbkklnbcoegamaaOpN
import Derived.Test.YtbkklnbcoegamaaQbU
namespace Go.Proofs.Ytbkklnbcoegamaa
open Go.RowKit Go.Maps
set_option linter.unusedVariables false
set_option linter.unusedSimpArgs false

set_option maxRecDepth 10000 in
set_option maxHeartbeats 1600000 in
theorem cl_int {w : World} {v : Value} {s : List Int} (hn : s.length ≤ 1048576) (hc : NC v) (h : RdI w v s) :
    Calls Try.prog 61 #[v] w fun e w' => ∃ v', e = .returned v' ∧ IS w' w.heap.size v' s ∧ Below w.heap.size w w' := by
  obtain ⟨i0, hi, hz0, hz1, hz2⟩ := info_parts info_i64
  have qT : ∀ (w : World) (a : Option Addr) (n c : Nat), (binOp .eql 24 (.slice a n c) (.slice none 0 0)).run Try.prog w = .ok (.bool a.isNone) w := fun w a n c => Lib.run_eql_slice_nil w _ _ a n c 0 0 Try.underlying24
  obtain ⟨a, c, rfl⟩ := h.form
  obtain ⟨n, hnn⟩ : ∃ n, n = s.length := ⟨_, rfl⟩
  rw [← hnn] at hn h hc ⊢
  cases a with
  | none =>
    obtain ⟨rfl, rfl⟩ := hc _ _ rfl
    obtain rfl : s = [] := List.eq_nil_of_length_eq_zero hnn.symm
    clear h hc hnn hn
    go_enter Try.func61, Try.ntmps61
    go_wp2
    go_returns
    exact ⟨_, rfl, World.ownsRow_nil _ _ _ _, Below.refl _ _⟩
  | some ad =>
    have H : Hid (RdI (w.alloc (.cells #[] 2)) (.slice (some ad) n c) s ∧ n = s.length) := ⟨h.below (by (repeat' (first | (with_reducible exact Below.refl _ _) | (with_reducible assumption) | (with_reducible refine Below.setCell ?_ ?_ _) | (with_reducible refine Below.alloc ?_ ?_ _) | (with_reducible refine below_drewN ?_ _) | (with_reducible refine Below.drew ?_) | (with_reducible exact Nat.le_refl _) | omega | (simp; done) | (simp; omega)))), hnn⟩
    clear hnn h hc
    go_enter Try.func61, Try.ntmps61
    go_wp2_with (at_builtin; (refine wpList_append_own _ rfl _ _ 24 rfl w.heap.size 2 i0 (.int .i64 0) 1 8 Try.underlying24 hi hz0 hz1 hz2 rfl (by decide) (.slice (some ⟨w.heap.size, 0, none⟩) 0 0) 0 [] rfl (is_lit0 w _ (Nat.le_refl _)) ad n c (s.map (Value.int .i64)) rfl (by rw [H.out.2]; simp) (newsI H.out.1 _ rfl) (ones_int _) (by unfold maxLen; omega) (by omega) (by simp) ?_; intro v1 w1 hown1 hgrow1 hnil1))
    have R : Hid (IS w1 w.heap.size v1 s ∧ Below w.heap.size w w1) := by
      refine ⟨?_, ((Below.refl _ _).alloc (Nat.le_refl _) _).grown hgrow1 (by simp) (fun j hj => by cases hj; exact Nat.le_refl _)⟩
      rw [H.out.2] at hown1
      unfold IS
      simpa using hown1
    clear hown1 hgrow1 hnil1
    go_returns
    exact ⟨_, rfl, R.out.1, R.out.2⟩

set_option maxRecDepth 10000 in
set_option maxHeartbeats 1600000 in
theorem cl_wd {w : World} {v : Value} {s : List Wdw} (hn : s.length ≤ 1048576) (hc : NC v) (h : RG 3 wdC w v s) :
    Calls Try.prog 60 #[v] w fun e w' => ∃ v', e = .returned v' ∧ OG 62 3 wdC w' w.heap.size v' s ∧ Below w.heap.size w w' := by
  obtain ⟨i0, hi, hz0, hz1, hz2⟩ := info_parts info_Window
  have qT : ∀ (w : World) (a : Option Addr) (n c : Nat), (binOp .eql 28 (.slice a n c) (.slice none 0 0)).run Try.prog w = .ok (.bool a.isNone) w := fun w a n c => Lib.run_eql_slice_nil w _ _ a n c 0 0 Try.underlying28
  obtain ⟨a, c, rfl⟩ := h.form
  obtain ⟨n, hnn⟩ : ∃ n, n = s.length := ⟨_, rfl⟩
  rw [← hnn] at hn h hc ⊢
  cases a with
  | none =>
    obtain ⟨rfl, rfl⟩ := hc _ _ rfl
    obtain rfl : s = [] := List.eq_nil_of_length_eq_zero hnn.symm
    clear h hc hnn hn
    go_enter Try.func60, Try.ntmps60
    go_wp2
    go_returns
    exact ⟨_, rfl, World.ownsRow_nil _ _ _ _, Below.refl _ _⟩
  | some ad =>
    have H : Hid (RG 3 wdC (w.alloc (.cells #[] 62)) (.slice (some ad) n c) s ∧ n = s.length) := ⟨h.below (by (repeat' (first | (with_reducible exact Below.refl _ _) | (with_reducible assumption) | (with_reducible refine Below.setCell ?_ ?_ _) | (with_reducible refine Below.alloc ?_ ?_ _) | (with_reducible refine below_drewN ?_ _) | (with_reducible refine Below.drew ?_) | (with_reducible exact Nat.le_refl _) | omega | (simp; done) | (simp; omega)))), hnn⟩
    clear hnn h hc
    go_enter Try.func60, Try.ntmps60
    go_wp2_with (at_builtin; (refine wpList_append_own _ rfl _ _ 28 rfl w.heap.size 62 i0 (.agg #[.int .i64 0, .int .i64 0, .int .i64 0]) 3 24 Try.underlying28 hi hz0 hz1 hz2 rfl (by decide) (.slice (some ⟨w.heap.size, 0, none⟩) 0 0) 0 [] rfl (World.ownsRow_lit w #[] 0 (Nat.le_refl _) (by decide) (by simp)) ad n c (s.flatMap wdC) rfl (by rw [H.out.2]; rw [fm_length wdC_len]) (newsK wdC_len (by decide) H.out.1 _ rfl) (ones_of wdC_one _) (by unfold maxLen; omega) (by omega) (by simp) ?_; intro v1 w1 hown1 hgrow1 hnil1))
    have R : Hid (OG 62 3 wdC w1 w.heap.size v1 s ∧ Below w.heap.size w w1) := by
      refine ⟨?_, ((Below.refl _ _).alloc (Nat.le_refl _) _).grown hgrow1 (by simp) (fun j hj => by cases hj; exact Nat.le_refl _)⟩
      rw [H.out.2] at hown1
      unfold OG
      simpa using hown1
    clear hown1 hgrow1 hnil1
    go_returns
    exact ⟨_, rfl, R.out.1, R.out.2⟩


end Go.Proofs.Ytbkklnbcoegamaa
