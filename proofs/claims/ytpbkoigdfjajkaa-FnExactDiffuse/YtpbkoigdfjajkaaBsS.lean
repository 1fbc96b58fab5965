/- Proved here: the places beside one, of the model. -/
import Derived.Test.YtpbkoigdfjajkaaBsM
namespace Go.Proofs.Ytpbkoigdfjajkaa
open Go.RowKit
set_option linter.unusedVariables false
set_option linter.unusedSimpArgs false

theorem info_two : (Try.prog.info? 42).map (fun i => (i.zero, i.size, i.bytes)) = some (some (.agg #[.int .i64 0, .int .i64 0]), 2, 16) := by kernel_rfl

set_option maxRecDepth 10000 in
set_option maxHeartbeats 12800000 in
theorem spec_beside {w : World} {v : Value} {L : List (List Int)} {n W i k : Nat} (hn : n ≤ 16) (hW : W ≤ 16) (hi : i < n) (hk : k < W) (hS : Sh n W L) (h : RdR w v L) :
    Calls Try.prog 28 #[v, .int .i64 i, .int .i64 k] w fun e w' => ∃ v', e = .returned v' ∧ OG 42 2 bsE w' w.heap.size v' (nbS n W i k) ∧ Below w.heap.size w w' := by
  obtain ⟨a, c, rfl⟩ := h.form
  obtain ⟨i0, hi0, hz0, hz1, hz2⟩ := info_parts info_two
  have hl := hS.len
  rw [hl] at h ⊢
  obtain ⟨g, o, ua, un, uc, rfl, hg, c0, hun, hrd⟩ := h.at hi
  rw [hS.wd i hi] at hun
  subst hun
  have HR : Hid (RdR w (.slice (some ⟨g, o, none⟩) n c) L) := h
  clear h hrd hl hS
  have w1 : IntKind.i64.wrap ((i : Int) - 1) = (i : Int) - 1 := by rw [IntKind.wrap_i64]; omega
  have w2 : IntKind.i64.wrap ((i : Int) + 1) = (i : Int) + 1 := by rw [IntKind.wrap_i64]; omega
  have w3 : IntKind.i64.wrap ((k : Int) - 1) = (k : Int) - 1 := by rw [IntKind.wrap_i64]; omega
  have w4 : IntKind.i64.wrap ((k : Int) + 1) = (k : Int) + 1 := by rw [IntKind.wrap_i64]; omega
  have b0 : (0 : Int) ≤ (i : Int) := by omega
  have b1 : (i : Int) < (n : Int) := by omega
  have HQ : Hid (OG 42 2 bsE (w.alloc (.cells #[] 42)) w.heap.size (.slice (some ⟨w.heap.size, 0, none⟩) 0 0) [] ∧ Below w.heap.size w (w.alloc (.cells #[] 42)) ∧ w.heap.size ≤ (w.alloc (.cells #[] 42)).heap.size) :=
    ⟨World.ownsRow_lit w #[] 0 (Nat.le_refl _) (by decide) (by simp), by (repeat' (first | (with_reducible exact Below.refl _ _) | (with_reducible assumption) | (with_reducible refine Below.setCell ?_ ?_ _) | (with_reducible refine Below.alloc ?_ ?_ _) | (with_reducible refine below_drewN ?_ _) | (with_reducible refine Below.drew ?_) | (with_reducible exact Nat.le_refl _) | omega | (simp; done) | (simp; omega))), by simp⟩
  have HC : Hid (∀ W', Below w.heap.size w W' → W'.cell? ⟨g, o + i, none⟩ = some (.slice ua un uc) ∧ g < W'.heap.size) := fun W' hW' => ⟨(hW'.cell (p := ⟨g, o + i, none⟩) hg).trans c0, Nat.lt_of_lt_of_le hg hW'.size⟩
  clear c0 hg HR
  have c5 := (HC.out _ HQ.out.2.1).1
  have g5 := (HC.out _ HQ.out.2.1).2
  by_cases h1 : (0 : Int) < (i : Int) <;> by_cases h2 : (i : Int) + 1 < (n : Int) <;> by_cases h3 : (0 : Int) < (k : Int) <;> by_cases h4 : (k : Int) + 1 < (un : Int)
  all_goals
    have HN : Hid (∀ L, L = nbS n un i k → L = nbS n un i k) := fun L h => h
    simp only [nbS, h1, h2, h3, h4, if_true, if_false, List.nil_append, List.append_nil, List.cons_append] at HN ⊢
    clear HN
    go_enter Try.func28, Try.ntmps28
    go_wp2_with (at_builtin; refine wpList_append_own _ rfl _ _ 40 rfl w.heap.size 42 i0 (.agg #[.int .i64 0, .int .i64 0]) 2 16 Try.underlying40 hi0 hz0 hz1 hz2 rfl (by decide) _ _ _ rfl (World.ownsRow.alloc HQ.out.1 _) ⟨_, 0, none⟩ 1 1 [.int .i64 _, .int .i64 _] rfl rfl (World.news_of_block (new_at (by simp))) (by simp [Value.oneCell']) (by simp [maxLen]) (by simp) (by have := HQ.out.2.2; simp; omega) ?_; intro v5 w5 hown5 hgrow5 _; have HQ := og_step (_, _) HQ hown5 hgrow5; clear hown5 hgrow5; obtain ⟨oa5, oc5, hv5⟩ := og_form HQ.out.1; subst hv5; have c5 := (HC.out _ HQ.out.2.1).1; have g5 := (HC.out _ HQ.out.2.1).2)
    go_returns
    exact ⟨_, rfl, HQ.out.1, HQ.out.2.1⟩

end Go.Proofs.Ytpbkoigdfjajkaa
