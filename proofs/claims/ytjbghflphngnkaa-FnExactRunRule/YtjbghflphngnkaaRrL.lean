/- Proved here: a list of jobs without one, of the model. -/
import Derived.Test.YtjbghflphngnkaaRrN
import Derived.Test.YtjbghflphngnkaaOpN
import Derived.Test.YtjbghflphngnkaaNwK
import Derived.Test.YtjbghflphngnkaaLwS
import Derived.Test.YtjbghflphngnkaaSoH
namespace Go.Proofs.Ytjbghflphngnkaa
open Go.RowKit
set_option linter.unusedVariables false
set_option linter.unusedSimpArgs false


theorem rg_drop {W : World} {g o n c c' m : Nat} {s : List Jb} (h : RG 7 jbC W (.slice (some ⟨g, o, none⟩) n c) s) (hm : m ≤ n) : RG 7 jbC W (.slice (some ⟨g, o + m * 7, none⟩) (n - m) c') (s.drop m) := by
  have hl := h.len
  have h0 := h
  obtain ⟨a', c2, e, h⟩ := h
  refine ⟨_, c', by rw [List.length_drop, ← hl], fun hp => ?_⟩
  have hp2 : m < s.length := by
    rcases Nat.lt_or_ge m s.length with h1 | h1
    · exact h1
    · exact absurd (List.drop_eq_nil_of_le h1) hp
  obtain ⟨g2, o2, c3, e2, hg, hj⟩ := h0.pos (by omega)
  simp only [Value.slice.injEq, Option.some.injEq, Addr.mk.injEq] at e2
  obtain ⟨⟨rfl, rfl, _⟩, _, _⟩ := e2
  refine ⟨g, o + m * 7, rfl, hg, fun j hj2 i hi => ?_⟩
  rw [List.length_drop] at hj2
  have := hj (m + j) (by omega) i hi
  rw [List.getElem_drop, ← this]
  congr 2
  omega
set_option maxRecDepth 10000 in
set_option maxHeartbeats 6400000 in
theorem spec_less {W : World} {lo g n c b : Nat} {s : List Jb} (hn : n ≤ 30) (hb : b < n) (ho : OJ W lo g n c s) :
    Calls Try.prog 33 #[.slice (some ⟨g, 0, none⟩) n c, .int .i64 b] W fun e w' => ∃ g' c', e = .returned (.slice (some ⟨g', 0, none⟩) (n - 1) c') ∧ OJ w' W.heap.size g' (n - 1) c' (s.eraseIdx b) ∧ Below W.heap.size W w' := by
  have hnn : n = s.length := ho.len
  have hcap : n ≤ c := by
    rcases ho.2 with ⟨e, _⟩ | ⟨g', cap', cur, e, hB, hg, hnn, hmm, hs, ht⟩
    · cases e
    · injection e with _ _ e3; omega
  have b0 : (0 : Int) ≤ (b : Int) := by omega
  have b1 : (b : Int) ≤ (n : Int) := by omega
  have b2 : (b : Int) + 1 ≤ (n : Int) := by omega
  have b3 : (b : Int) ≤ (c : Int) := by omega
  have b4 : (b : Int) + 1 ≤ (c : Int) := by omega
  go_enter Try.func33, Try.ntmps33
  obtain ⟨i0, hi0, hz0, hz1, hz2⟩ := info_parts info_Job
  obtain ⟨X, hX⟩ : ∃ X, X = W.alloc (.cells #[] 51) := ⟨_, rfl⟩
  have hbX : Below W.heap.size W X := by rw [hX]; (repeat' (first | (with_reducible exact Below.refl _ _) | (with_reducible assumption) | (with_reducible refine Below.setCell ?_ ?_ _) | (with_reducible refine Below.alloc ?_ ?_ _) | (with_reducible refine below_drewN ?_ _) | (with_reducible refine Below.drew ?_) | (with_reducible exact Nat.le_refl _) | omega | (simp; done) | (simp; omega)))
  have hsX : W.heap.size < X.heap.size := by rw [hX]; simp
  have hrg := OG.rg jbC_len ho
  have HR1 : Hid (RG 7 jbC X (.slice (some ⟨g, 0, none⟩) b c) (s.take b)) := (rg_take hrg (by omega)).below hbX
  have HR2 : Hid (RG 7 jbC W (.slice (some ⟨g, 0 + (b + 1) * 7, none⟩) (n - (b + 1)) (c - (b + 1))) (s.drop (b + 1))) := rg_drop hrg (by omega)
  have hl1 : (s.take b).length = b := by rw [List.length_take]; omega
  have hl2 : (s.drop (b + 1)).length = n - (b + 1) := by rw [List.length_drop]; omega
  have HL : Hid ((s.take b).length = b ∧ (s.drop (b + 1)).length = n - (b + 1) ∧ s.eraseIdx b = s.take b ++ s.drop (b + 1) ∧ n = s.length ∧ b < n) := ⟨hl1, hl2, List.eraseIdx_eq_take_drop_succ _ _, hnn, hb⟩
  have hown0 : X.ownsRow W.heap.size 51 7 (.slice (some ⟨W.heap.size, 0, none⟩) 0 0) 0 [] := by rw [hX]; exact World.ownsRow_lit W #[] 0 (Nat.le_refl _) (by decide) (by simp)
  have b5 : b ≤ n := by omega
  have b6 : b ≤ c := by omega
  have b7 : b + 1 ≤ n := by omega
  have b8 : b + 1 ≤ c := by omega
  clear hnn hl1 hl2 hrg ho
  go_upto_region 2 with (at_builtin; rw [← hX]; refine appAny rfl _ _ 28 rfl W.heap.size 51 i0 (.agg #[.int .i64 0, .int .i64 0, .int .i64 0, .int .i64 0, .int .i64 0, .int .i64 0, .int .i64 0]) 7 56 Try.underlying28 hi0 hz0 hz1 hz2 rfl (by decide) (.slice (some ⟨W.heap.size, 0, none⟩) 0 0) 0 [] rfl hown0 (some ⟨g, 0, none⟩) b c ((s.take b).flatMap jbC) rfl (by rw [fm_length jbC_len, HL.out.1]) (fun h => by cases h) (newsK jbC_len (by decide) HR1.out) (ones_of jbC_one _) (by unfold maxLen; omega) (by omega) (Nat.le_of_lt hsX) ?_; intro v5 w5 hown5 hgrow5 hnil5)
  have ho5 : OG 51 7 jbC w5 W.heap.size v5 (s.take b) := by
    unfold OG; rw [HL.out.1]; simpa using hown5
  obtain ⟨g5, c5, hv5⟩ : ∃ g5 c5, v5 = .slice (some ⟨g5, 0, none⟩) b c5 := by
    rcases ho5.2 with ⟨e, _⟩ | ⟨g5, c5, cur, e, _⟩
    · exact absurd e (hnil5 (by simp))
    · exact ⟨g5, c5, by rw [e, HL.out.1]⟩
  subst hv5
  have HW5 : Hid (Below W.heap.size W w5) := hbX.grown hgrow5 (Nat.le_of_lt hsX) (fun j hj => by cases hj; exact Nat.le_refl _)
  have HR5 : Hid (RG 7 jbC w5 (.slice (if c = b + 1 then some ⟨g, 0, none⟩ else some ⟨g, (b + 1) * 7, none⟩) (n - (b + 1)) (c - (b + 1))) (s.drop (b + 1)) ∧ w5.ownsRow W.heap.size 51 7 (.slice (some ⟨g5, 0, none⟩) b c5) b ((s.take b).flatMap jbC)) := ⟨by
    by_cases hcb : c = b + 1
    · rw [if_pos hcb]
      have hd : s.drop (b + 1) = [] := List.eq_nil_of_length_eq_zero (by rw [HL.out.2.1]; omega)
      rw [hd]
      exact ⟨_, _, by rw [show n - (b + 1) = 0 by omega]; rfl, fun h => absurd rfl h⟩
    · rw [if_neg hcb]; have h9 := HR2.out.below HW5.out; rw [Nat.zero_add] at h9; exact h9, by simpa using hown5⟩
  clear hown5 hgrow5 hnil5 ho5 HR1 HR2 hown0 hbX hsX hX
  have hsz := HW5.out.size
  go_wp2_with (at_builtin; refine appAny rfl _ _ 28 rfl W.heap.size 51 i0 (.agg #[.int .i64 0, .int .i64 0, .int .i64 0, .int .i64 0, .int .i64 0, .int .i64 0, .int .i64 0]) 7 56 Try.underlying28 hi0 hz0 hz1 hz2 rfl (by decide) (.slice (some ⟨g5, 0, none⟩) b c5) b ((s.take b).flatMap jbC) rfl HR5.out.2 (if c = b + 1 then some ⟨g, 0, none⟩ else some ⟨g, (b + 1) * 7, none⟩) (n - (b + 1)) (c - (b + 1)) ((s.drop (b + 1)).flatMap jbC) rfl (by rw [fm_length jbC_len, HL.out.2.1]) (fun h => by split at h <;> cases h) (newsK jbC_len (by decide) HR5.out.1) (ones_of jbC_one _) (by unfold maxLen; omega) (by omega) hsz ?_; intro v6 w6 hown6 hgrow6 hnil6)
  all_goals
    have ho6 : OG 51 7 jbC w6 W.heap.size v6 (s.eraseIdx b) := by
      unfold OG; rw [HL.out.2.2.1, List.flatMap_append, List.length_append, HL.out.1, HL.out.2.1]; exact hown6
    have hel : (s.eraseIdx b).length = n - 1 := by rw [HL.out.2.2.1, List.length_append, HL.out.1, HL.out.2.1]; omega
    obtain ⟨g6, c6, hv6⟩ : ∃ g6 c6, v6 = .slice (some ⟨g6, 0, none⟩) (n - 1) c6 := by
      rcases ho6.2 with ⟨e, _⟩ | ⟨g6, c6, cur, e, _⟩
      · exact absurd e (hnil6 (by simp))
      · exact ⟨g6, c6, by rw [e, hel]⟩
    subst hv6
    have HW6 : Hid (Below W.heap.size W w6) := HW5.out.grown hgrow6 hsz (fun j hj => (World.ownsRow.lt HR5.out.2 j hj).1)
    have HO6 : Hid (OJ w6 W.heap.size g6 (n - 1) c6 (s.eraseIdx b)) := ho6
    clear hown6 hgrow6 hnil6 ho6 hel HR5
    go_returns
    exact ⟨g6, c6, rfl, HO6.out, HW6.out⟩

end Go.Proofs.Ytjbghflphngnkaa
