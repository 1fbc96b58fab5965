/- Proved here: comeAt, byRatioAt, ruleOrder, pickFault of the program. -/
import Derived.Test.YtjbghflphngnkaaNwK
import Derived.Test.YtjbghflphngnkaaSoH
import Derived.Test.YtjbghflphngnkaaDjI
import Derived.Deep.Cut
namespace Go.Proofs.Ytjbghflphngnkaa
open Go.RowKit
set_option linter.unusedVariables false
set_option linter.unusedSimpArgs false


set_option maxRecDepth 10000 in
set_option maxHeartbeats 6400000 in
theorem impl_ca (now : Int) {W : World} {v : Value} {s : List Jb} (hn : s.length ≤ 30) (hs : RG 7 jbC W v s) :
    Calls Try.prog 41 #[v, .int .i64 now] W fun e w' => ∃ v', e = .returned v' ∧ OG 51 7 jbC w' W.heap.size v' (comF now s) ∧ Below W.heap.size W w' := by
  obtain ⟨a, c, rfl⟩ := hs.form
  obtain ⟨i0, hi0, hz0, hz1, hz2⟩ := info_parts info_Job
  obtain ⟨n, hnn⟩ : ∃ n, n = s.length := ⟨_, rfl⟩
  rw [← hnn] at hn hs ⊢
  have H : Hid (RG 7 jbC W (.slice a n c) s ∧ n = s.length) := ⟨hs, hnn⟩
  clear hs hnn
  have H0 : Hid (OG 51 7 jbC W W.heap.size (.slice none 0 0) (comF now (s.take 0))) := OG.nl _ _ _ _ _
  go_enter Try.func41, Try.ntmps41
  go_wp2
  go_loopw [5, 10] (fun v i wr => ∃ k : Nat, k ≤ n ∧ i = .int .i64 k ∧ Hid (OG 51 7 jbC wr W.heap.size v (comF now (s.take k)) ∧ Below W.heap.size W wr)) (fun _ i _ => n - (intOf i).toNat)
  case atStart => exact ⟨0, Nat.zero_le _, rfl, H0.out, Below.refl _ _⟩
  case round =>
    clear H0
    obtain ⟨k, hk, rfl, hR⟩ := hrel
    by_cases hlt : k < n
    · have hkl : k < s.length := by rw [← H.out.2]; exact hlt
      obtain ⟨g, o, c2, he, hg, hj⟩ := (H.out.1.below hR.out.2).pos (by omega)
      simp only [Value.slice.injEq] at he
      obtain ⟨rfl, hx1, hx2⟩ := he
      clear hx1 hx2
      obtain ⟨c0, c1, c2, c3, c4, c5, c6⟩ := jbC_at (hj k hkl)
      obtain ⟨j, hj2⟩ : ∃ j, j = s[k] := ⟨_, rfl⟩
      rw [← hj2] at c0 c1 c2 c3 c4 c5 c6
      have HST : Hid (comF now (s.take (k + 1)) = if j.co ≤ now then comF now (s.take k) ++ [j] else comF now (s.take k)) := by unfold Hid; rw [hj2]; exact comF_step hkl
      have hln : (comF now (s.take k)).length ≤ 30 := by have := comF_len now (s.take k); rw [List.length_take] at this; omega
      obtain ⟨OL, hOL⟩ : ∃ l, l = comF now (s.take k) := ⟨_, rfl⟩
      rw [← hOL] at hR HST hln
      obtain ⟨va, vc, hvv⟩ := hR.out.1.fm
      subst hvv
      have b0 : (0 : Int) ≤ (k : Int) := by omega
      have b1 : (k : Int) < (n : Int) := by omega
      obtain ⟨X, hX⟩ : ∃ X, X = wr.alloc (.cells #[.int .i64 j.id, .int .i64 j.co, .int .i64 j.ti, .int .i64 j.se, .int .i64 j.du, .int .i64 j.we, .int .i64 j.ki] 51) := ⟨_, rfl⟩
      have HX : Hid (OG 51 7 jbC X W.heap.size (.slice va OL.length vc) OL ∧ Below W.heap.size W X ∧ X.heap[wr.heap.size]? = some (.cells #[.int .i64 j.id, .int .i64 j.co, .int .i64 j.ti, .int .i64 j.se, .int .i64 j.du, .int .i64 j.we, .int .i64 j.ki] 51) ∧ W.heap.size ≤ X.heap.size) := by
        rw [hX]; exact ⟨hR.out.1.al _, Below.alloc hR.out.2 hR.out.2.size _, heap_alloc_new _ _, by have := hR.out.2.size; simp; omega⟩
      have HLN : Hid (OL.length ≤ 30) := hln
      clear hj hj2 hR hOL hln
      by_cases hco : j.co ≤ now
      · have HS2 : Hid (comF now (s.take (k + 1)) = OL ++ [j]) := by unfold Hid; rw [HST.out, if_pos hco]
        clear HST
        go_upto_region 5 with fail
        rw [← hX]
        clear hX c0 c1 c2 c3 c4 c5 c6 hg
        obtain ⟨p0, p1, p2, p3, p4, p5, p6, pl⟩ := jb_cells HX.out.2.2.1
        go_wp2_with (at_builtin; refine wpList_append_own _ rfl _ _ 28 rfl W.heap.size 51 i0 (.agg #[.int .i64 0, .int .i64 0, .int .i64 0, .int .i64 0, .int .i64 0, .int .i64 0, .int .i64 0]) 7 56 Try.underlying28 hi0 hz0 hz1 hz2 rfl (by decide) _ _ _ rfl (HX.out.1.al _) ⟨X.heap.size, 0, none⟩ 1 1 (jbC j) rfl rfl (World.news_of_block (cs := #[.int .i64 j.id, .int .i64 j.co, .int .i64 j.ti, .int .i64 j.se, .int .i64 j.du, .int .i64 j.we, .int .i64 j.ki]) (t := 51) (fr := (0, 0)) (heap_alloc_new X _)) (by simp [jbC, Value.oneCell']) (by have := HLN.out; unfold maxLen; omega) (by have := HLN.out; omega) (by have := HX.out.2.2.2; simp; omega) ?_; intro v9 w9 hown9 hgrow9 _)
        have HP : Hid (OG 51 7 jbC w9 W.heap.size v9 (comF now (s.take (k + 1))) ∧ Below W.heap.size W w9) := by
          rw [HS2.out]
          exact ⟨OG.s1 j hown9, (Below.alloc HX.out.2.1 HX.out.2.2.2 _).grown hgrow9 (by have := HX.out.2.2.2; simp; omega) (fun q hq => (OG.lt HX.out.1 q hq).1)⟩
        clear hown9 hgrow9 HX HS2 HLN p0 p1 p2 p3 p4 p5 p6 pl
        go_wp2
        go_roundw
        case rel => exact ⟨k + 1, by omega, by go_num, HP.out⟩
        case measure => simp [intOf]; omega
      · have HS2 : Hid (comF now (s.take (k + 1)) = OL) := by unfold Hid; rw [HST.out, if_neg hco]
        clear HST
        go_upto_region 5 with fail
        rw [← hX]
        clear hX c0 c1 c2 c3 c4 c5 c6 hg
        obtain ⟨p0, p1, p2, p3, p4, p5, p6, pl⟩ := jb_cells HX.out.2.2.1
        have HP : Hid (OG 51 7 jbC X W.heap.size (.slice va OL.length vc) (comF now (s.take (k + 1))) ∧ Below W.heap.size W X) := by rw [HS2.out]; exact ⟨HX.out.1, HX.out.2.1⟩
        clear HX HS2 HLN
        go_wp2
        go_roundw
        case rel => exact ⟨k + 1, by omega, by go_num, HP.out⟩
        case measure => simp [intOf]; omega
    · obtain rfl : k = n := by omega
      have HF : Hid (OG 51 7 jbC wr W.heap.size u5 (comF now s) ∧ Below W.heap.size W wr) := by
        have h1 := hR.out
        rw [H.out.2, List.take_length] at h1
        exact h1
      clear hR
      go_wp2
      go_returns
      exact ⟨_, rfl, HF.out⟩
set_option maxHeartbeats 1600000 in
theorem impl_bra (now : Int) (W : World) : Calls Try.prog 88 #[.int .i64 now] W fun e w' => ∃ k, e = .returned (.func (Fn.func 92) #[] #[.pointer (some ⟨k, 0, none⟩)]) ∧ w'.cell? ⟨k, 0, none⟩ = some (.int .i64 now) ∧ k < w'.heap.size ∧ W.heap.size ≤ k ∧ Below W.heap.size W w' := by
  obtain ⟨X, hX⟩ : ∃ X, X = W.alloc (.cells #[.int .i64 now] 2) := ⟨_, rfl⟩
  have HX : Hid (Below W.heap.size W X ∧ X.cell? ⟨W.heap.size, 0, none⟩ = some (.int .i64 now) ∧ W.heap.size < X.heap.size) := by rw [hX]; exact ⟨by (repeat' (first | (with_reducible exact Below.refl _ _) | (with_reducible assumption) | (with_reducible refine Below.setCell ?_ ?_ _) | (with_reducible refine Below.alloc ?_ ?_ _) | (with_reducible refine below_drewN ?_ _) | (with_reducible refine Below.drew ?_) | (with_reducible exact Nat.le_refl _) | omega | (simp; done) | (simp; omega))), cellOfQ (heap_alloc_new _ _) 0 rfl, by simp⟩
  go_enter Try.func88, Try.ntmps88
  go_upto_region 1 with fail
  rw [← hX]
  clear hX
  go_wp2
  go_returns
  exact ⟨_, rfl, HX.out.2.1, HX.out.2.2, Nat.le_refl _, HX.out.1⟩
/-- The order that a rule stands for, as a function value. -/
def ROv (rule : Int) (k : Nat) : Value := if rule = 1 then .func (Fn.func 39) #[] #[] else if rule = 2 then .func (Fn.func 87) #[] #[] else if rule = 3 then .func (Fn.func 56) #[] #[] else .func (Fn.func 92) #[] #[.pointer (some ⟨k, 0, none⟩)]
set_option maxHeartbeats 1600000 in
theorem impl_ro (rule now : Int) (hr : 1 ≤ rule ∧ rule ≤ 4) (W : World) : Calls Try.prog 76 #[.int .i64 rule, .int .i64 now] W fun e w' => ∃ k, e = .returned (ROv rule k) ∧ (rule = 4 → w'.cell? ⟨k, 0, none⟩ = some (.int .i64 now) ∧ k < w'.heap.size) ∧ Below W.heap.size W w' := by
  rcases (by omega : rule = 1 ∨ rule = 2 ∨ rule = 3 ∨ rule = 4) with rfl | rfl | rfl | rfl
  · go_enter Try.func76, Try.ntmps76
    go_wp2
    go_returns
    exact ⟨0, rfl, fun h => absurd h (by decide), Below.refl _ _⟩
  · go_enter Try.func76, Try.ntmps76
    go_wp2
    go_returns
    exact ⟨0, rfl, fun h => absurd h (by decide), Below.refl _ _⟩
  · go_enter Try.func76, Try.ntmps76
    go_wp2
    go_returns
    exact ⟨0, rfl, fun h => absurd h (by decide), Below.refl _ _⟩
  · go_enter Try.func76, Try.ntmps76
    go_wp2_with (fail)
    refine (impl_bra now W).mono ?_
    rintro e w1 ⟨k, rfl, h1, h2, h3, h4⟩
    have HF : Hid (w1.cell? ⟨k, 0, none⟩ = some (.int .i64 now) ∧ k < w1.heap.size ∧ Below W.heap.size W w1) := ⟨h1, h2, h4⟩
    clear h1 h2 h3 h4
    go_wp2
    go_returns
    exact ⟨k, rfl, fun _ => ⟨HF.out.1, HF.out.2.1⟩, HF.out.2.2⟩
set_option maxRecDepth 10000 in
set_option maxHeartbeats 3200000 in
theorem impl_pkf (rule now : Int) {W : World} {a : Option Addr} {c : Nat} {s : List Jb} (hn : s.length ≤ 1048576) (hc : s.length ≤ c) (hs : RG 7 jbC W (.slice a s.length c) s) :
    Calls Try.prog 36 #[.slice a s.length c, .int .i64 rule, .int .i64 now] W fun e w' => e = .returned (.int .i64 (pfC s rule now)) ∧ Below W.heap.size W w' := by
  obtain ⟨J, hJ⟩ : ∃ J, J = jbF s := ⟨_, rfl⟩
  obtain ⟨n, hnn⟩ : ∃ n, n = s.length := ⟨_, rfl⟩
  obtain ⟨q1, hq1⟩ : ∃ q, q = decide (1 ≤ rule ∧ rule ≤ 4) := ⟨_, rfl⟩
  obtain ⟨q2, hq2⟩ : ∃ q, q = decide (0 ≤ now ∧ now ≤ 1000000000) := ⟨_, rfl⟩
  obtain ⟨C, hC⟩ : ∃ C, C = pfC s rule now := ⟨_, rfl⟩
  have HC : Hid (C = if J ≠ 0 then J else if q1 = false then 1 else if q2 = false then 3 else 0) := by
    unfold Hid; rw [hC, pfC, ← hJ, hq1, hq2]; simp only [decide_eq_false_iff_not]
  have HJ : Hid (Calls Try.prog 53 #[.slice a n c] W fun e w' => e = .returned (.int .i64 J) ∧ Below W.heap.size W w') := by rw [hJ, hnn]; exact impl_jf hn hc hs
  have HI1 : Hid (∀ X, Calls Try.prog 61 #[.int .i64 rule, .int .i64 1, .int .i64 4] X fun e w' => e = .returned (.bool q1) ∧ w' = X) := fun X => impl_insC rule 1 4 q1 hq1 X
  have HI2 : Hid (∀ X, Calls Try.prog 61 #[.int .i64 now, .int .i64 0, .int .i64 1000000000] X fun e w' => e = .returned (.bool q2) ∧ w' = X) := fun X => impl_insC now 0 1000000000 q2 hq2 X
  rw [← hC, ← hnn]
  clear hJ hnn hq1 hq2 hC hs hn hc
  go_enter Try.func36, Try.ntmps36
  go_wp2_with (fail)
  refine HJ.out.mono ?_
  rintro e w1 ⟨rfl, hb⟩
  clear HJ
  by_cases hJ0 : J = 0
  case neg =>
    have HE : Hid (C = J) := by unfold Hid; rw [HC.out, if_pos hJ0]
    have h1 : (J != 0) = true := by simpa using hJ0
    clear HC
    go_wp2
    go_returns
    exact ⟨by rw [HE.out]; rfl, hb⟩
  subst hJ0
  go_wp2_with (fail)
  refine (HI1.out _).mono ?_
  rintro e w2 ⟨rfl, hw⟩
  subst w2
  cases q1
  · have HE : Hid (C = 1) := by unfold Hid; rw [HC.out, if_neg (fun e => e rfl), if_pos rfl]
    clear HC
    go_wp2
    go_returns
    exact ⟨by rw [HE.out]; rfl, hb⟩
  go_wp2_with (fail)
  refine (HI2.out _).mono ?_
  rintro e w2 ⟨rfl, hw⟩
  subst w2
  cases q2
  · have HE : Hid (C = 3) := by unfold Hid; rw [HC.out]; rfl
    clear HC
    go_wp2
    go_returns
    exact ⟨by rw [HE.out]; rfl, hb⟩
  have HE : Hid (C = 0) := by unfold Hid; rw [HC.out]; rfl
  clear HC
  go_wp2
  go_returns
  exact ⟨by rw [HE.out]; rfl, hb⟩

end Go.Proofs.Ytjbghflphngnkaa
