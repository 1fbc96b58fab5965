/- Proved here: ends of lines: linesBetween and endsOf of the program. -/
import Derived.Test.YtfjcebgknpccbabLnI
import Derived.Deep.AppendLies
namespace Go.Proofs.Ytfjcebgknpccbab
open Go.RowKit
set_option linter.unusedVariables false
set_option linter.unusedSimpArgs false

def flL (ls : List Ln) : List Int := ls.flatMap fun l => [l.f, l.t]
def lnAt (ls : List Ln) (i : Nat) : Ln := ls.getD i ⟨0, 0⟩
theorem lnAt_get {ls : List Ln} {i : Nat} (h : i < ls.length) : lnAt ls i = ls[i] := by simp [lnAt, h]
theorem flL_app (a b : List Ln) : flL (a ++ b) = flL a ++ flL b := by simp [flL]
theorem flL_len (a : List Ln) : (flL a).length = 2 * a.length := by
  induction a with
  | nil => rfl
  | cons x t ih => simp [flL] at ih ⊢; omega
theorem flL_at (ls : List Ln) (k : Nat) (hk : k < ls.length) : (flL ls).getD (2 * k) 0 = ls[k].f ∧ (flL ls).getD (2 * k + 1) 0 = ls[k].t := by
  induction ls generalizing k with
  | nil => simp at hk
  | cons x t ih =>
    cases k with
    | zero => simp [flL]
    | succ k =>
      have := ih k (by simpa using hk)
      have e1 : 2 * (k + 1) = 2 * k + 1 + 1 := by omega
      have e2 : 2 * (k + 1) + 1 = (2 * k + 1) + 1 + 1 := by omega
      rw [e1, show 2 * k + 1 + 1 + 1 = (2 * k + 1) + 1 + 1 by omega]
      have hc : flL (x :: t) = x.f :: x.t :: flL t := by simp [flL]
      rw [hc]
      simpa using this

set_option maxRecDepth 10000 in
set_option maxHeartbeats 12800000 in
theorem impl_lb {w : World} {v : Value} {ls : List Ln} (hn : ls.length ≤ 1000) (h : RdI w v (flL ls)) :
    Calls Try.prog 35 #[v] w fun e w' => ∃ r, e = .returned r ∧ OG 57 2 lnC w' w.heap.size r ls ∧ Below w.heap.size w w' := by
  obtain ⟨a, c, rfl⟩ := h.form
  obtain ⟨n, hnn⟩ : ∃ n, n = ls.length := ⟨_, rfl⟩
  obtain ⟨m, hmm⟩ : ∃ m, m = (flL ls).length := ⟨_, rfl⟩
  rw [← hmm] at h ⊢
  have hm2 : m = 2 * n := by rw [hmm, hnn, flL_len]
  have H : Hid (RdI w (.slice a m c) (flL ls) ∧ n = ls.length) := ⟨h, hnn⟩
  clear h hmm
  have hn1 : n ≤ 1000 := by omega
  have hq : (m : Int).tdiv 2 = (n : Int) := by rw [Int.tdiv_eq_ediv_of_nonneg (by omega)]; omega
  have hq2 : (m : Int) / 2 = (n : Int) := by omega
  have HM2 : Hid (m = 2 * n) := hm2
  clear hnn hn hm2
  obtain ⟨i0, hi, hz0, hz1, hz2⟩ := info_parts info_Line
  go_enter Try.func35, Try.ntmps35
  go_wp2_with (at_make; refine wpList_make_full _ rfl _ _ 28 rfl w.heap.size 57 i0 (.agg #[.int .i64 0, .int .i64 0]) 2 Try.underlying28 hi hz0 hz1 _ _ _ _ n rfl rfl (by first | rfl | exact hq | exact hq2) (by first | rfl | exact hq | exact hq2) (by rw [hz2]; omega) (by unfold maxLen; omega) (Nat.le_refl _) ?_; intro w2 hown2 hgrow2)
  have HS : Hid (Fill 57 2 lnC w2 w.heap.size w.heap.size n ls 0 ∧ Below w.heap.size w w2) := ⟨⟨_, hown2, fun t ht => by omega⟩, (Below.refl _ _).grown hgrow2 (Nat.le_refl _) (fun k h => by cases h)⟩
  clear hown2 hgrow2
  go_loopw [11] (fun i wr => ∃ j : Nat, j ≤ n ∧ i = .int .i64 j ∧ Hid (Fill 57 2 lnC wr w.heap.size w.heap.size n ls j ∧ Below w.heap.size w wr)) (fun i _ => n - (intOf i).toNat)
  case atStart => exact ⟨0, Nat.zero_le _, rfl, HS.out⟩
  case round =>
    clear HS
    obtain ⟨j, hj, rfl, hR⟩ := hrel
    by_cases hlt : j < n
    · have b0 : (0 : Int) ≤ (j : Int) := by omega
      have b1 : (j : Int) < (n : Int) := by omega
      have hjl : j < ls.length := by rw [← H.out.2]; exact hlt
      obtain ⟨g, o, hag, hgw, hx0⟩ := rd_at (j := 2 * j) (H.out.1.below hR.out.2) (by have := HM2.out; omega)
      obtain ⟨g', o', hag', _, hx1⟩ := rd_at (j := 2 * j + 1) (H.out.1.below hR.out.2) (by have := HM2.out; omega)
      subst hag
      injection hag' with hag'
      injection hag' with e1 e2
      subst e1 e2
      rw [(flL_at ls j hjl).1] at hx0
      rw [(flL_at ls j hjl).2] at hx1
      obtain ⟨x, hx⟩ : ∃ x, x = ls[j] := ⟨_, rfl⟩
      rw [← hx] at hx0 hx1
      obtain ⟨⟨u0, g0⟩, f0⟩ := hR.out.1.there (j * 2) (by omega)
      obtain ⟨⟨u1, g1⟩, f1⟩ := hR.out.1.there (j * 2 + 1) (by omega)
      have HP : Hid (Fill 57 2 lnC ((wr.drew.setCell ⟨w.heap.size, j * 2, none⟩ (.int .i64 x.f)).setCell ⟨w.heap.size, j * 2 + 1, none⟩ (.int .i64 x.t)) w.heap.size w.heap.size n ls (j + 1) ∧ Below w.heap.size w ((wr.drew.setCell ⟨w.heap.size, j * 2, none⟩ (.int .i64 x.f)).setCell ⟨w.heap.size, j * 2 + 1, none⟩ (.int .i64 x.t))) := by
        have h1 := (hR.out.1.below ((Below.refl _ _).drew)).put lnC_len H.out.2 hjl
        rw [← hx] at h1
        exact ⟨h1, puts_below (hR.out.2.drew) (Nat.le_refl _) (lnC x) 0⟩
      have hm0 : (0 : Int) ≤ 2 * (j : Int) := by omega
      have hm1 : 2 * (j : Int) + 1 < (m : Int) := by have := HM2.out; omega
      have hm2 : 2 * (j : Int) < (m : Int) := by omega
      have hm3 : (0 : Int) ≤ 2 * (j : Int) + 1 := by omega
      have e1 : IntKind.i64.wrap (2 * (j : Int)) = 2 * (j : Int) := by rw [IntKind.wrap_i64]; omega
      have e2 : IntKind.i64.wrap (2 * (j : Int) + 1) = 2 * (j : Int) + 1 := by rw [IntKind.wrap_i64]; omega
      have e3 : (2 * (j : Int)).toNat = 2 * j := by omega
      have e4 : (2 * (j : Int) + 1).toNat = 2 * j + 1 := by omega
      clear hR hx
      go_wp2_with (fail)
      refine wp_region_still_tail 15 (by kernel_rfl) (by kernel_rfl) ?_
      have hdw : ({ wr with drawn := wr.drawn + 1 } : World) = wr.drew := rfl
      rw [hdw]
      clear hdw
      simp only [List.take_succ_cons, List.take_zero, List.drop_succ_cons, List.drop_zero]
      iterate 15 still_step
      refine wpStill_nil ?_
      go_wp2
      go_roundw
      case rel => exact ⟨j + 1, by omega, by go_num, HP.out⟩
      case measure => simp [intOf]; omega
    · have b1 : ¬ (j : Int) < (n : Int) := by omega
      have HD : Hid (OG 57 2 lnC wr w.heap.size (.slice (some ⟨w.heap.size, 0, none⟩) n n) ls ∧ Below w.heap.size w wr) := ⟨hR.out.1.done lnC_len H.out.2 (by rw [← H.out.2]; omega), hR.out.2⟩
      clear hR
      go_wp2
      go_returns
      exact ⟨_, rfl, HD.out.1, HD.out.2⟩

theorem flL_take {ls : List Ln} {k : Nat} (hk : k < ls.length) : flL (ls.take (k + 1)) = flL (ls.take k) ++ [ls[k].f, ls[k].t] := by
  rw [List.take_succ_eq_append_getElem hk, flL_app]; rfl
theorem IS.snoc2 {w : World} {B : Nat} {v : Value} {xs : List Int} {y z : Int} (h : w.ownsRow B 2 1 v (xs.length + 2) (xs.map (Value.int .i64) ++ [.int .i64 y, .int .i64 z])) : IS w B v (xs ++ [y, z]) := by
  unfold IS
  rw [List.length_append, List.map_append]
  exact h
set_option maxRecDepth 10000 in
set_option maxHeartbeats 6400000 in
theorem impl_eo {w : World} {v : Value} {ls : List Ln} (hn : ls.length ≤ 100) (h : RG 2 lnC w v ls) :
    Calls Try.prog 33 #[v] w fun e w' => ∃ g n c, e = .returned (.slice (some ⟨g, 0, none⟩) n c) ∧ IS w' w.heap.size (.slice (some ⟨g, 0, none⟩) n c) (flL ls) ∧ Below w.heap.size w w' := by
  obtain ⟨a, c, rfl⟩ := h.form
  obtain ⟨n, hnn⟩ : ∃ n, n = ls.length := ⟨_, rfl⟩
  rw [← hnn] at h hn ⊢
  have H : Hid (RG 2 lnC w (.slice a n c) ls ∧ n = ls.length) := ⟨h, hnn⟩
  clear h hnn
  obtain ⟨i0, hi, hz0, hz1, hz2⟩ := info_parts info_i64
  have e2 : IntKind.i64.wrap (2 * (n : Int)) = 2 * (n : Int) := by rw [IntKind.wrap_i64]; omega
  go_enter Try.func33, Try.ntmps33
  go_wp2_with (at_make; refine wpList_make_own _ rfl _ _ 23 rfl w.heap.size 2 i0 (.int .i64 0) 1 Try.underlying23 hi hz0 hz1 _ _ _ (2 * n) rfl rfl (by omega) (by rw [hz2]; omega) (by unfold maxLen; omega) (Nat.le_refl _) ?_; intro w2 hown2 hgrow2)
  have HS : Hid (IS w2 w.heap.size (.slice (some ⟨w.heap.size, 0, none⟩) 0 (2 * n)) (flL (ls.take 0)) ∧ Below w.heap.size w w2) := ⟨by simpa [IS, flL] using hown2, (Below.refl _ _).grown hgrow2 (Nat.le_refl _) (fun k h => by cases h)⟩
  clear hown2 hgrow2
  go_loopw [3, 12] (fun o i wr => ∃ (k : Nat) (g m c : Nat), k ≤ n ∧ o = .slice (some ⟨g, 0, none⟩) m c ∧ i = .int .i64 k ∧ Hid (IS wr w.heap.size (.slice (some ⟨g, 0, none⟩) m c) (flL (ls.take k)) ∧ Below w.heap.size w wr)) (fun _ i _ => n - (intOf i).toNat)
  case atStart => exact ⟨0, _, _, _, Nat.zero_le _, rfl, rfl, HS.out⟩
  case round =>
    clear HS
    obtain ⟨k, g, m, cc, hk, rfl, rfl, hR⟩ := hrel
    by_cases hlt : k < n
    · have b0 : (0 : Int) ≤ (k : Int) := by omega
      have b1 : (k : Int) < (n : Int) := by omega
      have hkl : k < ls.length := by rw [← H.out.2]; exact hlt
      obtain ⟨gl, o, c2, he, hg, hj⟩ := (H.out.1.below hR.out.2).pos (by omega)
      simp only [Value.slice.injEq] at he
      obtain ⟨rfl, hx1, hx2⟩ := he
      clear hx1 hx2
      obtain ⟨c0, c1⟩ := lnC_at (hj k hkl)
      obtain ⟨x, hx⟩ : ∃ x, x = ls[k] := ⟨_, rfl⟩
      rw [← hx] at c0 c1
      have HST : Hid (flL (ls.take (k + 1)) = flL (ls.take k) ++ [x.f, x.t]) := by unfold Hid; rw [flL_take hkl, hx]
      have hlen : (flL (ls.take k)).length ≤ 200 := by rw [flL_len]; simp; omega
      have hm : m = (flL (ls.take k)).length := by obtain ⟨_, _, e⟩ := hR.out.1.form; injection e
      generalize flL (ls.take k) = cur at hR HST hlen hm ⊢
      have HM : Hid (m = cur.length) := hm
      have hm2 : m ≤ 200 := by omega
      have HO : Hid (∀ W : World, Below wr.heap.size wr W → W.ownsRow w.heap.size 2 1 (.slice (some ⟨g, 0, none⟩) m cc) m (cur.map (Value.int .i64))) := fun W hW => by
        have h := hR.out.1.bel hW
        unfold IS at h
        rw [← hm] at h
        exact h
      have HBL : Hid (Below w.heap.size w wr) := hR.out.2
      have hszo : w.heap.size ≤ wr.heap.size := hR.out.2.size
      clear hx hj hR hm hlen
      go_wp2_with (at_builtin; refine wpList_append_own _ rfl _ _ 23 rfl w.heap.size 2 i0 (.int .i64 0) 1 8 Try.underlying23 hi hz0 hz1 hz2 rfl (by decide) (.slice (some ⟨g, 0, none⟩) m cc) m (cur.map (Value.int .i64)) rfl (HO.out _ (by (repeat' (first | (with_reducible exact Below.refl _ _) | (with_reducible assumption) | (with_reducible refine Below.setCell ?_ ?_ _) | (with_reducible refine Below.alloc ?_ ?_ _) | (with_reducible refine below_drewN ?_ _) | (with_reducible refine Below.drew ?_) | (with_reducible exact Nat.le_refl _) | omega | (simp; done) | (simp; omega))))) ⟨wr.heap.size + 1, 0, none⟩ 2 2 [.int .i64 x.f, .int .i64 x.t] rfl rfl (World.news_of_block (cs := #[.int .i64 x.f, .int .i64 x.t]) (t := 2) (fr := (0, 0)) (by have := heap_alloc_new (wr.alloc (.cells #[.int .i64 x.f, .int .i64 x.t] 57)) (.cells #[.int .i64 x.f, .int .i64 x.t] 2); simpa using this)) (by simp [Value.oneCell']) (by unfold maxLen; omega) (by omega) (by simp; omega) ?_; intro v6 w6 hown6 hgrow6 hnn6)
      have R6 : Hid ((∃ g c, v6 = .slice (some ⟨g, 0, none⟩) (m + 2) c) ∧ IS w6 w.heap.size v6 (flL (ls.take (k + 1))) ∧ Below w.heap.size w w6) := by
        have hi6 : IS w6 w.heap.size v6 (cur ++ [x.f, x.t]) := IS.snoc2 (by rw [← HM.out]; exact hown6)
        refine ⟨?_, by rw [HST.out]; exact hi6, ?_⟩
        · rcases hown6.2 with ⟨_, h0⟩ | ⟨g, cap, cur, h1, _⟩
          · omega
          · exact ⟨g, cap, h1⟩
        · have hB := HBL.out
          refine (show Below w.heap.size w _ from by (repeat' (first | (with_reducible exact Below.refl _ _) | (with_reducible assumption) | (with_reducible refine Below.setCell ?_ ?_ _) | (with_reducible refine Below.alloc ?_ ?_ _) | (with_reducible refine below_drewN ?_ _) | (with_reducible refine Below.drew ?_) | (with_reducible exact Nat.le_refl _) | omega | (simp; done) | (simp; omega)))).grown hgrow6 (by simp; omega) (fun q hq => ?_)
          have := (World.ownsRow.lt (HO.out wr (Below.refl _ _)) q hq).1
          omega
      clear hown6 hgrow6 hnn6 HO HST HM
      obtain ⟨⟨g6, c6, hv6⟩, R6b⟩ := R6.out
      have R7 : Hid (IS w6 w.heap.size (.slice (some ⟨g6, 0, none⟩) (m + 2) c6) (flL (ls.take (k + 1))) ∧ Below w.heap.size w w6) := by rw [← hv6]; exact R6b
      clear R6 R6b
      subst hv6
      go_wp2
      go_roundw
      case rel => exact ⟨k + 1, _, _, _, by omega, rfl, by go_num, R7.out⟩
      case measure => simp [intOf]; omega
    · have b1 : ¬ (k : Int) < (n : Int) := by omega
      have HD : Hid (IS wr w.heap.size (.slice (some ⟨g, 0, none⟩) m cc) (flL ls) ∧ Below w.heap.size w wr) := by
        have h := hR.out
        rw [List.take_of_length_le (by rw [← H.out.2]; omega)] at h
        exact h
      clear hR
      go_wp2
      go_returns
      exact ⟨_, _, _, rfl, HD.out.1, HD.out.2⟩

end Go.Proofs.Ytfjcebgknpccbab
