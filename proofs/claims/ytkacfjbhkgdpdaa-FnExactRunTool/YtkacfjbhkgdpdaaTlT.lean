/- Proved here: what the laws' package's small functions on approvals do (hand one on, copy a list, compare). -/
import Derived.Test.YtkacfjbhkgdpdaaGen
import Derived.Test.YtkacfjbhkgdpdaaAtL
import Derived.OpenShut
import Derived.Lib.SmallJoins
namespace Go.Proofs.Ytkacfjbhkgdpdaa
open Go.ChangeShapes Go.WideShapes Go.ChangeAt Go.RowKit Go.Joins
set_option linter.unusedVariables false
set_option linter.unusedSimpArgs false

/-- An approval: a recipe's name and its sum. -/
structure Ap where
  nm : ByteArray
  su : Int

def apC (x : Ap) : List Value := [.string x.nm, .int .i64 x.su]
theorem apC_len (x : Ap) : (apC x).length = 2 := rfl
theorem apC_one (x : Ap) : ∀ u ∈ apC x, u.oneCell' = true := by
  intro u hu
  simp only [apC, List.mem_cons, List.not_mem_nil, or_false] at hu
  rcases hu with rfl | rfl <;> rfl
theorem info_Approval : (Try.prog.info? 72).map (fun i => (i.zero, i.size, i.bytes)) = some (some (.agg #[.string ByteArray.empty, .int .i64 0]), 2, 24) := by kernel_rfl
/-- The cells of an element, one by one. -/
theorem apC_at {w : World} {g o : Nat} {x : Ap} (h : ∀ i, i < 2 → w.cell? ⟨g, o + i, none⟩ = (apC x)[i]?) : w.cell? ⟨g, o, none⟩ = some (.string x.nm) ∧ w.cell? ⟨g, o + 1, none⟩ = some (.int .i64 x.su) :=
  ⟨h 0 (by omega), h 1 (by omega)⟩

set_option maxHeartbeats 1600000 in
theorem toApproval_any (x : Ap) (w : World) :
    Calls Try.prog 48 #[.agg #[.string x.nm, .int .i64 x.su]] w fun e w' => e = .returned (.agg #[.string x.nm, .int .i64 x.su]) ∧ Below w.heap.size w w' := by
  go_enter Try.func48, Try.ntmps48
  go_wp2
  go_returns
  exact ⟨rfl, by (repeat' (first | (with_reducible exact Below.refl _ _) | (with_reducible assumption) | (with_reducible refine Below.setCell ?_ ?_ _) | (with_reducible refine Below.alloc ?_ ?_ _) | (with_reducible refine below_drewN ?_ _) | (with_reducible refine Below.drew ?_) | (with_reducible exact Nat.le_refl _) | omega | (simp; done) | (simp; omega)))⟩

set_option maxHeartbeats 1600000 in
theorem eqApproval_same (x : Ap) (w : World) :
    Calls Try.prog 54 #[.agg #[.string x.nm, .int .i64 x.su], .agg #[.string x.nm, .int .i64 x.su]] w fun e w' => e = .returned (.bool true) ∧ Below w.heap.size w w' := by
  go_enter Try.func54, Try.ntmps54
  go_wp2
  go_returns
  exact ⟨rfl, by (repeat' (first | (with_reducible exact Below.refl _ _) | (with_reducible assumption) | (with_reducible refine Below.setCell ?_ ?_ _) | (with_reducible refine Below.alloc ?_ ?_ _) | (with_reducible refine below_drewN ?_ _) | (with_reducible refine Below.drew ?_) | (with_reducible exact Nat.le_refl _) | omega | (simp; done) | (simp; omega)))⟩

set_option maxRecDepth 10000 in
set_option maxHeartbeats 3200000 in
theorem toApprovalS_any {w : World} {v : Value} {s : List Ap} (hn : s.length ≤ 1048576) (h : RG 2 apC w v s) :
    Calls Try.prog 32 #[v] w fun e w' => ∃ g, e = .returned (.slice (some ⟨g, 0, none⟩) s.length s.length) ∧ OG 72 2 apC w' w.heap.size (.slice (some ⟨g, 0, none⟩) s.length s.length) s ∧ Below w.heap.size w w' := by
  obtain ⟨a, c, rfl⟩ := h.form
  have H : Hid (RG 2 apC w (.slice a s.length c) s) := h
  clear h
  obtain ⟨i0, hi, hz0, hz1, hz2⟩ := info_parts info_Approval
  obtain ⟨n, hnn⟩ : ∃ n, n = s.length := ⟨_, rfl⟩
  have HN : Hid (n = s.length) := hnn
  rw [← hnn] at hn H ⊢
  clear hnn
  go_enter Try.func32, Try.ntmps32
  go_wp2_with (at_make; refine wpList_make_full _ rfl _ _ 29 rfl w.heap.size 72 i0 (.agg #[.string ByteArray.empty, .int .i64 0]) 2 Try.underlying29 hi hz0 hz1 _ _ _ _ n rfl rfl rfl rfl (by rw [hz2]; omega) (by unfold maxLen; omega) (Nat.le_refl _) ?_; intro w2 hown2 hgrow2)
  have hb2 : Below w.heap.size w w2 := (Below.refl _ _).grown hgrow2 (Nat.le_refl _) (fun k h => by cases h)
  have HS : Hid (Fill 72 2 apC w2 w.heap.size w.heap.size n s 0 ∧ Below w.heap.size w w2) := ⟨⟨_, hown2, fun t ht => by omega⟩, hb2⟩
  clear hown2 hgrow2 hb2
  go_loopw [4] (fun i wr => ∃ j : Nat, j ≤ n ∧ i = .int .i64 j ∧ Hid (Fill 72 2 apC wr w.heap.size w.heap.size n s j ∧ Below w.heap.size w wr)) (fun i _ => n - (intOf i).toNat)
  case atStart => exact ⟨0, Nat.zero_le _, rfl, HS.out⟩
  case round =>
    clear HS
    obtain ⟨j, hjn, rfl, hR⟩ := hrel
    by_cases hlt : j < n
    · have hjl : j < s.length := by rw [← HN.out]; exact hlt
      obtain ⟨g, o, c2, he, hg, hj⟩ := (H.out.below hR.out.2).pos (by rw [← HN.out]; omega)
      simp only [Value.slice.injEq] at he
      obtain ⟨rfl, hx1, hx2⟩ := he
      clear hx1 hx2
      obtain ⟨c0, c1⟩ := apC_at (hj j hjl)
      obtain ⟨x, hx⟩ : ∃ x, x = s[j] := ⟨_, rfl⟩
      rw [← hx] at c0 c1
      have HX : Hid (x = s[j]) := hx
      clear hx hj
      have b0 : (0 : Int) ≤ (j : Int) := by omega
      have b1 : (j : Int) < (n : Int) := by omega
      go_wp2_with (fail)
      refine (toApproval_any x _).mono ?_
      rintro e w3 ⟨rfl, hb3⟩
      have hF3 := hR.out.1.below hb3
      have hbl3 : Below w.heap.size w w3 := hR.out.2.trans (hb3.mono hR.out.2.size)
      obtain ⟨⟨u0, g0⟩, f0⟩ := hF3.there (j * 2) (by omega)
      obtain ⟨⟨u1, g1⟩, f1⟩ := hF3.there (j * 2 + 1) (by omega)
      have HP : Hid (Fill 72 2 apC (((w3.setCell ⟨w.heap.size, j * 2, none⟩ (.string x.nm)).setCell ⟨w.heap.size, j * 2 + 1, none⟩ (.int .i64 x.su))) w.heap.size w.heap.size n s (j + 1) ∧ Below w.heap.size w (((w3.setCell ⟨w.heap.size, j * 2, none⟩ (.string x.nm)).setCell ⟨w.heap.size, j * 2 + 1, none⟩ (.int .i64 x.su)))) := by
        have h1 := hF3.put apC_len HN.out hjl
        rw [← HX.out] at h1
        exact ⟨h1, puts_below hbl3 (Nat.le_refl _) (apC x) 0⟩
      clear hF3 hbl3 hb3 hR c0 c1
      go_wp2
      go_roundw
      case rel => exact ⟨j + 1, by omega, by go_num, HP.out⟩
      case measure => simp [intOf]; omega
    · have HD : Hid (OG 72 2 apC wr w.heap.size (.slice (some ⟨w.heap.size, 0, none⟩) n n) s ∧ Below w.heap.size w wr) := ⟨hR.out.1.done apC_len HN.out (by rw [← HN.out]; omega), hR.out.2⟩
      clear hR
      go_wp2
      go_returns
      exact ⟨w.heap.size, rfl, HD.out.1, HD.out.2⟩

set_option maxHeartbeats 1600000 in
theorem eqApprovalS_same {w : World} {va vb : Value} {s : List Ap} (hn : s.length ≤ 1099511627776) (ha : RG 2 apC w va s) (hb : RG 2 apC w vb s) :
    Calls Try.prog 37 #[va, vb] w fun e w' => e = .returned (.bool true) ∧ Below w.heap.size w w' := by
  obtain ⟨a1, c1', rfl⟩ := ha.form
  obtain ⟨a2, c2', rfl⟩ := hb.form
  obtain ⟨n, hnn⟩ : ∃ n, n = s.length := ⟨_, rfl⟩
  rw [← hnn] at hn ha hb ⊢
  have H : Hid (RG 2 apC w (.slice a1 n c1') s ∧ RG 2 apC w (.slice a2 n c2') s ∧ n = s.length) := ⟨ha, hb, hnn⟩
  clear ha hb hnn
  go_enter Try.func37, Try.ntmps37
  go_wp2
  go_loopw [5] (fun i wr => ∃ j : Nat, j ≤ n ∧ i = .int .i64 j ∧ Hid (Below w.heap.size w wr)) (fun i _ => n - (intOf i).toNat)
  case atStart => exact ⟨0, Nat.zero_le _, rfl, Below.refl _ _⟩
  case round =>
    obtain ⟨j, hjn, rfl, hR⟩ := hrel
    by_cases hlt : j < n
    · have hjl : j < s.length := by rw [← H.out.2.2]; exact hlt
      obtain ⟨g, o, d1, he, hg, hj⟩ := (H.out.1.below hR.out).pos (by rw [← H.out.2.2]; omega)
      simp only [Value.slice.injEq] at he
      obtain ⟨rfl, hx1, hx2⟩ := he
      obtain ⟨g', o', d2, he', hg', hj'⟩ := (H.out.2.1.below hR.out).pos (by rw [← H.out.2.2]; omega)
      simp only [Value.slice.injEq] at he'
      obtain ⟨rfl, hx3, hx4⟩ := he'
      clear hx1 hx2 hx3 hx4
      obtain ⟨c0, c1⟩ := apC_at (hj j hjl)
      obtain ⟨e0, e1⟩ := apC_at (hj' j hjl)
      obtain ⟨x, hx⟩ : ∃ x, x = s[j] := ⟨_, rfl⟩
      rw [← hx] at c0 c1 e0 e1
      have hcall : Hid (∀ W, Calls Try.prog 54 #[.agg #[.string x.nm, .int .i64 x.su], .agg #[.string x.nm, .int .i64 x.su]] W fun e w' => e = .returned (.bool true) ∧ Below W.heap.size W w') := eqApproval_same x
      clear hx hj hj'
      have b0 : (0 : Int) ≤ (j : Int) := by omega
      have b1 : (j : Int) < (n : Int) := by omega
      go_wp2_with (fail)
      (refine wp_region_und (by kernel_rfl) (by kernel_rfl) (fun hund => ?_); (repeat (go_big_quiet_step (first | (go_at_call 54; with_reducible refine und_call ?_ (hcall.out _); exact Nat.le_refl _)))); with_reducible refine wpQuiet_nil ?_; clear hund; intro W1 hb1; obtain ⟨hc1, hf1⟩ := undcell hb1)
      have HB : Hid (Below w.heap.size w W1) := hR.out.trans (hb1.mono hR.out.size)
      clear hb1 hc1 hf1
      go_wp2
      go_roundw
      case rel => exact ⟨j + 1, by omega, by go_num, HB.out⟩
      case measure => simp [intOf]; omega
    · go_wp2
      go_returns
      exact ⟨rfl, hR.out⟩

end Go.Proofs.Ytkacfjbhkgdpdaa
