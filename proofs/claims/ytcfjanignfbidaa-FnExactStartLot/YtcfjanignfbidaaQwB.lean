/- Proved here: what the laws' package's small functions on windows do (weigh, copy, compare); how a list of windows that came in is read. -/
import Derived.Test.YtcfjanignfbidaaQwC
import Derived.OpenShut
import Derived.Lib.SmallJoins
namespace Go.Proofs.Ytcfjanignfbidaa
open Go.ChangeShapes Go.WideShapes Go.ChangeAt Go.RowKit Go.Joins Go.Deep
set_option linter.unusedVariables false
set_option linter.unusedSimpArgs false

set_option maxHeartbeats 1600000 in
theorem toWindow_any (x : Wdw) (w : World) :
    Calls Try.prog 68 #[.agg #[.int .i64 x.f, .int .i64 x.t, .int .i64 x.m]] w fun e w' => e = .returned (.agg #[.int .i64 x.f, .int .i64 x.t, .int .i64 x.m]) ∧ Below w.heap.size w w' := by
  go_enter Try.func68, Try.ntmps68
  go_wp2
  go_returns
  exact ⟨rfl, by (repeat' (first | (with_reducible exact Below.refl _ _) | (with_reducible assumption) | (with_reducible refine Below.setCell ?_ ?_ _) | (with_reducible refine Below.alloc ?_ ?_ _) | (with_reducible refine below_drewN ?_ _) | (with_reducible refine Below.drew ?_) | (with_reducible exact Nat.le_refl _) | omega | (simp; done) | (simp; omega)))⟩

set_option maxHeartbeats 1600000 in
theorem eqWindow_same (x : Wdw) (w : World) :
    Calls Try.prog 74 #[.agg #[.int .i64 x.f, .int .i64 x.t, .int .i64 x.m], .agg #[.int .i64 x.f, .int .i64 x.t, .int .i64 x.m]] w fun e w' => e = .returned (.bool true) ∧ Below w.heap.size w w' := by
  go_enter Try.func74, Try.ntmps74
  go_wp2
  go_returns
  exact ⟨rfl, by (repeat' (first | (with_reducible exact Below.refl _ _) | (with_reducible assumption) | (with_reducible refine Below.setCell ?_ ?_ _) | (with_reducible refine Below.alloc ?_ ?_ _) | (with_reducible refine below_drewN ?_ _) | (with_reducible refine Below.drew ?_) | (with_reducible exact Nat.le_refl _) | omega | (simp; done) | (simp; omega)))⟩

set_option maxRecDepth 10000 in
set_option maxHeartbeats 3200000 in
theorem toWindowS_any {w : World} {v : Value} {s : List Wdw} (hn : s.length ≤ 1048576) (h : RG 3 wdC w v s) :
    Calls Try.prog 40 #[v] w fun e w' => ∃ g, e = .returned (.slice (some ⟨g, 0, none⟩) s.length s.length) ∧ OG 99 3 wdC w' w.heap.size (.slice (some ⟨g, 0, none⟩) s.length s.length) s ∧ Below w.heap.size w w' := by
  obtain ⟨a, c, rfl⟩ := h.form
  have H : Hid (RG 3 wdC w (.slice a s.length c) s) := h
  clear h
  obtain ⟨i0, hi, hz0, hz1, hz2⟩ := info_parts info_Window
  obtain ⟨n, hnn⟩ : ∃ n, n = s.length := ⟨_, rfl⟩
  have HN : Hid (n = s.length) := hnn
  rw [← hnn] at hn H ⊢
  clear hnn
  go_enter Try.func40, Try.ntmps40
  go_wp2_with (at_make; refine wpList_make_full _ rfl _ _ 28 rfl w.heap.size 99 i0 (.agg #[.int .i64 0, .int .i64 0, .int .i64 0]) 3 Try.underlying28 hi hz0 hz1 _ _ _ _ n rfl rfl rfl rfl (by rw [hz2]; omega) (by unfold maxLen; omega) (Nat.le_refl _) ?_; intro w2 hown2 hgrow2)
  have hb2 : Below w.heap.size w w2 := (Below.refl _ _).grown hgrow2 (Nat.le_refl _) (fun k h => by cases h)
  have HS : Hid (Fill 99 3 wdC w2 w.heap.size w.heap.size n s 0 ∧ Below w.heap.size w w2) := ⟨⟨_, hown2, fun t ht => by omega⟩, hb2⟩
  clear hown2 hgrow2 hb2
  go_loopw [4] (fun i wr => ∃ j : Nat, j ≤ n ∧ i = .int .i64 j ∧ Hid (Fill 99 3 wdC wr w.heap.size w.heap.size n s j ∧ Below w.heap.size w wr)) (fun i _ => n - (intOf i).toNat)
  case atStart => exact ⟨0, Nat.zero_le _, rfl, HS.out⟩
  case round =>
    clear HS
    obtain ⟨j, hjn, rfl, hR⟩ := hrel
    by_cases hlt : j < n
    · have hjl : j < s.length := by rw [← HN.out]; exact hlt
      obtain ⟨g, o, c2, he, hg, hj⟩ := (H.out.below hR.out.2).pos (by rw [← HN.out]; omega)
      simp only [Value.slice.injEq] at he
      obtain ⟨rfl, hx1, hx2⟩ := he
      clear hx1 hx2
      obtain ⟨c0, c1, c2⟩ := wdC_at (hj j hjl)
      obtain ⟨x, hx⟩ : ∃ x, x = s[j] := ⟨_, rfl⟩
      rw [← hx] at c0 c1 c2
      have HX : Hid (x = s[j]) := hx
      clear hx hj
      have b0 : (0 : Int) ≤ (j : Int) := by omega
      have b1 : (j : Int) < (n : Int) := by omega
      go_wp2_with (fail)
      refine (toWindow_any x _).mono ?_
      rintro e w3 ⟨rfl, hb3⟩
      have hF3 := hR.out.1.below hb3
      have hbl3 : Below w.heap.size w w3 := hR.out.2.trans (hb3.mono hR.out.2.size)
      obtain ⟨⟨u0, g0⟩, f0⟩ := hF3.there (j * 3) (by omega)
      obtain ⟨⟨u1, g1⟩, f1⟩ := hF3.there (j * 3 + 1) (by omega)
      obtain ⟨⟨u2, g2⟩, f2⟩ := hF3.there (j * 3 + 2) (by omega)
      have HP : Hid (Fill 99 3 wdC ((((w3.setCell ⟨w.heap.size, j * 3, none⟩ (.int .i64 x.f)).setCell ⟨w.heap.size, j * 3 + 1, none⟩ (.int .i64 x.t)).setCell ⟨w.heap.size, j * 3 + 2, none⟩ (.int .i64 x.m))) w.heap.size w.heap.size n s (j + 1) ∧ Below w.heap.size w ((((w3.setCell ⟨w.heap.size, j * 3, none⟩ (.int .i64 x.f)).setCell ⟨w.heap.size, j * 3 + 1, none⟩ (.int .i64 x.t)).setCell ⟨w.heap.size, j * 3 + 2, none⟩ (.int .i64 x.m)))) := by
        have h1 := hF3.put wdC_len HN.out hjl
        rw [← HX.out] at h1
        exact ⟨h1, puts_below hbl3 (Nat.le_refl _) (wdC x) 0⟩
      clear hF3 hbl3 hb3 hR c0 c1 c2
      go_wp2
      go_roundw
      case rel => exact ⟨j + 1, by omega, by go_num, HP.out⟩
      case measure => simp [intOf]; omega
    · have HD : Hid (OG 99 3 wdC wr w.heap.size (.slice (some ⟨w.heap.size, 0, none⟩) n n) s ∧ Below w.heap.size w wr) := ⟨hR.out.1.done wdC_len HN.out (by rw [← HN.out]; omega), hR.out.2⟩
      clear hR
      go_wp2
      go_returns
      exact ⟨w.heap.size, rfl, HD.out.1, HD.out.2⟩

set_option maxHeartbeats 1600000 in
theorem eqWindowS_same {w : World} {va vb : Value} {s : List Wdw} (hn : s.length ≤ 1099511627776) (ha : RG 3 wdC w va s) (hb : RG 3 wdC w vb s) :
    Calls Try.prog 48 #[va, vb] w fun e w' => e = .returned (.bool true) ∧ Below w.heap.size w w' := by
  obtain ⟨a1, c1', rfl⟩ := ha.form
  obtain ⟨a2, c2', rfl⟩ := hb.form
  obtain ⟨n, hnn⟩ : ∃ n, n = s.length := ⟨_, rfl⟩
  rw [← hnn] at hn ha hb ⊢
  have H : Hid (RG 3 wdC w (.slice a1 n c1') s ∧ RG 3 wdC w (.slice a2 n c2') s ∧ n = s.length) := ⟨ha, hb, hnn⟩
  clear ha hb hnn
  go_enter Try.func48, Try.ntmps48
  go_wp2
  go_loopw [5] (fun i wr => ∃ j : Nat, j ≤ n ∧ i = .int .i64 j ∧ Hid (Below w.heap.size w wr)) (fun i _ => n - (intOf i).toNat)
  case atStart => exact ⟨0, Nat.zero_le _, rfl, Below.refl _ _⟩
  case round =>
    obtain ⟨j, hjn, rfl, hR⟩ := hrel
    by_cases hlt : j < n
    · have hjl : j < s.length := by rw [← H.out.2.2]; exact hlt
      obtain ⟨g, o, d1, he, hg, hj⟩ := (H.out.1.below hR.out).pos (by rw [← H.out.2.2]; omega)
      simp only [Value.slice.injEq] at he
      obtain ⟨rfl, hx1, hx2⟩ := he
      obtain ⟨g', o', d2, he', hg', hj'⟩ := (H.out.2.1.below hR.out).pos (by rw [← H.out.2.2]; omega)
      simp only [Value.slice.injEq] at he'
      obtain ⟨rfl, hx3, hx4⟩ := he'
      clear hx1 hx2 hx3 hx4
      obtain ⟨c0, c1, c2⟩ := wdC_at (hj j hjl)
      obtain ⟨e0, e1, e2⟩ := wdC_at (hj' j hjl)
      obtain ⟨x, hx⟩ : ∃ x, x = s[j] := ⟨_, rfl⟩
      rw [← hx] at c0 c1 c2 e0 e1 e2
      have hcall : Hid (∀ W, Calls Try.prog 74 #[.agg #[.int .i64 x.f, .int .i64 x.t, .int .i64 x.m], .agg #[.int .i64 x.f, .int .i64 x.t, .int .i64 x.m]] W fun e w' => e = .returned (.bool true) ∧ Below W.heap.size W w') := eqWindow_same x
      clear hx hj hj'
      have b0 : (0 : Int) ≤ (j : Int) := by omega
      have b1 : (j : Int) < (n : Int) := by omega
      go_wp2_with (fail)
      (refine wp_region_und (by kernel_rfl) (by kernel_rfl) (fun hund => ?_); (repeat (go_big_quiet_step (first | (go_at_call 74; with_reducible refine und_call ?_ (hcall.out _); exact Nat.le_refl _)))); with_reducible refine wpQuiet_nil ?_; clear hund; intro W1 hb1; obtain ⟨hc1, hf1⟩ := undcell hb1)
      have HB : Hid (Below w.heap.size w W1) := hR.out.trans (hb1.mono hR.out.size)
      clear hb1 hc1 hf1
      go_wp2
      go_roundw
      case rel => exact ⟨j + 1, by omega, by go_num, HB.out⟩
      case measure => simp [intOf]; omega
    · go_wp2
      go_returns
      exact ⟨rfl, hR.out⟩

set_option maxHeartbeats 800000 in
theorem szWindowS_gen (a : Option Addr) (n c : Nat) (l : Int) (w : World) (h0 : 0 ≤ l) (h1 : l ≤ 1048576) (h2 : n ≤ maxLen) :
    Calls Try.prog 31 #[.slice a n c, .int .i64 l] w fun e w' => ∃ r, e = .returned (.int .i64 r) ∧ (r < 0 ∨ (0 ≤ r ∧ r ≤ l ∧ (n : Int) ≤ l)) ∧ Below w.heap.size w w' := by
  unfold maxLen at h2
  have hw : IntKind.i64.wrap (l - (n : Int)) = l - (n : Int) := by rw [IntKind.wrap_i64]; omega
  by_cases hn : l - (n : Int) < 0
  · go_enter Try.func31, Try.ntmps31
    go_wp2
    go_returns
    exact ⟨-1, rfl, Or.inl (by omega), by (repeat' (first | (with_reducible exact Below.refl _ _) | (with_reducible assumption) | (with_reducible refine Below.setCell ?_ ?_ _) | (with_reducible refine Below.alloc ?_ ?_ _) | (with_reducible refine below_drewN ?_ _) | (with_reducible refine Below.drew ?_) | (with_reducible exact Nat.le_refl _) | omega | (simp; done) | (simp; omega)))⟩
  · go_enter Try.func31, Try.ntmps31
    go_wp2
    go_returns
    exact ⟨_, rfl, Or.inr ⟨by omega, by omega, by omega⟩, by (repeat' (first | (with_reducible exact Below.refl _ _) | (with_reducible assumption) | (with_reducible refine Below.setCell ?_ ?_ _) | (with_reducible refine Below.alloc ?_ ?_ _) | (with_reducible refine below_drewN ?_ _) | (with_reducible refine Below.drew ?_) | (with_reducible exact Nat.le_refl _) | omega | (simp; done) | (simp; omega)))⟩

set_option maxRecDepth 100000 in
theorem window_cells {H : Type} {enc : TypeId × Value → H} {W : World} {fuel : Nat} {cs : List Value} {x : DataW H × List MemPlace} (h : DataW.trod enc Try.prog W 0 (fun _ => true) true fuel 105 cs = some x) : ∃ a : Wdw, cs = wdC a ∧ True := by
  obtain ⟨y0, y1, y2, n, hx, hl, h0, h1, h2⟩ := trod_struct3 Try.underlying105 h
  have k6 : Try.prog.cellsOf 105 = 3 := by kernel_rfl
  have k1 : Try.prog.cellsOf 2 = 1 := by kernel_rfl
  rw [k6] at hl
  obtain ⟨c0, c1, c2, rfl⟩ : ∃ c0 c1 c2, cs = [c0, c1, c2] := by
    match cs, hl with
    | [c0, c1, c2], _ => exact ⟨c0, c1, c2, rfl⟩
  obtain ⟨m0, f0, _, _⟩ := DataW.trod_int Try.underlying2 h0
  obtain ⟨m1, f1, _, _⟩ := DataW.trod_int Try.underlying2 h1
  obtain ⟨m2, f2, _, _⟩ := DataW.trod_int Try.underlying2 h2
  simp [k1] at f0 f1 f2
  subst f0 f1 f2
  exact ⟨⟨m0, m1, m2⟩, rfl, trivial⟩

set_option maxRecDepth 100000 in
theorem windows_open {H : Type} {enc : TypeId × Value → H} {W : World} {base : Nat} {v : Value} {d : DataW H} {p : List MemPlace}
    (hv : Value.okWide Try.prog W .any base 22 v) (h : DataW.Trod enc Try.prog W 0 (fun _ => true) true 22 v d p) :
    ∃ (a : Option Addr) (n c : Nat) (s : List Wdw), v = .slice a n c ∧ RG 3 wdC W (.slice a n c) s ∧ s.length ≤ maxLen := by
  obtain ⟨a0, len0, cap0, rfl⟩ := okWide_slice Try.underlying22 hv
  obtain ⟨fuel, hf⟩ := h
  have : Nonempty Wdw := ⟨⟨0, 0, 0⟩⟩
  obtain ⟨a, n, c, s, k, h1, h2, _⟩ := rg_of_trod (Q := fun _ => True) Try.underlying22 (show Try.prog.cellsOf 105 = 3 by kernel_rfl) (by omega) wdC_len (fun _ _ _ h => window_cells h) hf
  simp [Value.cells] at k
  obtain ⟨rfl, rfl, rfl⟩ := k
  exact ⟨_, _, _, s, rfl, h1, h2⟩

end Go.Proofs.Ytcfjanignfbidaa
