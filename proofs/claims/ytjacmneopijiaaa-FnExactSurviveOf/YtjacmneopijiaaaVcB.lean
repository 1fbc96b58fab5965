/- Proved here: what the laws' package's small functions on classes do (weigh, copy, compare); how a list of classes that came in is read. -/
import Derived.Test.YtjacmneopijiaaaVtM
import Derived.Test.YtjacmneopijiaaaTyGen
import Derived.OpenShut
import Derived.Lib.SmallJoins
namespace Go.Proofs.Ytjacmneopijiaaa
open Go.ChangeShapes Go.WideShapes Go.ChangeAt Go.RowKit Go.Joins Go.Deep
set_option linter.unusedVariables false
set_option linter.unusedSimpArgs false

theorem vc_at1 (w : World) (a b : Obj) : ((w.alloc a).alloc b).heap[w.heap.size + 1]? = some b := by have := heap_alloc_new (w.alloc a) b; simpa using this
theorem vc_at2 (w : World) (a b c : Obj) : (((w.alloc a).alloc b).alloc c).heap[w.heap.size + 2]? = some c := by have := heap_alloc_new ((w.alloc a).alloc b) c; simpa using this
theorem vc_six {w : World} {k : Nat} {a b c d e f : Value} {T : TypeId} (h : w.heap[k]? = some (.cells #[a, b, c, d, e, f] T)) :
    w.cell? ⟨k, 0, none⟩ = some a ∧ w.cell? ⟨k, 1, none⟩ = some b ∧ w.cell? ⟨k, 2, none⟩ = some c ∧ w.cell? ⟨k, 3, none⟩ = some d ∧ w.cell? ⟨k, 4, none⟩ = some e ∧ w.cell? ⟨k, 5, none⟩ = some f ∧ (∀ i, w.frozen? ⟨k, i, none⟩ = false) ∧ k < w.heap.size := by
  refine ⟨by simp [World.cell?, h], by simp [World.cell?, h], by simp [World.cell?, h], by simp [World.cell?, h], by simp [World.cell?, h], by simp [World.cell?, h], fun i => by simp [World.frozen?, h], ?_⟩
  rcases Nat.lt_or_ge k w.heap.size with h' | h'
  · exact h'
  · rw [Array.getElem?_eq_none h'] at h; cases h

set_option maxHeartbeats 1600000 in
theorem toFrac_vc (x : Fr) (w : World) :
    Calls Try.prog 66 #[.agg #[.int .i64 x.n, .int .i64 x.d]] w fun e w' => e = .returned (.agg #[.int .i64 x.n, .int .i64 x.d]) ∧ Below w.heap.size w w' := by
  go_enter Try.func66, Try.ntmps66
  go_wp2
  go_returns
  exact ⟨rfl, by (repeat' (first | (with_reducible exact Below.refl _ _) | (with_reducible assumption) | (with_reducible refine Below.setCell ?_ ?_ _) | (with_reducible refine Below.alloc ?_ ?_ _) | (with_reducible refine below_drewN ?_ _) | (with_reducible refine Below.drew ?_) | (with_reducible exact Nat.le_refl _) | omega | (simp; done) | (simp; omega)))⟩

set_option maxHeartbeats 1600000 in
theorem eqFrac_vc (x : Fr) (w : World) :
    Calls Try.prog 53 #[.agg #[.int .i64 x.n, .int .i64 x.d], .agg #[.int .i64 x.n, .int .i64 x.d]] w fun e w' => e = .returned (.bool true) ∧ Below w.heap.size w w' := by
  go_enter Try.func53, Try.ntmps53
  go_wp2
  go_returns
  exact ⟨rfl, by (repeat' (first | (with_reducible exact Below.refl _ _) | (with_reducible assumption) | (with_reducible refine Below.setCell ?_ ?_ _) | (with_reducible refine Below.alloc ?_ ?_ _) | (with_reducible refine below_drewN ?_ _) | (with_reducible refine Below.drew ?_) | (with_reducible exact Nat.le_refl _) | omega | (simp; done) | (simp; omega)))⟩

set_option maxHeartbeats 1600000 in
theorem toClass_any (x : Cls) (w : World) :
    Calls Try.prog 39 #[.agg #[.int .i64 x.k, .int .i64 x.lo, .int .i64 x.hi, .int .i64 x.nm, .int .i64 x.q.n, .int .i64 x.q.d]] w fun e w' => e = .returned (.agg #[.int .i64 x.k, .int .i64 x.lo, .int .i64 x.hi, .int .i64 x.nm, .int .i64 x.q.n, .int .i64 x.q.d]) ∧ Below w.heap.size w w' := by
  go_enter Try.func39, Try.ntmps39
  go_wp2_with (fail)
  refine (toFrac_vc x.q _).mono ?_
  rintro e w1 ⟨rfl, hb1⟩
  have g1 := (hb1.block (w.heap.size + 1) (by simp)).trans ((Below.heap_alloc _ _ _ (by simp)).trans (vc_at1 w _ _))
  have g2 := (hb1.block (w.heap.size + 2) (by simp)).trans (vc_at2 w _ _ _)
  have g0 := (hb1.block w.heap.size (by simp; omega)).trans ((Below.heap_alloc _ _ _ (by simp; omega)).trans ((Below.heap_alloc _ _ _ (by simp)).trans (heap_alloc_new w _)))
  have hb : Below w.heap.size w w1 := (show Below w.heap.size w _ from by (repeat' (first | (with_reducible exact Below.refl _ _) | (with_reducible assumption) | (with_reducible refine Below.setCell ?_ ?_ _) | (with_reducible refine Below.alloc ?_ ?_ _) | (with_reducible refine below_drewN ?_ _) | (with_reducible refine Below.drew ?_) | (with_reducible exact Nat.le_refl _) | omega | (simp; done) | (simp; omega)))).trans (hb1.mono (by simp; omega))
  clear hb1
  obtain ⟨r0, r1, r2, r3, r4, r5, rf, rl⟩ := vc_six g0
  obtain ⟨p0, p1, p2, p3, p4, p5, pf, pl⟩ := vc_six g1
  obtain ⟨q0, q1, q2, q3, q4, q5, qf, ql⟩ := vc_six g2
  have pf0 := pf 0
  have pf1 := pf 1
  have pf2 := pf 2
  have pf3 := pf 3
  have pf4 := pf 4
  have pf5 := pf 5
  have qf0 := qf 0
  have qf1 := qf 1
  have qf2 := qf 2
  have qf3 := qf 3
  have qf4 := qf 4
  have qf5 := qf 5
  clear pf qf g1 g2 g0 rf r0 r1 r2 r3 r4 r5
  go_wp21
  refine bodyPost_ret (by simp [results, Try.results39, go_sem, *]) rfl ⟨rfl, by (repeat' (first | (with_reducible exact Below.refl _ _) | (with_reducible assumption) | (with_reducible refine Below.setCell ?_ ?_ _) | (with_reducible refine Below.alloc ?_ ?_ _) | (with_reducible refine below_drewN ?_ _) | (with_reducible refine Below.drew ?_) | (with_reducible exact Nat.le_refl _) | omega | (simp; done) | (simp; omega)))⟩

set_option maxHeartbeats 1600000 in
theorem eqClass_same (x : Cls) (w : World) :
    Calls Try.prog 42 #[.agg #[.int .i64 x.k, .int .i64 x.lo, .int .i64 x.hi, .int .i64 x.nm, .int .i64 x.q.n, .int .i64 x.q.d], .agg #[.int .i64 x.k, .int .i64 x.lo, .int .i64 x.hi, .int .i64 x.nm, .int .i64 x.q.n, .int .i64 x.q.d]] w fun e w' => e = .returned (.bool true) ∧ Below w.heap.size w w' := by
  go_enter Try.func42, Try.ntmps42
  go_wp2_with (fail)
  refine (eqFrac_vc x.q _).mono ?_
  rintro e w1 ⟨rfl, hb1⟩
  have hb : Hid (Below w.heap.size w w1) := Below.trans (by (repeat' (first | (with_reducible exact Below.refl _ _) | (with_reducible assumption) | (with_reducible refine Below.setCell ?_ ?_ _) | (with_reducible refine Below.alloc ?_ ?_ _) | (with_reducible refine below_drewN ?_ _) | (with_reducible refine Below.drew ?_) | (with_reducible exact Nat.le_refl _) | omega | (simp; done) | (simp; omega)))) (hb1.mono (by simp; omega))
  clear hb1
  go_wp2
  go_returns
  exact ⟨rfl, hb.out⟩

set_option maxRecDepth 10000 in
set_option maxHeartbeats 3200000 in
theorem toClassS_any {w : World} {v : Value} {s : List Cls} (hn : s.length ≤ 1048576) (h : RG 6 vcC w v s) :
    Calls Try.prog 16 #[v] w fun e w' => ∃ g, e = .returned (.slice (some ⟨g, 0, none⟩) s.length s.length) ∧ OG 66 6 vcC w' w.heap.size (.slice (some ⟨g, 0, none⟩) s.length s.length) s ∧ Below w.heap.size w w' := by
  obtain ⟨a, c, rfl⟩ := h.form
  have H : Hid (RG 6 vcC w (.slice a s.length c) s) := h
  clear h
  obtain ⟨i0, hi, hz0, hz1, hz2⟩ := info_parts info_Class
  obtain ⟨n, hnn⟩ : ∃ n, n = s.length := ⟨_, rfl⟩
  have HN : Hid (n = s.length) := hnn
  rw [← hnn] at hn H ⊢
  clear hnn
  go_enter Try.func16, Try.ntmps16
  go_wp2_with (at_make; refine wpList_make_full _ rfl _ _ 32 rfl w.heap.size 66 i0 (.agg #[.int .i64 0, .int .i64 0, .int .i64 0, .int .i64 0, .int .i64 0, .int .i64 0]) 6 Try.underlying32 hi hz0 hz1 _ _ _ _ n rfl rfl rfl rfl (by rw [hz2]; omega) (by unfold maxLen; omega) (Nat.le_refl _) ?_; intro w2 hown2 hgrow2)
  have hb2 : Below w.heap.size w w2 := (Below.refl _ _).grown hgrow2 (Nat.le_refl _) (fun k h => by cases h)
  have HS : Hid (Fill 66 6 vcC w2 w.heap.size w.heap.size n s 0 ∧ Below w.heap.size w w2) := ⟨⟨_, hown2, fun t ht => by omega⟩, hb2⟩
  clear hown2 hgrow2 hb2
  go_loopw [4] (fun i wr => ∃ j : Nat, j ≤ n ∧ i = .int .i64 j ∧ Hid (Fill 66 6 vcC wr w.heap.size w.heap.size n s j ∧ Below w.heap.size w wr)) (fun i _ => n - (intOf i).toNat)
  case atStart => exact ⟨0, Nat.zero_le _, rfl, HS.out⟩
  case round =>
    clear HS
    obtain ⟨j, hjn, rfl, hR⟩ := hrel
    by_cases hlt : j < n
    · have hjl : j < s.length := by rw [← HN.out]; exact hlt
      obtain ⟨g, o, c2, he, hg, hj⟩ := (H.out.below hR.out.2).pos (by rw [← HN.out]; omega)
      simp only [Value.slice.injEq] at he
      obtain ⟨rfl, hx1, hx2⟩ := he
      clear hx1 hx2
      obtain ⟨c0, c1, c2, c3, c4, c5⟩ := vcC_at (hj j hjl)
      obtain ⟨x, hx⟩ : ∃ x, x = s[j] := ⟨_, rfl⟩
      rw [← hx] at c0 c1 c2 c3 c4 c5
      have HX : Hid (x = s[j]) := hx
      clear hx hj
      have b0 : (0 : Int) ≤ (j : Int) := by omega
      have b1 : (j : Int) < (n : Int) := by omega
      go_wp2_with (fail)
      refine (toClass_any x _).mono ?_
      rintro e w3 ⟨rfl, hb3⟩
      have hF3 := hR.out.1.below hb3
      have hbl3 : Below w.heap.size w w3 := hR.out.2.trans (hb3.mono hR.out.2.size)
      obtain ⟨⟨u0, g0⟩, f0⟩ := hF3.there (j * 6) (by omega)
      obtain ⟨⟨u1, g1⟩, f1⟩ := hF3.there (j * 6 + 1) (by omega)
      obtain ⟨⟨u2, g2⟩, f2⟩ := hF3.there (j * 6 + 2) (by omega)
      obtain ⟨⟨u3, g3⟩, f3⟩ := hF3.there (j * 6 + 3) (by omega)
      obtain ⟨⟨u4, g4⟩, f4⟩ := hF3.there (j * 6 + 4) (by omega)
      obtain ⟨⟨u5, g5⟩, f5⟩ := hF3.there (j * 6 + 5) (by omega)
      have HP : Hid (Fill 66 6 vcC (((((((w3.setCell ⟨w.heap.size, j * 6, none⟩ (.int .i64 x.k)).setCell ⟨w.heap.size, j * 6 + 1, none⟩ (.int .i64 x.lo)).setCell ⟨w.heap.size, j * 6 + 2, none⟩ (.int .i64 x.hi)).setCell ⟨w.heap.size, j * 6 + 3, none⟩ (.int .i64 x.nm)).setCell ⟨w.heap.size, j * 6 + 4, none⟩ (.int .i64 x.q.n)).setCell ⟨w.heap.size, j * 6 + 5, none⟩ (.int .i64 x.q.d))) w.heap.size w.heap.size n s (j + 1) ∧ Below w.heap.size w (((((((w3.setCell ⟨w.heap.size, j * 6, none⟩ (.int .i64 x.k)).setCell ⟨w.heap.size, j * 6 + 1, none⟩ (.int .i64 x.lo)).setCell ⟨w.heap.size, j * 6 + 2, none⟩ (.int .i64 x.hi)).setCell ⟨w.heap.size, j * 6 + 3, none⟩ (.int .i64 x.nm)).setCell ⟨w.heap.size, j * 6 + 4, none⟩ (.int .i64 x.q.n)).setCell ⟨w.heap.size, j * 6 + 5, none⟩ (.int .i64 x.q.d)))) := by
        have h1 := hF3.put vcC_len HN.out hjl
        rw [← HX.out] at h1
        exact ⟨h1, puts_below hbl3 (Nat.le_refl _) (vcC x) 0⟩
      clear hF3 hbl3 hb3 hR c0 c1 c2 c3 c4 c5
      go_wp2
      go_roundw
      case rel => exact ⟨j + 1, by omega, by go_num, HP.out⟩
      case measure => simp [intOf]; omega
    · have HD : Hid (OG 66 6 vcC wr w.heap.size (.slice (some ⟨w.heap.size, 0, none⟩) n n) s ∧ Below w.heap.size w wr) := ⟨hR.out.1.done vcC_len HN.out (by rw [← HN.out]; omega), hR.out.2⟩
      clear hR
      go_wp2
      go_returns
      exact ⟨w.heap.size, rfl, HD.out.1, HD.out.2⟩

set_option maxHeartbeats 1600000 in
theorem eqClassS_same {w : World} {va vb : Value} {s : List Cls} (hn : s.length ≤ 1099511627776) (ha : RG 6 vcC w va s) (hb : RG 6 vcC w vb s) :
    Calls Try.prog 18 #[va, vb] w fun e w' => e = .returned (.bool true) ∧ Below w.heap.size w w' := by
  obtain ⟨a1, c1', rfl⟩ := ha.form
  obtain ⟨a2, c2', rfl⟩ := hb.form
  obtain ⟨n, hnn⟩ : ∃ n, n = s.length := ⟨_, rfl⟩
  rw [← hnn] at hn ha hb ⊢
  have H : Hid (RG 6 vcC w (.slice a1 n c1') s ∧ RG 6 vcC w (.slice a2 n c2') s ∧ n = s.length) := ⟨ha, hb, hnn⟩
  clear ha hb hnn
  go_enter Try.func18, Try.ntmps18
  go_wp2
  go_loopw [5] (fun i wr => ∃ j : Nat, j ≤ n ∧ i = .int .i64 j ∧ Hid (Below w.heap.size w wr)) (fun i _ => n - (intOf i).toNat)
  case atStart => exact ⟨0, Nat.zero_le _, rfl, Below.refl _ _⟩
  case round =>
    obtain ⟨j, hjn, rfl, hR⟩ := hrel
    by_cases hlt : j < n
    · have hjl : j < s.length := by rw [← H.out.2.2]; exact hlt
      obtain ⟨g, o, d1, he, hg, hj⟩ := (H.out.1.below hR.out).pos (by rw [← H.out.2.2]; omega)
      simp only [Value.slice.injEq] at he
      obtain ⟨rfl, hx1, hx2⟩ := he
      obtain ⟨g', o', d2, he', hg', hj'⟩ := (H.out.2.1.below hR.out).pos (by rw [← H.out.2.2]; omega)
      simp only [Value.slice.injEq] at he'
      obtain ⟨rfl, hx3, hx4⟩ := he'
      clear hx1 hx2 hx3 hx4
      obtain ⟨c0, c1, c2, c3, c4, c5⟩ := vcC_at (hj j hjl)
      obtain ⟨e0, e1, e2, e3, e4, e5⟩ := vcC_at (hj' j hjl)
      obtain ⟨x, hx⟩ : ∃ x, x = s[j] := ⟨_, rfl⟩
      rw [← hx] at c0 c1 c2 c3 c4 c5 e0 e1 e2 e3 e4 e5
      have hcall : Hid (∀ W, Calls Try.prog 42 #[.agg #[.int .i64 x.k, .int .i64 x.lo, .int .i64 x.hi, .int .i64 x.nm, .int .i64 x.q.n, .int .i64 x.q.d], .agg #[.int .i64 x.k, .int .i64 x.lo, .int .i64 x.hi, .int .i64 x.nm, .int .i64 x.q.n, .int .i64 x.q.d]] W fun e w' => e = .returned (.bool true) ∧ Below W.heap.size W w') := eqClass_same x
      clear hx hj hj'
      have b0 : (0 : Int) ≤ (j : Int) := by omega
      have b1 : (j : Int) < (n : Int) := by omega
      go_wp2_with (fail)
      (refine wp_region_und (by kernel_rfl) (by kernel_rfl) (fun hund => ?_); (repeat (go_big_quiet_step (first | (go_at_call 42; with_reducible refine und_call ?_ (hcall.out _); exact Nat.le_refl _)))); with_reducible refine wpQuiet_nil ?_; clear hund; intro W1 hb1; obtain ⟨hc1, hf1⟩ := undcell hb1)
      have HB : Hid (Below w.heap.size w W1) := hR.out.trans (hb1.mono hR.out.size)
      clear hb1 hc1 hf1
      go_wp2
      go_roundw
      case rel => exact ⟨j + 1, by omega, by go_num, HB.out⟩
      case measure => simp [intOf]; omega
    · go_wp2
      go_returns
      exact ⟨rfl, hR.out⟩

set_option maxHeartbeats 800000 in
theorem szClassS_gen (a : Option Addr) (n c : Nat) (l : Int) (w : World) (h0 : 0 ≤ l) (h1 : l ≤ 1048576) (h2 : n ≤ maxLen) :
    Calls Try.prog 14 #[.slice a n c, .int .i64 l] w fun e w' => ∃ r, e = .returned (.int .i64 r) ∧ (r < 0 ∨ (0 ≤ r ∧ r ≤ l ∧ (n : Int) ≤ l)) ∧ Below w.heap.size w w' := by
  unfold maxLen at h2
  have hw : IntKind.i64.wrap (l - (n : Int)) = l - (n : Int) := by rw [IntKind.wrap_i64]; omega
  by_cases hn : l - (n : Int) < 0
  · go_enter Try.func14, Try.ntmps14
    go_wp2
    go_returns
    exact ⟨-1, rfl, Or.inl (by omega), by (repeat' (first | (with_reducible exact Below.refl _ _) | (with_reducible assumption) | (with_reducible refine Below.setCell ?_ ?_ _) | (with_reducible refine Below.alloc ?_ ?_ _) | (with_reducible refine below_drewN ?_ _) | (with_reducible refine Below.drew ?_) | (with_reducible exact Nat.le_refl _) | omega | (simp; done) | (simp; omega)))⟩
  · go_enter Try.func14, Try.ntmps14
    go_wp2
    go_returns
    exact ⟨_, rfl, Or.inr ⟨by omega, by omega, by omega⟩, by (repeat' (first | (with_reducible exact Below.refl _ _) | (with_reducible assumption) | (with_reducible refine Below.setCell ?_ ?_ _) | (with_reducible refine Below.alloc ?_ ?_ _) | (with_reducible refine below_drewN ?_ _) | (with_reducible refine Below.drew ?_) | (with_reducible exact Nat.le_refl _) | omega | (simp; done) | (simp; omega)))⟩

set_option maxRecDepth 100000 in
theorem class_cells {H : Type} {enc : TypeId × Value → H} {W : World} {fuel : Nat} {cs : List Value} {x : DataW H × List MemPlace} (h : DataW.trod enc Try.prog W 0 (fun _ => true) true fuel 71 cs = some x) : ∃ a : Cls, cs = vcC a ∧ True := by
  obtain ⟨xs, n, _, rfl, hl, hlen, hf⟩ := DataW.trod_struct Try.underlying71 h
  have k6 : Try.prog.cellsOf 71 = 6 := by kernel_rfl
  have k1 : Try.prog.cellsOf 2 = 1 := by kernel_rfl
  have k2 : Try.prog.cellsOf 69 = 2 := by kernel_rfl
  rw [k6] at hl
  obtain ⟨c0, c1, c2, c3, c4, c5, rfl⟩ : ∃ c0 c1 c2 c3 c4 c5, cs = [c0, c1, c2, c3, c4, c5] := by
    match cs, hl with
    | [c0, c1, c2, c3, c4, c5], _ => exact ⟨c0, c1, c2, c3, c4, c5, rfl⟩
  match xs, hlen with
  | [y0, y1, y2, y3, y4], _ =>
    have h0 := hf 0 _ rfl
    have h1 := hf 1 _ rfl
    have h2 := hf 2 _ rfl
    have h3 := hf 3 _ rfl
    have h4 := hf 4 _ rfl
    simp only [List.getElem?_cons_zero, List.getElem?_cons_succ] at h0 h1 h2 h3 h4
    obtain ⟨m0, f0, _, _⟩ := DataW.trod_int Try.underlying2 h0
    obtain ⟨m1, f1, _, _⟩ := DataW.trod_int Try.underlying2 h1
    obtain ⟨m2, f2, _, _⟩ := DataW.trod_int Try.underlying2 h2
    obtain ⟨m3, f3, _, _⟩ := DataW.trod_int Try.underlying2 h3
    obtain ⟨z0, z1, n2, hx2, hl2, q0, q1⟩ := trod_struct2 Try.underlying69 h4
    obtain ⟨m4, f4, _, _⟩ := DataW.trod_int Try.underlying2 q0
    obtain ⟨m5, f5, _, _⟩ := DataW.trod_int Try.underlying2 q1
    simp [k1, k2] at f0 f1 f2 f3 f4 f5
    subst f0 f1 f2 f3 f4 f5
    exact ⟨⟨m0, m1, m2, m3, ⟨m4, m5⟩⟩, rfl, trivial⟩

set_option maxRecDepth 100000 in
theorem classes_open {H : Type} {enc : TypeId × Value → H} {W : World} {base : Nat} {v : Value} {d : DataW H} {p : List MemPlace}
    (hv : Value.okWide Try.prog W .any base 29 v) (h : DataW.Trod enc Try.prog W 0 (fun _ => true) true 29 v d p) :
    ∃ (a : Option Addr) (n c : Nat) (s : List Cls), v = .slice a n c ∧ RG 6 vcC W (.slice a n c) s ∧ s.length ≤ maxLen := by
  obtain ⟨a0, len0, cap0, rfl⟩ := okWide_slice Try.underlying29 hv
  obtain ⟨fuel, hf⟩ := h
  have : Nonempty Cls := ⟨⟨0, 0, 0, 0, ⟨0, 0⟩⟩⟩
  obtain ⟨a, n, c, s, k, h1, h2, _⟩ := rg_of_trod (Q := fun _ => True) Try.underlying29 (show Try.prog.cellsOf 71 = 6 by kernel_rfl) (by omega) vcC_len (fun _ _ _ h => class_cells h) hf
  simp [Value.cells] at k
  obtain ⟨rfl, rfl, rfl⟩ := k
  exact ⟨_, _, _, s, rfl, h1, h2⟩

end Go.Proofs.Ytjacmneopijiaaa
