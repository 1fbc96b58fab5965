/- Proved here: what the laws' package's small functions on vias and on lists of lists of boxes do (weigh, copy, compare). -/
import Derived.Test.YtbfieehlekgjeaaGen
import Derived.Test.YtbfieehlekgjeaaLawBx
namespace Go.Proofs.Ytbfieehlekgjeaa
open Go.ChangeShapes Go.WideShapes Go.ChangeAt Go.RowKit Go.Joins
set_option linter.unusedVariables false
set_option linter.unusedSimpArgs false

/-- A via. -/
structure Vi where
  l : Int
  h : Int
  b : Bx
theorem hq_at1 (w : World) (a b : Obj) : ((w.alloc a).alloc b).heap[w.heap.size + 1]? = some b := by have := heap_alloc_new (w.alloc a) b; simpa using this
theorem hq_at2 (w : World) (a b c : Obj) : (((w.alloc a).alloc b).alloc c).heap[w.heap.size + 2]? = some c := by have := heap_alloc_new ((w.alloc a).alloc b) c; simpa using this
theorem two_atW {w : World} {k : Nat} {a b : Value} {T : TypeId} (h : w.heap[k]? = some (.cells #[a, b] T)) :
    w.cell? ⟨k, 0, none⟩ = some a ∧ w.cell? ⟨k, 1, none⟩ = some b ∧ (∀ i, w.frozen? ⟨k, i, none⟩ = false) ∧ k < w.heap.size := by
  refine ⟨by simp [World.cell?, h], by simp [World.cell?, h], fun i => by simp [World.frozen?, h], ?_⟩
  rcases Nat.lt_or_ge k w.heap.size with h' | h'
  · exact h'
  · rw [Array.getElem?_eq_none h'] at h; cases h
theorem six_at {w : World} {k : Nat} {a b c d e f : Value} {T : TypeId} (h : w.heap[k]? = some (.cells #[a, b, c, d, e, f] T)) :
    w.cell? ⟨k, 0, none⟩ = some a ∧ w.cell? ⟨k, 1, none⟩ = some b ∧ w.cell? ⟨k, 2, none⟩ = some c ∧ w.cell? ⟨k, 3, none⟩ = some d ∧ w.cell? ⟨k, 4, none⟩ = some e ∧ w.cell? ⟨k, 5, none⟩ = some f ∧ (∀ i, w.frozen? ⟨k, i, none⟩ = false) ∧ k < w.heap.size := by
  refine ⟨by simp [World.cell?, h], by simp [World.cell?, h], by simp [World.cell?, h], by simp [World.cell?, h], by simp [World.cell?, h], by simp [World.cell?, h], fun i => by simp [World.frozen?, h], ?_⟩
  rcases Nat.lt_or_ge k w.heap.size with h' | h'
  · exact h'
  · rw [Array.getElem?_eq_none h'] at h; cases h

def viC (x : Vi) : List Value := [.int .i64 x.l, .int .i64 x.h, .int .i64 x.b.x0, .int .i64 x.b.y0, .int .i64 x.b.x1, .int .i64 x.b.y1]
theorem viC_len (x : Vi) : (viC x).length = 6 := rfl
theorem viC_one (x : Vi) : ∀ u ∈ viC x, u.oneCell' = true := by
  intro u hu
  simp only [viC, List.mem_cons, List.not_mem_nil, or_false] at hu
  rcases hu with rfl | rfl | rfl | rfl | rfl | rfl <;> rfl
theorem info_Via : (Try.prog.info? 72).map (fun i => (i.zero, i.size, i.bytes)) = some (some (.agg #[.int .i64 0, .int .i64 0, .int .i64 0, .int .i64 0, .int .i64 0, .int .i64 0]), 6, 48) := by kernel_rfl
/-- The cells of an element, one by one. -/
theorem viC_at {w : World} {g o : Nat} {x : Vi} (h : ∀ i, i < 6 → w.cell? ⟨g, o + i, none⟩ = (viC x)[i]?) : w.cell? ⟨g, o, none⟩ = some (.int .i64 x.l) ∧ w.cell? ⟨g, o + 1, none⟩ = some (.int .i64 x.h) ∧ w.cell? ⟨g, o + 2, none⟩ = some (.int .i64 x.b.x0) ∧ w.cell? ⟨g, o + 3, none⟩ = some (.int .i64 x.b.y0) ∧ w.cell? ⟨g, o + 4, none⟩ = some (.int .i64 x.b.x1) ∧ w.cell? ⟨g, o + 5, none⟩ = some (.int .i64 x.b.y1) :=
  ⟨h 0 (by omega), h 1 (by omega), h 2 (by omega), h 3 (by omega), h 4 (by omega), h 5 (by omega)⟩

set_option maxHeartbeats 1600000 in
theorem toVia_any (x : Vi) (w : World) :
    Calls Try.prog 65 #[.agg #[.int .i64 x.l, .int .i64 x.h, .int .i64 x.b.x0, .int .i64 x.b.y0, .int .i64 x.b.x1, .int .i64 x.b.y1]] w fun e w' => e = .returned (.agg #[.int .i64 x.l, .int .i64 x.h, .int .i64 x.b.x0, .int .i64 x.b.y0, .int .i64 x.b.x1, .int .i64 x.b.y1]) ∧ Below w.heap.size w w' := by
  go_enter Try.func65, Try.ntmps65
  go_wp2_with (fail)
  refine (toBox_any x.b _).mono ?_
  rintro e w1 ⟨rfl, hb1⟩
  have g1 := (hb1.block (w.heap.size + 1) (by simp)).trans ((Below.heap_alloc _ _ _ (by simp)).trans (hq_at1 w _ _))
  have g2 := (hb1.block (w.heap.size + 2) (by simp)).trans (hq_at2 w _ _ _)
  have hb : Below w.heap.size w w1 := (show Below w.heap.size w _ from by (repeat' (first | (with_reducible exact Below.refl _ _) | (with_reducible assumption) | (with_reducible refine Below.setCell ?_ ?_ _) | (with_reducible refine Below.alloc ?_ ?_ _) | (with_reducible refine below_drewN ?_ _) | (with_reducible refine Below.drew ?_) | (with_reducible exact Nat.le_refl _) | omega | (simp; done) | (simp; omega)))).trans (hb1.mono (by simp; omega))
  clear hb1
  obtain ⟨p0, p1, p2, p3, p4, p5, pf, pl⟩ := six_at g1
  obtain ⟨q0, q1, q2, q3, q4, q5, qf, ql⟩ := six_at g2
  have pf0 := pf 0
  have pf1 := pf 1
  have pf2 := pf 2
  have pf3 := pf 3
  have pf4 := pf 4
  have pf5 := pf 5
  have qf0 := qf 0
  have qf1 := qf 1
  have qf2 := qf 2
  have qf3 := qf 3
  have qf4 := qf 4
  have qf5 := qf 5
  clear pf qf g1 g2
  go_wp2
  refine bodyPost_ret (by simp [results, Try.results65, go_sem, *]) rfl ⟨rfl, by (repeat' (first | (with_reducible exact Below.refl _ _) | (with_reducible assumption) | (with_reducible refine Below.setCell ?_ ?_ _) | (with_reducible refine Below.alloc ?_ ?_ _) | (with_reducible refine below_drewN ?_ _) | (with_reducible refine Below.drew ?_) | (with_reducible exact Nat.le_refl _) | omega | (simp; done) | (simp; omega)))⟩

set_option maxHeartbeats 1600000 in
theorem eqVia_same (x : Vi) (w : World) :
    Calls Try.prog 69 #[.agg #[.int .i64 x.l, .int .i64 x.h, .int .i64 x.b.x0, .int .i64 x.b.y0, .int .i64 x.b.x1, .int .i64 x.b.y1], .agg #[.int .i64 x.l, .int .i64 x.h, .int .i64 x.b.x0, .int .i64 x.b.y0, .int .i64 x.b.x1, .int .i64 x.b.y1]] w fun e w' => e = .returned (.bool true) ∧ Below w.heap.size w w' := by
  go_enter Try.func69, Try.ntmps69
  go_wp2_with (fail)
  refine (eqBox_same x.b _).mono ?_
  rintro e w1 ⟨rfl, hb1⟩
  have hb : Hid (Below w.heap.size w w1) := Below.trans (by (repeat' (first | (with_reducible exact Below.refl _ _) | (with_reducible assumption) | (with_reducible refine Below.setCell ?_ ?_ _) | (with_reducible refine Below.alloc ?_ ?_ _) | (with_reducible refine below_drewN ?_ _) | (with_reducible refine Below.drew ?_) | (with_reducible exact Nat.le_refl _) | omega | (simp; done) | (simp; omega)))) (hb1.mono (by simp; omega))
  clear hb1
  go_wp2
  go_returns
  exact ⟨rfl, hb.out⟩

set_option maxRecDepth 10000 in
set_option maxHeartbeats 3200000 in
theorem toViaS_any {w : World} {v : Value} {s : List Vi} (hn : s.length ≤ 1048576) (h : RG 6 viC w v s) :
    Calls Try.prog 39 #[v] w fun e w' => ∃ g, e = .returned (.slice (some ⟨g, 0, none⟩) s.length s.length) ∧ OG 72 6 viC w' w.heap.size (.slice (some ⟨g, 0, none⟩) s.length s.length) s ∧ Below w.heap.size w w' := by
  obtain ⟨a, c, rfl⟩ := h.form
  have H : Hid (RG 6 viC w (.slice a s.length c) s) := h
  clear h
  obtain ⟨i0, hi, hz0, hz1, hz2⟩ := info_parts info_Via
  obtain ⟨n, hnn⟩ : ∃ n, n = s.length := ⟨_, rfl⟩
  have HN : Hid (n = s.length) := hnn
  rw [← hnn] at hn H ⊢
  clear hnn
  go_enter Try.func39, Try.ntmps39
  go_wp2_with (at_make; refine wpList_make_full _ rfl _ _ 29 rfl w.heap.size 72 i0 (.agg #[.int .i64 0, .int .i64 0, .int .i64 0, .int .i64 0, .int .i64 0, .int .i64 0]) 6 Try.underlying29 hi hz0 hz1 _ _ _ _ n rfl rfl rfl rfl (by rw [hz2]; omega) (by unfold maxLen; omega) (Nat.le_refl _) ?_; intro w2 hown2 hgrow2)
  have hb2 : Below w.heap.size w w2 := (Below.refl _ _).grown hgrow2 (Nat.le_refl _) (fun k h => by cases h)
  have HS : Hid (Fill 72 6 viC w2 w.heap.size w.heap.size n s 0 ∧ Below w.heap.size w w2) := ⟨⟨_, hown2, fun t ht => by omega⟩, hb2⟩
  clear hown2 hgrow2 hb2
  go_loopw [4] (fun i wr => ∃ j : Nat, j ≤ n ∧ i = .int .i64 j ∧ Hid (Fill 72 6 viC wr w.heap.size w.heap.size n s j ∧ Below w.heap.size w wr)) (fun i _ => n - (intOf i).toNat)
  case atStart => exact ⟨0, Nat.zero_le _, rfl, HS.out⟩
  case round =>
    clear HS
    obtain ⟨j, hjn, rfl, hR⟩ := hrel
    by_cases hlt : j < n
    · have hjl : j < s.length := by rw [← HN.out]; exact hlt
      obtain ⟨g, o, c2, he, hg, hj⟩ := (H.out.below hR.out.2).pos (by rw [← HN.out]; omega)
      simp only [Value.slice.injEq] at he
      obtain ⟨rfl, hx1, hx2⟩ := he
      clear hx1 hx2
      obtain ⟨c0, c1, c2, c3, c4, c5⟩ := viC_at (hj j hjl)
      obtain ⟨x, hx⟩ : ∃ x, x = s[j] := ⟨_, rfl⟩
      rw [← hx] at c0 c1 c2 c3 c4 c5
      have HX : Hid (x = s[j]) := hx
      clear hx hj
      have b0 : (0 : Int) ≤ (j : Int) := by omega
      have b1 : (j : Int) < (n : Int) := by omega
      go_wp2_with (fail)
      refine (toVia_any x _).mono ?_
      rintro e w3 ⟨rfl, hb3⟩
      have hF3 := hR.out.1.below hb3
      have hbl3 : Below w.heap.size w w3 := hR.out.2.trans (hb3.mono hR.out.2.size)
      obtain ⟨⟨u0, g0⟩, f0⟩ := hF3.there (j * 6) (by omega)
      obtain ⟨⟨u1, g1⟩, f1⟩ := hF3.there (j * 6 + 1) (by omega)
      obtain ⟨⟨u2, g2⟩, f2⟩ := hF3.there (j * 6 + 2) (by omega)
      obtain ⟨⟨u3, g3⟩, f3⟩ := hF3.there (j * 6 + 3) (by omega)
      obtain ⟨⟨u4, g4⟩, f4⟩ := hF3.there (j * 6 + 4) (by omega)
      obtain ⟨⟨u5, g5⟩, f5⟩ := hF3.there (j * 6 + 5) (by omega)
      have HP : Hid (Fill 72 6 viC (((((((w3.setCell ⟨w.heap.size, j * 6, none⟩ (.int .i64 x.l)).setCell ⟨w.heap.size, j * 6 + 1, none⟩ (.int .i64 x.h)).setCell ⟨w.heap.size, j * 6 + 2, none⟩ (.int .i64 x.b.x0)).setCell ⟨w.heap.size, j * 6 + 3, none⟩ (.int .i64 x.b.y0)).setCell ⟨w.heap.size, j * 6 + 4, none⟩ (.int .i64 x.b.x1)).setCell ⟨w.heap.size, j * 6 + 5, none⟩ (.int .i64 x.b.y1))) w.heap.size w.heap.size n s (j + 1) ∧ Below w.heap.size w (((((((w3.setCell ⟨w.heap.size, j * 6, none⟩ (.int .i64 x.l)).setCell ⟨w.heap.size, j * 6 + 1, none⟩ (.int .i64 x.h)).setCell ⟨w.heap.size, j * 6 + 2, none⟩ (.int .i64 x.b.x0)).setCell ⟨w.heap.size, j * 6 + 3, none⟩ (.int .i64 x.b.y0)).setCell ⟨w.heap.size, j * 6 + 4, none⟩ (.int .i64 x.b.x1)).setCell ⟨w.heap.size, j * 6 + 5, none⟩ (.int .i64 x.b.y1)))) := by
        have h1 := hF3.put viC_len HN.out hjl
        rw [← HX.out] at h1
        exact ⟨h1, puts_below hbl3 (Nat.le_refl _) (viC x) 0⟩
      clear hF3 hbl3 hb3 hR c0 c1 c2 c3 c4 c5
      go_wp2
      go_roundw
      case rel => exact ⟨j + 1, by omega, by go_num, HP.out⟩
      case measure => simp [intOf]; omega
    · have HD : Hid (OG 72 6 viC wr w.heap.size (.slice (some ⟨w.heap.size, 0, none⟩) n n) s ∧ Below w.heap.size w wr) := ⟨hR.out.1.done viC_len HN.out (by rw [← HN.out]; omega), hR.out.2⟩
      clear hR
      go_wp2
      go_returns
      exact ⟨w.heap.size, rfl, HD.out.1, HD.out.2⟩

set_option maxHeartbeats 1600000 in
theorem eqViaS_same {w : World} {va vb : Value} {s : List Vi} (hn : s.length ≤ 1099511627776) (ha : RG 6 viC w va s) (hb : RG 6 viC w vb s) :
    Calls Try.prog 43 #[va, vb] w fun e w' => e = .returned (.bool true) ∧ Below w.heap.size w w' := by
  obtain ⟨a1, c1', rfl⟩ := ha.form
  obtain ⟨a2, c2', rfl⟩ := hb.form
  obtain ⟨n, hnn⟩ : ∃ n, n = s.length := ⟨_, rfl⟩
  rw [← hnn] at hn ha hb ⊢
  have H : Hid (RG 6 viC w (.slice a1 n c1') s ∧ RG 6 viC w (.slice a2 n c2') s ∧ n = s.length) := ⟨ha, hb, hnn⟩
  clear ha hb hnn
  go_enter Try.func43, Try.ntmps43
  go_wp2
  go_loopw [5] (fun i wr => ∃ j : Nat, j ≤ n ∧ i = .int .i64 j ∧ Hid (Below w.heap.size w wr)) (fun i _ => n - (intOf i).toNat)
  case atStart => exact ⟨0, Nat.zero_le _, rfl, Below.refl _ _⟩
  case round =>
    obtain ⟨j, hjn, rfl, hR⟩ := hrel
    by_cases hlt : j < n
    · have hjl : j < s.length := by rw [← H.out.2.2]; exact hlt
      obtain ⟨g, o, d1, he, hg, hj⟩ := (H.out.1.below hR.out).pos (by rw [← H.out.2.2]; omega)
      simp only [Value.slice.injEq] at he
      obtain ⟨rfl, hx1, hx2⟩ := he
      obtain ⟨g', o', d2, he', hg', hj'⟩ := (H.out.2.1.below hR.out).pos (by rw [← H.out.2.2]; omega)
      simp only [Value.slice.injEq] at he'
      obtain ⟨rfl, hx3, hx4⟩ := he'
      clear hx1 hx2 hx3 hx4
      obtain ⟨c0, c1, c2, c3, c4, c5⟩ := viC_at (hj j hjl)
      obtain ⟨e0, e1, e2, e3, e4, e5⟩ := viC_at (hj' j hjl)
      obtain ⟨x, hx⟩ : ∃ x, x = s[j] := ⟨_, rfl⟩
      rw [← hx] at c0 c1 c2 c3 c4 c5 e0 e1 e2 e3 e4 e5
      have hcall : Hid (∀ W, Calls Try.prog 69 #[.agg #[.int .i64 x.l, .int .i64 x.h, .int .i64 x.b.x0, .int .i64 x.b.y0, .int .i64 x.b.x1, .int .i64 x.b.y1], .agg #[.int .i64 x.l, .int .i64 x.h, .int .i64 x.b.x0, .int .i64 x.b.y0, .int .i64 x.b.x1, .int .i64 x.b.y1]] W fun e w' => e = .returned (.bool true) ∧ Below W.heap.size W w') := eqVia_same x
      clear hx hj hj'
      have b0 : (0 : Int) ≤ (j : Int) := by omega
      have b1 : (j : Int) < (n : Int) := by omega
      go_wp2_with (fail)
      (refine wp_region_und (by kernel_rfl) (by kernel_rfl) (fun hund => ?_); (repeat (go_big_quiet_step (first | (go_at_call 69; with_reducible refine und_call ?_ (hcall.out _); exact Nat.le_refl _)))); with_reducible refine wpQuiet_nil ?_; clear hund; intro W1 hb1; obtain ⟨hc1, hf1⟩ := bcell hb1)
      have HB : Hid (Below w.heap.size w W1) := hR.out.trans (hb1.mono hR.out.size)
      clear hb1 hc1 hf1
      go_wp2
      go_roundw
      case rel => exact ⟨j + 1, by omega, by go_num, HB.out⟩
      case measure => simp [intOf]; omega
    · go_wp2
      go_returns
      exact ⟨rfl, hR.out⟩

/-- Where a list lies. -/
structure Rl where
  a : Option Addr
  n : Nat
  c : Nat
instance : Nonempty Rl := ⟨⟨none, 0, 0⟩⟩
def rlC (r : Rl) : List Value := [.slice r.a r.n r.c]
theorem rlC_len (r : Rl) : (rlC r).length = 1 := rfl
/-- A slice that can be read as a list of lists of boxes. -/
def RSS (w : World) (v : Value) (s : List (List Bx)) : Prop := ∃ rs : List Rl, RG 1 rlC w v rs ∧ rs.length = s.length ∧ ∀ j (h : j < rs.length) (h' : j < s.length), RB w (.slice rs[j].a rs[j].n rs[j].c) s[j]
/-- .. whose lists have room for what they hold. -/
def RSC (w : World) (v : Value) (s : List (List Bx)) : Prop := ∃ rs : List Rl, RG 1 rlC w v rs ∧ rs.length = s.length ∧ ∀ j (h : j < rs.length) (h' : j < s.length), RB w (.slice rs[j].a rs[j].n rs[j].c) s[j] ∧ rs[j].n ≤ rs[j].c
theorem RSC.rss {w : World} {v : Value} {s : List (List Bx)} (h : RSC w v s) : RSS w v s := by
  obtain ⟨rs, h1, h2, h3⟩ := h
  exact ⟨rs, h1, h2, fun j a b => (h3 j a b).1⟩
theorem RSS.below {w w' : World} {v : Value} {s : List (List Bx)} (h : RSS w v s) (hb : Below w.heap.size w w') : RSS w' v s := by
  obtain ⟨rs, h1, h2, h3⟩ := h
  exact ⟨rs, h1.below hb, h2, fun j a b => (h3 j a b).below hb⟩
theorem RSC.below {w w' : World} {v : Value} {s : List (List Bx)} (h : RSC w v s) (hb : Below w.heap.size w w') : RSC w' v s := by
  obtain ⟨rs, h1, h2, h3⟩ := h
  exact ⟨rs, h1.below hb, h2, fun j a b => ⟨(h3 j a b).1.below hb, (h3 j a b).2⟩⟩
theorem RSS.form {w : World} {v : Value} {s : List (List Bx)} (h : RSS w v s) : ∃ a c, v = .slice a s.length c := by
  obtain ⟨rs, h1, h2, _⟩ := h
  obtain ⟨a, c, e⟩ := h1.form
  exact ⟨a, c, by rw [e, h2]⟩
theorem RSS.len {w : World} {a : Option Addr} {n c : Nat} {s : List (List Bx)} (h : RSS w (.slice a n c) s) : n = s.length := by
  obtain ⟨rs, h1, h2, _⟩ := h; exact h1.len.trans h2
theorem RSS.at {w : World} {v : Value} {s : List (List Bx)} (h : RSS w v s) {j : Nat} (hj : j < s.length) : ∃ g o c, v = .slice (some ⟨g, o, none⟩) s.length c ∧ g < w.heap.size ∧ ∃ r : Rl, RB w (.slice r.a r.n r.c) s[j] ∧ w.cell? ⟨g, o + j, none⟩ = some (.slice r.a r.n r.c) := by
  obtain ⟨rs, h1, h2, h3⟩ := h
  obtain ⟨g, o, c, rfl, hg, hc⟩ := h1.pos (by omega)
  have := hc j (by omega) 0 (by omega)
  simp only [Nat.mul_one, Nat.add_zero] at this
  exact ⟨g, o, c, by rw [h2], hg, rs[j], h3 j (by omega) hj, this⟩
theorem RSC.at {w : World} {v : Value} {s : List (List Bx)} (h : RSC w v s) {j : Nat} (hj : j < s.length) : ∃ g o c, v = .slice (some ⟨g, o, none⟩) s.length c ∧ g < w.heap.size ∧ ∃ r : Rl, RB w (.slice r.a r.n r.c) s[j] ∧ r.n ≤ r.c ∧ w.cell? ⟨g, o + j, none⟩ = some (.slice r.a r.n r.c) := by
  obtain ⟨rs, h1, h2, h3⟩ := h
  obtain ⟨g, o, c, rfl, hg, hc⟩ := h1.pos (by omega)
  have := hc j (by omega) 0 (by omega)
  simp only [Nat.mul_one, Nat.add_zero] at this
  exact ⟨g, o, c, by rw [h2], hg, rs[j], (h3 j (by omega) hj).1, (h3 j (by omega) hj).2, this⟩
theorem RB.len' {w : World} {a : Option Addr} {n c : Nat} {s : List Bx} (h : RB w (.slice a n c) s) : n = s.length := by
  obtain ⟨a', c', e⟩ := h.form
  simp only [Value.slice.injEq] at e
  exact e.2.1

def smL (m : Int) (s : List Bx) : Prop := (s.length : Int) ≤ m
def okL (s : List Bx) : Prop := s.length ≤ maxLen

set_option maxHeartbeats 800000 in
theorem szBoxS_gen (a : Option Addr) (n c : Nat) (l : Int) (w : World) (h0 : 0 ≤ l) (h1 : l ≤ 1048576) (h2 : n ≤ maxLen) :
    Calls Try.prog 60 #[.slice a n c, .int .i64 l] w fun e w' => ∃ r, e = .returned (.int .i64 r) ∧ (r < 0 ∨ (0 ≤ r ∧ r ≤ l ∧ (n : Int) ≤ l)) ∧ Below w.heap.size w w' := by
  unfold maxLen at h2
  have hw : IntKind.i64.wrap (l - (n : Int)) = l - (n : Int) := by rw [IntKind.wrap_i64]; omega
  by_cases hn : l - (n : Int) < 0
  · go_enter Try.func60, Try.ntmps60
    go_wp2
    go_returns
    exact ⟨-1, rfl, Or.inl (by omega), by (repeat' (first | (with_reducible exact Below.refl _ _) | (with_reducible assumption) | (with_reducible refine Below.setCell ?_ ?_ _) | (with_reducible refine Below.alloc ?_ ?_ _) | (with_reducible refine below_drewN ?_ _) | (with_reducible refine Below.drew ?_) | (with_reducible exact Nat.le_refl _) | omega | (simp; done) | (simp; omega)))⟩
  · go_enter Try.func60, Try.ntmps60
    go_wp2
    go_returns
    exact ⟨_, rfl, Or.inr ⟨by omega, by omega, by omega⟩, by (repeat' (first | (with_reducible exact Below.refl _ _) | (with_reducible assumption) | (with_reducible refine Below.setCell ?_ ?_ _) | (with_reducible refine Below.alloc ?_ ?_ _) | (with_reducible refine below_drewN ?_ _) | (with_reducible refine Below.drew ?_) | (with_reducible exact Nat.le_refl _) | omega | (simp; done) | (simp; omega)))⟩

set_option maxHeartbeats 800000 in
theorem szViaS_gen (a : Option Addr) (n c : Nat) (l : Int) (w : World) (h0 : 0 ≤ l) (h1 : l ≤ 1048576) (h2 : n ≤ maxLen) :
    Calls Try.prog 35 #[.slice a n c, .int .i64 l] w fun e w' => ∃ r, e = .returned (.int .i64 r) ∧ (r < 0 ∨ (0 ≤ r ∧ r ≤ l ∧ (n : Int) ≤ l)) ∧ Below w.heap.size w w' := by
  unfold maxLen at h2
  have hw : IntKind.i64.wrap (l - (n : Int)) = l - (n : Int) := by rw [IntKind.wrap_i64]; omega
  by_cases hn : l - (n : Int) < 0
  · go_enter Try.func35, Try.ntmps35
    go_wp2
    go_returns
    exact ⟨-1, rfl, Or.inl (by omega), by (repeat' (first | (with_reducible exact Below.refl _ _) | (with_reducible assumption) | (with_reducible refine Below.setCell ?_ ?_ _) | (with_reducible refine Below.alloc ?_ ?_ _) | (with_reducible refine below_drewN ?_ _) | (with_reducible refine Below.drew ?_) | (with_reducible exact Nat.le_refl _) | omega | (simp; done) | (simp; omega)))⟩
  · go_enter Try.func35, Try.ntmps35
    go_wp2
    go_returns
    exact ⟨_, rfl, Or.inr ⟨by omega, by omega, by omega⟩, by (repeat' (first | (with_reducible exact Below.refl _ _) | (with_reducible assumption) | (with_reducible refine Below.setCell ?_ ?_ _) | (with_reducible refine Below.alloc ?_ ?_ _) | (with_reducible refine below_drewN ?_ _) | (with_reducible refine Below.drew ?_) | (with_reducible exact Nat.le_refl _) | omega | (simp; done) | (simp; omega)))⟩

set_option maxHeartbeats 1600000 in
theorem szBoxSS_gen (a : Option Addr) (n c : Nat) (l : Int) (s : List (List Bx)) (w : World) (h0 : 0 ≤ l) (h1 : l ≤ 1048576) (h2 : n ≤ maxLen) (h : RSS w (.slice a n c) s) (hm : ∀ j (h : j < s.length), okL s[j]) :
    Calls Try.prog 34 #[.slice a n c, .int .i64 l] w fun e w' => ∃ r, e = .returned (.int .i64 r) ∧ (r < 0 ∨ (0 ≤ r ∧ r ≤ l ∧ (n : Int) ≤ l ∧ ∀ j (h : j < s.length), smL l s[j])) ∧ Below w.heap.size w w' := by
  unfold maxLen at h2
  have H : Hid (RSS w (.slice a n c) s ∧ n = s.length ∧ ∀ j (h : j < s.length), okL s[j]) := ⟨h, h.len, hm⟩
  clear h hm
  have hw : IntKind.i64.wrap (l - (n : Int)) = l - (n : Int) := by rw [IntKind.wrap_i64]; omega
  by_cases hn : l - (n : Int) < 0
  · go_enter Try.func34, Try.ntmps34
    go_wp2
    go_returns
    exact ⟨-1, rfl, Or.inl (by omega), by (repeat' (first | (with_reducible exact Below.refl _ _) | (with_reducible assumption) | (with_reducible refine Below.setCell ?_ ?_ _) | (with_reducible refine Below.alloc ?_ ?_ _) | (with_reducible refine below_drewN ?_ _) | (with_reducible refine Below.drew ?_) | (with_reducible exact Nat.le_refl _) | omega | (simp; done) | (simp; omega)))⟩
  · have HL : Hid ((n : Int) ≤ l) := by unfold Hid; omega
    obtain ⟨l1, hl1⟩ : ∃ l1, l1 = l - (n : Int) := ⟨_, rfl⟩
    have hl0 : 0 ≤ l1 := by omega
    have hll : l1 ≤ l := by omega
    rw [← hl1] at hw hn
    have hw2 : IntKind.i64.wrap (l - (n : Int)) = l1 := by rw [← hl1]; exact hw
    clear hl1 hw
    go_enter Try.func34, Try.ntmps34
    go_wp2
    go_loopw [1, 5] (fun q i wr => ∃ (j : Nat) (r : Int), j ≤ n ∧ i = .int .i64 j ∧ q = .int .i64 r ∧ 0 ≤ r ∧ r ≤ l ∧ Hid (Below w.heap.size w wr ∧ ∀ k (h : k < s.length), k < j → smL l s[k])) (fun _ i _ => n - (intOf i).toNat)
    case atStart => exact ⟨0, l1, Nat.zero_le _, rfl, by simp [hw2], hl0, hll, Below.refl _ _, fun k _ hk => by omega⟩
    case round =>
      obtain ⟨j, r, hjn, rfl, rfl, hr0, hrl, hR⟩ := hrel
      by_cases hlt : j < n
      · have hjl : j < s.length := by rw [← H.out.2.1]; exact hlt
        obtain ⟨g, o, c2, he, hg, x, hx, c0⟩ := (H.out.1.below hR.out.1).at hjl
        simp only [Value.slice.injEq] at he
        obtain ⟨rfl, hx1, hx2⟩ := he
        clear hx1 hx2
        have HX : Hid (x.n ≤ maxLen ∧ x.n = s[j].length) := ⟨by rw [hx.len']; exact H.out.2.2 j hjl, hx.len'⟩
        clear hx
        have b0 : (0 : Int) ≤ (j : Int) := by omega
        have b1 : (j : Int) < (n : Int) := by omega
        go_wp2_with (fail)
        refine (szBoxS_gen x.a x.n x.c r _ hr0 (by omega) HX.out.1).mono ?_
        rintro e w3 ⟨r2, rfl, hr2, hb3⟩
        have HB3 : Hid (Below w.heap.size w w3) := hR.out.1.trans (hb3.mono hR.out.1.size)
        clear hb3 c0
        rcases hr2 with hneg | ⟨h3, h4, h5⟩
        · go_wp2
          go_returns
          exact ⟨-1, rfl, Or.inl (by omega), HB3.out⟩
        · have HS : Hid (∀ k (h : k < s.length), k < j + 1 → smL l s[k]) := fun k hk hkj => by
            rcases (by omega : k < j ∨ k = j) with e | rfl
            · exact hR.out.2 k hk e
            · unfold smL; rw [← HX.out.2]; omega
          have h6 : ¬ r2 < 0 := by omega
          clear hR h5
          go_wp2
          go_roundw
          case rel => exact ⟨j + 1, r2, by omega, by go_num, rfl, h3, by omega, HB3.out, HS.out⟩
          case measure => simp [intOf]; omega
      · have HS : Hid (Below w.heap.size w wr ∧ ∀ k (h : k < s.length), smL l s[k]) := ⟨hR.out.1, fun k hk => hR.out.2 k hk (by rw [← H.out.2.1] at hk; omega)⟩
        clear hR
        go_wp2
        go_returns
        exact ⟨r, rfl, Or.inr ⟨hr0, hrl, HL.out, HS.out.2⟩, HS.out.1⟩

theorem info_lst : (Try.prog.info? 68).map (fun i => (i.zero, i.size, i.bytes)) = some (some (.slice none 0 0), 1, 24) := by kernel_rfl
/-- The copies made so far. -/
structure CpL (w wr : World) (n : Nat) (s : List (List Bx)) (j : Nat) (rs : List Rl) : Prop where
  len : rs.length = j
  fill : Fill 68 1 rlC wr w.heap.size w.heap.size n rs j
  p : ∀ i (h : i < rs.length) (h' : i < s.length), BS wr (w.heap.size + 1) (.slice rs[i].a rs[i].n rs[i].c) s[i] ∧ rs[i].n ≤ rs[i].c
  bl : Below w.heap.size w wr
theorem CpL.push {w wr w3 W : World} {n : Nat} {s : List (List Bx)} {j : Nat} {rs : List Rl} (h : CpL w wr n s j rs) (hjn : j < n) (hns : n ≤ s.length) (hb3 : Below wr.heap.size wr w3) (r : Rl) (hp : BS w3 wr.heap.size (.slice r.a r.n r.c) (s[j]'(by omega))) (hc : r.n ≤ r.c)
    (hW : W = putsAt w3 w.heap.size (j * 1) 0 (rlC r)) : CpL w W n s (j + 1) (rs ++ [r]) := by
  have hF3 := h.fill.below hb3
  have hlt3 := h.fill.lt
  have hbl3 : Below w.heap.size w w3 := h.bl.trans (hb3.mono h.bl.size)
  have hoth : ∀ q, w.heap.size + 1 ≤ q → W.heap[q]? = w3.heap[q]? := fun q hq => by rw [hW]; exact puts_other (by omega) _ _ _
  refine ⟨by simp [h.len], ?_, fun i h1 h2 => ?_, by rw [hW]; exact puts_below hbl3 (Nat.le_refl _) _ _⟩
  · rw [hW]; exact hF3.push rlC_len h.len hjn r
  · rcases Nat.lt_or_ge i rs.length with h3 | h3
    · rw [List.getElem_append_left h3]
      have := (h.p i h3 h2).1.below hb3
      exact ⟨this.kept (fun q hq => hoth q (World.ownsRow.lt this q hq).1), (h.p i h3 h2).2⟩
    · have hi : i = j := by rw [List.length_append, List.length_singleton] at h1; have := h.len; omega
      subst hi
      rw [List.getElem_append_right h3]
      have e0 : i - rs.length = 0 := by have := h.len; omega
      simp only [e0, List.getElem_cons_zero]
      have h5 := hp.low (show w.heap.size + 1 ≤ wr.heap.size by have := hlt3; omega)
      exact ⟨h5.kept (fun q hq => hoth q (World.ownsRow.lt h5 q hq).1), hc⟩

set_option maxRecDepth 10000 in
set_option maxHeartbeats 3200000 in
theorem toBoxSS_any {w : World} {v : Value} {s : List (List Bx)} (hn : s.length ≤ 1048576) (hsm : ∀ j (h : j < s.length), smL 1048576 s[j]) (h : RSS w v s) :
    Calls Try.prog 38 #[v] w fun e w' => ∃ g, e = .returned (.slice (some ⟨g, 0, none⟩) s.length s.length) ∧ w.heap.size ≤ g ∧ (∀ W, (∀ q, w.heap.size ≤ q → q < w'.heap.size → W.heap[q]? = w'.heap[q]?) → w'.heap.size ≤ W.heap.size → RSC W (.slice (some ⟨g, 0, none⟩) s.length s.length) s) ∧ Below w.heap.size w w' := by
  obtain ⟨a, c, rfl⟩ := h.form
  obtain ⟨i0, hi, hz0, hz1, hz2⟩ := info_parts info_lst
  obtain ⟨n, hnn⟩ : ∃ n, n = s.length := ⟨_, rfl⟩
  have HN : Hid (n = s.length) := hnn
  rw [← hnn] at hn h ⊢
  have H : Hid (RSS w (.slice a n c) s ∧ ∀ j (h : j < s.length), smL 1048576 s[j]) := ⟨h, hsm⟩
  clear hnn h hsm
  go_enter Try.func38, Try.ntmps38
  go_wp2_with (at_make; refine wpList_make_full _ rfl _ _ 28 rfl w.heap.size 68 i0 (.slice none 0 0) 1 Try.underlying28 hi hz0 hz1 _ _ _ _ n rfl rfl rfl rfl (by rw [hz2]; omega) (by unfold maxLen; omega) (Nat.le_refl _) ?_; intro w2 hown2 hgrow2)
  have hb2 : Below w.heap.size w w2 := (Below.refl _ _).grown hgrow2 (Nat.le_refl _) (fun k h => by cases h)
  have HS : Hid (CpL w w2 n s 0 []) := ⟨rfl, ⟨_, hown2, fun t ht => by omega⟩, fun i h => by simp at h, hb2⟩
  clear hown2 hgrow2 hb2
  go_loopw [4] (fun i wr => ∃ (j : Nat) (cs : List Rl), j ≤ n ∧ i = .int .i64 j ∧ Hid (CpL w wr n s j cs)) (fun i _ => n - (intOf i).toNat)
  case atStart => exact ⟨0, [], Nat.zero_le _, rfl, HS.out⟩
  case round =>
    clear HS
    obtain ⟨j, cs, hjn, rfl, hR⟩ := hrel
    by_cases hlt : j < n
    · have hjl : j < s.length := by rw [← HN.out]; exact hlt
      obtain ⟨g, o, c2, he, hg, x, hx, c0⟩ := (H.out.1.below hR.out.bl).at hjl
      simp only [Value.slice.injEq] at he
      obtain ⟨rfl, hx1, hx2⟩ := he
      clear hx1 hx2
      have HX : Hid (RB wr (.slice x.a x.n x.c) s[j] ∧ smL 1048576 s[j]) := ⟨hx, H.out.2 j hjl⟩
      clear hx
      have b0 : (0 : Int) ≤ (j : Int) := by omega
      have b1 : (j : Int) < (n : Int) := by omega
      go_wp2_with (fail)
      refine (toBoxS_any (by have := HX.out.2; unfold smL at this; omega) HX.out.1).mono ?_
      rintro e w3 ⟨gn, rfl, hr2, hb3⟩
      have hF3 := hR.out.fill.below hb3
      obtain ⟨⟨u0, g0⟩, f0⟩ := hF3.there j (by omega)
      obtain ⟨ln, hln⟩ : ∃ ln, ln = s[j].length := ⟨_, rfl⟩
      rw [← hln] at hr2 ⊢
      obtain ⟨W, hW⟩ : ∃ W, W = w3.setCell ⟨w.heap.size, j, none⟩ (.slice (some ⟨gn, 0, none⟩) ln ln) := ⟨_, rfl⟩
      have HP : Hid (CpL w W n s (j + 1) (cs ++ [⟨some ⟨gn, 0, none⟩, ln, ln⟩])) := hR.out.push hlt (by rw [HN.out]; exact Nat.le_refl _) hb3 ⟨some ⟨gn, 0, none⟩, ln, ln⟩ hr2 (Nat.le_refl _) (by rw [hW, Nat.mul_one]; rfl)
      have HW : Hid _ := hW
      clear hF3 hb3 hR c0 hr2 hW hln
      go_wp2
      rw [← HW.out]
      go_roundw
      case rel => exact ⟨j + 1, _, by omega, by go_num, HP.out⟩
      case measure => simp [intOf]; omega
    · obtain rfl : j = n := by omega
      have HD : Hid ((∀ W, (∀ q, w.heap.size ≤ q → q < wr.heap.size → W.heap[q]? = wr.heap[q]?) → wr.heap.size ≤ W.heap.size → RSC W (.slice (some ⟨w.heap.size, 0, none⟩) j j) s) ∧ Below w.heap.size w wr) := by
        refine ⟨fun W hW hs => ?_, hR.out.bl⟩
        have hl := hR.out.len
        have hog := hR.out.fill.done rlC_len hl.symm (by omega)
        refine ⟨cs, (OG.rg rlC_len hog).kept (fun q hq => hW q (OG.lt hog q hq).1 (OG.lt hog q hq).2) hs, by rw [hl]; exact HN.out, fun i h1 h2 => ⟨?_, (hR.out.p i h1 h2).2⟩⟩
        have hp := (hR.out.p i h1 h2).1
        exact (hp.kept (fun q hq => hW q (by have := (World.ownsRow.lt hp q hq).1; omega) (World.ownsRow.lt hp q hq).2)).rb
      clear hR
      go_wp2
      go_returns
      exact ⟨w.heap.size, rfl, Nat.le_refl _, HD.out.1, HD.out.2⟩

set_option maxHeartbeats 1600000 in
theorem eqBoxSS_same {w : World} {va vb : Value} {s : List (List Bx)} (hn : s.length ≤ 1099511627776) (hsm : ∀ j (h : j < s.length), smL 1048576 s[j]) (ha : RSS w va s) (hb : RSS w vb s) :
    Calls Try.prog 42 #[va, vb] w fun e w' => e = .returned (.bool true) ∧ Below w.heap.size w w' := by
  obtain ⟨a1, c1', rfl⟩ := ha.form
  obtain ⟨a2, c2', rfl⟩ := hb.form
  obtain ⟨n, hnn⟩ : ∃ n, n = s.length := ⟨_, rfl⟩
  rw [← hnn] at hn ha hb ⊢
  have H : Hid (RSS w (.slice a1 n c1') s ∧ RSS w (.slice a2 n c2') s ∧ n = s.length ∧ ∀ j (h : j < s.length), smL 1048576 s[j]) := ⟨ha, hb, hnn, hsm⟩
  clear ha hb hnn hsm
  go_enter Try.func42, Try.ntmps42
  go_wp2
  go_loopw [5] (fun i wr => ∃ j : Nat, j ≤ n ∧ i = .int .i64 j ∧ Hid (Below w.heap.size w wr)) (fun i _ => n - (intOf i).toNat)
  case atStart => exact ⟨0, Nat.zero_le _, rfl, Below.refl _ _⟩
  case round =>
    obtain ⟨j, hjn, rfl, hR⟩ := hrel
    by_cases hlt : j < n
    · have hjl : j < s.length := by rw [← H.out.2.2.1]; exact hlt
      obtain ⟨g, o, d1, he, hg, x, hx, c0⟩ := (H.out.1.below hR.out).at hjl
      simp only [Value.slice.injEq] at he
      obtain ⟨rfl, hx1, hx2⟩ := he
      obtain ⟨g', o', d2, he', hg', y, hy, e0⟩ := (H.out.2.1.below hR.out).at hjl
      simp only [Value.slice.injEq] at he'
      obtain ⟨rfl, hx3, hx4⟩ := he'
      clear hx1 hx2 hx3 hx4
      have hcall : Hid (∀ X : Und wr.heap.size wr, Calls Try.prog 68 #[.slice x.a x.n x.c, .slice y.a y.n y.c] X.W fun e w' => e = .returned (.bool true) ∧ Below X.W.heap.size X.W w') := fun X =>
        eqBoxS_same (by have := H.out.2.2.2 j hjl; unfold smL at this; omega) (hx.below X.below) (hy.below X.below)
      clear hx hy
      have b0 : (0 : Int) ≤ (j : Int) := by omega
      have b1 : (j : Int) < (n : Int) := by omega
      go_wp2_with (fail)
      (refine wp_region_und (by kernel_rfl) (by kernel_rfl) (fun hund => ?_); (repeat (go_big_quiet_step (first | (go_at_call 68; with_reducible refine und_call ?_ (hcall.out _); exact Nat.le_refl _)))); with_reducible refine wpQuiet_nil ?_; clear hund; intro W1 hb1; obtain ⟨hc1, hf1⟩ := bcell hb1)
      have HB : Hid (Below w.heap.size w W1) := hR.out.trans (hb1.mono hR.out.size)
      clear hb1 hc1 hf1
      go_wp2
      go_roundw
      case rel => exact ⟨j + 1, by omega, by go_num, HB.out⟩
      case measure => simp [intOf]; omega
    · go_wp2
      go_returns
      exact ⟨rfl, hR.out⟩

end Go.Proofs.Ytbfieehlekgjeaa
