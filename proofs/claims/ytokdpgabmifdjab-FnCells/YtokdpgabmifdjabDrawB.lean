/- Proved here: the draws of boxes and of lists of boxes: what comes out lies in memory of the call's own, and no old memory is turned but the source's. -/
import Derived.Test.YtokdpgabmifdjabDraw
import Derived.Test.YtokdpgabmifdjabSOp
import Derived.Test.YtokdpgabmifdjabShCount
namespace Go.Proofs.Ytokdpgabmifdjab
open Go.RowKit
set_option linter.unusedVariables false
set_option linter.unusedSimpArgs false

/-- A world that the draws have come to: the source has gone on, all else of old is as it was. -/
structure DS (w wr : World) (b : Nat) (ca : Option Addr) (n cap : Nat) (bs : Nat → Int) (t : Int) : Prop where
  save : SaveBut b w wr
  src : Src wr b ca n cap bs t
theorem Src.moved {w wr : World} {b : Nat} {ca : Option Addr} {n cap : Nat} {bs : Nat → Int} {t t' : Int} (h : Src w b ca n cap bs t) (hs : SaveBut b w wr) (hb : wr.heap[b]? = some (.cells #[.slice ca n cap, .int .i64 t'] 85)) (ht : 0 ≤ t') : Src wr b ca n cap bs t' := by
  refine ⟨hb, h.bytes, fun hn => ?_, h.few, ht⟩
  obtain ⟨g, off, e, hg, hc⟩ := h.lie hn
  exact ⟨g, off, e, hg, fun j hj => (World.cell?_of_block (hs.block g (lt_of_cell (hc j hj)) hg)).trans (hc j hj)⟩
theorem DS.start {w : World} {b : Nat} {ca : Option Addr} {n cap : Nat} {bs : Nat → Int} {t : Int} (h : Src w b ca n cap bs t) : DS w w b ca n cap bs t := ⟨SaveBut.refl _ _, h⟩
theorem DS.only {w wr w1 : World} {b : Nat} {ca : Option Addr} {n cap : Nat} {bs : Nat → Int} {t t' : Int} (h : DS w wr b ca n cap bs t) (hs : Src w1 b ca n cap bs t') (ho : Only b wr w1) : DS w w1 b ca n cap bs t' := ⟨h.save.only ho, hs⟩
theorem DS.below {w wr w1 : World} {b : Nat} {ca : Option Addr} {n cap : Nat} {bs : Nat → Int} {t : Int} (h : DS w wr b ca n cap bs t) (hb : Below wr.heap.size wr w1) : DS w w1 b ca n cap bs t := by
  refine ⟨⟨hb.os.trans h.save.os, hb.tape.trans h.save.tape, hb.output.trans h.save.output, Nat.le_trans h.save.size hb.size, fun k hk hg => (hb.block k (Nat.lt_of_lt_of_le hk h.save.size)).trans (h.save.block k hk hg)⟩, h.src.mono hb.block⟩
theorem DS.alloc {w wr : World} {b : Nat} {ca : Option Addr} {n cap : Nat} {bs : Nat → Int} {t : Int} (h : DS w wr b ca n cap bs t) (o : Obj) : DS w (wr.alloc o) b ca n cap bs t := h.below ((Below.refl _ _).alloc (Nat.le_refl _) _)
theorem DS.trans {w w1 w2 : World} {b : Nat} {ca : Option Addr} {n cap : Nat} {bs : Nat → Int} {t t' : Int} (h : DS w w1 b ca n cap bs t) (k : DS w1 w2 b ca n cap bs t') : DS w w2 b ca n cap bs t' := ⟨h.save.trans k.save, k.src⟩
/-- Blocks of the call's own are written. -/
theorem DS.write {w wr w1 : World} {b : Nat} {ca : Option Addr} {n cap : Nat} {bs : Nat → Int} {t0 t : Int} (h0 : Src w b ca n cap bs t0) (h : DS w wr b ca n cap bs t) (hos : w1.os = wr.os) (htp : w1.tape = wr.tape) (hout : w1.output = wr.output) (hsz : wr.heap.size ≤ w1.heap.size)
    (hb : ∀ k, k < w.heap.size → w1.heap[k]? = wr.heap[k]?) : DS w w1 b ca n cap bs t := by
  have hs : SaveBut b w w1 := ⟨hos.trans h.save.os, htp.trans h.save.tape, hout.trans h.save.output, Nat.le_trans h.save.size hsz, fun k hk hg => (hb k hk).trans (h.save.block k hk hg)⟩
  exact ⟨hs, h0.moved hs ((hb b (lt_of_blk h0.blk)).trans h.src.blk) h.src.t0⟩
theorem DS.grown {w wr w1 : World} {b : Nat} {ca : Option Addr} {n cap : Nat} {bs : Nat → Int} {t0 t : Int} {row : Option Nat} {ob : Obj} (h0 : Src w b ca n cap bs t0) (h : DS w wr b ca n cap bs t) (hg : (wr.alloc ob).grownBy w1 row) (hr : ∀ k, row = some k → w.heap.size ≤ k) : DS w w1 b ca n cap bs t := by
  have hsz := h.save.size
  refine h.write h0 hg.os hg.tape hg.output (Nat.le_trans (by simp) hg.size) fun k hk => ?_
  rw [hg.block k (by simp; omega) (fun e => by have := hr k e.symm; omega)]
  exact Below.heap_alloc _ _ _ (by omega)
theorem BS.onlyB {w w' : World} {b A : Nat} {v : Value} {s : List Bx} (h : BS w A v s) (hb : b < A) (ho : Only b w w') : BS w' A v s :=
  h.kept fun g hg => ho.block g (by have := (World.ownsRow.lt h g hg).1; omega)
theorem BS.saveB {w w' : World} {b A : Nat} {v : Value} {s : List Bx} (h : BS w A v s) (hb : b < A) (ho : SaveBut b w w') : BS w' A v s :=
  h.kept fun g hg => ho.block g (World.ownsRow.lt h g hg).2 (by have := (World.ownsRow.lt h g hg).1; omega)
theorem BS.cap {w : World} {A n c : Nat} {a : Option Addr} {s : List Bx} (h : BS w A (.slice a n c) s) : s.length ≤ c := by
  rcases h.2 with ⟨_, h0⟩ | ⟨g, cap, cur, e, hB, hg, hn, _⟩
  · omega
  · simp only [Value.slice.injEq] at e
    obtain ⟨_, _, rfl⟩ := e
    exact hn

set_option maxRecDepth 10000 in
set_option maxHeartbeats 1600000 in
theorem boxD_any {w : World} {b : Nat} {ca : Option Addr} {n cap : Nat} {bs : Nat → Int} {t : Int} (h : Src w b ca n cap bs t) (h1 : t ≤ 900) :
    Calls Try.prog 105 #[.pointer (some ⟨b, 0, none⟩)] w fun e w' => ∃ m : Bx, e = .returned (.agg #[.int .i64 m.x0, .int .i64 m.y0, .int .i64 m.x1, .int .i64 m.y1]) ∧ DS w w' b ca n cap bs (t + 4) := by
  have H0 : Hid (Src w b ca n cap bs t) := h
  have H : Hid (DS w (w.alloc (.cells #[.int .i64 0, .int .i64 0, .int .i64 0, .int .i64 0] 49)) b ca n cap bs t) := (DS.start h).alloc _
  have hb : b < w.heap.size := lt_of_blk h.blk
  clear h
  go_enter Try.func105, Try.ntmps105
  go_wp2_with (fail)
  refine (next_any _ H.out.src (by omega) (by omega) (by omega)).mono ?_
  rintro e w1 ⟨r1, rfl, p1, q1, hS1, hO1⟩
  have D1 : Hid (DS w w1 b ca n cap bs (t + 1)) := H.out.only hS1 hO1
  have K1 : Hid (w1.heap[w.heap.size]? = some (.cells #[.int .i64 0, .int .i64 0, .int .i64 0, .int .i64 0] 49)) := (hO1.block _ (by omega)).trans (heap_alloc_new _ _)
  clear hS1 hO1
  go_wp2_with (fail)
  refine (next_any _ D1.out.src (by omega) (by omega) (by omega)).mono ?_
  rintro e w2 ⟨r2, rfl, p2, q2, hS2, hO2⟩
  have D2 : Hid (DS w w2 b ca n cap bs (t + 1 + 1)) := D1.out.only hS2 hO2
  have K2 : Hid (w2.heap[w.heap.size]? = some (.cells #[.int .i64 0, .int .i64 0, .int .i64 0, .int .i64 0] 49)) := (hO2.block _ (by omega)).trans K1.out
  clear hS2 hO2
  go_wp2_with (fail)
  refine (next_any _ D2.out.src (by omega) (by omega) (by omega)).mono ?_
  rintro e w3 ⟨r3, rfl, p3, q3, hS3, hO3⟩
  have D3 : Hid (DS w w3 b ca n cap bs (t + 1 + 1 + 1)) := D2.out.only hS3 hO3
  have K3 : Hid (w3.heap[w.heap.size]? = some (.cells #[.int .i64 0, .int .i64 0, .int .i64 0, .int .i64 0] 49)) := (hO3.block _ (by omega)).trans K2.out
  clear hS3 hO3
  go_wp2_with (fail)
  refine (next_any _ D3.out.src (by omega) (by omega) (by omega)).mono ?_
  rintro e w4 ⟨r4, rfl, p4, q4, hS4, hO4⟩
  have D4 : Hid (DS w w4 b ca n cap bs (t + 4)) := by
    have := D3.out.only hS4 hO4
    rwa [show t + 1 + 1 + 1 + 1 = t + 4 by omega] at this
  have K4 := (hO4.block w.heap.size (by omega)).trans K3.out
  have c0 : w4.cell? ⟨w.heap.size, 0, none⟩ = some (.int .i64 0) := by simp [World.cell?, K4]
  have c1 : w4.cell? ⟨w.heap.size, 1, none⟩ = some (.int .i64 0) := by simp [World.cell?, K4]
  have c2 : w4.cell? ⟨w.heap.size, 2, none⟩ = some (.int .i64 0) := by simp [World.cell?, K4]
  have c3 : w4.cell? ⟨w.heap.size, 3, none⟩ = some (.int .i64 0) := by simp [World.cell?, K4]
  have f0 : w4.frozen? ⟨w.heap.size, 0, none⟩ = false := by simp [World.frozen?, K4]
  have f1 : w4.frozen? ⟨w.heap.size, 1, none⟩ = false := by simp [World.frozen?, K4]
  have f2 : w4.frozen? ⟨w.heap.size, 2, none⟩ = false := by simp [World.frozen?, K4]
  have f3 : w4.frozen? ⟨w.heap.size, 3, none⟩ = false := by simp [World.frozen?, K4]
  have hlt := lt_of_blk K4
  clear hS4 hO4 K4
  go_wp2
  refine bodyPost_ret (by simp [results, Try.results105, go_sem, c0, c1, c2, c3, hlt] <;> rfl) rfl ⟨⟨r1 - 4, r2 - 4, r1 - 4 + (1 + r3), r2 - 4 + 1 + r4⟩, rfl, ?_⟩
  refine D4.out.write H0.out rfl rfl rfl (by simp) fun k hk => ?_
  rw [heap_setCell_other _ _ _ _ (by simp; omega), heap_setCell_other _ _ _ _ (by simp; omega), heap_setCell_other _ _ _ _ (by simp; omega), heap_setCell_other _ _ _ _ (by simp; omega)]

theorem BS.snoc {w1 : World} {A : Nat} {v' : Value} {s : List Bx} {b : Bx} (h : w1.ownsRow A 49 4 v' (s.length + 1) (bflat s ++ bcells b)) : BS w1 A v' (s ++ [b]) := by
  unfold BS
  rw [bflat_append, List.length_append]
  exact h

set_option maxRecDepth 10000 in
set_option maxHeartbeats 3200000 in
theorem listD_any {w : World} {b : Nat} {ca : Option Addr} {n cap : Nat} {bs : Nat → Int} {t : Int} (h : Src w b ca n cap bs t) (h1 : t ≤ 400) :
    Calls Try.prog 98 #[.pointer (some ⟨b, 0, none⟩)] w fun e w' => ∃ v s t', e = .returned v ∧ BS w' w.heap.size v s ∧ s.length ≤ 5 ∧ t ≤ t' ∧ t' ≤ t + 21 ∧ DS w w' b ca n cap bs t' := by
  have H0 : Hid (Src w b ca n cap bs t) := h
  have hb : b < w.heap.size := lt_of_blk h.blk
  clear h
  obtain ⟨i0, hi0, hz0, hz1, hz2⟩ := info_parts info_box
  go_enter Try.func98, Try.ntmps98
  go_wp2_with (fail)
  refine (next_any _ ((DS.start H0.out).alloc _).src (by omega) (by omega) (by omega)).mono ?_
  rintro e w1 ⟨r, rfl, p1, q1, hS1, hO1⟩
  have D1 : Hid (DS w w1 b ca n cap bs (t + 1) ∧ BS w1 w.heap.size (.slice (some ⟨w.heap.size, 0, none⟩) 0 0) []) := ⟨((DS.start H0.out).alloc _).only hS1 hO1, (BS.lit0 w _ (Nat.le_refl _)).onlyB hb hO1⟩
  obtain ⟨k0, rfl⟩ := Int.eq_ofNat_of_zero_le p1
  clear hS1 hO1
  go_wp2
  go_loopw [3, 4] (fun vo i wr => ∃ (k : Nat) (t' : Int) (s : List Bx), k ≤ k0 ∧ i = .int .i64 (k : Int) ∧ s.length + k = k0 ∧ t + 1 ≤ t' ∧ t' + 4 * (k : Int) ≤ t + 1 + 4 * (k0 : Int) ∧ Hid (BS wr w.heap.size vo s ∧ DS w wr b ca n cap bs t')) (fun _ i _ => (intOf i).toNat)
  case atStart => exact ⟨k0, t + 1, [], Nat.le_refl _, rfl, by simp, by omega, by omega, D1.out.2, D1.out.1⟩
  case round =>
    clear D1
    obtain ⟨k, t', s, hk, rfl, hl, ht, ht2, hR⟩ := hrel
    by_cases hlt : 0 < k
    · have bk : (0 : Int) < (k : Int) := by omega
      have HR : Hid (BS wr w.heap.size _ s ∧ DS w wr b ca n cap bs t') := hR.out
      obtain ⟨oa, oc, hof⟩ := hR.out.1.form
      subst hof
      clear hR
      go_wp2_with (fail)
      refine (boxD_any HR.out.2.src (by omega)).mono ?_
      rintro e w4 ⟨m, rfl, hD⟩
      have M4 : Hid (BS w4 w.heap.size (.slice oa s.length oc) s ∧ DS w w4 b ca n cap bs (t' + 4)) := ⟨HR.out.1.saveB hb hD.save, HR.out.2.trans hD⟩
      have hsz4 := M4.out.2.save.size
      clear hD HR
      go_wp2_with (at_builtin; refine wpList_append_own _ rfl _ _ 24 rfl w.heap.size 49 i0 (.agg #[.int .i64 0, .int .i64 0, .int .i64 0, .int .i64 0]) 4 32 Try.underlying24 hi0 hz0 hz1 hz2 rfl (by decide) _ _ _ rfl (World.ownsRow.alloc M4.out.1 _) ⟨w4.heap.size, 0, none⟩ 1 1 (bcells m) rfl rfl (World.news_of_block (cs := #[.int .i64 m.x0, .int .i64 m.y0, .int .i64 m.x1, .int .i64 m.y1]) (t := 49) (fr := (0, 0)) (heap_alloc_new w4 _)) (by simp [bcells, Value.oneCell']) (by unfold maxLen; omega) (by omega) (by simp; omega) ?_; intro v5 w5 hown5 hgrow5 hnn5)
      have R : Hid (BS w5 w.heap.size v5 (s ++ [m]) ∧ DS w w5 b ca n cap bs (t' + 4)) := ⟨BS.snoc hown5, M4.out.2.grown H0.out hgrow5 fun k hk => (World.ownsRow.lt M4.out.1 k hk).1⟩
      clear hown5 hgrow5 hnn5 M4
      go_wp2
      go_roundw
      case rel => exact ⟨k - 1, t' + 4, s ++ [m], by omega, by go_num, by simp; omega, by omega, by omega, R.out⟩
      case measure => simp [intOf]; omega
    · obtain rfl : k = 0 := by omega
      have HR : Hid (BS wr w.heap.size _ s ∧ DS w wr b ca n cap bs t') := hR.out
      clear hR
      go_wp2
      go_returns
      exact ⟨_, s, t', rfl, HR.out.1, by omega, by omega, by omega, HR.out.2⟩

set_option maxRecDepth 10000 in
set_option maxHeartbeats 3200000 in
theorem shapeD_any {w : World} {b : Nat} {ca : Option Addr} {n cap : Nat} {bs : Nat → Int} {t : Int} (h : Src w b ca n cap bs t) (h1 : t ≤ 400) :
    Calls Try.prog 80 #[.pointer (some ⟨b, 0, none⟩)] w fun e w' => ∃ v s t', e = .returned v ∧ BS w' w.heap.size v s ∧ s.length ≤ 50 ∧ v ≠ .slice none 0 0 ∧ t ≤ t' ∧ t' ≤ t + 21 ∧ DS w w' b ca n cap bs t' := by
  have H0 : Hid (Src w b ca n cap bs t) := h
  clear h
  go_enter Try.func80, Try.ntmps80
  go_wp2_with (fail)
  refine (listD_any H0.out h1).mono ?_
  rintro e w1 ⟨v, s, t', rfl, hbs, hl, ht, ht2, hD⟩
  obtain ⟨oa, oc, hof⟩ := hbs.form
  subst hof
  have D1 : Hid (BS w1 w.heap.size (.slice oa s.length oc) s ∧ DS w w1 b ca n cap bs t') := ⟨hbs, hD⟩
  clear hbs hD
  go_wp2_with (fail)
  refine (spec_op 1 oa none oc 0 s [] w1 (by simp; omega) D1.out.1.rb (BS.nil w1 0).rb).mono ?_
  rintro e w2 ⟨v2, rfl, ho, hne, hb2⟩
  have hlen : (opOf (takesK 1) s []).length ≤ 50 := by
    have h1 := or_len (takesK 1) s
    have h2 : 2 * s.length * s.length ≤ 2 * 5 * 5 := Nat.mul_le_mul (Nat.mul_le_mul_left _ hl) hl
    omega
  have D2 : Hid (BS w2 w.heap.size v2 (opOf (takesK 1) s []) ∧ v2 ≠ .slice none 0 0 ∧ DS w w2 b ca n cap bs t') := ⟨ho.low D1.out.2.save.size, hne, D1.out.2.below hb2⟩
  clear ho hne hb2 D1
  go_wp2
  go_returns
  exact ⟨_, _, t', rfl, D2.out.1, hlen, D2.out.2.1, ht, ht2, D2.out.2.2⟩

end Go.Proofs.Ytokdpgabmifdjab
