/- Proved here: the draws of residues and of DrawModImage: three lists of numbers in memory of the call's own, few enough. -/
import Derived.Test.YtcplddblfhbejaaDraw
import Derived.Test.YtcplddblfhbejaaNlJ
import Derived.Deep.AppendLies
namespace Go.Proofs.Ytcplddblfhbejaa
open Go.RowKit
set_option linter.unusedVariables false
set_option linter.unusedSimpArgs false

/-- A world that the draws have come to: the source has gone on, all else of old is as it was. -/
structure DSi (w wr : World) (b : Nat) (ca : Option Addr) (n cap : Nat) (bs : Nat → Int) (t : Int) : Prop where
  save : SaveBut b w wr
  src : Src wr b ca n cap bs t
theorem Src.moved {w wr : World} {b : Nat} {ca : Option Addr} {n cap : Nat} {bs : Nat → Int} {t t' : Int} (h : Src w b ca n cap bs t) (hs : SaveBut b w wr) (hb : wr.heap[b]? = some (.cells #[.slice ca n cap, .int .i64 t'] 120)) (ht : 0 ≤ t') : Src wr b ca n cap bs t' := by
  refine ⟨hb, h.bytes, fun hn => ?_, h.few, ht⟩
  obtain ⟨g, off, e, hg, hc⟩ := h.lie hn
  exact ⟨g, off, e, hg, fun j hj => (World.cell?_of_block (hs.block g (lt_of_cell (hc j hj)) hg)).trans (hc j hj)⟩
theorem DSi.start {w : World} {b : Nat} {ca : Option Addr} {n cap : Nat} {bs : Nat → Int} {t : Int} (h : Src w b ca n cap bs t) : DSi w w b ca n cap bs t := ⟨SaveBut.refl _ _, h⟩
theorem DSi.only {w wr w1 : World} {b : Nat} {ca : Option Addr} {n cap : Nat} {bs : Nat → Int} {t t' : Int} (h : DSi w wr b ca n cap bs t) (hs : Src w1 b ca n cap bs t') (ho : Only b wr w1) : DSi w w1 b ca n cap bs t' := ⟨h.save.only ho, hs⟩
theorem DSi.below {w wr w1 : World} {b : Nat} {ca : Option Addr} {n cap : Nat} {bs : Nat → Int} {t : Int} (h : DSi w wr b ca n cap bs t) (hb : Below wr.heap.size wr w1) : DSi w w1 b ca n cap bs t := by
  refine ⟨⟨hb.os.trans h.save.os, hb.tape.trans h.save.tape, hb.output.trans h.save.output, Nat.le_trans h.save.size hb.size, fun k hk hg => (hb.block k (Nat.lt_of_lt_of_le hk h.save.size)).trans (h.save.block k hk hg)⟩, h.src.mono hb.block⟩
theorem DSi.alloc {w wr : World} {b : Nat} {ca : Option Addr} {n cap : Nat} {bs : Nat → Int} {t : Int} (h : DSi w wr b ca n cap bs t) (o : Obj) : DSi w (wr.alloc o) b ca n cap bs t := h.below ((Below.refl _ _).alloc (Nat.le_refl _) _)
theorem DSi.trans {w w1 w2 : World} {b : Nat} {ca : Option Addr} {n cap : Nat} {bs : Nat → Int} {t t' : Int} (h : DSi w w1 b ca n cap bs t) (k : DSi w1 w2 b ca n cap bs t') : DSi w w2 b ca n cap bs t' := ⟨h.save.trans k.save, k.src⟩
/-- Blocks of the call's own are written. -/
theorem DSi.write {w wr w1 : World} {b : Nat} {ca : Option Addr} {n cap : Nat} {bs : Nat → Int} {t0 t : Int} (h0 : Src w b ca n cap bs t0) (h : DSi w wr b ca n cap bs t) (hos : w1.os = wr.os) (htp : w1.tape = wr.tape) (hout : w1.output = wr.output) (hsz : wr.heap.size ≤ w1.heap.size)
    (hb : ∀ k, k < w.heap.size → w1.heap[k]? = wr.heap[k]?) : DSi w w1 b ca n cap bs t := by
  have hs : SaveBut b w w1 := ⟨hos.trans h.save.os, htp.trans h.save.tape, hout.trans h.save.output, Nat.le_trans h.save.size hsz, fun k hk hg => (hb k hk).trans (h.save.block k hk hg)⟩
  exact ⟨hs, h0.moved hs ((hb b (lt_of_blk h0.blk)).trans h.src.blk) h.src.t0⟩
theorem DSi.grown {w wr w1 : World} {b : Nat} {ca : Option Addr} {n cap : Nat} {bs : Nat → Int} {t0 t : Int} {row : Option Nat} {ob : Obj} (h0 : Src w b ca n cap bs t0) (h : DSi w wr b ca n cap bs t) (hg : (wr.alloc ob).grownBy w1 row) (hr : ∀ k, row = some k → w.heap.size ≤ k) : DSi w w1 b ca n cap bs t := by
  have hsz := h.save.size
  refine h.write h0 hg.os hg.tape hg.output (Nat.le_trans (by simp) hg.size) fun k hk => ?_
  rw [hg.block k (by simp; omega) (fun e => by have := hr k e.symm; omega)]
  exact Below.heap_alloc _ _ _ (by omega)
theorem IS.saveI {w w' : World} {B b : Nat} {v : Value} {s : List Int} (h : IS w B v s) (hb : b < B) (hs : SaveBut b w w') : IS w' B v s :=
  h.kept fun g hg => hs.block g (IS.lt h g hg).2 (by have := (IS.lt h g hg).1; omega)

set_option maxHeartbeats 800000 in
/-- A pick is one of the numbers. -/
theorem pick_in {w : World} {b : Nat} {ca : Option Addr} {n cap : Nat} {bs : Nat → Int} {t : Int} (L N c : Nat) (f : Nat → Int) (h : Src w b ca n cap bs t) (h1 : t ≤ 1000) (hN : 1 ≤ N) (hN' : N ≤ 1000) (hL : L ≠ b) (hc : ∀ j, j < N → w.cell? ⟨L, j, none⟩ = some (.int .i64 (f j))) :
    Calls Try.prog 40 #[.pointer (some ⟨b, 0, none⟩), .slice (some ⟨L, 0, none⟩) N c] w fun e w' => ∃ j, j < N ∧ e = .returned (.int .i64 (f j)) ∧ Src w' b ca n cap bs (t + 1) ∧ Only b w w' := by
  have H : Hid (Src w b ca n cap bs t) := h
  have HC : Hid _ := hc
  clear h hc
  go_enter Try.func40, Try.ntmps40
  go_wp2_with (fail)
  refine (next_any _ H.out h1 (by omega) (by omega)).mono ?_
  rintro e w1 ⟨r, rfl, r0, r1, hS, hO⟩
  have hcell : w1.cell? ⟨L, r.toNat, none⟩ = some (.int .i64 (f r.toNat)) := (World.cell?_of_block (hO.block L hL)).trans (HC.out r.toNat (by omega))
  have HS : Hid (Src w1 b ca n cap bs (t + 1)) := hS
  have HO : Hid (Only b w w1) := hO
  clear hS hO
  go_wp2
  go_returns
  exact ⟨r.toNat, by omega, rfl, HS.out, HO.out⟩

set_option maxHeartbeats 800000 in
theorem chance_any {w : World} {b : Nat} {ca : Option Addr} {n cap : Nat} {bs : Nat → Int} {t : Int} (m : Int) (h : Src w b ca n cap bs t) (h1 : t ≤ 1000) (h2 : 1 ≤ m) (h3 : m ≤ 100000) :
    Calls Try.prog 42 #[.pointer (some ⟨b, 0, none⟩), .int .i64 m] w fun e w' => ∃ r, e = .returned (.bool r) ∧ Src w' b ca n cap bs (t + 1) ∧ Only b w w' := by
  have H : Hid (Src w b ca n cap bs t) := h
  clear h
  go_enter Try.func42, Try.ntmps42
  go_wp2_with (fail)
  refine (next_any _ H.out h1 h2 h3).mono ?_
  rintro e w1 ⟨r, rfl, r0, r1, hS, hO⟩
  have HS : Hid (Src w1 b ca n cap bs (t + 1)) := hS
  have HO : Hid (Only b w w1) := hO
  clear hS hO
  go_wp2
  go_returns
  exact ⟨_, rfl, HS.out, HO.out⟩

theorem IS.snocD {w : World} {B : Nat} {v : Value} {xs : List Int} {y : Int} (h : w.ownsRow B 2 1 v (xs.length + 1) (xs.map (Value.int .i64) ++ [.int .i64 y])) : IS w B v (xs ++ [y]) := by
  unfold IS
  rw [List.length_append, List.map_append]
  exact h
theorem six_at {w : World} {k : Nat} {a b c d e f : Int} {T : TypeId} (h : w.heap[k]? = some (.cells #[.int .i64 a, .int .i64 b, .int .i64 c, .int .i64 d, .int .i64 e, .int .i64 f] T)) : ∀ j, j < 6 → w.cell? ⟨k, j, none⟩ = some (.int .i64 ([a, b, c, d, e, f].getD j 0)) := by
  intro j hj
  simp only [World.cell?, h]
  match j, hj with
  | 0, _ => rfl
  | 1, _ => rfl
  | 2, _ => rfl
  | 3, _ => rfl
  | 4, _ => rfl
  | 5, _ => rfl

set_option maxRecDepth 10000 in
set_option maxHeartbeats 6400000 in
theorem resid_any {w : World} {b : Nat} {ca : Option Addr} {n cap : Nat} {bs : Nat → Int} {t : Int} (N : Nat) (h : Src w b ca n cap bs t) (hN : N ≤ 66) (h1 : t + 3 * (N : Int) ≤ 900) :
    Calls Try.prog 41 #[.pointer (some ⟨b, 0, none⟩), .int .i64 N] w fun e w' => ∃ v s, e = .returned v ∧ IS w' w.heap.size v s ∧ s.length = N ∧ DSi w w' b ca n cap bs (t + 3 * (N : Int)) := by
  have H0 : Hid (Src w b ca n cap bs t) := h
  have hb : b < w.heap.size := lt_of_blk h.blk
  have ht0 : 0 ≤ t := h.t0
  clear h
  obtain ⟨i0, hi, hz0, hz1, hz2⟩ := info_parts info_i64
  go_enter Try.func41, Try.ntmps41
  go_wp2
  go_loopw [1, 5] (fun i vo wr => ∃ (k : Nat) (s : List Int) (v : Value), k ≤ N ∧ v = vo ∧ i = .int .i64 (k : Int) ∧ s.length + k = N ∧ Hid (IS wr w.heap.size v s ∧ DSi w wr b ca n cap bs (t + 3 * (s.length : Int)))) (fun i _ _ => (intOf i).toNat)
  case atStart =>
    refine ⟨N, [], _, Nat.le_refl _, rfl, rfl, by simp, ?_, ?_⟩
    · have := World.ownsRow_lit (e := 2) (size := 1) (base := w.heap.size) w #[] 0 (Nat.le_refl _) (by decide) (by simp)
      exact this
    · have := (DSi.start H0.out).alloc (.cells #[] 2)
      simpa using this
  case round =>
    obtain ⟨k, s, v, hk, rfl, rfl, hl, hR⟩ := hrel
    by_cases hlt : 0 < k
    · have bk : (0 : Int) < (k : Int) := by omega
      obtain ⟨oa, oc, hof⟩ := hR.out.1.form
      subst hof
      obtain ⟨T0, hT0⟩ : ∃ T, T = t + 3 * (s.length : Int) := ⟨_, rfl⟩
      have hTb : T0 + 3 ≤ 900 ∧ 0 ≤ T0 := by rw [hT0]; omega
      have HR : Hid (IS wr w.heap.size (.slice oa s.length oc) s ∧ DSi w wr b ca n cap bs T0 ∧ T0 = t + 3 * (s.length : Int)) := ⟨hR.out.1, by rw [hT0]; exact hR.out.2, hT0⟩
      have hbr : b < wr.heap.size := Nat.lt_of_lt_of_le hb hR.out.2.save.size
      clear hR hT0
      go_wp2_with (fail)
      refine (next_any _ HR.out.2.1.src (by omega) (by omega) (by omega)).mono ?_
      rintro e w1 ⟨r, rfl, r0, r1, hS1, hO1⟩
      have D1 : Hid (IS w1 w.heap.size (.slice oa s.length oc) s ∧ DSi w w1 b ca n cap bs (T0 + 1)) := ⟨HR.out.1.saveI hb ((SaveBut.refl _ _).only hO1), HR.out.2.1.only hS1 hO1⟩
      clear hS1 hO1
      go_wp2_with (fail)
      refine (next_any _ D1.out.2.src (by omega) (by omega) (by omega)).mono ?_
      rintro e w2 ⟨q, rfl, q0, q1, hS2, hO2⟩
      have D2 : Hid (IS w2 w.heap.size (.slice oa s.length oc) s ∧ DSi w w2 b ca n cap bs (T0 + 2)) := ⟨D1.out.1.saveI hb ((SaveBut.refl _ _).only hO2), by have := D1.out.2.only hS2 hO2; rw [show T0 + 1 + 1 = T0 + 2 by omega] at this; exact this⟩
      clear hS2 hO2 D1
      have e1 : IntKind.i64.wrap (q - 4) = q - 4 := by rw [IntKind.wrap_i64]; omega
      have hne : ¬ w2.heap.size = b := by have := D2.out.2.save.size; omega
      go_wp2_with (fail)
      refine (pick_in w2.heap.size 6 6 (fun j => [r, q - 4, 0, 998244352, -9223372036854775808, 9223372036854775807].getD j 0) (D2.out.2.alloc _).src (by omega) (by omega) (by omega) hne (six_at (heap_alloc_new w2 _))).mono ?_
      rintro e w3 ⟨j, hj, rfl, hS3, hO3⟩
      obtain ⟨Y, hY⟩ : ∃ Y, Y = [r, q - 4, 0, 998244352, -9223372036854775808, 9223372036854775807].getD j 0 := ⟨_, rfl⟩
      simp only [← hY]
      have D3 : Hid (IS w3 w.heap.size (.slice oa s.length oc) s ∧ DSi w w3 b ca n cap bs (T0 + 3)) := by
        refine ⟨(D2.out.1.bel ((Below.refl _ _).alloc (Nat.le_refl _) _)).saveI hb ((SaveBut.refl _ _).only hO3), ?_⟩
        have := (D2.out.2.alloc (.cells #[.int .i64 r, .int .i64 (q - 4), .int .i64 0, .int .i64 998244352, .int .i64 (-9223372036854775808), .int .i64 9223372036854775807] 2)).only hS3 hO3
        rw [show T0 + 2 + 1 = T0 + 3 by omega] at this
        exact this
      clear hS3 hO3 D2 hY hne
      have hsz3 := D3.out.2.save.size
      go_wp2_with (at_builtin; refine wpList_append_own _ rfl _ _ 24 rfl w.heap.size 2 i0 (.int .i64 0) 1 8 Try.underlying24 hi hz0 hz1 hz2 rfl (by decide) _ _ _ rfl (World.ownsRow.alloc D3.out.1 _) ⟨w3.heap.size, 0, none⟩ 1 1 [.int .i64 Y] rfl rfl (World.news_of_block (cs := #[.int .i64 Y]) (t := 2) (fr := (0, 0)) (heap_alloc_new w3 _)) (by simp [Value.oneCell']) (by unfold maxLen; omega) (by omega) (by simp; omega) ?_; intro v6 w6 hown6 hgrow6 _)
      have R6 : Hid (IS w6 w.heap.size v6 (s ++ [Y]) ∧ DSi w w6 b ca n cap bs (t + 3 * ((s ++ [Y]).length : Int))) := by
        refine ⟨IS.snocD hown6, ?_⟩
        have h9 := D3.out.2.grown H0.out hgrow6 (fun q hq => (World.ownsRow.lt D3.out.1 q hq).1)
        rw [HR.out.2.2] at h9
        rw [List.length_append, show t + 3 * ((s.length + [Y].length : Nat) : Int) = t + 3 * (s.length : Int) + 3 by simp; omega]
        exact h9
      clear hown6 hgrow6 D3
      go_wp2
      go_roundw
      case rel => exact ⟨k - 1, s ++ [Y], v6, by omega, rfl, by go_num, by simp; omega, R6.out⟩
      case measure => simp [intOf]; omega
    · obtain rfl : k = 0 := by omega
      have hsN : s.length = N := by omega
      have HE : Hid (IS wr w.heap.size v s ∧ s.length = N ∧ DSi w wr b ca n cap bs (t + 3 * (N : Int))) := ⟨hR.out.1, hsN, by rw [← hsN]; exact hR.out.2⟩
      clear hR
      go_wp2
      go_returns
      exact ⟨_, s, rfl, HE.out⟩

theorem ten_at {w : World} {k : Nat} {a0 a1 a2 a3 a4 a5 a6 a7 a8 a9 : Int} {T : TypeId} (h : w.heap[k]? = some (.cells #[.int .i64 a0, .int .i64 a1, .int .i64 a2, .int .i64 a3, .int .i64 a4, .int .i64 a5, .int .i64 a6, .int .i64 a7, .int .i64 a8, .int .i64 a9] T)) : ∀ j, j < 10 → w.cell? ⟨k, j, none⟩ = some (.int .i64 ([a0, a1, a2, a3, a4, a5, a6, a7, a8, a9].getD j 0)) := by
  intro j hj
  simp only [World.cell?, h]
  match j, hj with
  | 0, _ => rfl
  | 1, _ => rfl
  | 2, _ => rfl
  | 3, _ => rfl
  | 4, _ => rfl
  | 5, _ => rfl
  | 6, _ => rfl
  | 7, _ => rfl
  | 8, _ => rfl
  | 9, _ => rfl
theorem ten_bd {j : Nat} (h : j < 10) : ∃ N : Nat, ([1, 2, 4, 8, 4, 8, 16, 3, 0, 64] : List Int).getD j 0 = (N : Int) ∧ N ≤ 64 := by
  match j, h with
  | 0, _ => exact ⟨1, rfl, by omega⟩
  | 1, _ => exact ⟨2, rfl, by omega⟩
  | 2, _ => exact ⟨4, rfl, by omega⟩
  | 3, _ => exact ⟨8, rfl, by omega⟩
  | 4, _ => exact ⟨4, rfl, by omega⟩
  | 5, _ => exact ⟨8, rfl, by omega⟩
  | 6, _ => exact ⟨16, rfl, by omega⟩
  | 7, _ => exact ⟨3, rfl, by omega⟩
  | 8, _ => exact ⟨0, rfl, by omega⟩
  | 9, _ => exact ⟨64, rfl, by omega⟩
theorem six_bd {j : Nat} (h : j < 6) : ∃ N : Nat, ([1, 2, 3, 1, 0, 13] : List Int).getD j 0 = (N : Int) ∧ N ≤ 13 := by
  match j, h with
  | 0, _ => exact ⟨1, rfl, by omega⟩
  | 1, _ => exact ⟨2, rfl, by omega⟩
  | 2, _ => exact ⟨3, rfl, by omega⟩
  | 3, _ => exact ⟨1, rfl, by omega⟩
  | 4, _ => exact ⟨0, rfl, by omega⟩
  | 5, _ => exact ⟨13, rfl, by omega⟩
theorem source_anyI (ca : Option Addr) (n cap : Nat) (w : World) :
    Calls Try.prog 39 #[.slice ca n cap] w fun e w' => e = .returned (.pointer (some ⟨w.heap.size, 0, none⟩)) ∧ w' = w.alloc (.cells #[.slice ca n cap, .int .i64 0] 120) := by
  go_enter Try.func39, Try.ntmps39
  go_wp2
  go_returns
  exact ⟨rfl, rfl⟩

end Go.Proofs.Ytcplddblfhbejaa
