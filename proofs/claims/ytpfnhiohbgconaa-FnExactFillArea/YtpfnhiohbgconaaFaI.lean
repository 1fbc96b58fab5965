/- Proved here: squaresAlong, squaresIn and grown of the program; l6Room of the model. -/
import Derived.Test.YtpfnhiohbgconaaFaM
import Derived.Test.YtpfnhiohbgconaaIns
namespace Go.Proofs.Ytpfnhiohbgconaa
open Go.RowKit
set_option linter.unusedVariables false
set_option linter.unusedSimpArgs false

set_option maxHeartbeats 1600000 in
theorem impl_along (len z p : Int) (w : World) (hz : 1 ≤ z) (hZ : z ≤ 1000) (hp : 1 ≤ p) (hP : p ≤ 1000) (h0 : 0 < len) (hd : len ≤ 20000) :
    Calls Try.prog 52 #[.int .i64 len, .int .i64 z, .int .i64 p] w fun e w' => e = .returned (.int .i64 ((roomN len z p : Nat) : Int)) ∧ w' = w := by
  by_cases hlz : len < z
  · have e : roomN len z p = 0 := by unfold roomN; rw [if_pos hlz]
    rw [e]
    go_enter Try.func52, Try.ntmps52
    go_wp2
    go_returns
    exact ⟨rfl, rfl⟩
  have hq := roomN_int hp hlz
  have hle := roomN_le (len := len) hp hz hd
  have a1 : IntKind.i64.wrap (len - z) = len - z := by rw [IntKind.wrap_i64]; omega
  generalize ((roomN len z p : Nat) : Int) = q at hq hle ⊢
  obtain ⟨t, ht⟩ : ∃ t, t = (len - z).tdiv p := ⟨_, rfl⟩
  rw [← ht] at hq
  have ht0 : 0 ≤ t ∧ t ≤ 20000 := by
    rw [ht]
    exact ⟨Int.tdiv_nonneg (by omega) (by omega), Int.le_trans (Int.tdiv_le_self _ (by omega)) (by omega)⟩
  have a2 : IntKind.i64.wrap t = t := by rw [IntKind.wrap_i64]; omega
  have a3 : IntKind.i64.wrap (t + 1) = q := by rw [IntKind.wrap_i64]; omega
  have ht' : (len - z).tdiv p = t := ht.symm
  have hm0 : ¬ p = 0 := by omega
  have hm1 : (p == 0) = false := by simp; omega
  have hm2 : (p == -1) = false := by simp; omega
  clear ht hq hle hd ht0
  go_enter Try.func52, Try.ntmps52
  go_wp2
  go_returns
  refine ⟨?_, rfl⟩
  simp [ht', a2, a3]

set_option maxHeartbeats 1600000 in
theorem spec_room (len z p : Int) (w : World) (hz : 1 ≤ z) (hZ : z ≤ 1000) (hp : 1 ≤ p) (hP : p ≤ 1000) (h0 : 0 < len) (hd : len ≤ 20000) :
    Calls Try.prog 45 #[.int .i64 len, .int .i64 z, .int .i64 p] w fun e w' => e = .returned (.int .i64 ((roomN len z p : Nat) : Int)) ∧ w' = w := by
  by_cases hlz : len < z
  · have e : roomN len z p = 0 := by unfold roomN; rw [if_pos hlz]
    rw [e]
    go_enter Try.func45, Try.ntmps45
    go_wp2
    go_returns
    exact ⟨rfl, rfl⟩
  have hq := roomN_int hp hlz
  have hle := roomN_le (len := len) hp hz hd
  have a1 : IntKind.i64.wrap (len - z) = len - z := by rw [IntKind.wrap_i64]; omega
  generalize ((roomN len z p : Nat) : Int) = q at hq hle ⊢
  obtain ⟨t, ht⟩ : ∃ t, t = (len - z).tdiv p := ⟨_, rfl⟩
  rw [← ht] at hq
  have ht0 : 0 ≤ t ∧ t ≤ 20000 := by
    rw [ht]
    exact ⟨Int.tdiv_nonneg (by omega) (by omega), Int.le_trans (Int.tdiv_le_self _ (by omega)) (by omega)⟩
  have a2 : IntKind.i64.wrap t = t := by rw [IntKind.wrap_i64]; omega
  have a3 : IntKind.i64.wrap (t + 1) = q := by rw [IntKind.wrap_i64]; omega
  have ht' : (len - z).tdiv p = t := ht.symm
  have hm0 : ¬ p = 0 := by omega
  have hm1 : (p == 0) = false := by simp; omega
  have hm2 : (p == -1) = false := by simp; omega
  clear ht hq hle hd ht0
  go_enter Try.func45, Try.ntmps45
  go_wp2
  go_returns
  refine ⟨?_, rfl⟩
  simp [ht', a2, a3]

set_option maxHeartbeats 1600000 in
theorem impl_grwB (b : Bx) (d : Int) (w : World) (hd : 0 ≤ d ∧ d ≤ 1000) (hb : -20000 ≤ b.x0 ∧ b.x0 ≤ 20000 ∧ -20000 ≤ b.y0 ∧ b.y0 ≤ 20000 ∧ -20000 ≤ b.x1 ∧ b.x1 ≤ 20000 ∧ -20000 ≤ b.y1 ∧ b.y1 ≤ 20000) :
    Calls Try.prog 54 #[.agg #[.int .i64 b.x0, .int .i64 b.y0, .int .i64 b.x1, .int .i64 b.y1], .int .i64 d] w fun e w' => e = .returned (.agg #[.int .i64 (grwB d b).x0, .int .i64 (grwB d b).y0, .int .i64 (grwB d b).x1, .int .i64 (grwB d b).y1]) ∧ Below w.heap.size w w' := by
  unfold grwB
  have hw1 : IntKind.i64.wrap (b.x0 - d) = b.x0 - d := by rw [IntKind.wrap_i64]; omega
  have hw2 : IntKind.i64.wrap (b.y0 - d) = b.y0 - d := by rw [IntKind.wrap_i64]; omega
  have hw3 : IntKind.i64.wrap (b.x1 + d) = b.x1 + d := by rw [IntKind.wrap_i64]; omega
  have hw4 : IntKind.i64.wrap (b.y1 + d) = b.y1 + d := by rw [IntKind.wrap_i64]; omega
  clear hd hb
  go_enter Try.func54, Try.ntmps54
  go_wp2
  go_returns
  exact ⟨rfl, by (repeat' (first | (with_reducible exact Below.refl _ _) | (with_reducible assumption) | (with_reducible refine Below.setCell ?_ ?_ _) | (with_reducible refine Below.alloc ?_ ?_ _) | (with_reducible refine below_drewN ?_ _) | (with_reducible refine Below.drew ?_) | (with_reducible exact Nat.le_refl _) | omega | (simp; done) | (simp; omega)))⟩

/-- What stands while the squares are made. -/
structure QV (w wr : World) (a : Bx) (vo : Value) (out : List Bx) : Prop where
  o : BS wr (w.heap.size + 1) vo out
  b : wr.heap[w.heap.size]? = some (.cells #[.int .i64 a.x0, .int .i64 a.y0, .int .i64 a.x1, .int .i64 a.y1] 30)
  bl : Below w.heap.size w wr
  sz : w.heap.size + 1 ≤ wr.heap.size
theorem QV.push {w wr w1 : World} {a : Bx} {vo v' : Value} {out : List Bx} {b : Bx} {ob : Obj} (h : QV w wr a vo out) (ho : w1.ownsRow (w.heap.size + 1) 30 4 v' (out.length + 1) (bflat out ++ bcells b)) (hg : (wr.alloc ob).grownBy w1 vo.ownBlock) : QV w w1 a v' (out ++ [b]) := by
  have hz := h.sz
  have hne : ∀ k, k < w.heap.size + 1 → some k ≠ vo.ownBlock := fun k hk e => by have := (World.ownsRow.lt h.o k e.symm).1; omega
  refine ⟨?_, (hg.block _ (by simp; omega) (hne _ (by omega))).trans ((Below.heap_alloc wr _ _ (by omega)).trans h.b), ?_, by have := hg.size; simp at this; omega⟩
  · unfold BS
    rw [bflat_append, List.length_append]
    have e : bflat [b] = bcells b := by simp [bflat]
    rw [e]; exact ho
  · exact (h.bl.alloc h.bl.size ob).trans ⟨hg.os, hg.tape, hg.output, hg.size, fun k hk => hg.block k (by simp; omega) (hne k (by omega))⟩

set_option maxRecDepth 10000 in
set_option maxHeartbeats 4000000 in
theorem impl_squares (a : Bx) (z p : Int) (w : World) (ha : OkA a) (hz : 1 ≤ z) (hZ : z ≤ 1000) (hp : 1 ≤ p) (hP : p ≤ 1000) (hN : faN a z p ≤ 150) :
    Calls Try.prog 53 #[.agg #[.int .i64 a.x0, .int .i64 a.y0, .int .i64 a.x1, .int .i64 a.y1], .int .i64 z, .int .i64 p] w fun e w' => ∃ v, e = .returned v ∧ BS w' w.heap.size v (sqL a z p) ∧ Below w.heap.size w w' := by
  have HA : Hid (OkA a ∧ faN a z p ≤ 150) := ⟨ha, hN⟩
  have HS : Hid ((∀ j : Nat, a.y0 + j * p + z ≤ a.y1 ↔ j < roomN (a.y1 - a.y0) z p) ∧ ∀ i : Nat, a.x0 + i * p + z ≤ a.x1 ↔ i < roomN (a.x1 - a.x0) z p) := by
    refine ⟨fun j => ?_, fun i => ?_⟩
    · rw [← roomN_lt (len := a.y1 - a.y0) (z := z) hp j]; omega
    · rw [← roomN_lt (len := a.x1 - a.x0) (z := z) hp i]; omega
  have HT : Hid ((∀ j : Nat, j ≤ roomN (a.y1 - a.y0) z p → -10000 ≤ a.y0 + j * p ∧ a.y0 + j * p ≤ 11000) ∧ ∀ i : Nat, i ≤ roomN (a.x1 - a.x0) z p → -10000 ≤ a.x0 + i * p ∧ a.x0 + i * p ≤ 11000) := by
    have ha' := ha
    unfold OkA at ha'
    refine ⟨fun j hj => ?_, fun i hi => ?_⟩
    · have := stepA (lo := a.y0) (len := a.y1 - a.y0) (z := z) hp hP hz (by omega) hj; omega
    · have := stepA (lo := a.x0) (len := a.x1 - a.x0) (z := z) hp hP hz (by omega) hi; omega
  have HS0 : Hid (QV w (w.alloc (.cells #[.int .i64 a.x0, .int .i64 a.y0, .int .i64 a.x1, .int .i64 a.y1] 30)) a (.slice none 0 0) []) := ⟨BS.nil _ _, heap_alloc_new w _, (Below.refl _ _).alloc (Nat.le_refl _) _, by simp⟩
  obtain ⟨i0, hi0, hz0, hz1, hz2⟩ := info_parts info_box
  clear ha hN
  go_enter Try.func53, Try.ntmps53
  go_wp2
  go_loopw [7, 8] (fun v y wr => ∃ j : Nat, j ≤ roomN (a.y1 - a.y0) z p ∧ y = .int .i64 (a.y0 + j * p) ∧ Hid (QV w wr a v (sqS a z p j))) (fun _ y _ => (12000 - intOf y).toNat)
  case atStart => exact ⟨0, Nat.zero_le _, by simp, HS0.out⟩
  case round =>
    clear HS0
    obtain ⟨j, hj, rfl, hR⟩ := hrel
    obtain ⟨p0, p1, p2, p3, pl⟩ := mt_four hR.out.b
    have hst := HT.out.1 j hj
    have hbo := HS.out.1 j
    obtain ⟨y, hy⟩ : ∃ y, y = a.y0 + j * p := ⟨_, rfl⟩
    rw [← hy] at hst hbo ⊢
    have hwz : IntKind.i64.wrap (y + z) = y + z := by rw [IntKind.wrap_i64]; omega
    have hwp : IntKind.i64.wrap (y + p) = y + p := by rw [IntKind.wrap_i64]; omega
    have HY : Hid (y = a.y0 + j * p ∧ y + p = a.y0 + ((j + 1 : Nat) : Int) * p ∧ -10000 ≤ y ∧ y ≤ 11000) := ⟨hy, by rw [nextA, hy], hst⟩
    clear hy hst
    by_cases hlt : y + z ≤ a.y1
    · have HJ : Hid (j < roomN (a.y1 - a.y0) z p) := hbo.1 hlt
      clear hbo hj
      go_wp2
      clear p0 p1 p2 p3 pl
      go_loopw [7, 9] (fun v x wr => ∃ i : Nat, i ≤ roomN (a.x1 - a.x0) z p ∧ x = .int .i64 (a.x0 + i * p) ∧ Hid (QV w wr a v (sqS a z p j ++ sqR a z p y i))) (fun _ x _ => (12000 - intOf x).toNat)
      case atStart => exact ⟨0, Nat.zero_le _, by simp, by have := hR.out; unfold Hid; simpa [sqR] using this⟩
      case round =>
        clear hR
        obtain ⟨i, hi, rfl, hQ⟩ := hrel
        obtain ⟨p0, p1, p2, p3, pl⟩ := mt_four hQ.out.b
        have hst := HT.out.2 i hi
        have hbo := HS.out.2 i
        obtain ⟨x, hx⟩ : ∃ x, x = a.x0 + i * p := ⟨_, rfl⟩
        rw [← hx] at hst hbo ⊢
        have hvz : IntKind.i64.wrap (x + z) = x + z := by rw [IntKind.wrap_i64]; omega
        have hvp : IntKind.i64.wrap (x + p) = x + p := by rw [IntKind.wrap_i64]; omega
        have HX : Hid (x = a.x0 + i * p ∧ x + p = a.x0 + ((i + 1 : Nat) : Int) * p ∧ -10000 ≤ x ∧ x ≤ 11000) := ⟨hx, by rw [nextA, hx], hst⟩
        clear hx hst
        by_cases hlx : x + z ≤ a.x1
        · have hic : i < roomN (a.x1 - a.x0) z p := hbo.1 hlx
          have HST : Hid (i < roomN (a.x1 - a.x0) z p ∧ sqS a z p j ++ sqR a z p y (i + 1) = (sqS a z p j ++ sqR a z p y i) ++ [⟨x, y, x + z, y + z⟩]) := by
            refine ⟨hic, ?_⟩
            rw [sqR_succ, HX.out.1, List.append_assoc _ (sqR a z p y i)]
          have hll : (sqS a z p j ++ sqR a z p y i).length ≤ 150 := by
            rw [List.length_append, sqS_len, sqR_len]
            have h1 := rowsA HJ.out (Nat.le_of_lt hic)
            have h2 := HA.out.2
            unfold faN at h2
            omega
          obtain ⟨oa, oc, hof⟩ := hQ.out.o.form
          subst hof
          have HQ : Hid (QV w wr a (.slice oa (sqS a z p j ++ sqR a z p y i).length oc) (sqS a z p j ++ sqR a z p y i)) := hQ.out
          have hsz := hQ.out.sz
          clear hbo hic hQ hi
          generalize sqS a z p j ++ sqR a z p y i = out at HQ HST hll ⊢
          go_wp2_with (at_builtin; refine wpList_append_own _ rfl _ _ 26 rfl (w.heap.size + 1) 30 i0 (.agg #[.int .i64 0, .int .i64 0, .int .i64 0, .int .i64 0]) 4 32 Try.underlying26 hi0 hz0 hz1 hz2 rfl (by decide) _ _ _ rfl (World.ownsRow.alloc HQ.out.o _) ⟨wr.heap.size, 0, none⟩ 1 1 (bcells ⟨x, y, x + z, y + z⟩) rfl rfl (World.news_of_block (cs := #[.int .i64 x, .int .i64 y, .int .i64 (x + z), .int .i64 (y + z)]) (t := 30) (fr := (0, 0)) (heap_alloc_new wr _)) (by simp [bcells, Value.oneCell']) (by unfold maxLen; omega) (by omega) (by simp; omega) ?_; intro v5 w5 hown5 hgrow5 _)
          have R : Hid (QV w w5 a v5 (sqS a z p j ++ sqR a z p y (i + 1))) := by
            unfold Hid
            rw [HST.out.2]
            exact HQ.out.push hown5 hgrow5
          clear hown5 hgrow5 HQ p0 p1 p2 p3 pl
          go_wp2
          go_roundw
          case rel => exact ⟨i + 1, HST.out.1, by rw [← HX.out.2.1], R.out⟩
          case measure => have := HX.out; simp [intOf]; omega
        · have e : i = roomN (a.x1 - a.x0) z p := by
            rcases Nat.lt_or_ge i (roomN (a.x1 - a.x0) z p) with h | h
            · exact absurd (hbo.2 h) hlx
            · omega
          have R : Hid (QV w wr a u7 (sqS a z p (j + 1))) := by
            have h1 := hQ.out
            rw [e] at h1
            unfold Hid
            rw [sqS_succ, ← HY.out.1]
            exact h1
          clear hQ hbo e
          go_wp2
          go_roundw
          case rel => exact ⟨j + 1, HJ.out, by rw [← HY.out.2.1], R.out⟩
          case measure => have := HY.out; simp [intOf]; omega
    · have e : j = roomN (a.y1 - a.y0) z p := by
        rcases Nat.lt_or_ge j (roomN (a.y1 - a.y0) z p) with h | h
        · exact absurd (hbo.2 h) hlt
        · omega
      have HF : Hid (BS wr w.heap.size u7 (sqL a z p) ∧ Below w.heap.size w wr) := by
        have h1 := hR.out
        rw [e] at h1
        exact ⟨h1.o.low (by omega), h1.bl⟩
      obtain ⟨oa, oc, hof⟩ := HF.out.1.form
      subst hof
      clear hR hbo e
      go_wp2
      go_returns
      exact ⟨_, rfl, HF.out.1, HF.out.2⟩

end Go.Proofs.Ytpfnhiohbgconaa
