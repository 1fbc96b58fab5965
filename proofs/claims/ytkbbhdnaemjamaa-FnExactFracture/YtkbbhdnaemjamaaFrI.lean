/- Proved here: piecesAlong, pieceCount, appendPieces and Fracture of the program: frC, frL. -/
import Derived.Test.YtkbbhdnaemjamaaFrM
import Derived.Test.YtkbbhdnaemjamaaIForm
import Derived.Test.YtkbbhdnaemjamaaIns
import Derived.Maps.Range
namespace Go.Proofs.Ytkbbhdnaemjamaa
open Go.RowKit
set_option linter.unusedVariables false
set_option linter.unusedSimpArgs false

def frC (s : List Bx) (m : Int) : Int := if shapeK s = 0 then (if 1 ≤ m ∧ m ≤ 1000 then (if 150 < frN s m then 2 else 0) else 3) else shapeK s
def frL (s : List Bx) (m : Int) : List Bx := if frC s m = 0 then pcsL s m else []
theorem frK_zero {s : List Bx} (h : shapeK s = 0) : boxesK s = 0 := by
  unfold shapeK at h
  split at h
  · assumption
  · assumption
theorem frC_good {s : List Bx} {m : Int} (h : frC s m = 0) : shapeK s = 0 ∧ (1 ≤ m ∧ m ≤ 1000) ∧ frN s m ≤ 150 := by
  unfold frC at h
  by_cases h0 : shapeK s = 0
  · rw [if_pos h0] at h
    by_cases h1 : 1 ≤ m ∧ m ≤ 1000
    · rw [if_pos h1] at h
      by_cases h2 : 150 < frN s m
      · rw [if_pos h2] at h; cases h
      · exact ⟨h0, h1, by omega⟩
    · rw [if_neg h1] at h; cases h
  · rw [if_neg h0] at h; exact absurd h h0
theorem frL_length (s : List Bx) (m : Int) : (frL s m).length ≤ 150 := by
  unfold frL
  split
  · rename_i h; rw [pcsL_len]; exact (frC_good h).2.2
  · simp

set_option maxHeartbeats 1600000 in
theorem impl_along (lo hi m c : Int) (w : World) (hm : 1 ≤ m) (hM : m ≤ 1000) (hl : lo < hi) (hd : hi - lo ≤ 20000) (hc : c = hi - lo) :
    Calls Try.prog 64 #[.int .i64 c, .int .i64 m] w fun e w' => e = .returned (.int .i64 ((cntP lo hi m : Nat) : Int)) ∧ w' = w := by
  have hq : (c + m - 1).tdiv m = ((cntP lo hi m : Nat) : Int) := by rw [hc]; exact cntP_tdiv hm hl
  have hle := cntP_le hm hl hd
  have h1 : IntKind.i64.wrap (c + m) = c + m := by rw [IntKind.wrap_i64]; omega
  have h2 : IntKind.i64.wrap (c + m - 1) = c + m - 1 := by rw [IntKind.wrap_i64]; omega
  have h3 : IntKind.i64.wrap ((cntP lo hi m : Nat) : Int) = ((cntP lo hi m : Nat) : Int) := by rw [IntKind.wrap_i64]; omega
  generalize ((cntP lo hi m : Nat) : Int) = q at hq h3 ⊢
  have hm0 : ¬ m = 0 := by omega
  have hm1 : (m == 0) = false := by simp; omega
  have hm2 : (m == -1) = false := by simp; omega
  clear hle hd hl hM hc
  go_enter Try.func64, Try.ntmps64
  go_wp2
  go_returns
  refine ⟨?_, rfl⟩
  simp [hq, h3]

theorem four_fr {w : World} {k : Nat} {a b c d : Value} {T : TypeId} (h : w.heap[k]? = some (.cells #[a, b, c, d] T)) :
    w.cell? ⟨k, 0, none⟩ = some a ∧ w.cell? ⟨k, 1, none⟩ = some b ∧ w.cell? ⟨k, 2, none⟩ = some c ∧ w.cell? ⟨k, 3, none⟩ = some d ∧ k < w.heap.size := by
  refine ⟨by simp [World.cell?, h], by simp [World.cell?, h], by simp [World.cell?, h], by simp [World.cell?, h], ?_⟩
  rcases Nat.lt_or_ge k w.heap.size with h' | h'
  · exact h'
  · rw [Array.getElem?_eq_none h'] at h; cases h

set_option maxRecDepth 10000 in
set_option maxHeartbeats 4000000 in
theorem impl_count {w : World} {v : Value} {s : List Bx} (m : Int) (hm : 1 ≤ m) (hM : m ≤ 1000) (hn : s.length ≤ 150) (hs : ∀ b ∈ s, OkB b) (h : RB w v s) :
    Calls Try.prog 45 #[v, .int .i64 m] w fun e w' => e = .returned (.int .i64 ((frN s m : Nat) : Int)) ∧ Below w.heap.size w w' := by
  obtain ⟨a, c, rfl⟩ := h.form
  obtain ⟨n, hnn⟩ : ∃ n, n = s.length := ⟨_, rfl⟩
  rw [← hnn] at hn h ⊢
  have H : Hid (RB w (.slice a n c) s ∧ n = s.length ∧ ∀ b ∈ s, OkB b) := ⟨h, hnn, hs⟩
  have hm0 : Hid (1 ≤ m ∧ m ≤ 1000) := ⟨hm, hM⟩
  clear h hnn hs hm hM
  go_enter Try.func45, Try.ntmps45
  go_wp2
  go_loopw [5, 10] (fun q i wr => ∃ k : Nat, k ≤ n ∧ i = .int .i64 k ∧ q = .int .i64 ((frN (s.take k) m : Nat) : Int) ∧ Hid (Below w.heap.size w wr)) (fun _ i _ => n - (intOf i).toNat)
  case atStart => exact ⟨0, Nat.zero_le _, rfl, rfl, Below.refl _ _⟩
  case round =>
    obtain ⟨k, hk, rfl, rfl, hR⟩ := hrel
    by_cases hlt : k < n
    · have hkl : k < s.length := by rw [← H.out.2.1]; exact hlt
      obtain ⟨g, o, c2, he, hg, hj⟩ := (H.out.1.below hR.out).pos (by rw [← H.out.2.1]; omega)
      simp only [Value.slice.injEq] at he
      obtain ⟨rfl, hx1, hx2⟩ := he
      clear hx1 hx2
      obtain ⟨c0, c1, c2, c3⟩ := hj k hkl
      obtain ⟨b, hb⟩ : ∃ b, b = bat s k := ⟨_, rfl⟩
      rw [← hb] at c0 c1 c2 c3
      have hok : OkB b := by rw [hb, bat_get hkl]; exact H.out.2.2 _ (List.getElem_mem hkl)
      unfold OkB at hok
      have hw1 : IntKind.i64.wrap (b.x1 - b.x0) = b.x1 - b.x0 := by rw [IntKind.wrap_i64]; omega
      have hw2 : IntKind.i64.wrap (b.y1 - b.y0) = b.y1 - b.y0 := by rw [IntKind.wrap_i64]; omega
      have h1 := cntP_le (lo := b.x0) (hi := b.x1) (m := m) hm0.out.1 hok.1 (by omega)
      have h2 := cntP_le (lo := b.y0) (hi := b.y1) (m := m) hm0.out.1 hok.2.1 (by omega)
      have h3 := cnt2 h1 h2
      have h4 : frN (s.take k) m ≤ 150 * 400000000 := Nat.le_trans (frN_le (s.take k) m hm0.out.1 (fun c hc => H.out.2.2 c (List.mem_of_mem_take hc))) (Nat.mul_le_mul_right _ (by simp; omega))
      have HC1 : Hid (∀ W, Calls Try.prog 64 #[.int .i64 (b.x1 - b.x0), .int .i64 m] W fun e w' => e = .returned (.int .i64 ((cntP b.x0 b.x1 m : Nat) : Int)) ∧ w' = W) := fun W => impl_along b.x0 b.x1 m _ W hm0.out.1 hm0.out.2 hok.1 (by omega) rfl
      have HC2 : Hid (∀ W, Calls Try.prog 64 #[.int .i64 (b.y1 - b.y0), .int .i64 m] W fun e w' => e = .returned (.int .i64 ((cntP b.y0 b.y1 m : Nat) : Int)) ∧ w' = W) := fun W => impl_along b.y0 b.y1 m _ W hm0.out.1 hm0.out.2 hok.2.1 (by omega) rfl
      have HST : Hid (frN (s.take (k + 1)) m = frN (s.take k) m + cntP b.x0 b.x1 m * cntP b.y0 b.y1 m) := by unfold Hid; rw [frN_take hkl, ← hb]
      generalize cntP b.x0 b.x1 m = p1 at h1 h3 HC1 HST
      generalize cntP b.y0 b.y1 m = p2 at h2 h3 HC2 HST
      generalize frN (s.take k) m = f0 at h4 HST ⊢
      have hmul : (p1 : Int) * (p2 : Int) = ((p1 * p2 : Nat) : Int) := by simp
      have hw3 : IntKind.i64.wrap ((p1 : Int) * (p2 : Int)) = ((p1 * p2 : Nat) : Int) := by rw [hmul, IntKind.wrap_i64]; omega
      have hw4 : IntKind.i64.wrap ((f0 : Int) + ((p1 * p2 : Nat) : Int)) = ((f0 + p1 * p2 : Nat) : Int) := by rw [IntKind.wrap_i64]; omega
      have HSI : Hid (((frN (s.take (k + 1)) m : Nat) : Int) = ((f0 + p1 * p2 : Nat) : Int)) := by unfold Hid; rw [HST.out]
      generalize p1 * p2 = p3 at hw3 hw4 HSI
      clear hb hj hok h1 h2 h3 h4 hmul HST
      have b0 : (0 : Int) ≤ (k : Int) := by omega
      have b1 : (k : Int) < (n : Int) := by omega
      go_wp2_with (fail)
      (refine wp_region_und (by kernel_rfl) (by kernel_rfl) (fun hund => ?_); (repeat (go_big_quiet_step (first | (go_at_call 64; with_reducible refine und_call_same (HC1.out _)) | (go_at_call 64; with_reducible refine und_call_same (HC2.out _))))); with_reducible refine wpQuiet_nil ?_; clear hund; intro W1 hb1; obtain ⟨hc1, hf1⟩ := bcell hb1)
      have hz := hR.out.size
      have HB : Hid (Below w.heap.size w W1) := hR.out.trans (Below.trans (by (repeat' (first | (with_reducible exact Below.refl _ _) | (with_reducible assumption) | (with_reducible refine Below.setCell ?_ ?_ _) | (with_reducible refine Below.alloc ?_ ?_ _) | (with_reducible refine below_drewN ?_ _) | (with_reducible refine Below.drew ?_) | (with_reducible exact Nat.le_refl _) | omega | (simp; done) | (simp; omega)))) (hb1.mono (by simp; omega)))
      clear hb1 hc1 hf1 hz
      go_wp2
      go_roundw
      case rel => exact ⟨k + 1, by omega, by go_num, by rw [HSI.out]; simp, HB.out⟩
      case measure => simp [intOf]; omega
    · have e : Hid (frN (s.take k) m = frN s m) := by unfold Hid; rw [List.take_of_length_le (by rw [← H.out.2.1]; omega)]
      go_wp2
      go_returns
      exact ⟨by rw [e.out]; rfl, hR.out⟩

/-- A list that the caller owns grows; nothing else of before turns. -/
structure AP (B : Nat) (w wr : World) (vo v : Value) (l : List Bx) : Prop where
  o : BS wr B v l
  g : w.grownBy wr vo.ownBlock
  r : ∀ j, v.ownBlock = some j → w.heap.size ≤ j ∨ vo.ownBlock = some j
theorem AP.push {B : Nat} {w wr w1 : World} {vo v v' : Value} {l : List Bx} {b : Bx} {ob : Obj} (h : AP B w wr vo v l) (ho : w1.ownsRow B 34 4 v' (l.length + 1) (bflat l ++ bcells b)) (hg : (wr.alloc ob).grownBy w1 v.ownBlock)
    (hr : ∀ j, v'.ownBlock = some j → (wr.alloc ob).heap.size ≤ j ∨ v.ownBlock = some j) : AP B w w1 vo v' (l ++ [b]) := by
  have h1 : w.grownBy (wr.alloc ob) vo.ownBlock := h.g.trans (World.grownBy_alloc wr ob _)
  refine ⟨?_, h1.andThen hg (fun j hj => h.r j hj), fun j hj => ?_⟩
  · unfold BS
    rw [bflat_append, List.length_append]
    have e : bflat [b] = bcells b := by simp [bflat]
    rw [e]; exact ho
  · rcases hr j hj with h2 | h2
    · left; have := h.g.size; simp at h2; omega
    · exact h.r j h2
theorem AP.at {B : Nat} {w wr : World} {vo v : Value} {l : List Bx} {K : Nat} {o : Obj} (h : AP B w wr vo v l) (hK : w.heap[K]? = some o) (hne : vo.ownBlock ≠ some K) : wr.heap[K]? = some o := by
  have hlt : K < w.heap.size := by
    rcases Nat.lt_or_ge K w.heap.size with h' | h'
    · exact h'
    · rw [Array.getElem?_eq_none h'] at hK; cases hK
  exact (h.g.block K hlt (fun e => hne e.symm)).trans hK

set_option maxRecDepth 10000 in
set_option maxHeartbeats 4000000 in
theorem impl_pieces {w : World} {B : Nat} {vo : Value} {pre : List Bx} (b : Bx) (m : Int) (hm : 1 ≤ m) (hM : m ≤ 1000) (hb : OkB b) (hlen : pre.length + cntP b.x0 b.x1 m * cntP b.y0 b.y1 m ≤ 1000) (hB : B ≤ w.heap.size) (h : BS w B vo pre) :
    Calls Try.prog 46 #[vo, .agg #[.int .i64 b.x0, .int .i64 b.y0, .int .i64 b.x1, .int .i64 b.y1], .int .i64 m] w fun e w' => ∃ v', e = .returned v' ∧ AP B w w' vo v' (pre ++ pcsP b m) := by
  obtain ⟨a, c, rfl⟩ := h.form
  have hlt0 : ∀ j, (Value.slice a pre.length c).ownBlock = some j → j < w.heap.size := fun j hj => (World.ownsRow.lt h j hj).2
  obtain ⟨n, hnn⟩ : ∃ n, n = pre.length := ⟨_, rfl⟩
  rw [← hnn] at h hlen hlt0 ⊢
  obtain ⟨W0, hW0⟩ : ∃ W0, W0 = w.alloc (.cells #[.int .i64 b.x0, .int .i64 b.y0, .int .i64 b.x1, .int .i64 b.y1] 34) := ⟨_, rfl⟩
  have hk0 : W0.heap[w.heap.size]? = some (.cells #[.int .i64 b.x0, .int .i64 b.y0, .int .i64 b.x1, .int .i64 b.y1] 34) := by rw [hW0]; exact heap_alloc_new w _
  have hsz0 : W0.heap.size = w.heap.size + 1 := by rw [hW0]; simp
  have HS0 : Hid (AP B W0 W0 (.slice a n c) (.slice a n c) pre ∧ w.grownBy W0 (Value.slice a n c).ownBlock) := by
    rw [hW0]
    exact ⟨⟨World.ownsRow.alloc h _, ⟨rfl, rfl, rfl, Nat.le_refl _, fun k _ _ => rfl⟩, fun j hj => Or.inr hj⟩, World.grownBy_alloc w _ _⟩
  have HK : Hid (W0.heap[w.heap.size]? = some (.cells #[.int .i64 b.x0, .int .i64 b.y0, .int .i64 b.x1, .int .i64 b.y1] 34) ∧ (Value.slice a n c).ownBlock ≠ some w.heap.size ∧ W0.heap.size = w.heap.size + 1) := ⟨hk0, fun e => by have := hlt0 _ e; omega, hsz0⟩
  have HB : Hid (OkB b ∧ n = pre.length ∧ n + cntP b.x0 b.x1 m * cntP b.y0 b.y1 m ≤ 1000) := ⟨hb, hnn, hlen⟩
  obtain ⟨i0, hi0, hz0, hz1, hz2⟩ := info_parts info_box
  have HB0 : Hid (B ≤ w.heap.size) := hB
  have H1 : Hid (cntP b.x0 b.x1 m ≤ 20000) := cntP_le hm hb.1 (by have := hb; unfold OkB at this; omega)
  have H2 : Hid (cntP b.y0 b.y1 m ≤ 20000) := cntP_le hm hb.2.1 (by have := hb; unfold OkB at this; omega)
  clear h hnn hlen hlt0 hk0 hsz0 hb hB
  go_enter Try.func46, Try.ntmps46
  go_wp2
  rw [← hW0]
  clear hW0
  go_loopw [0, 7] (fun v y wr => ∃ j : Nat, j ≤ cntP b.y0 b.y1 m ∧ y = .int .i64 (b.y0 + j * m) ∧ Hid (AP B W0 wr (.slice a n c) v (pre ++ rowsP b m j))) (fun _ y _ => (b.y1 + 1000 - intOf y).toNat)
  case atStart => exact ⟨0, Nat.zero_le _, by simp, by have := HS0.out.1; unfold Hid; simpa [rowsP] using this⟩
  case round =>
    obtain ⟨j, hj, rfl, hR⟩ := hrel
    obtain ⟨p0, p1, p2, p3, pl⟩ := four_fr (hR.out.at HK.out.1 HK.out.2.1)
    have hst := step_in hm hM HB.out.1.2.1 hj
    by_cases hlt : b.y0 + j * m < b.y1
    · have hjc : j < cntP b.y0 b.y1 m := (cntP_lt hm HB.out.1.2.1 j).1 hlt
      obtain ⟨y, hy⟩ : ∃ y, y = b.y0 + j * m := ⟨_, rfl⟩
      rw [← hy] at hlt hst ⊢
      have HY : Hid (y = b.y0 + j * m ∧ j < cntP b.y0 b.y1 m) := ⟨hy, hjc⟩
      have HBY : Hid (-10000 ≤ y ∧ y < 10000) := ⟨by have := HB.out.1; unfold OkB at this; omega, by have := HB.out.1; unfold OkB at this; omega⟩
      have hwy : IntKind.i64.wrap (y + m) = y + m := by have := HBY.out; rw [IntKind.wrap_i64]; omega
      have HST : Hid (y + m = b.y0 + ((j + 1 : Nat) : Int) * m) := by unfold Hid; rw [step_next, hy]
      clear hy hst hjc hj
      go_wp2
      clear p0 p1 p2 p3 pl
      go_loopw [0, 8] (fun v x wr => ∃ i : Nat, i ≤ cntP b.x0 b.x1 m ∧ x = .int .i64 (b.x0 + i * m) ∧ Hid (AP B W0 wr (.slice a n c) v (pre ++ rowsP b m j ++ rowP b m y i))) (fun _ x _ => (b.x1 + 1000 - intOf x).toNat)
      case atStart => exact ⟨0, Nat.zero_le _, by simp, by have := hR.out; unfold Hid; simpa [rowP] using this⟩
      case round =>
        clear hR
        obtain ⟨i, hi, rfl, hQ⟩ := hrel
        obtain ⟨p0, p1, p2, p3, pl⟩ := four_fr (hQ.out.at HK.out.1 HK.out.2.1)
        have hsx := step_in hm hM HB.out.1.1 hi
        by_cases hlx : b.x0 + i * m < b.x1
        · have hic : i < cntP b.x0 b.x1 m := (cntP_lt hm HB.out.1.1 i).1 hlx
          obtain ⟨x, hx⟩ : ∃ x, x = b.x0 + i * m := ⟨_, rfl⟩
          rw [← hx] at hlx hsx ⊢
          have HBX : Hid (-10000 ≤ x ∧ x < 10000) := ⟨by have := HB.out.1; unfold OkB at this; omega, by have := HB.out.1; unfold OkB at this; omega⟩
          have hwx : IntKind.i64.wrap (x + m) = x + m := by have := HBX.out; rw [IntKind.wrap_i64]; omega
          have hX : ∃ X1 Y1 : Int, (⟨x, y, minP (x + m) b.x1, minP (y + m) b.y1⟩ : Bx) = ⟨x, y, X1, Y1⟩ ∧ ((b.x1 < x + m ∧ X1 = b.x1) ∨ (¬ b.x1 < x + m ∧ X1 = x + m)) ∧ ((b.y1 < y + m ∧ Y1 = b.y1) ∨ (¬ b.y1 < y + m ∧ Y1 = y + m)) := by
            refine ⟨_, _, rfl, ?_, ?_⟩
            · unfold minP; split <;> omega
            · unfold minP; split <;> omega
          obtain ⟨X1, Y1, hq, hX1, hY1⟩ := hX
          have HSX : Hid (x + m = b.x0 + ((i + 1 : Nat) : Int) * m ∧ i < cntP b.x0 b.x1 m ∧ pre ++ rowsP b m j ++ rowP b m y (i + 1) = (pre ++ rowsP b m j ++ rowP b m y i) ++ [⟨x, y, X1, Y1⟩]) := by
            refine ⟨by rw [step_next, hx], hic, ?_⟩
            rw [rowP_succ, ← hq, hx, List.append_assoc _ (rowP b m y i)]
          have hll : (pre ++ rowsP b m j ++ rowP b m y i).length ≤ 1000 := by
            rw [List.length_append, List.length_append, rowsP_len, rowP_len, ← HB.out.2.1]
            have := rows_in HY.out.2 (Nat.le_of_lt hic)
            have := HB.out.2.2
            omega
          obtain ⟨oa, oc, hof⟩ := hQ.out.o.form
          subst hof
          have hsz := hQ.out.g.size
          have hsw := HK.out.2.2
          have hB1 := HB0.out
          have HQ : Hid (AP B W0 wr (.slice a n c) (.slice oa (pre ++ rowsP b m j ++ rowP b m y i).length oc) (pre ++ rowsP b m j ++ rowP b m y i)) := hQ.out
          clear hx hsx hic hq hQ hi
          generalize pre ++ rowsP b m j ++ rowP b m y i = out at HQ HSX hll ⊢
          rcases hX1 with ⟨hcx, rfl⟩ | ⟨hcx, rfl⟩ <;> rcases hY1 with ⟨hcy, rfl⟩ | ⟨hcy, rfl⟩
          · go_wp2_with (at_builtin; refine wpList_append_own_at _ rfl _ _ 41 rfl B 34 i0 (.agg #[.int .i64 0, .int .i64 0, .int .i64 0, .int .i64 0]) 4 32 Try.underlying41 hi0 hz0 hz1 hz2 rfl (by decide) _ _ _ rfl (World.ownsRow.alloc HQ.out.o _) ⟨wr.heap.size, 0, none⟩ 1 1 (bcells ⟨x, y, b.x1, b.y1⟩) rfl rfl (World.news_of_block (cs := #[.int .i64 x, .int .i64 y, .int .i64 b.x1, .int .i64 b.y1]) (t := 34) (fr := (0, 0)) (heap_alloc_new wr _)) (by simp [bcells, Value.oneCell']) (by unfold maxLen; omega) (by omega) (by simp; omega) ?_; intro v5 w5 hown5 hgrow5 _ hat5)
            have R : Hid (AP B W0 w5 (.slice a n c) v5 (pre ++ rowsP b m j ++ rowP b m y (i + 1))) := by
              unfold Hid
              rw [HSX.out.2.2]
              exact HQ.out.push hown5 hgrow5 (fun k hk => by
                rcases hat5 with h5 | h5
                · have h6 : v5.ownBlock = (Value.slice oa out.length oc).ownBlock := h5
                  exact Or.inr (h6.symm.trans hk)
                · left; rw [h5] at hk; injection hk with hk; omega)
            clear hown5 hgrow5 hat5 HQ
            go_wp2
            go_roundw
            case rel => exact ⟨i + 1, HSX.out.2.1, by rw [← HSX.out.1], R.out⟩
            case measure => have := HBX.out; simp [intOf]; omega
          · go_wp2_with (at_builtin; refine wpList_append_own_at _ rfl _ _ 41 rfl B 34 i0 (.agg #[.int .i64 0, .int .i64 0, .int .i64 0, .int .i64 0]) 4 32 Try.underlying41 hi0 hz0 hz1 hz2 rfl (by decide) _ _ _ rfl (World.ownsRow.alloc HQ.out.o _) ⟨wr.heap.size, 0, none⟩ 1 1 (bcells ⟨x, y, b.x1, (y + m)⟩) rfl rfl (World.news_of_block (cs := #[.int .i64 x, .int .i64 y, .int .i64 b.x1, .int .i64 (y + m)]) (t := 34) (fr := (0, 0)) (heap_alloc_new wr _)) (by simp [bcells, Value.oneCell']) (by unfold maxLen; omega) (by omega) (by simp; omega) ?_; intro v5 w5 hown5 hgrow5 _ hat5)
            have R : Hid (AP B W0 w5 (.slice a n c) v5 (pre ++ rowsP b m j ++ rowP b m y (i + 1))) := by
              unfold Hid
              rw [HSX.out.2.2]
              exact HQ.out.push hown5 hgrow5 (fun k hk => by
                rcases hat5 with h5 | h5
                · have h6 : v5.ownBlock = (Value.slice oa out.length oc).ownBlock := h5
                  exact Or.inr (h6.symm.trans hk)
                · left; rw [h5] at hk; injection hk with hk; omega)
            clear hown5 hgrow5 hat5 HQ
            go_wp2
            go_roundw
            case rel => exact ⟨i + 1, HSX.out.2.1, by rw [← HSX.out.1], R.out⟩
            case measure => have := HBX.out; simp [intOf]; omega
          · go_wp2_with (at_builtin; refine wpList_append_own_at _ rfl _ _ 41 rfl B 34 i0 (.agg #[.int .i64 0, .int .i64 0, .int .i64 0, .int .i64 0]) 4 32 Try.underlying41 hi0 hz0 hz1 hz2 rfl (by decide) _ _ _ rfl (World.ownsRow.alloc HQ.out.o _) ⟨wr.heap.size, 0, none⟩ 1 1 (bcells ⟨x, y, (x + m), b.y1⟩) rfl rfl (World.news_of_block (cs := #[.int .i64 x, .int .i64 y, .int .i64 (x + m), .int .i64 b.y1]) (t := 34) (fr := (0, 0)) (heap_alloc_new wr _)) (by simp [bcells, Value.oneCell']) (by unfold maxLen; omega) (by omega) (by simp; omega) ?_; intro v5 w5 hown5 hgrow5 _ hat5)
            have R : Hid (AP B W0 w5 (.slice a n c) v5 (pre ++ rowsP b m j ++ rowP b m y (i + 1))) := by
              unfold Hid
              rw [HSX.out.2.2]
              exact HQ.out.push hown5 hgrow5 (fun k hk => by
                rcases hat5 with h5 | h5
                · have h6 : v5.ownBlock = (Value.slice oa out.length oc).ownBlock := h5
                  exact Or.inr (h6.symm.trans hk)
                · left; rw [h5] at hk; injection hk with hk; omega)
            clear hown5 hgrow5 hat5 HQ
            go_wp2
            go_roundw
            case rel => exact ⟨i + 1, HSX.out.2.1, by rw [← HSX.out.1], R.out⟩
            case measure => have := HBX.out; simp [intOf]; omega
          · go_wp2_with (at_builtin; refine wpList_append_own_at _ rfl _ _ 41 rfl B 34 i0 (.agg #[.int .i64 0, .int .i64 0, .int .i64 0, .int .i64 0]) 4 32 Try.underlying41 hi0 hz0 hz1 hz2 rfl (by decide) _ _ _ rfl (World.ownsRow.alloc HQ.out.o _) ⟨wr.heap.size, 0, none⟩ 1 1 (bcells ⟨x, y, (x + m), (y + m)⟩) rfl rfl (World.news_of_block (cs := #[.int .i64 x, .int .i64 y, .int .i64 (x + m), .int .i64 (y + m)]) (t := 34) (fr := (0, 0)) (heap_alloc_new wr _)) (by simp [bcells, Value.oneCell']) (by unfold maxLen; omega) (by omega) (by simp; omega) ?_; intro v5 w5 hown5 hgrow5 _ hat5)
            have R : Hid (AP B W0 w5 (.slice a n c) v5 (pre ++ rowsP b m j ++ rowP b m y (i + 1))) := by
              unfold Hid
              rw [HSX.out.2.2]
              exact HQ.out.push hown5 hgrow5 (fun k hk => by
                rcases hat5 with h5 | h5
                · have h6 : v5.ownBlock = (Value.slice oa out.length oc).ownBlock := h5
                  exact Or.inr (h6.symm.trans hk)
                · left; rw [h5] at hk; injection hk with hk; omega)
            clear hown5 hgrow5 hat5 HQ
            go_wp2
            go_roundw
            case rel => exact ⟨i + 1, HSX.out.2.1, by rw [← HSX.out.1], R.out⟩
            case measure => have := HBX.out; simp [intOf]; omega
        · have e : i = cntP b.x0 b.x1 m := by
            rcases Nat.lt_or_ge i (cntP b.x0 b.x1 m) with h | h
            · exact absurd ((cntP_lt hm HB.out.1.1 i).2 h) hlx
            · omega
          generalize b.x0 + i * m = x at hlx hsx ⊢
          have R : Hid (AP B W0 wr (.slice a n c) u0 (pre ++ rowsP b m (j + 1))) := by
            have h1 := hQ.out
            rw [e] at h1
            unfold Hid
            rw [rowsP_succ, ← HY.out.1, ← List.append_assoc]
            exact h1
          clear hQ hsx
          go_wp2
          go_roundw
          case rel => exact ⟨j + 1, HY.out.2, by rw [← HST.out], R.out⟩
          case measure => have := HBY.out; simp [intOf]; omega
    · have e : j = cntP b.y0 b.y1 m := by
        rcases Nat.lt_or_ge j (cntP b.y0 b.y1 m) with h | h
        · exact absurd ((cntP_lt hm HB.out.1.2.1 j).2 h) hlt
        · omega
      generalize b.y0 + j * m = y at hlt hst ⊢
      have HF : Hid (AP B w wr (.slice a n c) u0 (pre ++ pcsP b m)) := by
        have h1 := hR.out
        rw [e] at h1
        refine ⟨h1.o, HS0.out.2.trans h1.g, fun k hk => ?_⟩
        rcases h1.r k hk with h2 | h2
        · left; have := HK.out.2.2; omega
        · exact Or.inr h2
      clear hR hst
      go_wp2
      go_returns
      exact ⟨_, rfl, HF.out⟩

end Go.Proofs.Ytkbbhdnaemjamaa
