/- Proved here: MoveShape of program and model: one code and one list of boxes, in memory of its own, at every list of boxes and every two numbers. -/
import Derived.Test.YtknkogghhanhaaoIForm
namespace Go.Proofs.Ytknkogghhanhaao
open Go.RowKit
set_option linter.unusedVariables false
set_option linter.unusedSimpArgs false

theorem shapeK_zero {s : List Bx} (h : shapeK s = 0) : boxesK s = 0 := by
  unfold shapeK at h
  split at h
  · assumption
  · rename_i h0; exact absurd h h0
def Good (s : List Bx) : Prop := ∀ b ∈ s, b.x0 < b.x1 ∧ b.y0 < b.y1 ∧ -10000 ≤ b.x0 ∧ -10000 ≤ b.y0 ∧ b.x1 ≤ 10000 ∧ b.y1 ≤ 10000
theorem Good.at {s : List Bx} (h : Good s) {k : Nat} (hk : k < s.length) {b : Bx} (hb : b = bat s k) : b.x0 < b.x1 ∧ b.y0 < b.y1 ∧ -10000 ≤ b.x0 ∧ -10000 ≤ b.y0 ∧ b.x1 ≤ 10000 ∧ b.y1 ≤ 10000 := by
  rw [hb, bat_get hk]; exact h _ (List.getElem_mem _)

def moveB (x y : Int) (b : Bx) : Bx := ⟨b.x0 + x, b.y0 + y, b.x1 + x, b.y1 + y⟩
def inR (x y : Int) : Bool := decide (-20000 ≤ x ∧ x ≤ 20000 ∧ -20000 ≤ y ∧ y ≤ 20000)
def movC (s : List Bx) (x y : Int) : Int := if shapeK s = 0 then (if inR x y then firstK (s.map (moveB x y)) else 3) else shapeK s
def movL (s : List Bx) (x y : Int) : List Bx := if shapeK s = 0 ∧ inR x y = true ∧ firstK (s.map (moveB x y)) = 0 then s.map (moveB x y) else []
theorem movL_length (s : List Bx) (x y : Int) : (movL s x y).length ≤ 150 := by
  unfold movL
  split
  · rename_i h; simpa using (boxesK_zero (shapeK_zero h.1)).1
  · simp

/-- The result's block, behind a call. -/
theorem res_kept {w w1 : World} {o : Obj} (hb : Below (w.alloc o).heap.size (w.alloc o) w1) : w1.heap[w.heap.size]? = some o ∧ w.heap.size < w1.heap.size ∧ Below w.heap.size w w1 := by
  have h1 := hb.size
  simp at h1
  refine ⟨(hb.block _ (by simp)).trans (heap_alloc_new w o), by omega, ?_⟩
  exact ((Below.refl _ _).alloc (Nat.le_refl _) _).trans (hb.mono (by simp))
theorem two_cells {w : World} {k : Nat} {a b : Value} {t : TypeId} (h : w.heap[k]? = some (.cells #[a, b] t)) : w.cell? ⟨k, 0, none⟩ = some a ∧ w.cell? ⟨k, 1, none⟩ = some b ∧ w.frozen? ⟨k, 0, none⟩ = false ∧ w.frozen? ⟨k, 1, none⟩ = false ∧ k < w.heap.size := by
  refine ⟨by simp [World.cell?, h], by simp [World.cell?, h], by simp [World.frozen?, h], by simp [World.frozen?, h], ?_⟩
  rcases Nat.lt_or_ge k w.heap.size with h' | h'
  · exact h'
  · rw [Array.getElem?_eq_none h'] at h; cases h

/-- What stands while the boxes are moved. -/
structure MV (w wr : World) (vo : Value) (out : List Bx) : Prop where
  o : BS wr (w.heap.size + 1) vo out
  r : wr.heap[w.heap.size]? = some (.cells #[.int .i64 0, .slice none 0 0] 26)
  bl : Below w.heap.size w wr
  sz : w.heap.size + 1 ≤ wr.heap.size
theorem MV.next {w wr W : World} {vo : Value} {out : List Bx} (h : MV w wr vo out) (hb : Below wr.heap.size wr W) : MV w W vo out :=
  ⟨h.o.below hb, (hb.block _ (by have := h.sz; omega)).trans h.r, h.bl.trans (hb.mono h.bl.size), Nat.le_trans h.sz hb.size⟩
theorem MV.push {w wr w1 : World} {vo v' : Value} {out : List Bx} {b : Bx} {ob : Obj} (h : MV w wr vo out) (ho : w1.ownsRow (w.heap.size + 1) 44 4 v' (out.length + 1) (bflat out ++ bcells b)) (hg : (wr.alloc ob).grownBy w1 vo.ownBlock) : MV w w1 v' (out ++ [b]) := by
  have hp := push_step (w := w) (B := w.heap.size) h.o (by omega) h.bl h.bl.size ho hg
  have hs := hg.size
  have hz := h.sz
  simp at hs
  refine ⟨hp.1, ?_, hp.2, by omega⟩
  rw [hg.block _ (by simp; omega) (fun e => by have := (World.ownsRow.lt h.o _ e.symm).1; omega)]
  exact (Below.heap_alloc wr _ _ (by omega)).trans h.r
theorem op_skip {P : Program} {ops : Array Oper} {Q : Exit → Act → World → Prop} {i : Nat} {o : Oper} {a : Act} {w w' : World} {K : Act → World → Prop} (ho : ops[i]? = some o) (hg : o.guard = none)
    (hrun : (execOp a.eval o).run P w = .ok .skip w') (h : K (a.put o.dst undef) w') : wpOp P ops Q i K a w := by
  unfold wpOp
  simp only [ho, wanted_none hg, if_true]
  refine Or.inl ?_
  unfold Oper.wp
  rw [hrun]
  exact h

set_option maxRecDepth 10000 in
set_option maxHeartbeats 4000000 in
theorem spec_move {w : World} {v : Value} {s : List Bx} (x y : Int) (h : RB w v s) :
    Calls Try.prog 17 #[v, .int .i64 x, .int .i64 y] w fun e w' => ∃ vs, e = .returned (.agg #[.int .i64 (movC s x y), vs]) ∧ BS w' w.heap.size vs (movL s x y) ∧ Below w.heap.size w w' := by
  obtain ⟨a, c, rfl⟩ := h.form
  have H : Hid (RB w (.slice a s.length c) s) := h
  clear h
  obtain ⟨i0, hi0, hz0', hz1, hz2⟩ := info_parts info_box
  obtain ⟨z, hz⟩ : ∃ z, z = shapeK s := ⟨_, rfl⟩
  have HZ : Hid (z = shapeK s) := hz
  clear hz
  by_cases hz0 : z = 0
  · have hsz : shapeK s = 0 := by rw [← HZ.out]; exact hz0
    have hbz := boxesK_zero (shapeK_zero hsz)
    have HL : Hid (s.length ≤ 150 ∧ Good s) := ⟨hbz.1, hbz.2⟩
    cases hin : inR x y with
    | false =>
      have HE : Hid (movC s x y = 3 ∧ movL s x y = []) := by
        unfold Hid movC movL; rw [if_pos hsz, hin]; simp
      have hin' : ¬ (-20000 ≤ x ∧ x ≤ 20000 ∧ -20000 ≤ y ∧ y ≤ 20000) := by simpa [inR] using hin
      clear hbz hsz hin
      subst hz0
      go_enter Try.func17, Try.ntmps17
      go_wp2_with (fail)
      refine (spec_shape (H.out.below ((Below.refl _ _).alloc (Nat.le_refl _) _))).mono ?_
      rintro e w1 ⟨rfl, hb1⟩
      rw [← HZ.out]
      obtain ⟨hk1, hlt1, hB1⟩ := res_kept hb1
      have HB1 : Hid (Below w.heap.size w w1) := hB1
      obtain ⟨r0, r1, f0, f1, hlt2⟩ := two_cells hk1
      clear hb1 hk1 hB1
      go_wp2
      all_goals first
        | (exfalso; omega)
        | (refine bodyPost_ret (by simp [results, Try.results17, go_sem, r0, r1, hlt2]; rfl) rfl ⟨.slice none 0 0, ?_, ?_, ?_⟩
           · rw [HE.out.1]
           · rw [HE.out.2]; exact BS.nil _ _
           · have hb := HB1.out
             (repeat' (first | (with_reducible exact Below.refl _ _) | (with_reducible assumption) | (with_reducible refine Below.setCell ?_ ?_ _) | (with_reducible refine Below.alloc ?_ ?_ _) | (with_reducible refine below_drewN ?_ _) | (with_reducible refine Below.drew ?_) | (with_reducible exact Nat.le_refl _) | omega | (simp; done) | (simp; omega))))
    | true =>
      have hxy : -20000 ≤ x ∧ x ≤ 20000 ∧ -20000 ≤ y ∧ y ≤ 20000 := by simpa [inR] using hin
      have HE : Hid (movC s x y = firstK (s.map (moveB x y)) ∧ (firstK (s.map (moveB x y)) = 0 → movL s x y = s.map (moveB x y)) ∧ (¬ firstK (s.map (moveB x y)) = 0 → movL s x y = [])) := by
        unfold Hid movC movL
        rw [if_pos hsz, hin]
        exact ⟨rfl, fun h => by rw [if_pos ⟨hsz, rfl, h⟩], fun h => by rw [if_neg (fun e => h e.2.2)]⟩
      obtain ⟨n, hn⟩ : ∃ n, n = s.length := ⟨_, rfl⟩
      have HN : Hid (n = s.length) := hn
      have hn150 : n ≤ 150 := by rw [hn]; exact HL.out.1
      rw [← hn] at H ⊢
      clear hn hbz hsz hin
      subst hz0
      go_enter Try.func17, Try.ntmps17
      go_wp2_with (fail)
      refine (spec_shape (H.out.below ((Below.refl _ _).alloc (Nat.le_refl _) _))).mono ?_
      rintro e w1 ⟨rfl, hb1⟩
      rw [← HZ.out]
      obtain ⟨hk1, hlt1, hB1⟩ := res_kept hb1
      have M1 : Hid (MV w (w1.alloc (.cells #[] 44)) (.slice (some ⟨w1.heap.size, 0, none⟩) 0 0) []) := by
        have ha : Below w1.heap.size w1 (w1.alloc (.cells #[] 44)) := (Below.refl _ _).alloc (Nat.le_refl _) _
        exact ⟨BS.lit0 w1 _ (by omega), (ha.block _ hlt1).trans hk1, hB1.trans (ha.mono hB1.size), by simp; omega⟩
      clear hb1 hk1 hB1
      go_wp2_with (fail)
      go_loopw [8, 9] (fun vo i wr => ∃ k : Nat, k ≤ n ∧ i = .int .i64 k ∧ Hid (MV w wr vo ((s.take k).map (moveB x y)) ∧ firstK ((s.drop k).map (moveB x y)) = firstK (s.map (moveB x y)))) (fun _ i _ => n - (intOf i).toNat)
      case atStart => exact ⟨0, Nat.zero_le _, rfl, M1.out, rfl⟩
      case round =>
        clear M1
        obtain ⟨k, hk, rfl, hR⟩ := hrel
        by_cases hlt : k < n
        · obtain ⟨g, o, c2, he, hg, hj⟩ := (H.out.below hR.out.1.bl).pos (by rw [← HN.out]; omega)
          injection he with e1 e2 e3
          clear e2
          subst e1 e3
          have hkl : k < s.length := by rw [← HN.out]; exact hlt
          obtain ⟨c0, c1, c2, c3⟩ := hj k hkl
          obtain ⟨b, hb⟩ : ∃ b, b = bat s k := ⟨_, rfl⟩
          rw [← hb] at c0 c1 c2 c3
          have hgb := HL.out.2.at hkl hb
          obtain ⟨oa, oc, hof⟩ := hR.out.1.o.form
          subst hof
          have hlen : ((s.take k).map (moveB x y)).length ≤ 150 := by simp; omega
          have HST : Hid ((s.take (k + 1)).map (moveB x y) = (s.take k).map (moveB x y) ++ [⟨b.x0 + x, b.y0 + y, b.x1 + x, b.y1 + y⟩] ∧ firstK ((s.drop k).map (moveB x y)) = (if bfK ⟨b.x0 + x, b.y0 + y, b.x1 + x, b.y1 + y⟩ = 0 then firstK ((s.drop (k + 1)).map (moveB x y)) else bfK ⟨b.x0 + x, b.y0 + y, b.x1 + x, b.y1 + y⟩)) := by
            unfold Hid
            rw [take_bat hkl, drop_bat hkl, ← hb]
            exact ⟨by simp [moveB], rfl⟩
          have HM : Hid (MV w wr (.slice oa ((s.take k).map (moveB x y)).length oc) ((s.take k).map (moveB x y)) ∧ firstK ((s.drop k).map (moveB x y)) = firstK (s.map (moveB x y))) := hR.out
          have hw1 : IntKind.i64.wrap (b.x0 + x) = b.x0 + x := by rw [IntKind.wrap_i64]; omega
          have hw2 : IntKind.i64.wrap (b.y0 + y) = b.y0 + y := by rw [IntKind.wrap_i64]; omega
          have hw3 : IntKind.i64.wrap (b.x1 + x) = b.x1 + x := by rw [IntKind.wrap_i64]; omega
          have hw4 : IntKind.i64.wrap (b.y1 + y) = b.y1 + y := by rw [IntKind.wrap_i64]; omega
          clear hb hj hR
          generalize ((s.take k).map (moveB x y)) = out at HM HST hlen ⊢
          have b0 : (0 : Int) ≤ (k : Int) := by omega
          have b1 : (k : Int) < (n : Int) := by omega
          go_wp2_with (fail)
          refine wp_region_float (by kernel_rfl) (fun hS => ?_)
          refine fl_take (i := 0) (d := 40) (v := .slice (some ⟨g, o, none⟩) n c) rfl rfl rfl (by kernel_rfl) (by kernel_rfl) (by kernel_rfl) hS ?_ ?_
          · intro w' hk; go_simp
          simp only [Act.put, List.setIfInBounds_toArray, List.set_cons_zero, List.set_cons_succ]
          refine fl_take (i := 1) (d := 41) (v := .int .i64 k) rfl rfl rfl (by kernel_rfl) (by kernel_rfl) (by kernel_rfl) hS ?_ ?_
          · intro w' hk; go_simp
          simp only [Act.put, List.setIfInBounds_toArray, List.set_cons_zero, List.set_cons_succ]
          refine fl_take (i := 2) (d := 42) (v := .pointer (some ⟨g, o + k * 4, none⟩)) rfl rfl rfl (by kernel_rfl) (by kernel_rfl) (by kernel_rfl) hS ?_ ?_
          · intro w' hk; go_simp
          simp only [Act.put, List.setIfInBounds_toArray, List.set_cons_zero, List.set_cons_succ]
          refine fl_take (i := 3) (d := 43) (v := .pointer (some ⟨g, o + k * 4, none⟩)) rfl rfl rfl (by kernel_rfl) (by kernel_rfl) (by kernel_rfl) hS ?_ ?_
          · intro w' hk; go_simp
          simp only [Act.put, List.setIfInBounds_toArray, List.set_cons_zero, List.set_cons_succ]
          refine fl_take (i := 4) (d := 44) (v := .int .i64 b.x0) rfl rfl rfl (by kernel_rfl) (by kernel_rfl) (by kernel_rfl) hS ?_ ?_
          · intro w' hk; go_simp
          simp only [Act.put, List.setIfInBounds_toArray, List.set_cons_zero, List.set_cons_succ]
          refine fl_take (i := 5) (d := 45) (v := .int .i64 x) rfl rfl rfl (by kernel_rfl) (by kernel_rfl) (by kernel_rfl) hS ?_ ?_
          · intro w' hk; go_simp
          simp only [Act.put, List.setIfInBounds_toArray, List.set_cons_zero, List.set_cons_succ]
          refine fl_take (i := 6) (d := 46) (v := .int .i64 (b.x0 + x)) rfl rfl rfl (by kernel_rfl) (by kernel_rfl) (by kernel_rfl) hS ?_ ?_
          · intro w' hk; go_simp
          simp only [Act.put, List.setIfInBounds_toArray, List.set_cons_zero, List.set_cons_succ]
          refine fl_take (i := 7) (d := 47) (v := .slice (some ⟨g, o, none⟩) n c) rfl rfl rfl (by kernel_rfl) (by kernel_rfl) (by kernel_rfl) hS ?_ ?_
          · intro w' hk; go_simp
          simp only [Act.put, List.setIfInBounds_toArray, List.set_cons_zero, List.set_cons_succ]
          refine fl_take (i := 8) (d := 48) (v := .int .i64 k) rfl rfl rfl (by kernel_rfl) (by kernel_rfl) (by kernel_rfl) hS ?_ ?_
          · intro w' hk; go_simp
          simp only [Act.put, List.setIfInBounds_toArray, List.set_cons_zero, List.set_cons_succ]
          refine fl_take (i := 9) (d := 49) (v := .pointer (some ⟨g, o + k * 4, none⟩)) rfl rfl rfl (by kernel_rfl) (by kernel_rfl) (by kernel_rfl) hS ?_ ?_
          · intro w' hk; go_simp
          simp only [Act.put, List.setIfInBounds_toArray, List.set_cons_zero, List.set_cons_succ]
          refine fl_take (i := 10) (d := 50) (v := .pointer (some ⟨g, o + k * 4 + 1, none⟩)) rfl rfl rfl (by kernel_rfl) (by kernel_rfl) (by kernel_rfl) hS ?_ ?_
          · intro w' hk; go_simp
          simp only [Act.put, List.setIfInBounds_toArray, List.set_cons_zero, List.set_cons_succ]
          refine fl_take (i := 11) (d := 51) (v := .int .i64 b.y0) rfl rfl rfl (by kernel_rfl) (by kernel_rfl) (by kernel_rfl) hS ?_ ?_
          · intro w' hk; go_simp
          simp only [Act.put, List.setIfInBounds_toArray, List.set_cons_zero, List.set_cons_succ]
          refine fl_take (i := 12) (d := 52) (v := .int .i64 y) rfl rfl rfl (by kernel_rfl) (by kernel_rfl) (by kernel_rfl) hS ?_ ?_
          · intro w' hk; go_simp
          simp only [Act.put, List.setIfInBounds_toArray, List.set_cons_zero, List.set_cons_succ]
          refine fl_take (i := 13) (d := 53) (v := .int .i64 (b.y0 + y)) rfl rfl rfl (by kernel_rfl) (by kernel_rfl) (by kernel_rfl) hS ?_ ?_
          · intro w' hk; go_simp
          simp only [Act.put, List.setIfInBounds_toArray, List.set_cons_zero, List.set_cons_succ]
          refine fl_take (i := 14) (d := 54) (v := .slice (some ⟨g, o, none⟩) n c) rfl rfl rfl (by kernel_rfl) (by kernel_rfl) (by kernel_rfl) hS ?_ ?_
          · intro w' hk; go_simp
          simp only [Act.put, List.setIfInBounds_toArray, List.set_cons_zero, List.set_cons_succ]
          refine fl_take (i := 15) (d := 55) (v := .int .i64 k) rfl rfl rfl (by kernel_rfl) (by kernel_rfl) (by kernel_rfl) hS ?_ ?_
          · intro w' hk; go_simp
          simp only [Act.put, List.setIfInBounds_toArray, List.set_cons_zero, List.set_cons_succ]
          refine fl_take (i := 16) (d := 56) (v := .pointer (some ⟨g, o + k * 4, none⟩)) rfl rfl rfl (by kernel_rfl) (by kernel_rfl) (by kernel_rfl) hS ?_ ?_
          · intro w' hk; go_simp
          simp only [Act.put, List.setIfInBounds_toArray, List.set_cons_zero, List.set_cons_succ]
          refine fl_take (i := 17) (d := 57) (v := .pointer (some ⟨g, o + k * 4 + 2, none⟩)) rfl rfl rfl (by kernel_rfl) (by kernel_rfl) (by kernel_rfl) hS ?_ ?_
          · intro w' hk; go_simp
          simp only [Act.put, List.setIfInBounds_toArray, List.set_cons_zero, List.set_cons_succ]
          refine fl_take (i := 18) (d := 58) (v := .int .i64 b.x1) rfl rfl rfl (by kernel_rfl) (by kernel_rfl) (by kernel_rfl) hS ?_ ?_
          · intro w' hk; go_simp
          simp only [Act.put, List.setIfInBounds_toArray, List.set_cons_zero, List.set_cons_succ]
          refine fl_take (i := 19) (d := 59) (v := .int .i64 x) rfl rfl rfl (by kernel_rfl) (by kernel_rfl) (by kernel_rfl) hS ?_ ?_
          · intro w' hk; go_simp
          simp only [Act.put, List.setIfInBounds_toArray, List.set_cons_zero, List.set_cons_succ]
          refine fl_take (i := 20) (d := 60) (v := .int .i64 (b.x1 + x)) rfl rfl rfl (by kernel_rfl) (by kernel_rfl) (by kernel_rfl) hS ?_ ?_
          · intro w' hk; go_simp
          simp only [Act.put, List.setIfInBounds_toArray, List.set_cons_zero, List.set_cons_succ]
          refine fl_take (i := 21) (d := 61) (v := .slice (some ⟨g, o, none⟩) n c) rfl rfl rfl (by kernel_rfl) (by kernel_rfl) (by kernel_rfl) hS ?_ ?_
          · intro w' hk; go_simp
          simp only [Act.put, List.setIfInBounds_toArray, List.set_cons_zero, List.set_cons_succ]
          refine fl_take (i := 22) (d := 62) (v := .int .i64 k) rfl rfl rfl (by kernel_rfl) (by kernel_rfl) (by kernel_rfl) hS ?_ ?_
          · intro w' hk; go_simp
          simp only [Act.put, List.setIfInBounds_toArray, List.set_cons_zero, List.set_cons_succ]
          refine fl_take (i := 23) (d := 63) (v := .pointer (some ⟨g, o + k * 4, none⟩)) rfl rfl rfl (by kernel_rfl) (by kernel_rfl) (by kernel_rfl) hS ?_ ?_
          · intro w' hk; go_simp
          simp only [Act.put, List.setIfInBounds_toArray, List.set_cons_zero, List.set_cons_succ]
          refine fl_take (i := 24) (d := 64) (v := .pointer (some ⟨g, o + k * 4 + 3, none⟩)) rfl rfl rfl (by kernel_rfl) (by kernel_rfl) (by kernel_rfl) hS ?_ ?_
          · intro w' hk; go_simp
          simp only [Act.put, List.setIfInBounds_toArray, List.set_cons_zero, List.set_cons_succ]
          refine fl_take (i := 25) (d := 65) (v := .int .i64 b.y1) rfl rfl rfl (by kernel_rfl) (by kernel_rfl) (by kernel_rfl) hS ?_ ?_
          · intro w' hk; go_simp
          simp only [Act.put, List.setIfInBounds_toArray, List.set_cons_zero, List.set_cons_succ]
          refine fl_take (i := 26) (d := 66) (v := .int .i64 y) rfl rfl rfl (by kernel_rfl) (by kernel_rfl) (by kernel_rfl) hS ?_ ?_
          · intro w' hk; go_simp
          simp only [Act.put, List.setIfInBounds_toArray, List.set_cons_zero, List.set_cons_succ]
          refine fl_take (i := 27) (d := 67) (v := .int .i64 (b.y1 + y)) rfl rfl rfl (by kernel_rfl) (by kernel_rfl) (by kernel_rfl) hS ?_ ?_
          · intro w' hk; go_simp
          simp only [Act.put, List.setIfInBounds_toArray, List.set_cons_zero, List.set_cons_succ]
          refine fl_take (i := 28) (d := 68) (v := .agg #[.int .i64 (b.x0 + x), .int .i64 (b.y0 + y), .int .i64 (b.x1 + x), .int .i64 (b.y1 + y)]) rfl rfl rfl (by kernel_rfl) (by kernel_rfl) (by kernel_rfl) hS ?_ ?_
          · intro w' hk; go_simp
          simp only [Act.put, List.setIfInBounds_toArray, List.set_cons_zero, List.set_cons_succ]
          refine wpAnyH_all (rs := [29]) (by kernel_rfl) (by simp) ?_
          intro i hi
          obtain rfl : i = 29 := by simpa using hi
          refine op_val (d := 10) (v := .pointer (some ⟨wr.heap.size, 0, none⟩)) (w' := (wr.alloc (.cells #[.int .i64 0, .int .i64 0, .int .i64 0, .int .i64 0] 44)).drew) rfl rfl rfl (by go_simp; try rfl) ?_
          simp only [Act.put, List.setIfInBounds_toArray, List.set_cons_zero, List.set_cons_succ]
          have hk3 : KS wr (wr.alloc (.cells #[.int .i64 0, .int .i64 0, .int .i64 0, .int .i64 0] 44)).drew := KS.of (((Below.refl _ _).alloc (Nat.le_refl _) _).drew)
          have hk4 : KS wr (wr.alloc (.cells #[.int .i64 (b.x0 + x), .int .i64 (b.y0 + y), .int .i64 (b.x1 + x), .int .i64 (b.y1 + y)] 44)).drew := KS.of (((Below.refl _ _).alloc (Nat.le_refl _) _).drew)
          refine ⟨hk3, wpAnyH_all (rs := [30]) (by kernel_rfl) (by simp) ?_⟩
          intro i hi
          obtain rfl : i = 30 := by simpa using hi
          refine op_skip (w' := (wr.alloc (.cells #[.int .i64 (b.x0 + x), .int .i64 (b.y0 + y), .int .i64 (b.x1 + x), .int .i64 (b.y1 + y)] 44)).drew) rfl rfl (by go_simp; try rfl) ?_
          simp only [Act.put]
          refine ⟨hk4, wpAnyH_done (by kernel_rfl) (NoPanic.normal ?_) _⟩
          obtain ⟨m, hm⟩ : ∃ m : Bx, m = ⟨b.x0 + x, b.y0 + y, b.x1 + x, b.y1 + y⟩ := ⟨_, rfl⟩
          have em0 : b.x0 + x = m.x0 := by rw [hm]
          have em1 : b.y0 + y = m.y0 := by rw [hm]
          have em2 : b.x1 + x = m.x1 := by rw [hm]
          have em3 : b.y1 + y = m.y1 := by rw [hm]
          rw [← hm] at HST
          clear hk3
          rw [em0, em1, em2, em3] at hk4 ⊢
          obtain ⟨W3, hW3⟩ : ∃ W3, W3 = (wr.alloc (.cells #[.int .i64 m.x0, .int .i64 m.y0, .int .i64 m.x1, .int .i64 m.y1] 44)).drew := ⟨_, rfl⟩
          rw [← hW3] at hk4 ⊢
          have hB3 : W3.heap[wr.heap.size]? = some (.cells #[.int .i64 m.x0, .int .i64 m.y0, .int .i64 m.x1, .int .i64 m.y1] 44) := by rw [hW3]; exact heap_alloc_new wr _
          have q0 : W3.cell? ⟨wr.heap.size, 0, none⟩ = some (.int .i64 m.x0) := by simp [World.cell?, hB3]
          have q1 : W3.cell? ⟨wr.heap.size, 1, none⟩ = some (.int .i64 m.y0) := by simp [World.cell?, hB3]
          have q2 : W3.cell? ⟨wr.heap.size, 2, none⟩ = some (.int .i64 m.x1) := by simp [World.cell?, hB3]
          have q3 : W3.cell? ⟨wr.heap.size, 3, none⟩ = some (.int .i64 m.y1) := by simp [World.cell?, hB3]
          have hlt3 : wr.heap.size < W3.heap.size := by rw [hW3]; simp
          have M3 : Hid (MV w W3 (.slice oa out.length oc) out) := HM.out.1.next hk4.2
          have HFK : Hid (firstK ((s.drop k).map (moveB x y)) = firstK (s.map (moveB x y))) := HM.out.2
          obtain ⟨z2, hz2e⟩ : ∃ z2, z2 = bfK m := ⟨_, rfl⟩
          have hcb : Hid (∀ W, Calls Try.prog 28 #[.agg #[.int .i64 m.x0, .int .i64 m.y0, .int .i64 m.x1, .int .i64 m.y1]] W fun e w' => e = .returned (.int .i64 z2) ∧ Below W.heap.size W w') := fun W => by rw [hz2e]; exact spec_box m W
          rw [← hz2e] at HST
          clear hm em0 em1 em2 em3 hW3 hk4 hS HM hB3 hz2e hw1 hw2 hw3 hw4 c0 c1 c2 c3
          go_wp2_with (fail)
          refine (hcb.out _).mono ?_
          rintro e w4 ⟨rfl, hb4⟩
          have M4 : Hid (MV w w4 (.slice oa out.length oc) out) := M3.out.next hb4
          obtain ⟨hc4, hf4⟩ := bcell hb4
          have q40 : w4.cell? ⟨wr.heap.size, 0, none⟩ = some (.int .i64 m.x0) := by rw [hc4 _ _ hlt3]; exact q0
          have q41 : w4.cell? ⟨wr.heap.size, 1, none⟩ = some (.int .i64 m.y0) := by rw [hc4 _ _ hlt3]; exact q1
          have q42 : w4.cell? ⟨wr.heap.size, 2, none⟩ = some (.int .i64 m.x1) := by rw [hc4 _ _ hlt3]; exact q2
          have q43 : w4.cell? ⟨wr.heap.size, 3, none⟩ = some (.int .i64 m.y1) := by rw [hc4 _ _ hlt3]; exact q3
          clear hb4 hc4 hf4 q0 q1 q2 q3 M3
          by_cases hz20 : z2 = 0
          · have HF : Hid (firstK ((s.drop (k + 1)).map (moveB x y)) = firstK (s.map (moveB x y))) := by
              unfold Hid; rw [← HFK.out, HST.out.2, if_pos hz20]
            have hsz4 := M4.out.sz
            subst hz20
            go_wp2_with (at_builtin; refine wpList_append_own _ rfl _ _ 24 rfl (w.heap.size + 1) 44 i0 (.agg #[.int .i64 0, .int .i64 0, .int .i64 0, .int .i64 0]) 4 32 Try.underlying24 hi0 hz0' hz1 hz2 rfl (by decide) _ _ _ rfl (World.ownsRow.alloc M4.out.o _) ⟨w4.heap.size, 0, none⟩ 1 1 (bcells m) rfl rfl (World.news_of_block (cs := #[.int .i64 m.x0, .int .i64 m.y0, .int .i64 m.x1, .int .i64 m.y1]) (t := 44) (fr := (0, 0)) (heap_alloc_new w4 _)) (by simp [bcells, Value.oneCell']) (by unfold maxLen; omega) (by omega) (by simp; omega) ?_; intro v5 w5 hown5 hgrow5 _)
            have R : Hid (MV w w5 v5 ((s.take (k + 1)).map (moveB x y)) ∧ firstK ((s.drop (k + 1)).map (moveB x y)) = firstK (s.map (moveB x y))) := by
              refine ⟨?_, HF.out⟩
              rw [HST.out.1]
              exact M4.out.push hown5 hgrow5
            clear hown5 hgrow5 M4 HST HFK HF
            go_wp2
            go_roundw
            case rel => exact ⟨k + 1, by omega, by go_num, R.out⟩
            case measure => simp [intOf]; omega
          · have HF : Hid (firstK (s.map (moveB x y)) = z2) := by
              unfold Hid; rw [← HFK.out, HST.out.2, if_neg hz20]
            have HB4 : Hid (Below w.heap.size w w4) := M4.out.bl
            obtain ⟨r0, r1, f0, f1, hlt2⟩ := two_cells M4.out.r
            clear M4 HST HFK
            go_wp2
            refine bodyPost_ret (by simp [results, Try.results17, go_sem, r0, r1, hlt2]; rfl) rfl ⟨.slice none 0 0, ?_, ?_, ?_⟩
            · rw [HE.out.1, HF.out]
            · rw [HE.out.2.2 (by rw [HF.out]; exact hz20)]; exact BS.nil _ _
            · have hb := HB4.out
              (repeat' (first | (with_reducible exact Below.refl _ _) | (with_reducible assumption) | (with_reducible refine Below.setCell ?_ ?_ _) | (with_reducible refine Below.alloc ?_ ?_ _) | (with_reducible refine below_drewN ?_ _) | (with_reducible refine Below.drew ?_) | (with_reducible exact Nat.le_refl _) | omega | (simp; done) | (simp; omega)))
        · have hkn : Hid (s.take k = s ∧ s.drop k = []) := ⟨List.take_of_length_le (by rw [← HN.out]; omega), List.drop_eq_nil_of_le (by rw [← HN.out]; omega)⟩
          have HF : Hid (firstK (s.map (moveB x y)) = 0) := by
            unfold Hid; rw [← hR.out.2, hkn.out.2]; rfl
          have M4 : Hid (MV w wr u8 (s.map (moveB x y))) := by
            have := hR.out.1
            rwa [hkn.out.1] at this
          obtain ⟨oa, oc, hof⟩ := M4.out.o.form
          subst hof
          obtain ⟨r0, r1, f0, f1, hlt2⟩ := two_cells M4.out.r
          clear hR
          go_wp2
          have M5 : BS wr (w.heap.size + 1) (.slice oa s.length oc) (s.map (moveB x y)) := by
            have := M4.out.o
            rwa [List.length_map] at this
          refine bodyPost_ret (by simp [results, Try.results17, go_sem, r0, r1, hlt2]; rfl) rfl ⟨.slice oa s.length oc, ?_, ?_, ?_⟩
          · rw [HE.out.1, HF.out]
          · rw [HE.out.2.1 HF.out]
            refine BS.kept (M5.low (by omega)) fun g hg => ?_
            have := (World.ownsRow.lt M5 g hg).1
            rw [heap_setCell_other _ _ _ _ (by simp; omega), heap_setCell_other _ _ _ _ (by simp; omega)]
          · have hb := M4.out.bl
            (repeat' (first | (with_reducible exact Below.refl _ _) | (with_reducible assumption) | (with_reducible refine Below.setCell ?_ ?_ _) | (with_reducible refine Below.alloc ?_ ?_ _) | (with_reducible refine below_drewN ?_ _) | (with_reducible refine Below.drew ?_) | (with_reducible exact Nat.le_refl _) | omega | (simp; done) | (simp; omega)))
  · have HE : Hid (movC s x y = z ∧ movL s x y = []) := by
      unfold Hid movC movL; rw [if_neg (by rw [← HZ.out]; exact hz0), if_neg (fun e => hz0 (by rw [HZ.out]; exact e.1))]; exact ⟨HZ.out.symm, rfl⟩
    go_enter Try.func17, Try.ntmps17
    go_wp2_with (fail)
    refine (spec_shape (H.out.below ((Below.refl _ _).alloc (Nat.le_refl _) _))).mono ?_
    rintro e w1 ⟨rfl, hb1⟩
    rw [← HZ.out]
    obtain ⟨hk1, hlt1, hB1⟩ := res_kept hb1
    have HB1 : Hid (Below w.heap.size w w1) := hB1
    obtain ⟨r0, r1, f0, f1, hlt2⟩ := two_cells hk1
    clear hb1 hk1 hB1
    go_wp2
    refine bodyPost_ret (by simp [results, Try.results17, go_sem, r0, r1, hlt2]; rfl) rfl ⟨.slice none 0 0, ?_, ?_, ?_⟩
    · rw [HE.out.1]
    · rw [HE.out.2]; exact BS.nil _ _
    · have hb := HB1.out
      (repeat' (first | (with_reducible exact Below.refl _ _) | (with_reducible assumption) | (with_reducible refine Below.setCell ?_ ?_ _) | (with_reducible refine Below.alloc ?_ ?_ _) | (with_reducible refine below_drewN ?_ _) | (with_reducible refine Below.drew ?_) | (with_reducible exact Nat.le_refl _) | omega | (simp; done) | (simp; omega)))

set_option maxHeartbeats 1600000 in
theorem impl_moved (b : Bx) (x y : Int) (w : World) (hx : -20000 ≤ x ∧ x ≤ 20000 ∧ -20000 ≤ y ∧ y ≤ 20000) (hb : -10000 ≤ b.x0 ∧ b.x0 ≤ 10000 ∧ -10000 ≤ b.y0 ∧ b.y0 ≤ 10000 ∧ -10000 ≤ b.x1 ∧ b.x1 ≤ 10000 ∧ -10000 ≤ b.y1 ∧ b.y1 ≤ 10000) :
    Calls Try.prog 41 #[.agg #[.int .i64 b.x0, .int .i64 b.y0, .int .i64 b.x1, .int .i64 b.y1], .int .i64 x, .int .i64 y] w fun e w' => e = .returned (.agg #[.int .i64 (b.x0 + x), .int .i64 (b.y0 + y), .int .i64 (b.x1 + x), .int .i64 (b.y1 + y)]) ∧ Below w.heap.size w w' := by
  have hw1 : IntKind.i64.wrap (b.x0 + x) = b.x0 + x := by rw [IntKind.wrap_i64]; omega
  have hw2 : IntKind.i64.wrap (b.y0 + y) = b.y0 + y := by rw [IntKind.wrap_i64]; omega
  have hw3 : IntKind.i64.wrap (b.x1 + x) = b.x1 + x := by rw [IntKind.wrap_i64]; omega
  have hw4 : IntKind.i64.wrap (b.y1 + y) = b.y1 + y := by rw [IntKind.wrap_i64]; omega
  go_enter Try.func41, Try.ntmps41
  go_wp2
  go_returns
  exact ⟨rfl, by (repeat' (first | (with_reducible exact Below.refl _ _) | (with_reducible assumption) | (with_reducible refine Below.setCell ?_ ?_ _) | (with_reducible refine Below.alloc ?_ ?_ _) | (with_reducible refine below_drewN ?_ _) | (with_reducible refine Below.drew ?_) | (with_reducible exact Nat.le_refl _) | omega | (simp; done) | (simp; omega)))⟩

set_option maxRecDepth 10000 in
set_option maxHeartbeats 4000000 in
theorem impl_move {w : World} {a : Option Addr} {n c : Nat} {s : List Bx} (x y : Int) (hn : s.length ≤ 1099511627776) (hc : n ≤ c) (h : RB w (.slice a n c) s) :
    Calls Try.prog 18 #[.slice a n c, .int .i64 x, .int .i64 y] w fun e w' => ∃ vs, e = .returned (.agg #[.int .i64 (movC s x y), vs]) ∧ BS w' w.heap.size vs (movL s x y) ∧ Below w.heap.size w w' := by
  have hlen : s.length = n := by obtain ⟨_, _, e⟩ := h.form; injection e with _ e2 _; exact e2.symm
  have H : Hid (RB w (.slice a n c) s ∧ s.length ≤ 1099511627776) := ⟨h, hn⟩
  have HN : Hid (n = s.length) := hlen.symm
  clear h hn hlen
  obtain ⟨i0, hi0, hz0', hz1, hz2⟩ := info_parts info_box
  obtain ⟨z, hz⟩ : ∃ z, z = shapeK s := ⟨_, rfl⟩
  have HZ : Hid (z = shapeK s) := hz
  clear hz
  by_cases hz0 : z = 0
  · have hsz : shapeK s = 0 := by rw [← HZ.out]; exact hz0
    have hbz := boxesK_zero (shapeK_zero hsz)
    have HL : Hid (s.length ≤ 150 ∧ Good s) := ⟨hbz.1, hbz.2⟩
    cases hin : inR x y with
    | false =>
      have HE : Hid (movC s x y = 3 ∧ movL s x y = []) := by
        unfold Hid movC movL; rw [if_pos hsz, hin]; simp
      have hin' : ¬ (-20000 ≤ x ∧ x ≤ 20000 ∧ -20000 ≤ y ∧ y ≤ 20000) := by simpa [inR] using hin
      clear hbz hsz hin
      subst hz0
      go_enter Try.func18, Try.ntmps18
      go_wp2_with (fail)
      refine (impl_shape H.out.2 hc (H.out.1.below ((Below.refl _ _).alloc (Nat.le_refl _) _))).mono ?_
      rintro e w1 ⟨rfl, hb1⟩
      rw [← HZ.out]
      obtain ⟨hk1, hlt1, hB1⟩ := res_kept hb1
      have HB1 : Hid (Below w.heap.size w w1) := hB1
      obtain ⟨r0, r1, f0, f1, hlt2⟩ := two_cells hk1
      clear hb1 hk1 hB1
      go_wp2
      all_goals first
        | (exfalso; omega)
        | (refine bodyPost_ret (by simp [results, Try.results18, go_sem, r0, r1, hlt2]; rfl) rfl ⟨.slice none 0 0, ?_, ?_, ?_⟩
           · rw [HE.out.1]
           · rw [HE.out.2]; exact BS.nil _ _
           · have hb := HB1.out
             (repeat' (first | (with_reducible exact Below.refl _ _) | (with_reducible assumption) | (with_reducible refine Below.setCell ?_ ?_ _) | (with_reducible refine Below.alloc ?_ ?_ _) | (with_reducible refine below_drewN ?_ _) | (with_reducible refine Below.drew ?_) | (with_reducible exact Nat.le_refl _) | omega | (simp; done) | (simp; omega))))
    | true =>
      have hxy : -20000 ≤ x ∧ x ≤ 20000 ∧ -20000 ≤ y ∧ y ≤ 20000 := by simpa [inR] using hin
      have HE : Hid (movC s x y = firstK (s.map (moveB x y)) ∧ (firstK (s.map (moveB x y)) = 0 → movL s x y = s.map (moveB x y)) ∧ (¬ firstK (s.map (moveB x y)) = 0 → movL s x y = [])) := by
        unfold Hid movC movL
        rw [if_pos hsz, hin]
        exact ⟨rfl, fun h => by rw [if_pos ⟨hsz, rfl, h⟩], fun h => by rw [if_neg (fun e => h e.2.2)]⟩
      have hn150 : n ≤ 150 := by rw [HN.out]; exact HL.out.1
      clear hbz hsz hin
      subst hz0
      go_enter Try.func18, Try.ntmps18
      go_wp2_with (fail)
      refine (impl_shape H.out.2 hc (H.out.1.below ((Below.refl _ _).alloc (Nat.le_refl _) _))).mono ?_
      rintro e w1 ⟨rfl, hb1⟩
      rw [← HZ.out]
      obtain ⟨hk1, hlt1, hB1⟩ := res_kept hb1
      have HK1 : Hid (w1.heap[w.heap.size]? = some (.cells #[.int .i64 0, .slice none 0 0] 26) ∧ Below w.heap.size w w1) := ⟨hk1, hB1⟩
      clear hb1 hk1 hB1
      go_wp2_with (at_make; refine wpList_make_own _ rfl _ _ 24 rfl (w.heap.size + 1) 44 i0 (.agg #[.int .i64 0, .int .i64 0, .int .i64 0, .int .i64 0]) 4 Try.underlying24 hi0 hz0' hz1 _ _ _ n rfl rfl rfl (by rw [hz2]; omega) (by unfold maxLen; omega) (by omega) ?_; intro w2 hown2 hgrow2)
      have M2 : Hid (MV w w2 (.slice (some ⟨w1.heap.size, 0, none⟩) 0 n) []) := by
        have hb := (Below.refl w1.heap.size w1).grown hgrow2 (Nat.le_refl _) (fun k h => by cases h)
        exact ⟨hown2, (hb.block _ hlt1).trans HK1.out.1, HK1.out.2.trans (hb.mono HK1.out.2.size), by have := hb.size; omega⟩
      clear hown2 hgrow2
      go_wp2_with (fail)
      go_loopw [8, 38] (fun vo i wr => ∃ k : Nat, k ≤ n ∧ i = .int .i64 k ∧ Hid (MV w wr vo ((s.take k).map (moveB x y)))) (fun _ i _ => n - (intOf i).toNat)
      case atStart => exact ⟨0, Nat.zero_le _, rfl, M2.out⟩
      case round =>
        clear M2
        obtain ⟨k, hk, rfl, hR⟩ := hrel
        by_cases hlt : k < n
        · obtain ⟨g, o, c2, he, hg, hj⟩ := (H.out.1.below hR.out.bl).pos (by rw [← HN.out]; omega)
          injection he with e1 e2 e3
          clear e2
          subst e1 e3
          have hkl : k < s.length := by rw [← HN.out]; exact hlt
          obtain ⟨c0, c1, c2, c3⟩ := hj k hkl
          obtain ⟨b, hb⟩ : ∃ b, b = bat s k := ⟨_, rfl⟩
          rw [← hb] at c0 c1 c2 c3
          have hgb := HL.out.2.at hkl hb
          obtain ⟨oa, oc, hof⟩ := hR.out.o.form
          subst hof
          have hlen : ((s.take k).map (moveB x y)).length ≤ 150 := by simp; omega
          obtain ⟨m, hm⟩ : ∃ m : Bx, m = ⟨b.x0 + x, b.y0 + y, b.x1 + x, b.y1 + y⟩ := ⟨_, rfl⟩
          have HST : Hid ((s.take (k + 1)).map (moveB x y) = (s.take k).map (moveB x y) ++ [m]) := by
            unfold Hid
            rw [take_bat hkl, ← hb, hm]
            simp [moveB]
          have hcm : Hid (∀ W, Calls Try.prog 41 #[.agg #[.int .i64 b.x0, .int .i64 b.y0, .int .i64 b.x1, .int .i64 b.y1], .int .i64 x, .int .i64 y] W fun e w' => e = .returned (.agg #[.int .i64 m.x0, .int .i64 m.y0, .int .i64 m.x1, .int .i64 m.y1]) ∧ Below W.heap.size W w') := fun W => by rw [hm]; exact impl_moved b x y W hxy ⟨by omega, by omega, by omega, by omega, by omega, by omega, by omega, by omega⟩
          have HM : Hid (MV w wr (.slice oa ((s.take k).map (moveB x y)).length oc) ((s.take k).map (moveB x y))) := hR.out
          clear hb hm hj hR
          generalize ((s.take k).map (moveB x y)) = out at HM HST hlen ⊢
          have b0 : (0 : Int) ≤ (k : Int) := by omega
          have b1 : (k : Int) < (n : Int) := by omega
          go_wp2_with (fail)
          refine (hcm.out _).mono ?_
          rintro e w4 ⟨rfl, hb4⟩
          have M4 : Hid (MV w w4 (.slice oa out.length oc) out) := HM.out.next (Below.trans (by (repeat' (first | (with_reducible exact Below.refl _ _) | (with_reducible assumption) | (with_reducible refine Below.setCell ?_ ?_ _) | (with_reducible refine Below.alloc ?_ ?_ _) | (with_reducible refine below_drewN ?_ _) | (with_reducible refine Below.drew ?_) | (with_reducible exact Nat.le_refl _) | omega | (simp; done) | (simp; omega)))) (hb4.mono (by simp)))
          have hsz4 := M4.out.sz
          clear hb4 HM c0 c1 c2 c3
          go_wp2_with (at_builtin; refine wpList_append_own _ rfl _ _ 24 rfl (w.heap.size + 1) 44 i0 (.agg #[.int .i64 0, .int .i64 0, .int .i64 0, .int .i64 0]) 4 32 Try.underlying24 hi0 hz0' hz1 hz2 rfl (by decide) _ _ _ rfl (World.ownsRow.alloc M4.out.o _) ⟨w4.heap.size, 0, none⟩ 1 1 (bcells m) rfl rfl (World.news_of_block (cs := #[.int .i64 m.x0, .int .i64 m.y0, .int .i64 m.x1, .int .i64 m.y1]) (t := 44) (fr := (0, 0)) (heap_alloc_new w4 _)) (by simp [bcells, Value.oneCell']) (by unfold maxLen; omega) (by omega) (by simp; omega) ?_; intro v5 w5 hown5 hgrow5 _)
          have R : Hid (MV w w5 v5 ((s.take (k + 1)).map (moveB x y))) := by
            unfold Hid
            rw [HST.out]
            exact M4.out.push hown5 hgrow5
          clear hown5 hgrow5 M4 HST
          go_wp2
          go_roundw
          case rel => exact ⟨k + 1, by omega, by go_num, R.out⟩
          case measure => simp [intOf]; omega
        · have M4 : Hid (MV w wr u8 (s.map (moveB x y))) := by
            have := hR.out
            rwa [List.take_of_length_le (by rw [← HN.out]; omega)] at this
          obtain ⟨oa, oc, hof⟩ := M4.out.o.form
          rw [List.length_map, ← HN.out] at hof
          subst hof
          obtain ⟨z2, hz2e⟩ : ∃ z2, z2 = firstK (s.map (moveB x y)) := ⟨_, rfl⟩
          have HZ2 : Hid (z2 = firstK (s.map (moveB x y))) := hz2e
          clear hR hz2e
          go_wp2_with (fail)
          refine (impl_first (by rw [List.length_map]; exact H.out.2) M4.out.o.rb).mono ?_
          rintro e w5 ⟨rfl, hb5⟩
          rw [← HZ2.out]
          have M5 : Hid (MV w w5 (.slice oa n oc) (s.map (moveB x y))) := M4.out.next hb5
          obtain ⟨r0, r1, f0, f1, hlt2⟩ := two_cells M5.out.r
          clear hb5 M4
          by_cases hz20 : z2 = 0
          · have HF : Hid (firstK (s.map (moveB x y)) = 0) := by unfold Hid; rw [← HZ2.out]; exact hz20
            subst hz20
            go_wp2
            refine bodyPost_ret (by simp [results, Try.results18, go_sem, r0, r1, hlt2]; rfl) rfl ⟨.slice oa n oc, ?_, ?_, ?_⟩
            · rw [HE.out.1, HF.out]
            · rw [HE.out.2.1 HF.out]
              refine BS.kept (M5.out.o.low (by omega)) fun g hg => ?_
              have := (World.ownsRow.lt M5.out.o g hg).1
              rw [heap_setCell_other _ _ _ _ (by simp; omega), heap_setCell_other _ _ _ _ (by simp; omega)]
            · have hb := M5.out.bl
              (repeat' (first | (with_reducible exact Below.refl _ _) | (with_reducible assumption) | (with_reducible refine Below.setCell ?_ ?_ _) | (with_reducible refine Below.alloc ?_ ?_ _) | (with_reducible refine below_drewN ?_ _) | (with_reducible refine Below.drew ?_) | (with_reducible exact Nat.le_refl _) | omega | (simp; done) | (simp; omega)))
          · go_wp2
            refine bodyPost_ret (by simp [results, Try.results18, go_sem, r0, r1, hlt2]; rfl) rfl ⟨.slice none 0 0, ?_, ?_, ?_⟩
            · rw [HE.out.1, ← HZ2.out]
            · rw [HE.out.2.2 (by rw [← HZ2.out]; exact hz20)]; exact BS.nil _ _
            · have hb := M5.out.bl
              (repeat' (first | (with_reducible exact Below.refl _ _) | (with_reducible assumption) | (with_reducible refine Below.setCell ?_ ?_ _) | (with_reducible refine Below.alloc ?_ ?_ _) | (with_reducible refine below_drewN ?_ _) | (with_reducible refine Below.drew ?_) | (with_reducible exact Nat.le_refl _) | omega | (simp; done) | (simp; omega)))
  · have HE : Hid (movC s x y = z ∧ movL s x y = []) := by
      unfold Hid movC movL; rw [if_neg (by rw [← HZ.out]; exact hz0), if_neg (fun e => hz0 (by rw [HZ.out]; exact e.1))]; exact ⟨HZ.out.symm, rfl⟩
    go_enter Try.func18, Try.ntmps18
    go_wp2_with (fail)
    refine (impl_shape H.out.2 hc (H.out.1.below ((Below.refl _ _).alloc (Nat.le_refl _) _))).mono ?_
    rintro e w1 ⟨rfl, hb1⟩
    rw [← HZ.out]
    obtain ⟨hk1, hlt1, hB1⟩ := res_kept hb1
    have HB1 : Hid (Below w.heap.size w w1) := hB1
    obtain ⟨r0, r1, f0, f1, hlt2⟩ := two_cells hk1
    clear hb1 hk1 hB1
    go_wp2
    refine bodyPost_ret (by simp [results, Try.results18, go_sem, r0, r1, hlt2]; rfl) rfl ⟨.slice none 0 0, ?_, ?_, ?_⟩
    · rw [HE.out.1]
    · rw [HE.out.2]; exact BS.nil _ _
    · have hb := HB1.out
      (repeat' (first | (with_reducible exact Below.refl _ _) | (with_reducible assumption) | (with_reducible refine Below.setCell ?_ ?_ _) | (with_reducible refine Below.alloc ?_ ?_ _) | (with_reducible refine below_drewN ?_ _) | (with_reducible refine Below.drew ?_) | (with_reducible exact Nat.le_refl _) | omega | (simp; done) | (simp; omega)))

end Go.Proofs.Ytknkogghhanhaao
