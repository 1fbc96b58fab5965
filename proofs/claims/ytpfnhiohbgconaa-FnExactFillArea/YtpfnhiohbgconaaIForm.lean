/- Proved here: the program's test of the one form, and ShapeFault of program and model: one code at every list of boxes. -/
import Derived.Test.YtpfnhiohbgconaaIRow
import Derived.Test.YtpfnhiohbgconaaBoxL
import Derived.Test.YtpfnhiohbgconaaSOp
namespace Go.Proofs.Ytpfnhiohbgconaa
open Go.RowKit
set_option linter.unusedVariables false
set_option linter.unusedSimpArgs false

theorem inForm_fuel : ∀ (n m : Nat) (below s : List Bx), s.length ≤ n → s.length ≤ m → inForm n below s = inForm m below s := by
  intro n
  induction n with
  | zero =>
    intro m below s h1 h2
    obtain rfl : s = [] := List.length_eq_zero_iff.1 (by omega)
    cases m <;> rfl
  | succ n ih =>
    intro m below s h1 h2
    cases s with
    | nil => cases m <;> rfl
    | cons b t =>
      cases m with
      | zero => simp at h2
      | succ m =>
        unfold inForm
        split
        · have hl : (t.dropWhile fun q => q.y0 == b.y0).length ≤ t.length := (List.dropWhile_sublist _).length_le
          simp at h1 h2
          exact ih m _ _ (by omega) (by omega)
        · rfl

theorem inForm_step {cur bl : List Bx} (h : 0 < cur.length) : inForm cur.length bl cur = if rowRest (cur.take (rowN cur)) 1 && (liesOverK (cur.take (rowN cur)) bl && !goesOnK (cur.take (rowN cur)) bl) then inForm (cur.drop (rowN cur)).length (cur.take (rowN cur)) (cur.drop (rowN cur)) else false := by
  cases cur with
  | nil => simp at h
  | cons b t =>
    obtain ⟨e1, e2⟩ := rowN_take b t
    rw [e1, e2]
    have hl : (t.dropWhile fun q => q.y0 == b.y0).length ≤ t.length := (List.dropWhile_sublist _).length_le
    rw [show rowRest (rowHead b t) 1 = isRowK b.y1 b (t.takeWhile fun q => q.y0 == b.y0) from rfl]
    rw [inForm_fuel (t.dropWhile fun q => q.y0 == b.y0).length t.length _ _ (Nat.le_refl _) hl]
    rfl

theorem BAt_drop {w : World} {g o r : Nat} {s : List Bx} (h : ∀ j, j < s.length → BAt w g (o + j * 4) (bat s j)) : ∀ j, j < (s.drop r).length → BAt w g (o + r * 4 + j * 4) (bat (s.drop r) j) := by
  intro j hj
  simp only [List.length_drop] at hj
  have := h (r + j) (by omega)
  have e : bat (s.drop r) j = bat s (r + j) := by simp [bat]
  rw [e, show o + r * 4 + j * 4 = o + (r + j) * 4 by omega]
  exact this
theorem BAt_take {w : World} {g o r : Nat} {s : List Bx} (h : ∀ j, j < s.length → BAt w g (o + j * 4) (bat s j)) : ∀ j, j < (s.take r).length → BAt w g (o + j * 4) (bat (s.take r) j) := by
  intro j hj
  simp only [List.length_take] at hj
  have := h j (by omega)
  have e : bat (s.take r) j = bat s j := by
    rw [bat_get (by simp; omega), bat_get (by omega), List.getElem_take]
  rw [e]; exact this

/-- A slice read as boxes, with room for them. -/
structure IW (w wr : World) (a : Option Addr) (m c : Nat) (vb : Value) (s cur bl : List Bx) : Prop where
  r : RB wr (.slice a m c) cur
  hm : cur.length = m
  hc : m ≤ c
  hs : m ≤ s.length
  b : RB wr vb bl
  f : inForm cur.length bl cur = inForm s.length [] s
  bw : Below w.heap.size w wr

def lenV : Value → Nat
  | .slice _ n _ => n
  | _ => 0

set_option maxRecDepth 10000 in
set_option maxHeartbeats 1600000 in
theorem impl_form (a0 : Option Addr) (n c0 : Nat) (s : List Bx) (w : World) (hl : Hid (s.length = n)) (hn : n ≤ 1099511627776) (hc : n ≤ c0) (h : Hid (RB w (.slice a0 n c0) s)) :
    Calls Try.prog 94 #[.slice a0 n c0] w fun e w' => e = .returned (.bool (inForm s.length [] s)) ∧ Below w.heap.size w w' := by
  go_enter Try.func94, Try.ntmps94
  go_wp2_with (fail)
  go_loopw [0, 3] (fun v0 v3 wr => ∃ a m c a' m' c', v0 = .slice a m c ∧ v3 = .slice a' m' c' ∧ m ≤ n ∧ m ≤ c ∧ Hid (∃ cur bl, IW w wr a m c (.slice a' m' c') s cur bl)) (fun v0 _ _ => lenV v0)
  case atStart => exact ⟨a0, n, c0, none, 0, 0, rfl, rfl, Nat.le_refl _, hc, s, [], h.out, hl.out, hc, by rw [hl.out]; exact Nat.le_refl _, ⟨none, 0, rfl, fun e => absurd rfl e⟩, rfl, Below.refl _ _⟩
  case round =>
    obtain ⟨a, m, c, a', m', c', rfl, rfl, hmn, hmc, hR⟩ := hrel
    obtain ⟨cur, bl, hI⟩ := hR.out
    clear hR
    by_cases hpos : 0 < m
    · obtain ⟨g, o, c2, he, hg, hj⟩ := hI.r.pos (by rw [hI.hm]; exact hpos)
      injection he with e1 e2 e3
      clear e2
      subst e1 e3
      obtain ⟨r, hr⟩ : ∃ r, r = rowN cur := ⟨_, rfl⟩
      have hr1 : 1 ≤ r := by rw [hr]; exact rowN_pos cur (by rw [hI.hm]; exact hpos)
      have hr2 : r ≤ m := by rw [hr, ← hI.hm]; exact rowN_le cur
      have HI : Hid (IW w wr (some ⟨g, o, none⟩) m c (.slice a' m' c') s cur bl) := hI
      have HJ : Hid (∀ j, j < cur.length → BAt wr g (o + j * 4) (bat cur j)) := hj
      have HR : Hid (r = rowN cur) := hr
      have hlr : Hid ((cur.take r).length = r) := by unfold Hid; rw [List.length_take, hI.hm]; omega
      have HST := inForm_step (cur := cur) (bl := bl) (by rw [hI.hm]; exact hpos)
      rw [← hr] at HST
      have HST2 : Hid (inForm s.length [] s = if rowRest (cur.take r) 1 && (liesOverK (cur.take r) bl && !goesOnK (cur.take r) bl) then inForm (cur.drop r).length (cur.take r) (cur.drop r) else false) := by
        unfold Hid; rw [← hI.f]; exact HST
      clear hI hj hr HST
      have bp : (0 : Int) < (m : Int) := by omega
      go_wp2_with (fail)
      refine (impl_firstRow g o c m cur _ HI.out.hm (by omega) hpos hmc (by rw [← HI.out.hm]; exact HJ.out)).mono ?_
      rintro e w1 ⟨rfl, m1, rfl⟩
      rw [← HR.out]
      have hrow : ∀ W, Below wr.heap.size wr W → RB W (.slice (some ⟨g, o, none⟩) r r) (cur.take r) := by
        intro W hb
        refine ⟨_, r, by rw [hlr.out], fun _ => ⟨g, o, rfl, Nat.lt_of_lt_of_le hg hb.size, fun j hj => (BAt_take HJ.out j hj).below hg hb⟩⟩
      have HROW : Hid (∀ W, Below wr.heap.size wr W → RB W (.slice (some ⟨g, o, none⟩) r r) (cur.take r)) := hrow
      clear hrow
      obtain ⟨I, hI0⟩ : ∃ I, I = rowRest (cur.take r) 1 := ⟨_, rfl⟩
      obtain ⟨L, hL0⟩ : ∃ L, L = liesOverK (cur.take r) bl := ⟨_, rfl⟩
      obtain ⟨G, hG0⟩ : ∃ G, G = goesOnK (cur.take r) bl := ⟨_, rfl⟩
      rw [← hI0, ← hL0, ← hG0] at HST2
      have HI0 : Hid (I = rowRest (cur.take r) 1 ∧ L = liesOverK (cur.take r) bl ∧ G = goesOnK (cur.take r) bl) := ⟨hI0, hL0, hG0⟩
      clear hI0 hL0 hG0
      go_wp2_with (fail)
      refine (impl_isRow g o r r (cur.take r) _ hlr.out (by omega) (by omega) (fun j hj => (BAt_take HJ.out j (by rw [hlr.out]; exact hj)).below hg (below_drewN (Below.refl _ _) _))).mono ?_
      rintro e w2 ⟨rfl, m2, rfl⟩
      rw [← HI0.out.1]
      cases I with
      | false =>
        have HE : Hid (inForm s.length [] s = false) := by unfold Hid; rw [HST2.out]; rfl
        have HB : Hid (∀ k, Below w.heap.size w (wr.drewN k)) := fun k => below_drewN HI.out.bw k
        go_wp2
        go_returns
        exact ⟨by rw [HE.out]; rfl, HB.out _⟩
      | true =>
        go_wp2_with (fail)
        refine (impl_lies (HROW.out _ (below_drewN (Below.refl _ _) _)) (HI.out.b.below (below_drewN (Below.refl _ _) _)) (by rw [hlr.out]; omega)).mono ?_
        rintro e w3 ⟨rfl, m3, rfl⟩
        rw [← HI0.out.2.1]
        cases L with
        | false =>
          have HE : Hid (inForm s.length [] s = false) := by unfold Hid; rw [HST2.out]; rfl
          have HB : Hid (∀ k, Below w.heap.size w (wr.drewN k)) := fun k => below_drewN HI.out.bw k
          go_wp2
          go_returns
          exact ⟨by rw [HE.out]; rfl, HB.out _⟩
        | true =>
          go_wp2_with (fail)
          refine (impl_goesOn (by rw [hlr.out]; omega) (HROW.out _ (below_drewN (Below.refl _ _) _)) (HI.out.b.below (below_drewN (Below.refl _ _) _))).mono ?_
          rintro e w4 ⟨rfl, hb4⟩
          rw [← HI0.out.2.2]
          have HB4 : Hid (Below wr.heap.size wr w4) := (below_drewN (Below.refl wr.heap.size wr) _).trans hb4
          clear hb4
          cases G with
          | true =>
            have HE : Hid (inForm s.length [] s = false) := by unfold Hid; rw [HST2.out]; rfl
            have HB : Hid (Below w.heap.size w w4) := HI.out.bw.trans (HB4.out.mono HI.out.bw.size)
            go_wp2
            go_returns
            exact ⟨by rw [HE.out]; rfl, HB.out⟩
          | false =>
            have HN : Hid (∀ ao, (¬ c = r → ao = some ⟨g, o + r * 4, none⟩) → IW w w4 ao (m - r) (c - r) (.slice (some ⟨g, o, none⟩) r r) s (cur.drop r) (cur.take r)) := by
              intro ao hao
              have hld : (cur.drop r).length = m - r := by rw [List.length_drop, HI.out.hm]
              refine ⟨⟨ao, c - r, by rw [hld], fun hne => ?_⟩, hld, by omega, ?_, HROW.out _ HB4.out, ?_, HI.out.bw.trans (HB4.out.mono HI.out.bw.size)⟩
              · have : 0 < (cur.drop r).length := List.length_pos_iff.2 hne
                exact ⟨g, o + r * 4, hao (by omega), Nat.lt_of_lt_of_le hg HB4.out.size, fun j hj => (BAt_drop HJ.out j hj).below hg HB4.out⟩
              · have := HI.out.hs; omega
              · rw [HST2.out]; rfl
            have b2 : (r : Int) ≤ (m : Int) := by omega
            have b3 : (0 : Int) ≤ (r : Int) := by omega
            have b4 : (m : Int) ≤ (c : Int) := by omega
            have b5 : (r : Int) ≤ (c : Int) := by omega
            clear HI HJ HR hlr HST2 HROW HI0
            go_wp2
            all_goals
              go_roundw
              case rel => exact ⟨_, m - r, c - r, _, r, r, rfl, rfl, by omega, by omega, _, _, HN.out _ (by intro h; first | rfl | simp [h])⟩
              case measure => simp [lenV]; omega
    · have HE : Hid (inForm s.length [] s = true) := by
        unfold Hid
        rw [← hI.f]
        have : cur = [] := List.length_eq_zero_iff.1 (by rw [hI.hm]; omega)
        rw [this]; rfl
      have HB : Hid (Below w.heap.size w wr) := hI.bw
      clear hI
      have bz : ¬ (0 : Int) < (m : Int) := by omega
      go_wp2
      go_returns
      exact ⟨by rw [HE.out]; rfl, HB.out⟩

/-- The code of a list of boxes. -/
def shapeK (s : List Bx) : Int := if boxesK s = 0 then (if inForm s.length [] s then 0 else 1) else boxesK s

theorem firstK_zero : ∀ (s : List Bx), firstK s = 0 → ∀ b ∈ s, b.x0 < b.x1 ∧ b.y0 < b.y1 ∧ -10000 ≤ b.x0 ∧ -10000 ≤ b.y0 ∧ b.x1 ≤ 10000 ∧ b.y1 ≤ 10000 := by
  intro s
  induction s with
  | nil => intro _ b hb; cases hb
  | cons q t ih =>
    intro h b hb
    unfold firstK at h
    split at h
    · rename_i h0
      rcases List.mem_cons.1 hb with e | e
      · subst e
        unfold bfK at h0
        split at h0
        · cases h0
        · split at h0
          · cases h0
          · omega
      · exact ih h b e
    · rename_i h0; exact absurd h h0
theorem boxesK_zero {s : List Bx} (h : boxesK s = 0) : s.length ≤ 150 ∧ ∀ b ∈ s, b.x0 < b.x1 ∧ b.y0 < b.y1 ∧ -10000 ≤ b.x0 ∧ -10000 ≤ b.y0 ∧ b.x1 ≤ 10000 ∧ b.y1 ≤ 10000 := by
  unfold boxesK at h
  split at h
  · cases h
  · exact ⟨by omega, firstK_zero s h⟩
theorem takes_or : takesK 1 = or := by funext p q; rfl
theorem same_form {s : List Bx} (h : boxesK s = 0) : sameB s (opOf (takesK 1) s []) = inForm s.length [] s := by
  have hf := form_iff s (fun b hb => ⟨((boxesK_zero h).2 b hb).1, ((boxesK_zero h).2 b hb).2.1⟩)
  rw [takes_or, Bool.eq_iff_iff, sameB_iff, ← hf]
  exact ⟨Eq.symm, Eq.symm⟩

set_option maxHeartbeats 1600000 in
theorem spec_shape {w : World} {v : Value} {s : List Bx} (h : RB w v s) :
    Calls Try.prog 43 #[v] w fun e w' => e = .returned (.int .i64 (shapeK s)) ∧ Below w.heap.size w w' := by
  obtain ⟨a, c, rfl⟩ := h.form
  have H : Hid (RB w (.slice a s.length c) s) := h
  clear h
  obtain ⟨z, hz⟩ : ∃ z, z = boxesK s := ⟨_, rfl⟩
  have HZ : Hid (z = boxesK s) := hz
  clear hz
  by_cases hz0 : z = 0
  · have hb0 : boxesK s = 0 := by rw [← HZ.out]; exact hz0
    have HK : Hid (shapeK s = if inForm s.length [] s then 0 else 1) := by unfold Hid shapeK; rw [if_pos hb0]
    have HL : Hid (s.length ≤ 150) := (boxesK_zero hb0).1
    obtain ⟨F, hF⟩ : ∃ F, F = inForm s.length [] s := ⟨_, rfl⟩
    have HS : Hid (sameB s (opOf (takesK 1) s []) = F) := by unfold Hid; rw [hF]; exact same_form hb0
    have HF : Hid (shapeK s = if F then 0 else 1) := by unfold Hid; rw [hF]; exact HK.out
    clear hb0 HK hF
    subst hz0
    go_enter Try.func43, Try.ntmps43
    go_wp2_with (fail)
    refine (spec_boxes H.out).mono ?_
    rintro e w1 ⟨rfl, hb1⟩
    rw [← HZ.out]
    have HB1 : Hid (Below w.heap.size w w1) := hb1
    clear hb1
    go_wp2_with (fail)
    refine (spec_op 1 a none c 0 s [] w1 (by have := HL.out; simp; omega) (H.out.below HB1.out) ⟨none, 0, rfl, fun e => absurd rfl e⟩).mono ?_
    rintro e w2 ⟨vo, rfl, hbs, _, hb2⟩
    have HB2 : Hid (Below w.heap.size w w2) := HB1.out.trans (hb2.mono HB1.out.size)
    have HO : Hid (RB w2 vo (opOf (takesK 1) s [])) := hbs.rb
    clear hbs hb2
    go_wp2_with (fail)
    refine (spec_same (by have := HL.out; omega) (H.out.below HB2.out) HO.out).mono ?_
    rintro e w3 ⟨rfl, k, rfl⟩
    rw [HS.out]
    cases F with
    | false =>
      go_wp2
      go_returns
      exact ⟨by rw [HF.out]; rfl, below_drewN HB2.out k⟩
    | true =>
      go_wp2
      go_returns
      exact ⟨by rw [HF.out]; rfl, below_drewN HB2.out k⟩
  · have HK : Hid (shapeK s = z) := by unfold Hid shapeK; rw [if_neg (by rw [← HZ.out]; exact hz0)]; exact HZ.out.symm
    go_enter Try.func43, Try.ntmps43
    go_wp2_with (fail)
    refine (spec_boxes H.out).mono ?_
    rintro e w1 ⟨rfl, hb1⟩
    rw [← HZ.out]
    go_wp2
    go_returns
    exact ⟨by rw [HK.out]; rfl, hb1⟩

set_option maxHeartbeats 1600000 in
theorem impl_shape {w : World} {a : Option Addr} {n c : Nat} {s : List Bx} (hn : s.length ≤ 1099511627776) (hc : n ≤ c) (h : RB w (.slice a n c) s) :
    Calls Try.prog 50 #[.slice a n c] w fun e w' => e = .returned (.int .i64 (shapeK s)) ∧ Below w.heap.size w w' := by
  have hlen : s.length = n := by obtain ⟨_, _, e⟩ := h.form; injection e with _ e2 _; exact e2.symm
  have H : Hid (RB w (.slice a n c) s ∧ s.length = n ∧ s.length ≤ 1099511627776) := ⟨h, hlen, hn⟩
  clear h hlen hn
  obtain ⟨z, hz⟩ : ∃ z, z = boxesK s := ⟨_, rfl⟩
  have HZ : Hid (z = boxesK s) := hz
  clear hz
  by_cases hz0 : z = 0
  · have hb0 : boxesK s = 0 := by rw [← HZ.out]; exact hz0
    obtain ⟨F, hF⟩ : ∃ F, F = inForm s.length [] s := ⟨_, rfl⟩
    have HF : Hid (shapeK s = (if F then 0 else 1) ∧ F = inForm s.length [] s) := by unfold Hid shapeK; rw [if_pos hb0, hF]; exact ⟨rfl, rfl⟩
    clear hb0 hF
    subst hz0
    go_enter Try.func50, Try.ntmps50
    go_wp2_with (fail)
    refine (impl_boxes H.out.2.2 H.out.1).mono ?_
    rintro e w1 ⟨rfl, hb1⟩
    rw [← HZ.out]
    have HB1 : Hid (Below w.heap.size w w1) := hb1
    clear hb1
    go_wp2_with (fail)
    refine (impl_form a n c s w1 H.out.2.1 (by rw [← H.out.2.1]; exact H.out.2.2) hc (H.out.1.below HB1.out)).mono ?_
    rintro e w2 ⟨rfl, hb2⟩
    rw [← HF.out.2]
    have HB2 : Hid (Below w.heap.size w w2) := HB1.out.trans (hb2.mono HB1.out.size)
    clear hb2
    cases F with
    | false =>
      go_wp2
      go_returns
      exact ⟨by rw [HF.out.1]; rfl, HB2.out⟩
    | true =>
      go_wp2
      go_returns
      exact ⟨by rw [HF.out.1]; rfl, HB2.out⟩
  · have HK : Hid (shapeK s = z) := by unfold Hid shapeK; rw [if_neg (by rw [← HZ.out]; exact hz0)]; exact HZ.out.symm
    go_enter Try.func50, Try.ntmps50
    go_wp2_with (fail)
    refine (impl_boxes H.out.2.2 H.out.1).mono ?_
    rintro e w1 ⟨rfl, hb1⟩
    rw [← HZ.out]
    go_wp2
    go_returns
    exact ⟨by rw [HK.out]; rfl, hb1⟩

end Go.Proofs.Ytpfnhiohbgconaa
