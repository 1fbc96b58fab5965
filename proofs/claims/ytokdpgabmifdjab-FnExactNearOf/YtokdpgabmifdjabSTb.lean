/- Proved here: l4Turned of the model: a list turned by so many quarters, in the one form. -/
import Derived.Test.YtokdpgabmifdjabITb
namespace Go.Proofs.Ytokdpgabmifdjab
open Go.RowKit
set_option linter.unusedVariables false
set_option linter.unusedSimpArgs false

theorem add_plainO (g o j : Nat) : (⟨g, o, none⟩ : Addr).add j = ⟨g, o + j, none⟩ := by unfold Addr.add; split <;> simp_all
theorem rb_newsO {w : World} {g o n c : Nat} {s : List Bx} (h : RB w (.slice (some ⟨g, o, none⟩) n c) s) : ∀ j u, (bflat s)[j]? = some u → w.cell? ((⟨g, o, none⟩ : Addr).add j) = some u := by
  intro j u hu
  have hj : j < s.length * 4 := by
    have := List.getElem?_eq_some_iff.1 hu
    obtain ⟨h1, _⟩ := this
    rw [bflat_length] at h1
    exact h1
  obtain ⟨g', o', c', e, hg, hb⟩ := h.pos (by omega)
  simp only [Value.slice.injEq, Option.some.injEq, Addr.mk.injEq, and_true] at e
  obtain ⟨⟨rfl, rfl⟩, _, _⟩ := e
  have e : j = (j / 4) * 4 + j % 4 := by omega
  have hk := hb (j / 4) (by omega)
  rw [e, bflat_get s (j / 4) (j % 4) (by omega) (by omega)] at hu
  have hadd : (⟨g, o, none⟩ : Addr).add j = ⟨g, o + j, none⟩ := add_plainO g o j
  have ha : (⟨g, o, none⟩ : Addr).add j = ⟨g, o + j / 4 * 4 + j % 4, none⟩ := by
    rw [hadd]
    congr 1
    omega
  rw [ha, ← hu]
  rcases (by omega : j % 4 = 0 ∨ j % 4 = 1 ∨ j % 4 = 2 ∨ j % 4 = 3) with e | e | e | e <;> rw [e]
  · exact hk.x0
  · exact hk.y0
  · exact hk.x1
  · exact hk.y1
theorem bflat_oneO (s : List Bx) : ∀ u ∈ bflat s, u.oneCell' = true := by
  intro u hu
  unfold bflat at hu
  obtain ⟨b, _, hb⟩ := List.mem_flatMap.1 hu
  simp [bcells] at hb
  rcases hb with rfl | rfl | rfl | rfl <;> rfl

theorem TW.put {w wr : World} {g n c : Nat} {l : List Bx} (h : TW w wr (.slice (some ⟨g, 0, none⟩) n c) l) {j : Nat} (hj : j < l.length) (b : Bx) :
    TW w ((((wr.setCell ⟨g, j * 4, none⟩ (.int .i64 b.x0)).setCell ⟨g, j * 4 + 1, none⟩ (.int .i64 b.y0)).setCell ⟨g, j * 4 + 2, none⟩ (.int .i64 b.x1)).setCell ⟨g, j * 4 + 3, none⟩ (.int .i64 b.y1)) (.slice (some ⟨g, 0, none⟩) n c) (l.set j b) := by
  have hge2 : w.heap.size ≤ g := (World.ownsRow.lt h.o g rfl).1
  have hb := h.bl
  exact ⟨h.o.put hj b, by (repeat' (first | (with_reducible exact Below.refl _ _) | (with_reducible assumption) | (with_reducible refine Below.setCell ?_ ?_ _) | (with_reducible refine Below.alloc ?_ ?_ _) | (with_reducible refine below_drewN ?_ _) | (with_reducible refine Below.drew ?_) | (with_reducible exact Nat.le_refl _) | omega | (simp; done) | (simp; omega)))⟩

set_option maxRecDepth 10000 in
set_option maxHeartbeats 4000000 in
theorem spec_turnedB (q : Nat) (hq3 : q ≤ 3) {w : World} {ao : Option Addr} {c : Nat} {s : List Bx} (hn : s.length ≤ 100000) (hao : ao = none → c = 0) (h : RB w (.slice ao s.length c) s) :
    Calls Try.prog 63 #[.slice ao s.length c, .int .i64 (q : Int)] w fun e w' => ∃ v', e = .returned v' ∧ BS w' w.heap.size v' (opOf (takesK 1) (trS s q) []) ∧ v' ≠ .slice none 0 0 ∧ Below w.heap.size w w' := by
  obtain ⟨n, hnn⟩ : ∃ n, n = s.length := ⟨_, rfl⟩
  have HN : Hid (n = s.length) := hnn
  rw [← hnn] at h hn ⊢
  have H : Hid (RB w (.slice ao n c) s) := h
  clear h hnn
  obtain ⟨i0, hi0, hz0', hz1, hz2⟩ := info_parts info_box
  have HFL : Hid ((bflat s).length = n * 4) := by unfold Hid; rw [bflat_length, HN.out]
  have HNO : Hid (ao = none → n = 0 ∧ c = 0) := by
    intro e
    refine ⟨?_, hao e⟩
    rcases Nat.eq_zero_or_pos n with h0 | hp
    · exact h0
    · obtain ⟨g, o, c', e2, _⟩ := H.out.pos (by rw [← HN.out]; exact hp)
      rw [e] at e2
      cases e2
  have HNW : Hid (∀ ad, ao = some ad → ∀ j u, (bflat s)[j]? = some u → (w.alloc (.cells #[] 49)).cell? (ad.add j) = some u) := by
    intro ad e j u hu
    rcases Nat.eq_zero_or_pos n with h0 | hp
    · have : bflat s = [] := List.length_eq_zero_iff.1 (by rw [HFL.out, h0])
      rw [this] at hu; cases hu
    · obtain ⟨g, o, c', e2, _⟩ := H.out.pos (by rw [← HN.out]; exact hp)
      rw [e] at e2
      simp only [Value.slice.injEq, Option.some.injEq] at e2
      obtain ⟨rfl, _, _⟩ := e2
      exact rb_newsO (e ▸ (H.out.below ((Below.refl _ _).alloc (Nat.le_refl _) _))) j u hu
  clear hao
  obtain ⟨L, hL⟩ : ∃ L, L = opOf (takesK 1) (trS s q) [] := ⟨_, rfl⟩
  have HLL : Hid (L = opOf (takesK 1) (trS s q) []) := hL
  rw [← hL]
  clear hL
  go_enter Try.func63, Try.ntmps63
  go_wp2_with (at_builtin; refine append_own_any rfl _ _ 24 rfl w.heap.size 49 i0 (.agg #[.int .i64 0, .int .i64 0, .int .i64 0, .int .i64 0]) 4 32 Try.underlying24 hi0 hz0' hz1 hz2 rfl (by decide) (.slice (some ⟨w.heap.size, 0, none⟩) 0 0) 0 [] rfl (BS.lit0 w _ (by omega)) ao n c (bflat s) rfl HFL.out HNO.out HNW.out (bflat_oneO s) (by unfold maxLen; omega) (by omega) (by simp) ?_; intro v2 w2 hown2 hgrow2 hnn2)
  have M2 : Hid (TW w w2 v2 s ∧ v2 ≠ .slice none 0 0) := by
    have hb := ((Below.refl w.heap.size w).alloc (Nat.le_refl _) (.cells #[] 49)).grown hgrow2 (by simp) (fun k h => by injection h with h; have h' : w.heap.size = k := h; omega)
    refine ⟨⟨?_, hb⟩, hnn2 (by intro h; cases h)⟩
    have := hown2
    rw [Nat.zero_add, List.nil_append, HN.out] at this
    exact this
  clear hown2 hgrow2 hnn2 HNW
  obtain ⟨ga, gc, hvf⟩ := M2.out.1.o.form
  rw [← HN.out] at hvf
  subst hvf
  obtain ⟨g, rfl⟩ : ∃ g, ga = some ⟨g, 0, none⟩ := by
    rcases M2.out.1.o.2 with ⟨h1, h2⟩ | ⟨g, cap, cur, h1, _⟩
    · exact absurd h1 M2.out.2
    · simp only [Value.slice.injEq] at h1
      exact ⟨g, h1.1⟩
  go_wp2
  go_loopw [1] (fun vk wr => ∃ k : Nat, k ≤ q ∧ vk = .int .i64 (k : Int) ∧ Hid (TW w wr (.slice (some ⟨g, 0, none⟩) n gc) (trS s (q - k)))) (fun vk _ => (intOf vk).toNat)
  case atStart => exact ⟨q, Nat.le_refl _, rfl, by rw [Nat.sub_self, trS_zero]; exact M2.out.1⟩
  case round =>
    clear M2
    obtain ⟨k, hk, rfl, hR⟩ := hrel
    by_cases hlt : 0 < k
    · obtain ⟨l, hl⟩ : ∃ l, l = trS s (q - k) := ⟨_, rfl⟩
      rw [← hl] at hR
      have HLS : Hid (trS s (q - (k - 1)) = l.map turnB ∧ l.length = n) := by
        refine ⟨?_, ?_⟩
        · rw [show q - (k - 1) = (q - k) + 1 by omega, trS_succ, hl]
        · rw [hl, HN.out]; simp [trS]
      clear hl
      have bk : (0 : Int) < (k : Int) := by omega
      go_wp2
      go_loopw [6] (fun vi wr => ∃ i : Nat, i ≤ n ∧ vi = .int .i64 (i : Int) ∧ Hid (TW w wr (.slice (some ⟨g, 0, none⟩) n gc) (mixT l i))) (fun vi _ => n - (intOf vi).toNat)
      case atStart => exact ⟨0, Nat.zero_le _, rfl, by rw [mixT_zero]; exact hR.out⟩
      case round =>
        clear hR
        obtain ⟨i, hi, rfl, hR⟩ := hrel
        by_cases hlti : i < n
        · have hil : i < l.length := by rw [HLS.out.2]; exact hlti
          have hrb := hR.out.o.rb
          obtain ⟨g', o', c', he, hgl, hj⟩ := hrb.pos (by rw [mixT_length, HLS.out.2]; omega)
          simp only [Value.slice.injEq, Option.some.injEq, Addr.mk.injEq, and_true] at he
          obtain ⟨⟨rfl, rfl⟩, hx1, hx2⟩ := he
          clear hx1 hx2 hrb
          obtain ⟨c0, c1, c2, c3⟩ := hj i (by rw [mixT_length]; exact hil)
          rw [mixT_at l i hil, Nat.zero_add] at c0 c1 c2 c3
          obtain ⟨b, hb⟩ : ∃ b, b = bat l i := ⟨_, rfl⟩
          rw [← hb] at c0 c1 c2 c3
          have HB : Hid (b = bat l i ∧ i < l.length) := ⟨hb, hil⟩
          have b0 : (0 : Int) ≤ (i : Int) := by omega
          have b1 : (i : Int) < (n : Int) := by omega
          clear hj hb
          go_wp2_with (fail)
          refine (spec_turn b _).mono ?_
          rintro e w4 ⟨rfl, hb4⟩
          have M4 := hR.out.next hb4
          have hput := M4.put (j := i) (by rw [mixT_length]; exact hil) (turnB b)
          have HP : Hid (TW w ((((w4.setCell ⟨g, i * 4, none⟩ (.int .i64 (turnB b).x0)).setCell ⟨g, i * 4 + 1, none⟩ (.int .i64 (turnB b).y0)).setCell ⟨g, i * 4 + 2, none⟩ (.int .i64 (turnB b).x1)).setCell ⟨g, i * 4 + 3, none⟩ (.int .i64 (turnB b).y1)) (.slice (some ⟨g, 0, none⟩) n gc) (mixT l (i + 1))) := by
            unfold Hid
            rw [← mixT_step l i hil, ← HB.out.1]
            exact hput
          obtain ⟨_, _, _, _, hg4, hj4⟩ := M4.o.rb.pos (by rw [mixT_length, HLS.out.2]; omega)
          have d0 := (hb4.cell (p := ⟨g, i * 4, none⟩) hgl).trans c0
          have d1 := (hb4.cell (p := ⟨g, i * 4 + 1, none⟩) hgl).trans c1
          have d2 := (hb4.cell (p := ⟨g, i * 4 + 2, none⟩) hgl).trans c2
          have d3 := (hb4.cell (p := ⟨g, i * 4 + 3, none⟩) hgl).trans c3
          have hown4 : w4.ownsRow w.heap.size 49 4 (.slice (some ⟨g, 0, none⟩) (mixT l i).length gc) (mixT l i).length (bflat (mixT l i)) := by
            have := M4.o
            rw [mixT_length, HLS.out.2]
            unfold BS at this
            rw [mixT_length, HLS.out.2] at this
            exact this
          have f0 := World.ownsRow.frozenAt hown4 (i * 4)
          have f1 := World.ownsRow.frozenAt hown4 (i * 4 + 1)
          have f2 := World.ownsRow.frozenAt hown4 (i * 4 + 2)
          have f3 := World.ownsRow.frozenAt hown4 (i * 4 + 3)
          clear hb4 hput M4 hj4 hg4 hown4 c0 c1 c2 c3 hR
          go_wp2
          go_roundw
          case rel => exact ⟨i + 1, by omega, by go_num, HP.out⟩
          case measure => simp [intOf]; omega
        · have HM : Hid (TW w wr (.slice (some ⟨g, 0, none⟩) n gc) (trS s (q - (k - 1)))) := by
            have := hR.out
            rw [mixT_full l i (by rw [HLS.out.2]; omega), ← HLS.out.1] at this
            exact this
          clear hR
          go_wp2
          go_roundw
          case rel => exact ⟨k - 1, by omega, by go_num, HM.out⟩
          case measure => simp [intOf]; omega
    · obtain rfl : k = 0 := by omega
      have M4 : Hid (TW w wr (.slice (some ⟨g, 0, none⟩) n gc) (trS s q)) := hR.out
      clear hR
      have hL := HLL.out
      have HOP : Hid (Calls Try.prog 50 #[.int .i64 1, .slice (some ⟨g, 0, none⟩) n gc, .slice none 0 0] wr fun e w' => ∃ v', e = .returned v' ∧ BS w' wr.heap.size v' L ∧ v' ≠ .slice none 0 0 ∧ Below wr.heap.size wr w') := by
        have e : (trS s q).length = n := by rw [HN.out]; simp [trS]
        have h1 : RB wr (.slice (some ⟨g, 0, none⟩) (trS s q).length gc) (trS s q) := by rw [e]; exact M4.out.o.rb
        have h2 := spec_op 1 (some ⟨g, 0, none⟩) none gc 0 (trS s q) [] wr (by rw [e]; simp; omega) h1 (BS.nil wr 0).rb
        rw [e, ← hL] at h2
        exact h2
      clear hL
      go_wp2_with (fail)
      refine HOP.out.mono ?_
      rintro e w5 ⟨v', rfl, ho, hne, hb5⟩
      have HO : Hid (BS w5 w.heap.size v' L ∧ v' ≠ .slice none 0 0 ∧ Below w.heap.size w w5) := ⟨ho.low M4.out.bl.size, hne, M4.out.bl.trans (hb5.mono M4.out.bl.size)⟩
      clear ho hne hb5 HOP
      go_wp2
      go_returns
      exact ⟨_, rfl, HO.out.1, HO.out.2.1, HO.out.2.2⟩

end Go.Proofs.Ytokdpgabmifdjab
