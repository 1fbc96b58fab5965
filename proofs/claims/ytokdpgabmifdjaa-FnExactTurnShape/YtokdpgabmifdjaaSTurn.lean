/- Proved here: TurnShape of the model: trC, trL. -/
import Derived.Test.YtokdpgabmifdjaaTurnM
import Derived.Test.YtokdpgabmifdjaaPutQ
namespace Go.Proofs.Ytokdpgabmifdjaa
open Go.RowKit
set_option linter.unusedVariables false
set_option linter.unusedSimpArgs false

theorem add_plain (g j : Nat) : (⟨g, 0, none⟩ : Addr).add j = ⟨g, 0 + j, none⟩ := by unfold Addr.add; split <;> simp_all
theorem rb_news {w : World} {g n c : Nat} {s : List Bx} (h : RB w (.slice (some ⟨g, 0, none⟩) n c) s) : ∀ j u, (bflat s)[j]? = some u → w.cell? ((⟨g, 0, none⟩ : Addr).add j) = some u := by
  intro j u hu
  have hj : j < s.length * 4 := by
    have := List.getElem?_eq_some_iff.1 hu
    obtain ⟨h1, _⟩ := this
    rw [bflat_length] at h1
    exact h1
  obtain ⟨g', o, c', e, hg, hb⟩ := h.pos (by omega)
  simp only [Value.slice.injEq, Option.some.injEq, Addr.mk.injEq, and_true] at e
  obtain ⟨⟨rfl, rfl⟩, _, _⟩ := e
  have e : j = (j / 4) * 4 + j % 4 := by omega
  have hk := hb (j / 4) (by omega)
  rw [e, bflat_get s (j / 4) (j % 4) (by omega) (by omega)] at hu
  have hadd : (⟨g, 0, none⟩ : Addr).add j = ⟨g, 0 + j, none⟩ := add_plain g j
  have ha : (⟨g, 0, none⟩ : Addr).add j = ⟨g, 0 + j / 4 * 4 + j % 4, none⟩ := by
    rw [hadd]
    congr 1
    omega
  rw [ha, ← hu]
  rcases (by omega : j % 4 = 0 ∨ j % 4 = 1 ∨ j % 4 = 2 ∨ j % 4 = 3) with e | e | e | e <;> rw [e]
  · exact hk.x0
  · exact hk.y0
  · exact hk.x1
  · exact hk.y1
theorem bflat_one (s : List Bx) : ∀ u ∈ bflat s, u.oneCell' = true := by
  intro u hu
  unfold bflat at hu
  obtain ⟨b, _, hb⟩ := List.mem_flatMap.1 hu
  simp [bcells] at hb
  rcases hb with rfl | rfl | rfl | rfl <;> rfl

set_option maxRecDepth 10000 in
set_option maxHeartbeats 4000000 in
theorem spec_turnS (x : Int) (hx1 : -9223372036854775808 ≤ x) (hx2 : x ≤ 9223372036854775807) {w : World} {g0 : Nat} {s : List Bx} (hn : s.length ≤ 1048576) (h : RB w (.slice (some ⟨g0, 0, none⟩) s.length s.length) s) :
    Calls Try.prog 15 #[.slice (some ⟨g0, 0, none⟩) s.length s.length, .int .i64 x] w fun e w' => ∃ vs, e = .returned (.agg #[.int .i64 (trC s (x % 4).toNat), vs]) ∧ BS w' w.heap.size vs (trL s (x % 4).toNat) ∧ Below w.heap.size w w' := by
  obtain ⟨q, hq⟩ : ∃ q, q = (x % 4).toNat := ⟨_, rfl⟩
  have hq4 : x % 4 = (q : Int) := by omega
  have hq3 : q ≤ 3 := by omega
  rw [← hq]
  have H : Hid (RB w (.slice (some ⟨g0, 0, none⟩) s.length s.length) s ∧ s.length ≤ 1048576) := ⟨h, hn⟩
  have HC : Hid (∀ (w : World), Calls Try.prog 44 #[.int .i64 x] w fun e w' => e = .returned (.int .i64 (q : Int)) ∧ w' = w) := fun w => by
    have := spec_quarters x w hx1 hx2
    rw [hq4] at this
    exact this
  clear h hn hq hq4 hx1 hx2
  obtain ⟨z, hz⟩ : ∃ z, z = shapeK s := ⟨_, rfl⟩
  have HZ : Hid (z = shapeK s) := hz
  clear hz
  obtain ⟨i0, hi0, hz0', hz1, hz2⟩ := info_parts info_box
  by_cases hz0 : z = 0
  · have hs0 : shapeK s = 0 := by rw [← HZ.out]; exact hz0
    have HE : Hid (trC s q = toldC (opOf (takesK 1) (trS s q) []).length ∧ trL s q = toldL (opOf (takesK 1) (trS s q) [])) := by
      unfold Hid trC trL; rw [if_pos hs0, if_pos hs0]; exact ⟨rfl, rfl⟩
    have HL : Hid (s.length ≤ 150) := shapeK_len hs0
    obtain ⟨n, hnn⟩ : ∃ n, n = s.length := ⟨_, rfl⟩
    have HN : Hid (n = s.length) := hnn
    have hn150 : n ≤ 150 := by rw [hnn]; exact HL.out
    rw [← hnn] at H ⊢
    clear hs0 hnn
    subst hz0
    go_enter Try.func15, Try.ntmps15
    go_wp2_with (fail)
    refine (spec_shape (H.out.1.below ((Below.refl _ _).alloc (Nat.le_refl _) _))).mono ?_
    rintro e w1 ⟨rfl, hb1⟩
    rw [← HZ.out]
    obtain ⟨hk1, hlt1, hB1⟩ := resT hb1
    have HK1 : Hid (w1.heap[w.heap.size]? = some (.cells #[.int .i64 0, .slice none 0 0] 33) ∧ Below w.heap.size w w1) := ⟨hk1, hB1⟩
    have HNW : Hid (∀ j u, (bflat s)[j]? = some u → (w1.alloc (.cells #[] 56)).cell? ((⟨g0, 0, none⟩ : Addr).add j) = some u) := rb_news (H.out.1.below (hB1.alloc hB1.size _))
    have HFL : Hid ((bflat s).length = n * 4) := by unfold Hid; rw [bflat_length, HN.out]
    clear hb1 hk1 hB1
    go_wp2_with (at_builtin; refine append_own_any rfl _ _ 27 rfl (w.heap.size + 1) 56 i0 (.agg #[.int .i64 0, .int .i64 0, .int .i64 0, .int .i64 0]) 4 32 Try.underlying27 hi0 hz0' hz1 hz2 rfl (by decide) (.slice (some ⟨w1.heap.size, 0, none⟩) 0 0) 0 [] rfl (BS.lit0 w1 _ (by omega)) (some ⟨g0, 0, none⟩) n n (bflat s) rfl HFL.out (by intro h; cases h) (fun ad had => by cases had; exact HNW.out) (bflat_one s) (by unfold maxLen; omega) (by omega) (by simp; omega) ?_; intro v2 w2 hown2 hgrow2 hnn2)
    have M2 : Hid (TV w w2 v2 s ∧ v2 ≠ .slice none 0 0) := by
      have hb := ((Below.refl w1.heap.size w1).alloc (Nat.le_refl _) (.cells #[] 56)).grown hgrow2 (by simp) (fun k h => by injection h with h; have h' : w1.heap.size = k := h; omega)
      refine ⟨⟨?_, (hb.block _ hlt1).trans HK1.out.1, HK1.out.2.trans (hb.mono HK1.out.2.size), by have := hb.size; omega⟩, hnn2 (by intro h; cases h)⟩
      have := hown2
      rw [Nat.zero_add, List.nil_append, HN.out] at this
      exact this
    clear hown2 hgrow2 hnn2 HNW
    obtain ⟨ga, gc, hvf⟩ := M2.out.1.o.form
    rw [← HN.out] at hvf
    subst hvf
    obtain ⟨g, rfl⟩ : ∃ g, ga = some ⟨g, 0, none⟩ := by
      rcases M2.out.1.o.2 with ⟨h1, h2⟩ | ⟨g, cap, cur, h1, _⟩
      · exact absurd h1 M2.out.2
      · simp only [Value.slice.injEq] at h1
        exact ⟨g, h1.1⟩
    go_wp2_with (fail)
    refine (HC.out _).mono ?_
    rintro e w3 ⟨rfl, rfl⟩
    go_wp2
    go_loopw [7] (fun vk wr => ∃ k : Nat, k ≤ q ∧ vk = .int .i64 (k : Int) ∧ Hid (TV w wr (.slice (some ⟨g, 0, none⟩) n gc) (trS s (q - k)))) (fun vk _ => (intOf vk).toNat)
    case atStart => exact ⟨q, Nat.le_refl _, rfl, by rw [Nat.sub_self, trS_zero]; exact M2.out.1⟩
    case round =>
      clear M2
      obtain ⟨k, hk, rfl, hR⟩ := hrel
      by_cases hlt : 0 < k
      · obtain ⟨l, hl⟩ : ∃ l, l = trS s (q - k) := ⟨_, rfl⟩
        rw [← hl] at hR
        have HLS : Hid (trS s (q - (k - 1)) = l.map turnB ∧ l.length = n) := by
          refine ⟨?_, ?_⟩
          · rw [show q - (k - 1) = (q - k) + 1 by omega, trS_succ, hl]
          · rw [hl, HN.out]; simp [trS]
        clear hl
        have bk : (0 : Int) < (k : Int) := by omega
        go_wp2
        go_loopw [8] (fun vi wr => ∃ i : Nat, i ≤ n ∧ vi = .int .i64 (i : Int) ∧ Hid (TV w wr (.slice (some ⟨g, 0, none⟩) n gc) (mixT l i))) (fun vi _ => n - (intOf vi).toNat)
        case atStart => exact ⟨0, Nat.zero_le _, rfl, by rw [mixT_zero]; exact hR.out⟩
        case round =>
          clear hR
          obtain ⟨i, hi, rfl, hR⟩ := hrel
          by_cases hlti : i < n
          · have hil : i < l.length := by rw [HLS.out.2]; exact hlti
            have hrb := hR.out.o.rb
            obtain ⟨g', o', c', he, hgl, hj⟩ := hrb.pos (by rw [mixT_length, HLS.out.2]; omega)
            simp only [Value.slice.injEq, Option.some.injEq, Addr.mk.injEq, and_true] at he
            obtain ⟨⟨rfl, rfl⟩, hx1, hx2⟩ := he
            clear hx1 hx2 hrb
            obtain ⟨c0, c1, c2, c3⟩ := hj i (by rw [mixT_length]; exact hil)
            rw [mixT_at l i hil, Nat.zero_add] at c0 c1 c2 c3
            obtain ⟨b, hb⟩ : ∃ b, b = bat l i := ⟨_, rfl⟩
            rw [← hb] at c0 c1 c2 c3
            have HB : Hid (b = bat l i ∧ i < l.length) := ⟨hb, hil⟩
            have b0 : (0 : Int) ≤ (i : Int) := by omega
            have b1 : (i : Int) < (n : Int) := by omega
            clear hj hb
            go_wp2_with (fail)
            refine (spec_turn b _).mono ?_
            rintro e w4 ⟨rfl, hb4⟩
            have M4 := hR.out.next hb4
            have hput := M4.put (j := i) (by rw [mixT_length]; exact hil) (turnB b)
            have HP : Hid (TV w ((((w4.setCell ⟨g, i * 4, none⟩ (.int .i64 (turnB b).x0)).setCell ⟨g, i * 4 + 1, none⟩ (.int .i64 (turnB b).y0)).setCell ⟨g, i * 4 + 2, none⟩ (.int .i64 (turnB b).x1)).setCell ⟨g, i * 4 + 3, none⟩ (.int .i64 (turnB b).y1)) (.slice (some ⟨g, 0, none⟩) n gc) (mixT l (i + 1))) := by
              unfold Hid
              rw [← mixT_step l i hil, ← HB.out.1]
              exact hput
            obtain ⟨_, _, _, _, hg4, hj4⟩ := M4.o.rb.pos (by rw [mixT_length, HLS.out.2]; omega)
            have d0 := (hb4.cell (p := ⟨g, i * 4, none⟩) hgl).trans c0
            have d1 := (hb4.cell (p := ⟨g, i * 4 + 1, none⟩) hgl).trans c1
            have d2 := (hb4.cell (p := ⟨g, i * 4 + 2, none⟩) hgl).trans c2
            have d3 := (hb4.cell (p := ⟨g, i * 4 + 3, none⟩) hgl).trans c3
            have hown4 : w4.ownsRow (w.heap.size + 1) 56 4 (.slice (some ⟨g, 0, none⟩) (mixT l i).length gc) (mixT l i).length (bflat (mixT l i)) := by
              have := M4.o
              rw [mixT_length, HLS.out.2]
              unfold BS at this
              rw [mixT_length, HLS.out.2] at this
              exact this
            have f0 := World.ownsRow.frozenAt hown4 (i * 4)
            have f1 := World.ownsRow.frozenAt hown4 (i * 4 + 1)
            have f2 := World.ownsRow.frozenAt hown4 (i * 4 + 2)
            have f3 := World.ownsRow.frozenAt hown4 (i * 4 + 3)
            clear hb4 hput M4 hj4 hg4 hown4 c0 c1 c2 c3 hR
            go_wp2
            go_roundw
            case rel => exact ⟨i + 1, by omega, by go_num, HP.out⟩
            case measure => simp [intOf]; omega
          · have HM : Hid (TV w wr (.slice (some ⟨g, 0, none⟩) n gc) (trS s (q - (k - 1)))) := by
              have := hR.out
              rw [mixT_full l i (by rw [HLS.out.2]; omega), ← HLS.out.1] at this
              exact this
            clear hR
            go_wp2
            go_roundw
            case rel => exact ⟨k - 1, by omega, by go_num, HM.out⟩
            case measure => simp [intOf]; omega
      · obtain rfl : k = 0 := by omega
        have M4 : Hid (TV w wr (.slice (some ⟨g, 0, none⟩) n gc) (trS s q)) := hR.out
        have hsz4 := M4.out.sz
        clear hR
        obtain ⟨L, hL⟩ : ∃ L, L = opOf (takesK 1) (trS s q) [] := ⟨_, rfl⟩
        have HE2 : Hid (trC s q = toldC L.length ∧ trL s q = toldL L) := by rw [hL]; exact HE.out
        have HOP : Hid (Calls Try.prog 47 #[.int .i64 1, .slice (some ⟨g, 0, none⟩) n gc, .slice none 0 0] wr fun e w' => ∃ v', e = .returned v' ∧ BS w' wr.heap.size v' L ∧ Below wr.heap.size wr w') := by
          have e : (trS s q).length = n := by rw [HN.out]; simp [trS]
          have h1 : RB wr (.slice (some ⟨g, 0, none⟩) (trS s q).length gc) (trS s q) := by rw [e]; exact M4.out.o.rb
          have h2 := spec_op 1 (some ⟨g, 0, none⟩) none gc 0 (trS s q) [] wr (by rw [e]; simp; omega) h1 (BS.nil wr 0).rb
          rw [e, ← hL] at h2
          refine h2.mono ?_
          rintro e w' ⟨v', rfl, ho, _, hb⟩
          exact ⟨v', rfl, ho, hb⟩
        clear hL HE
        go_wp2_with (fail)
        refine HOP.out.mono ?_
        rintro e w5 ⟨v', rfl, ho, hb5⟩
        obtain ⟨a2, c2, rfl⟩ := ho.form
        have HO : Hid (BS w5 wr.heap.size (.slice a2 L.length c2) L) := ho
        have M5 : Hid (TV w w5 (.slice (some ⟨g, 0, none⟩) n gc) (trS s q)) := M4.out.next hb5
        clear ho hb5 HOP
        go_wp2_with (fail)
        refine (spec_told a2 _ c2 w5).mono ?_
        rintro e w6 ⟨rfl, hb6⟩
        have M6 := M5.out.next hb6
        obtain ⟨r0, r1, f0, f1, hlt3⟩ := cellsT M6.r
        have HR : Hid (BS w6 wr.heap.size (toldV (.slice a2 L.length c2) L.length) (toldL L) ∧ Below w.heap.size w w6) := ⟨(told_bs HO.out).below hb6, M6.bl⟩
        obtain ⟨a3, c3, h3⟩ := HR.out.1.form
        rw [h3] at HR ⊢
        clear h3 hb6 M6 HO
        go_wp2
        refine bodyPost_ret (by simp [results, Try.results15, go_sem, r0, r1, hlt3]; rfl) rfl ⟨.slice a3 (toldL L).length c3, ?_, ?_, ?_⟩
        · rw [HE2.out.1]
        · rw [HE2.out.2]
          refine (HR.out.1.kept fun g hg => ?_).low (by omega)
          have hge := (World.ownsRow.lt HR.out.1 _ hg).1
          rw [heap_setCell_other _ _ _ _ (by simp; omega), heap_setCell_other _ _ _ _ (by simp; omega)]
        · have hb := HR.out.2
          (repeat' (first | (with_reducible exact Below.refl _ _) | (with_reducible assumption) | (with_reducible refine Below.setCell ?_ ?_ _) | (with_reducible refine Below.alloc ?_ ?_ _) | (with_reducible refine below_drewN ?_ _) | (with_reducible refine Below.drew ?_) | (with_reducible exact Nat.le_refl _) | omega | (simp; done) | (simp; omega)))
  · have HE : Hid (trC s q = z ∧ trL s q = []) := by
      have hne : ¬ shapeK s = 0 := fun e => hz0 (HZ.out.trans e)
      unfold Hid trC trL; rw [if_neg hne, if_neg hne]; exact ⟨HZ.out.symm, rfl⟩
    go_enter Try.func15, Try.ntmps15
    go_wp2_with (fail)
    refine (spec_shape (H.out.1.below ((Below.refl _ _).alloc (Nat.le_refl _) _))).mono ?_
    rintro e w1 ⟨rfl, hb1⟩
    rw [← HZ.out]
    obtain ⟨hk1, hlt1, hB1⟩ := resT hb1
    have HB1 : Hid (Below w.heap.size w w1) := hB1
    obtain ⟨r0, r1, f0, f1, hlt2⟩ := cellsT hk1
    clear hb1 hk1 hB1
    go_wp2
    refine bodyPost_ret (by simp [results, Try.results15, go_sem, r0, r1, hlt2]; rfl) rfl ⟨.slice none 0 0, ?_, ?_, ?_⟩
    · rw [HE.out.1]
    · rw [HE.out.2]; exact BS.nil _ _
    · have hb := HB1.out
      (repeat' (first | (with_reducible exact Below.refl _ _) | (with_reducible assumption) | (with_reducible refine Below.setCell ?_ ?_ _) | (with_reducible refine Below.alloc ?_ ?_ _) | (with_reducible refine below_drewN ?_ _) | (with_reducible refine Below.drew ?_) | (with_reducible exact Nat.le_refl _) | omega | (simp; done) | (simp; omega)))

end Go.Proofs.Ytokdpgabmifdjaa
