/- Proved here: TurnShape of the program: trC, trL. -/
import Derived.Test.YtncenhpnomcnfaaTurnM
namespace Go.Proofs.Ytncenhpnomcnfaa
open Go.RowKit
set_option linter.unusedVariables false
set_option linter.unusedSimpArgs false

set_option maxRecDepth 10000 in
set_option maxHeartbeats 4000000 in
theorem impl_turn (x : Int) {w : World} {a : Option Addr} {s : List Bx} (hn : s.length ≤ 1048576) (h : RB w (.slice a s.length s.length) s) :
    Calls Try.prog 23 #[.slice a s.length s.length, .int .i64 x] w fun e w' => ∃ vs, e = .returned (.agg #[.int .i64 (trC s (x % 4).toNat), vs]) ∧ BC w' w.heap.size vs (trL s (x % 4).toNat) ∧ Below w.heap.size w w' := by
  obtain ⟨q, hq⟩ : ∃ q, q = (x % 4).toNat := ⟨_, rfl⟩
  rw [← hq]
  have H : Hid (RB w (.slice a s.length s.length) s ∧ s.length ≤ 1048576) := ⟨h, hn⟩
  have HC : Hid (∀ (b : Bx) (w : World), Calls Try.prog 51 #[.agg #[.int .i64 b.x0, .int .i64 b.y0, .int .i64 b.x1, .int .i64 b.y1], .int .i64 x] w fun e w' => e = .returned (.agg #[.int .i64 (turnsB q b).x0, .int .i64 (turnsB q b).y0, .int .i64 (turnsB q b).x1, .int .i64 (turnsB q b).y1]) ∧ Below w.heap.size w w') := fun b w => by rw [hq]; exact impl_turned b x w
  clear h hn hq
  obtain ⟨z, hz⟩ : ∃ z, z = shapeK s := ⟨_, rfl⟩
  have HZ : Hid (z = shapeK s) := hz
  clear hz
  obtain ⟨i0, hi0, hz0', hz1, hz2⟩ := info_parts info_box
  by_cases hz0 : z = 0
  · have hs0 : shapeK s = 0 := by rw [← HZ.out]; exact hz0
    have HE : Hid (trC s q = toldC (opOf (takesK 1) (trS s q) []).length ∧ trL s q = toldL (opOf (takesK 1) (trS s q) [])) := by
      unfold Hid trC trL; rw [if_pos hs0, if_pos hs0]; exact ⟨rfl, rfl⟩
    have HL : Hid (s.length ≤ 150 ∧ ∀ b ∈ trS s q, b.x0 < b.x1) := ⟨shapeK_len hs0, trS_x hs0 q⟩
    obtain ⟨n, hnn⟩ : ∃ n, n = s.length := ⟨_, rfl⟩
    have HN : Hid (n = s.length) := hnn
    have hn150 : n ≤ 150 := by rw [hnn]; exact HL.out.1
    rw [← hnn] at H ⊢
    clear hs0 hnn
    subst hz0
    go_enter Try.func23, Try.ntmps23
    go_wp2_with (fail)
    refine (impl_shape (by rw [← HN.out]; have := H.out.2; omega) (Nat.le_refl _) (H.out.1.below ((Below.refl _ _).alloc (Nat.le_refl _) _))).mono ?_
    rintro e w1 ⟨rfl, hb1⟩
    rw [← HZ.out]
    obtain ⟨hk1, hlt1, hB1⟩ := resT hb1
    have HK1 : Hid (w1.heap[w.heap.size]? = some (.cells #[.int .i64 0, .slice none 0 0] 26) ∧ Below w.heap.size w w1) := ⟨hk1, hB1⟩
    clear hb1 hk1 hB1
    go_wp2_with (at_make; refine wpList_make_own _ rfl _ _ 24 rfl (w.heap.size + 1) 45 i0 (.agg #[.int .i64 0, .int .i64 0, .int .i64 0, .int .i64 0]) 4 Try.underlying24 hi0 hz0' hz1 _ _ _ n rfl rfl rfl (by rw [hz2]; omega) (by unfold maxLen; omega) (by omega) ?_; intro w2 hown2 hgrow2)
    have M2 : Hid (TV w w2 (.slice (some ⟨w1.heap.size, 0, none⟩) 0 n) []) := by
      have hb := (Below.refl w1.heap.size w1).grown hgrow2 (Nat.le_refl _) (fun k h => by cases h)
      exact ⟨hown2, (hb.block _ hlt1).trans HK1.out.1, HK1.out.2.trans (hb.mono HK1.out.2.size), by have := hb.size; omega⟩
    clear hown2 hgrow2
    go_loopw [6, 20] (fun vo i wr => ∃ k : Nat, k ≤ n ∧ i = .int .i64 k ∧ Hid (TV w wr vo (trS (s.take k) q))) (fun _ i _ => n - (intOf i).toNat)
    case atStart => exact ⟨0, Nat.zero_le _, rfl, M2.out⟩
    case round =>
      clear M2
      obtain ⟨k, hk, rfl, hR⟩ := hrel
      by_cases hlt : k < n
      · obtain ⟨g, o, c2, he, hg, hj⟩ := (H.out.1.below hR.out.bl).pos (by rw [← HN.out]; omega)
        simp only [Value.slice.injEq] at he
        obtain ⟨rfl, hx1, hx2⟩ := he
        clear hx1 hx2
        have hkl : k < s.length := by rw [← HN.out]; exact hlt
        obtain ⟨c0, c1, c2, c3⟩ := hj k hkl
        obtain ⟨b, hb⟩ : ∃ b, b = bat s k := ⟨_, rfl⟩
        rw [← hb] at c0 c1 c2 c3
        obtain ⟨oa, oc, hof⟩ := hR.out.o.form
        subst hof
        have hlen : (trS (s.take k) q).length ≤ 150 := by simp [trS]; omega
        obtain ⟨m, hm⟩ : ∃ m : Bx, m = turnsB q b := ⟨_, rfl⟩
        have HST : Hid (trS (s.take (k + 1)) q = trS (s.take k) q ++ [m]) := by
          unfold Hid trS
          rw [take_bat hkl, ← hb, hm]
          simp
        have hcm : Hid (∀ W, Calls Try.prog 51 #[.agg #[.int .i64 b.x0, .int .i64 b.y0, .int .i64 b.x1, .int .i64 b.y1], .int .i64 x] W fun e w' => e = .returned (.agg #[.int .i64 m.x0, .int .i64 m.y0, .int .i64 m.x1, .int .i64 m.y1]) ∧ Below W.heap.size W w') := fun W => by rw [hm]; exact HC.out b W
        have HM : Hid (TV w wr (.slice oa (trS (s.take k) q).length oc) (trS (s.take k) q)) := hR.out
        clear hb hm hj hR
        generalize (trS (s.take k) q) = out at HM HST hlen ⊢
        have b0 : (0 : Int) ≤ (k : Int) := by omega
        have b1 : (k : Int) < (n : Int) := by omega
        go_wp2_with (fail)
        refine (hcm.out _).mono ?_
        rintro e w4 ⟨rfl, hb4⟩
        have M4 : Hid (TV w w4 (.slice oa out.length oc) out) := HM.out.next (Below.trans (by (repeat' (first | (with_reducible exact Below.refl _ _) | (with_reducible assumption) | (with_reducible refine Below.setCell ?_ ?_ _) | (with_reducible refine Below.alloc ?_ ?_ _) | (with_reducible refine below_drewN ?_ _) | (with_reducible refine Below.drew ?_) | (with_reducible exact Nat.le_refl _) | omega | (simp; done) | (simp; omega)))) (hb4.mono (by simp)))
        have hsz4 := M4.out.sz
        clear hb4 HM c0 c1 c2 c3
        go_wp2_with (at_builtin; refine wpList_append_own _ rfl _ _ 24 rfl (w.heap.size + 1) 45 i0 (.agg #[.int .i64 0, .int .i64 0, .int .i64 0, .int .i64 0]) 4 32 Try.underlying24 hi0 hz0' hz1 hz2 rfl (by decide) _ _ _ rfl (World.ownsRow.alloc M4.out.o _) ⟨w4.heap.size, 0, none⟩ 1 1 (bcells m) rfl rfl (World.news_of_block (cs := #[.int .i64 m.x0, .int .i64 m.y0, .int .i64 m.x1, .int .i64 m.y1]) (t := 45) (fr := (0, 0)) (heap_alloc_new w4 _)) (by simp [bcells, Value.oneCell']) (by unfold maxLen; omega) (by omega) (by simp; omega) ?_; intro v5 w5 hown5 hgrow5 _)
        have R : Hid (TV w w5 v5 (trS (s.take (k + 1)) q)) := by
          unfold Hid
          rw [HST.out]
          exact M4.out.push hown5 hgrow5
        clear hown5 hgrow5 M4 HST
        go_wp2
        go_roundw
        case rel => exact ⟨k + 1, by omega, by go_num, R.out⟩
        case measure => simp [intOf]; omega
      · have M4 : Hid (TV w wr u6 (trS s q)) := by
          have := hR.out
          rwa [List.take_of_length_le (by rw [← HN.out]; omega)] at this
        obtain ⟨oa, oc, hof⟩ := M4.out.o.form
        subst hof
        have hsz4 := M4.out.sz
        clear hR
        go_wp2_with (fail)
        refine (impl_oneForm (by simp [trS]; have := HL.out.1; omega) HL.out.2 M4.out.o.rb).mono ?_
        rintro e w5 ⟨v', rfl, ho, hb5⟩
        obtain ⟨L, hL⟩ : ∃ L, L = opOf (takesK 1) (trS s q) [] := ⟨_, rfl⟩
        rw [← hL] at ho
        have HE2 : Hid (trC s q = toldC L.length ∧ trL s q = toldL L) := by rw [hL]; exact HE.out
        obtain ⟨a2, cr, c2, rfl, ho⟩ := ho
        have HO : Hid (BC w5 wr.heap.size (.slice a2 L.length c2) L) := ⟨a2, cr, c2, rfl, ho⟩
        have M5 : Hid (TV w w5 (.slice oa (trS s q).length oc) (trS s q)) := M4.out.next hb5
        clear ho hb5 hL HE
        go_wp2_with (fail)
        refine (impl_answer a2 _ c2 w5).mono ?_
        rintro e w6 ⟨rfl, hb6⟩
        have M6 := M5.out.next hb6
        obtain ⟨r0, r1, f0, f1, hlt3⟩ := cellsT M6.r
        have HR : Hid (BC w6 wr.heap.size (toldV (.slice a2 L.length c2) L.length) (toldL L) ∧ Below w.heap.size w w6) := ⟨(told_bc HO.out).below hb6, M6.bl⟩
        obtain ⟨a3, c3, h3⟩ : ∃ a3 c3, toldV (.slice a2 L.length c2) L.length = .slice a3 (toldL L).length c3 := by obtain ⟨x, y, z, e, _⟩ := HR.out.1; exact ⟨x, z, e⟩
        rw [h3] at HR ⊢
        clear h3 hb6 M6 HO
        go_wp2
        refine bodyPost_ret (by simp [results, Try.results23, go_sem, r0, r1, hlt3]; rfl) rfl ⟨.slice a3 (toldL L).length c3, ?_, ?_, ?_⟩
        · rw [HE2.out.1]
        · rw [HE2.out.2]
          refine (HR.out.1.kept fun g hg => ?_).low (by omega)
          have hge := HR.out.1.lt hg
          rw [heap_setCell_other _ _ _ _ (by simp; omega), heap_setCell_other _ _ _ _ (by simp; omega)]
        · have hb := HR.out.2
          (repeat' (first | (with_reducible exact Below.refl _ _) | (with_reducible assumption) | (with_reducible refine Below.setCell ?_ ?_ _) | (with_reducible refine Below.alloc ?_ ?_ _) | (with_reducible refine below_drewN ?_ _) | (with_reducible refine Below.drew ?_) | (with_reducible exact Nat.le_refl _) | omega | (simp; done) | (simp; omega)))
  · have HE : Hid (trC s q = z ∧ trL s q = []) := by
      have hne : ¬ shapeK s = 0 := fun e => hz0 (HZ.out.trans e)
      unfold Hid trC trL; rw [if_neg hne, if_neg hne]; exact ⟨HZ.out.symm, rfl⟩
    go_enter Try.func23, Try.ntmps23
    go_wp2_with (fail)
    refine (impl_shape (by have := H.out.2; omega) (Nat.le_refl _) (H.out.1.below ((Below.refl _ _).alloc (Nat.le_refl _) _))).mono ?_
    rintro e w1 ⟨rfl, hb1⟩
    rw [← HZ.out]
    obtain ⟨hk1, hlt1, hB1⟩ := resT hb1
    have HB1 : Hid (Below w.heap.size w w1) := hB1
    obtain ⟨r0, r1, f0, f1, hlt2⟩ := cellsT hk1
    clear hb1 hk1 hB1
    go_wp2
    refine bodyPost_ret (by simp [results, Try.results23, go_sem, r0, r1, hlt2]; rfl) rfl ⟨.slice none 0 0, ?_, ?_, ?_⟩
    · rw [HE.out.1]
    · rw [HE.out.2]; exact (BS.nil _ _).bc
    · have hb := HB1.out
      (repeat' (first | (with_reducible exact Below.refl _ _) | (with_reducible assumption) | (with_reducible refine Below.setCell ?_ ?_ _) | (with_reducible refine Below.alloc ?_ ?_ _) | (with_reducible refine below_drewN ?_ _) | (with_reducible refine Below.drew ?_) | (with_reducible exact Nat.le_refl _) | omega | (simp; done) | (simp; omega)))

end Go.Proofs.Ytncenhpnomcnfaa
