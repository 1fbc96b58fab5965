/- Proved here: TurnShape of the program: trC, trL. -/
import Derived.Test.YtokdpgabmifdjaaITb
import Derived.Test.YtokdpgabmifdjaaIOne
namespace Go.Proofs.Ytokdpgabmifdjaa
open Go.RowKit
set_option linter.unusedVariables false
set_option linter.unusedSimpArgs false

set_option maxRecDepth 10000 in
set_option maxHeartbeats 4000000 in
theorem impl_turn (x : Int) {w : World} {a : Option Addr} {s : List Bx} (hn : s.length ≤ 1048576) (h : RB w (.slice a s.length s.length) s) :
    Calls Try.prog 16 #[.slice a s.length s.length, .int .i64 x] w fun e w' => ∃ vs, e = .returned (.agg #[.int .i64 (trC s (x % 4).toNat), vs]) ∧ BC w' w.heap.size vs (trL s (x % 4).toNat) ∧ Below w.heap.size w w' := by
  obtain ⟨q, hq⟩ : ∃ q, q = (x % 4).toNat := ⟨_, rfl⟩
  rw [← hq]
  have H : Hid (RB w (.slice a s.length s.length) s ∧ s.length ≤ 1048576) := ⟨h, hn⟩
  have HTB : Hid (∀ {W : World}, s.length ≤ 500000 → RB W (.slice a s.length s.length) s → Calls Try.prog 50 #[.slice a s.length s.length, .int .i64 x] W fun e w' => ∃ vs, e = .returned vs ∧ BS w' W.heap.size vs (trS s q) ∧ Below W.heap.size W w') := fun {W} h1 h2 => by rw [hq]; exact impl_turnedB x h1 h2
  clear h hn hq
  obtain ⟨z, hz⟩ : ∃ z, z = shapeK s := ⟨_, rfl⟩
  have HZ : Hid (z = shapeK s) := hz
  clear hz
  by_cases hz0 : z = 0
  · have hs0 : shapeK s = 0 := by rw [← HZ.out]; exact hz0
    have HE : Hid (trC s q = toldC (opOf (takesK 1) (trS s q) []).length ∧ trL s q = toldL (opOf (takesK 1) (trS s q) [])) := by
      unfold Hid trC trL; rw [if_pos hs0, if_pos hs0]; exact ⟨rfl, rfl⟩
    have HL : Hid (s.length ≤ 150 ∧ ∀ b ∈ trS s q, b.x0 < b.x1) := ⟨shapeK_len hs0, trS_x hs0 q⟩
    obtain ⟨n, hnn⟩ : ∃ n, n = s.length := ⟨_, rfl⟩
    have HN : Hid (n = s.length) := hnn
    have hn150 : n ≤ 150 := by rw [hnn]; exact HL.out.1
    clear hs0 hnn
    subst hz0
    go_enter Try.func16, Try.ntmps16
    go_wp2_with (fail)
    refine (impl_shape (by rw [← HN.out]; have := H.out.2; omega) (Nat.le_refl _) (H.out.1.below ((Below.refl _ _).alloc (Nat.le_refl _) _))).mono ?_
    rintro e w1 ⟨rfl, hb1⟩
    rw [← HZ.out]
    obtain ⟨hk1, hlt1, hB1⟩ := resT hb1
    have HK1 : Hid (w1.heap[w.heap.size]? = some (.cells #[.int .i64 0, .slice none 0 0] 33) ∧ Below w.heap.size w w1) := ⟨hk1, hB1⟩
    clear hb1 hk1 hB1
    go_wp2_with (fail)
    refine (HTB.out (by rw [← HN.out]; omega) (H.out.1.below HK1.out.2)).mono ?_
    rintro e wr ⟨vt, rfl, hvt, hbt⟩
    obtain ⟨oa, oc, hof⟩ := hvt.form
    subst hof
    have M4 : Hid (TV w wr (.slice oa (trS s q).length oc) (trS s q)) := ⟨hvt.low (by omega), (hbt.block _ hlt1).trans HK1.out.1, HK1.out.2.trans (hbt.mono HK1.out.2.size), by have := hbt.size; omega⟩
    have hsz4 := M4.out.sz
    clear hvt hbt
    go_wp2_with (fail)
    refine (impl_oneForm (by simp [trS]; have := HL.out.1; omega) HL.out.2 M4.out.o.rb).mono ?_
    rintro e w5 ⟨v', rfl, ho, hb5⟩
    obtain ⟨L, hL⟩ : ∃ L, L = opOf (takesK 1) (trS s q) [] := ⟨_, rfl⟩
    rw [← hL] at ho
    have HE2 : Hid (trC s q = toldC L.length ∧ trL s q = toldL L) := by rw [hL]; exact HE.out
    obtain ⟨a2, cr, c2, rfl, ho⟩ := ho
    have HO : Hid (BC w5 wr.heap.size (.slice a2 L.length c2) L) := ⟨a2, cr, c2, rfl, ho⟩
    have M5 : Hid (TV w w5 (.slice oa (trS s q).length oc) (trS s q)) := M4.out.next hb5
    clear ho hb5 hL HE
    go_wp2_with (fail)
    refine (impl_answer a2 _ c2 w5).mono ?_
    rintro e w6 ⟨rfl, hb6⟩
    have M6 := M5.out.next hb6
    obtain ⟨r0, r1, f0, f1, hlt3⟩ := cellsT M6.r
    have HR : Hid (BC w6 wr.heap.size (toldV (.slice a2 L.length c2) L.length) (toldL L) ∧ Below w.heap.size w w6) := ⟨(told_bc HO.out).below hb6, M6.bl⟩
    obtain ⟨a3, c3, h3⟩ : ∃ a3 c3, toldV (.slice a2 L.length c2) L.length = .slice a3 (toldL L).length c3 := by obtain ⟨x, y, z, e, _⟩ := HR.out.1; exact ⟨x, z, e⟩
    rw [h3] at HR ⊢
    clear h3 hb6 M6 HO
    go_wp2
    refine bodyPost_ret (by simp [results, Try.results16, go_sem, r0, r1, hlt3]; rfl) rfl ⟨.slice a3 (toldL L).length c3, ?_, ?_, ?_⟩
    · rw [HE2.out.1]
    · rw [HE2.out.2]
      refine (HR.out.1.kept fun g hg => ?_).low (by omega)
      have hge := HR.out.1.lt hg
      rw [heap_setCell_other _ _ _ _ (by simp; omega), heap_setCell_other _ _ _ _ (by simp; omega)]
    · have hb := HR.out.2
      (repeat' (first | (with_reducible exact Below.refl _ _) | (with_reducible assumption) | (with_reducible refine Below.setCell ?_ ?_ _) | (with_reducible refine Below.alloc ?_ ?_ _) | (with_reducible refine below_drewN ?_ _) | (with_reducible refine Below.drew ?_) | (with_reducible exact Nat.le_refl _) | omega | (simp; done) | (simp; omega)))
  · have HE : Hid (trC s q = z ∧ trL s q = []) := by
      have hne : ¬ shapeK s = 0 := fun e => hz0 (HZ.out.trans e)
      unfold Hid trC trL; rw [if_neg hne, if_neg hne]; exact ⟨HZ.out.symm, rfl⟩
    go_enter Try.func16, Try.ntmps16
    go_wp2_with (fail)
    refine (impl_shape (by have := H.out.2; omega) (Nat.le_refl _) (H.out.1.below ((Below.refl _ _).alloc (Nat.le_refl _) _))).mono ?_
    rintro e w1 ⟨rfl, hb1⟩
    rw [← HZ.out]
    obtain ⟨hk1, hlt1, hB1⟩ := resT hb1
    have HB1 : Hid (Below w.heap.size w w1) := hB1
    obtain ⟨r0, r1, f0, f1, hlt2⟩ := cellsT hk1
    clear hb1 hk1 hB1
    go_wp2
    refine bodyPost_ret (by simp [results, Try.results16, go_sem, r0, r1, hlt2]; rfl) rfl ⟨.slice none 0 0, ?_, ?_, ?_⟩
    · rw [HE.out.1]
    · rw [HE.out.2]; exact (BS.nil _ _).bc
    · have hb := HB1.out
      (repeat' (first | (with_reducible exact Below.refl _ _) | (with_reducible assumption) | (with_reducible refine Below.setCell ?_ ?_ _) | (with_reducible refine Below.alloc ?_ ?_ _) | (with_reducible refine below_drewN ?_ _) | (with_reducible refine Below.drew ?_) | (with_reducible exact Nat.le_refl _) | omega | (simp; done) | (simp; omega)))

end Go.Proofs.Ytokdpgabmifdjaa
