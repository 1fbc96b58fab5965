/- Proved here: oneForm and ShapeOf of the program: ofC, ofL. -/
import Derived.Test.YtncenhpnomcnfaaISweep
import Derived.Test.YtncenhpnomcnfaaIEdges
import Derived.Test.YtncenhpnomcnfaaIHeights
import Derived.Test.YtncenhpnomcnfaaTold
namespace Go.Proofs.Ytncenhpnomcnfaa
open Go.RowKit
set_option linter.unusedVariables false
set_option linter.unusedSimpArgs false

theorem BC.kept {w w' : World} {B : Nat} {v : Value} {s : List Bx} (h : BC w B v s) (hb : ∀ g, v.ownBlock = some g → w'.heap[g]? = w.heap[g]?) : BC w' B v s := by
  obtain ⟨a, c, c', rfl, h⟩ := h
  exact ⟨a, c, c', rfl, h.kept fun g hg => hb g (by cases a <;> simp_all [Value.ownBlock])⟩
theorem BC.lt {w : World} {B g : Nat} {v : Value} {s : List Bx} (h : BC w B v s) (hg : v.ownBlock = some g) : B ≤ g := by
  obtain ⟨a, c, c', rfl, h⟩ := h
  exact (World.ownsRow.lt h g (by cases a <;> simp_all [Value.ownBlock])).1
theorem told_bc {w : World} {B : Nat} {v : Value} {s : List Bx} (h : BC w B v s) : BC w B (toldV v s.length) (toldL s) := by
  unfold toldV toldL; split
  · exact h
  · exact (BS.nil _ _).bc

set_option maxHeartbeats 1000000 in
theorem impl_oneForm {w : World} {v : Value} {s : List Bx} (hn : s.length ≤ 1000) (hx : ∀ q ∈ s, q.x0 < q.x1) (h : RB w v s) :
    Calls Try.prog 37 #[v] w fun e w' => ∃ v', e = .returned v' ∧ BC w' w.heap.size v' (opOf (takesK 1) s []) ∧ Below w.heap.size w w' := by
  obtain ⟨a, c, rfl⟩ := h.form
  have H : Hid (∀ w1, Below w.heap.size w w1 → Calls Try.prog 42 #[.slice a s.length c, .slice none 0 0, .func (.func 59) #[] #[]] w1 fun e w' => ∃ v', e = .returned v' ∧ BC w' w1.heap.size v' (opOf (takesK 1) s []) ∧ Below w1.heap.size w1 w') := fun w1 hb => impl_sweep impl_heights impl_edges word_either rfl (by simpa using hn) (h.below hb) (BS.nil w1 0).rb hx (fun q hq => by cases hq)
  clear h hx hn
  go_enter Try.func37, Try.ntmps37
  go_wp2_with (fail)
  refine (H.out w (Below.refl _ _)).mono ?_
  rintro e w1 ⟨v1, rfl, h1, hb1⟩
  obtain ⟨x, y, z, rfl, h2⟩ := h1
  have H1 : Hid (BC w1 w.heap.size (.slice x (opOf (takesK 1) s []).length z) (opOf (takesK 1) s []) ∧ Below w.heap.size w w1) := ⟨⟨x, y, z, rfl, h2⟩, hb1⟩
  clear h2 hb1
  go_wp2
  go_returns
  exact ⟨_, rfl, H1.out.1, H1.out.2⟩

set_option maxRecDepth 10000 in
set_option maxHeartbeats 4000000 in
theorem impl_of {w : World} {v : Value} {s : List Bx} (hn : s.length ≤ 1048576) (h : RB w v s) :
    Calls Try.prog 12 #[v] w fun e w' => ∃ vs, e = .returned (.agg #[.int .i64 (ofC s), vs]) ∧ BC w' w.heap.size vs (ofL s) ∧ Below w.heap.size w w' := by
  obtain ⟨a, c, rfl⟩ := h.form
  have H : Hid (RB w (.slice a s.length c) s) := h
  have HN : Hid (s.length ≤ 1048576) := hn
  clear h hn
  obtain ⟨z, hz⟩ : ∃ z, z = boxesK s := ⟨_, rfl⟩
  have HZ : Hid (z = boxesK s) := hz
  clear hz
  by_cases hz0 : z = 0
  · have HE : Hid (ofC s = toldC (opOf (takesK 1) s []).length ∧ ofL s = toldL (opOf (takesK 1) s [])) := by
      unfold Hid ofC ofL; rw [if_pos (HZ.out ▸ hz0), if_pos (HZ.out ▸ hz0)]; exact ⟨rfl, rfl⟩
    subst hz0
    have HL : Hid (s.length ≤ 150) := (boxesK_zero (HZ.out.symm)).1
    go_enter Try.func12, Try.ntmps12
    go_wp2_with (fail)
    refine (impl_boxes (by have := HN.out; omega) (H.out.below ((Below.refl _ _).alloc (Nat.le_refl _) _))).mono ?_
    rintro e w1 ⟨rfl, hb1⟩
    rw [← HZ.out]
    obtain ⟨hk1, hlt1, hB1⟩ := resT hb1
    have HB1 : Hid (Below w.heap.size w w1) := hB1
    have HK1 : Hid _ := hk1
    clear hb1 hk1 hB1
    go_wp2_with (fail)
    refine (impl_oneForm (by have := HL.out; omega) (fun b hb => ((boxesK_zero HZ.out.symm).2 b hb).1) (H.out.below HB1.out)).mono ?_
    rintro e w2 ⟨v', rfl, ho, hb2⟩
    have hof : ∃ a2 c2, v' = .slice a2 (opOf (takesK 1) s []).length c2 := by obtain ⟨x, y, z, e, _⟩ := ho; exact ⟨x, z, e⟩
    obtain ⟨a2, c2, rfl⟩ := hof
    have HO : Hid (BC w2 w1.heap.size (.slice a2 (opOf (takesK 1) s []).length c2) (opOf (takesK 1) s [])) := ho
    have HB2 : Hid _ := hb2
    clear ho hb2
    go_wp2_with (fail)
    refine (impl_answer a2 _ c2 w2).mono ?_
    rintro e w3 ⟨rfl, hb3⟩
    have hk3 := (hb3.block _ (Nat.lt_of_lt_of_le hlt1 HB2.out.size)).trans ((HB2.out.block _ hlt1).trans HK1.out)
    obtain ⟨r0, r1, f0, f1, hlt3⟩ := cellsT hk3
    have HR : Hid (BC w3 w1.heap.size (toldV (.slice a2 (opOf (takesK 1) s []).length c2) (opOf (takesK 1) s []).length) (toldL (opOf (takesK 1) s [])) ∧ Below w.heap.size w w3) := ⟨(told_bc HO.out).below hb3, HB1.out.trans ((HB2.out.mono (Nat.le_of_lt hlt1)).trans (hb3.mono (Nat.le_of_lt (Nat.lt_of_lt_of_le hlt1 HB2.out.size))))⟩
    clear hb3 hk3
    obtain ⟨a3, c3, h3⟩ : ∃ a3 c3, toldV (.slice a2 (opOf (takesK 1) s []).length c2) (opOf (takesK 1) s []).length = .slice a3 (toldL (opOf (takesK 1) s [])).length c3 := by obtain ⟨x, y, z, e, _⟩ := HR.out.1; exact ⟨x, z, e⟩
    rw [h3] at HR ⊢
    clear h3
    go_wp2
    refine bodyPost_ret (by simp [results, Try.results12, go_sem, r0, r1, hlt3]; rfl) rfl ⟨.slice a3 (toldL (opOf (takesK 1) s [])).length c3, ?_, ?_, ?_⟩
    · rw [HE.out.1]
    · rw [HE.out.2]
      refine (HR.out.1.kept fun g hg => ?_).low (Nat.le_of_lt hlt1)
      have hge := HR.out.1.lt hg
      rw [heap_setCell_other _ _ _ _ (by simp; omega), heap_setCell_other _ _ _ _ (by simp; omega)]
    · have hb := HR.out.2
      (repeat' (first | (with_reducible exact Below.refl _ _) | (with_reducible assumption) | (with_reducible refine Below.setCell ?_ ?_ _) | (with_reducible refine Below.alloc ?_ ?_ _) | (with_reducible refine below_drewN ?_ _) | (with_reducible refine Below.drew ?_) | (with_reducible exact Nat.le_refl _) | omega | (simp; done) | (simp; omega)))
  · have HE : Hid (ofC s = z ∧ ofL s = []) := by
      unfold Hid ofC ofL; rw [if_neg (HZ.out ▸ hz0), if_neg (HZ.out ▸ hz0)]; exact ⟨HZ.out.symm, rfl⟩
    go_enter Try.func12, Try.ntmps12
    go_wp2_with (fail)
    refine (impl_boxes (by have := HN.out; omega) (H.out.below ((Below.refl _ _).alloc (Nat.le_refl _) _))).mono ?_
    rintro e w1 ⟨rfl, hb1⟩
    rw [← HZ.out]
    obtain ⟨hk1, hlt1, hB1⟩ := resT hb1
    have HB1 : Hid (Below w.heap.size w w1) := hB1
    obtain ⟨r0, r1, f0, f1, hlt2⟩ := cellsT hk1
    clear hb1 hk1 hB1
    go_wp2
    refine bodyPost_ret (by simp [results, Try.results12, go_sem, r0, r1, hlt2]; rfl) rfl ⟨.slice none 0 0, ?_, ?_, ?_⟩
    · rw [HE.out.1]
    · rw [HE.out.2]; exact (BS.nil _ _).bc
    · have hb := HB1.out
      (repeat' (first | (with_reducible exact Below.refl _ _) | (with_reducible assumption) | (with_reducible refine Below.setCell ?_ ?_ _) | (with_reducible refine Below.alloc ?_ ?_ _) | (with_reducible refine below_drewN ?_ _) | (with_reducible refine Below.drew ?_) | (with_reducible exact Nat.le_refl _) | omega | (simp; done) | (simp; omega)))


end Go.Proofs.Ytncenhpnomcnfaa
