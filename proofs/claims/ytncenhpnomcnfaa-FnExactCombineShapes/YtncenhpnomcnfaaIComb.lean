/- Proved here: CombineShapes of the program: cmC, cmL. -/
import Derived.Test.YtncenhpnomcnfaaIOf
import Derived.Test.YtncenhpnomcnfaaSComb
namespace Go.Proofs.Ytncenhpnomcnfaa
open Go.RowKit
set_option linter.unusedVariables false
set_option linter.unusedSimpArgs false

theorem equal_fn (F d : Nat) (w : World) : (Op.equalIn (d + 1) 56 (.func (.func F) #[] #[]) .nilFunc).run Try.prog w = .ok false w := by
  simp [Op.equalIn, run_underlying Try.underlying56]
theorem eql_fn (F : Nat) (w : World) : Sem.run Try.prog (binOp .eql 56 (.func (.func F) #[] #[]) .nilFunc) w = .ok (.bool false) w := by
  simp only [binOp]
  have : (Op.equal 56 (.func (.func F) #[] #[]) .nilFunc).run Try.prog w = .ok false w := equal_fn F 9999 w
  simp [this]
theorem equal_nf (d : Nat) (w : World) : (Op.equalIn (d + 1) 56 .nilFunc .nilFunc).run Try.prog w = .ok true w := by
  simp [Op.equalIn, run_underlying Try.underlying56]
theorem eql_nf (w : World) : Sem.run Try.prog (binOp .eql 56 .nilFunc .nilFunc) w = .ok (.bool true) w := by
  simp only [binOp]
  have : (Op.equal 56 .nilFunc .nilFunc).run Try.prog w = .ok true w := equal_nf 9999 w
  simp [this]

theorem shapeK_x {s : List Bx} (h : shapeK s = 0) : ∀ b ∈ s, b.x0 < b.x1 := by
  intro b hb
  refine ((boxesK_zero ?_).2 b hb).1
  unfold shapeK at h
  split at h
  · assumption
  · rename_i h0; exact absurd h h0

set_option maxRecDepth 10000 in
set_option maxHeartbeats 4000000 in
theorem impl_comb {w : World} {a b : Option Addr} {s t : List Bx} (op : Int) (hn : s.length ≤ 1048576) (hn' : t.length ≤ 1048576) (h : RB w (.slice a s.length s.length) s) (h' : RB w (.slice b t.length t.length) t) :
    Calls Try.prog 19 #[.int .i64 op, .slice a s.length s.length, .slice b t.length t.length] w fun e w' => ∃ vs, e = .returned (.agg #[.int .i64 (cmC op s t), vs]) ∧ BC w' w.heap.size vs (cmL op s t) ∧ Below w.heap.size w w' := by
  have H : Hid (RB w (.slice a s.length s.length) s) := h
  have H' : Hid (RB w (.slice b t.length t.length) t) := h'
  have HN : Hid (s.length ≤ 1048576 ∧ t.length ≤ 1048576) := ⟨hn, hn'⟩
  clear h h' hn hn'
  obtain ⟨z, hz⟩ : ∃ z, z = shapeK s := ⟨_, rfl⟩
  have HZ : Hid (z = shapeK s) := hz
  clear hz
  obtain ⟨y, hy⟩ : ∃ y, y = shapeK t := ⟨_, rfl⟩
  have HY : Hid (y = shapeK t) := hy
  clear hy
  cases hop : opOk op with
  | false =>
    have HE : Hid (cmC op s t = 1 ∧ cmL op s t = []) := by
      unfold Hid cmC cmL; rw [hop]; simp
    have hn : ¬ (1 ≤ op ∧ op ≤ 4) := by simpa [opOk] using hop
    clear hop
    have q1 : (op == 1) = false := by simp; omega
    have q2 : (op == 2) = false := by simp; omega
    have q3 : (op == 3) = false := by simp; omega
    have q4 : (op == 4) = false := by simp; omega
    have HKN : Hid (∀ w, Calls Try.prog 40 #[.int .i64 op] w fun e w' => e = .returned .nilFunc ∧ w' = w) := fun w => impl_keeps_not op w q1 q2 q3 q4
    clear q1 q2 q3 q4 hn
    have hq0 := eql_nf
    go_enter Try.func19, Try.ntmps19
    go_wp2_with (fail)
    refine (HKN.out _).mono ?_
    rintro e w1 ⟨rfl, rfl⟩
    go_wp2
    refine bodyPost_ret (by simp [results, Try.results19, go_sem]; rfl) rfl ⟨.slice none 0 0, ?_, ?_, ?_⟩
    · rw [HE.out.1]
    · rw [HE.out.2]; exact (BS.nil _ _).bc
    · (repeat' (first | (with_reducible exact Below.refl _ _) | (with_reducible assumption) | (with_reducible refine Below.setCell ?_ ?_ _) | (with_reducible refine Below.alloc ?_ ?_ _) | (with_reducible refine below_drewN ?_ _) | (with_reducible refine Below.drew ?_) | (with_reducible exact Nat.le_refl _) | omega | (simp; done) | (simp; omega)))
  | true =>
    have hn : 1 ≤ op ∧ op ≤ 4 := by simpa [opOk] using hop
    have hkf : takesK op false false = false := by
      rcases (by omega : op = 1 ∨ op = 2 ∨ op = 3 ∨ op = 4) with rfl | rfl | rfl | rfl <;> rfl
    obtain ⟨F, hF, hkk⟩ : ∃ F, Word F (takesK op) ∧ ∀ w, Calls Try.prog 40 #[.int .i64 op] w fun e w' => e = .returned (.func (.func F) #[] #[]) ∧ w' = w := by
      rcases (by omega : op = 1 ∨ op = 2 ∨ op = 3 ∨ op = 4) with rfl | rfl | rfl | rfl
      · exact ⟨_, word_either, impl_keeps_one⟩
      · exact ⟨_, word_both, impl_keeps_two⟩
      · exact ⟨_, word_alone, impl_keeps_three⟩
      · exact ⟨_, word_one, impl_keeps_four⟩
    have HKN : Hid (∀ w, Calls Try.prog 40 #[.int .i64 op] w fun e w' => e = .returned (.func (.func F) #[] #[]) ∧ w' = w) := hkk
    clear hkk
    have HW : Hid (Word F (takesK op) ∧ takesK op false false = false) := ⟨hF, hkf⟩
    clear hF hkf hn
    have hq0 := eql_fn F
    by_cases hz0 : z = 0
    · have hs0 : shapeK s = 0 := by rw [← HZ.out]; exact hz0
      have HL : Hid (s.length ≤ 150) := shapeK_len hs0
      by_cases hy0 : y = 0
      · have ht0 : shapeK t = 0 := by rw [← HY.out]; exact hy0
        have HM : Hid (t.length ≤ 150) := shapeK_len ht0
        have HE : Hid (cmC op s t = toldC (opOf (takesK op) s t).length ∧ cmL op s t = toldL (opOf (takesK op) s t)) := by
          unfold Hid cmC cmL; rw [hop, hs0, ht0]; simp
        clear hop hs0 ht0
        subst hz0 hy0
        go_enter Try.func19, Try.ntmps19
        go_wp2_with (fail)
        refine (HKN.out _).mono ?_
        rintro e w9 ⟨rfl, rfl⟩
        go_wp2_with (fail)
        refine (impl_shape (by have := HN.out.1; omega) (Nat.le_refl _) (H.out.below ((Below.refl _ _).alloc (Nat.le_refl _) _))).mono ?_
        rintro e w1 ⟨rfl, hb1⟩
        rw [← HZ.out]
        obtain ⟨hk1, hlt1, hB1⟩ := resT hb1
        have HB1 : Hid (Below w.heap.size w w1) := hB1
        have HK1 : Hid _ := hk1
        clear hb1 hk1 hB1
        go_wp2_with (fail)
        refine (impl_shape (by have := HN.out.2; omega) (Nat.le_refl _) (H'.out.below HB1.out)).mono ?_
        rintro e w2 ⟨rfl, hb2⟩
        rw [← HY.out]
        have HB2 : Hid _ := hb2
        have hlt2 : w.heap.size < w2.heap.size := Nat.lt_of_lt_of_le hlt1 hb2.size
        have HK2 : Hid _ := (hb2.block _ hlt1).trans HK1.out
        have HBB : Hid (Below w.heap.size w w2) := HB1.out.trans (hb2.mono (Nat.le_of_lt hlt1))
        clear hb2
        go_wp2_with (fail)
        refine (impl_sweep impl_heights impl_edges HW.out.1 HW.out.2 (by have := HL.out; have := HM.out; omega) (H.out.below HBB.out) (H'.out.below HBB.out) (fun b hb => (shapeK_x HZ.out.symm b hb)) (fun b hb => (shapeK_x HY.out.symm b hb))).mono ?_
        rintro e w3 ⟨v', rfl, ho, hb3⟩
        have hof : ∃ a2 c2, v' = .slice a2 (opOf (takesK op) s t).length c2 := by obtain ⟨x, y, z, e, _⟩ := ho; exact ⟨x, z, e⟩
        obtain ⟨a2, c2, rfl⟩ := hof
        have HO : Hid (BC w3 w2.heap.size (.slice a2 (opOf (takesK op) s t).length c2) (opOf (takesK op) s t)) := ho
        have HB3 : Hid _ := hb3
        clear ho hb3
        go_wp2_with (fail)
        refine (impl_answer a2 _ c2 w3).mono ?_
        rintro e w4 ⟨rfl, hb4⟩
        have hk4 := (hb4.block _ (Nat.lt_of_lt_of_le hlt2 HB3.out.size)).trans ((HB3.out.block _ hlt2).trans HK2.out)
        obtain ⟨r0, r1, f0, f1, hlt3⟩ := cellsT hk4
        have HR : Hid (BC w4 w2.heap.size (toldV (.slice a2 (opOf (takesK op) s t).length c2) (opOf (takesK op) s t).length) (toldL (opOf (takesK op) s t)) ∧ Below w.heap.size w w4) := ⟨(told_bc HO.out).below hb4, HBB.out.trans ((HB3.out.mono (Nat.le_of_lt hlt2)).trans (hb4.mono (Nat.le_of_lt (Nat.lt_of_lt_of_le hlt2 HB3.out.size))))⟩
        clear hb4 hk4
        obtain ⟨a3, c3, h3⟩ : ∃ a3 c3, toldV (.slice a2 (opOf (takesK op) s t).length c2) (opOf (takesK op) s t).length = .slice a3 (toldL (opOf (takesK op) s t)).length c3 := by obtain ⟨x, y, z, e, _⟩ := HR.out.1; exact ⟨x, z, e⟩
        rw [h3] at HR ⊢
        clear h3
        go_wp2
        refine bodyPost_ret (by simp [results, Try.results19, go_sem, r0, r1, hlt3]; rfl) rfl ⟨.slice a3 (toldL (opOf (takesK op) s t)).length c3, ?_, ?_, ?_⟩
        · rw [HE.out.1]
        · rw [HE.out.2]
          refine (HR.out.1.kept fun g hg => ?_).low (Nat.le_of_lt hlt2)
          have hge := HR.out.1.lt hg
          rw [heap_setCell_other _ _ _ _ (by simp; omega), heap_setCell_other _ _ _ _ (by simp; omega)]
        · have hb := HR.out.2
          (repeat' (first | (with_reducible exact Below.refl _ _) | (with_reducible assumption) | (with_reducible refine Below.setCell ?_ ?_ _) | (with_reducible refine Below.alloc ?_ ?_ _) | (with_reducible refine below_drewN ?_ _) | (with_reducible refine Below.drew ?_) | (with_reducible exact Nat.le_refl _) | omega | (simp; done) | (simp; omega)))
      · have HE : Hid (cmC op s t = y ∧ cmL op s t = []) := by
          have hne : ¬ shapeK t = 0 := fun e => hy0 (HY.out.trans e)
          unfold Hid cmC cmL; rw [HY.out]; simp [hop, hs0, hne]
        clear hop hs0
        subst hz0
        go_enter Try.func19, Try.ntmps19
        go_wp2_with (fail)
        refine (HKN.out _).mono ?_
        rintro e w9 ⟨rfl, rfl⟩
        go_wp2_with (fail)
        refine (impl_shape (by have := HN.out.1; omega) (Nat.le_refl _) (H.out.below ((Below.refl _ _).alloc (Nat.le_refl _) _))).mono ?_
        rintro e w1 ⟨rfl, hb1⟩
        rw [← HZ.out]
        obtain ⟨hk1, hlt1, hB1⟩ := resT hb1
        have HB1 : Hid (Below w.heap.size w w1) := hB1
        have HK1 : Hid _ := hk1
        clear hb1 hk1 hB1
        go_wp2_with (fail)
        refine (impl_shape (by have := HN.out.2; omega) (Nat.le_refl _) (H'.out.below HB1.out)).mono ?_
        rintro e w2 ⟨rfl, hb2⟩
        rw [← HY.out]
        have hk2 := (hb2.block _ hlt1).trans HK1.out
        have HBB : Hid (Below w.heap.size w w2) := HB1.out.trans (hb2.mono (Nat.le_of_lt hlt1))
        obtain ⟨r0, r1, f0, f1, hlt2⟩ := cellsT hk2
        clear hb2 hk2
        go_wp2
        refine bodyPost_ret (by simp [results, Try.results19, go_sem, r0, r1, hlt2]; rfl) rfl ⟨.slice none 0 0, ?_, ?_, ?_⟩
        · rw [HE.out.1]
        · rw [HE.out.2]; exact (BS.nil _ _).bc
        · have hb := HBB.out
          (repeat' (first | (with_reducible exact Below.refl _ _) | (with_reducible assumption) | (with_reducible refine Below.setCell ?_ ?_ _) | (with_reducible refine Below.alloc ?_ ?_ _) | (with_reducible refine below_drewN ?_ _) | (with_reducible refine Below.drew ?_) | (with_reducible exact Nat.le_refl _) | omega | (simp; done) | (simp; omega)))
    · have HE : Hid (cmC op s t = z ∧ cmL op s t = []) := by
        have hne : ¬ shapeK s = 0 := fun e => hz0 (HZ.out.trans e)
        unfold Hid cmC cmL; rw [HZ.out]; simp [hop, hne]
      clear hop
      go_enter Try.func19, Try.ntmps19
      go_wp2_with (fail)
      refine (HKN.out _).mono ?_
      rintro e w9 ⟨rfl, rfl⟩
      go_wp2_with (fail)
      refine (impl_shape (by have := HN.out.1; omega) (Nat.le_refl _) (H.out.below ((Below.refl _ _).alloc (Nat.le_refl _) _))).mono ?_
      rintro e w1 ⟨rfl, hb1⟩
      rw [← HZ.out]
      obtain ⟨hk1, hlt1, hB1⟩ := resT hb1
      have HB1 : Hid (Below w.heap.size w w1) := hB1
      obtain ⟨r0, r1, f0, f1, hlt2⟩ := cellsT hk1
      clear hb1 hk1 hB1
      go_wp2
      refine bodyPost_ret (by simp [results, Try.results19, go_sem, r0, r1, hlt2]; rfl) rfl ⟨.slice none 0 0, ?_, ?_, ?_⟩
      · rw [HE.out.1]
      · rw [HE.out.2]; exact (BS.nil _ _).bc
      · have hb := HB1.out
        (repeat' (first | (with_reducible exact Below.refl _ _) | (with_reducible assumption) | (with_reducible refine Below.setCell ?_ ?_ _) | (with_reducible refine Below.alloc ?_ ?_ _) | (with_reducible refine below_drewN ?_ _) | (with_reducible refine Below.drew ?_) | (with_reducible exact Nat.le_refl _) | omega | (simp; done) | (simp; omega)))


end Go.Proofs.Ytncenhpnomcnfaa
