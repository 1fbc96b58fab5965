/- Proved here: DoseOf of the model. -/
import Derived.Test.YtfjfogiohijkkaaPfX
import Derived.Test.YtfjfogiohijkkaaPfS
import Derived.Test.YtfjfogiohijkkaaDoM
namespace Go.Proofs.Ytfjfogiohijkkaa
open Go.RowKit
set_option linter.unusedVariables false
set_option linter.unusedSimpArgs false

set_option maxRecDepth 100000 in
set_option maxHeartbeats 12800000 in
theorem spec_dose (o : Int) {W : World} {v : Value} {s : List Int} (hn : s.length ≤ 1048576) (h : RdI W v s) :
    Calls Try.prog 14 #[.agg #[v, .int .i64 o]] W fun e w' => e = .returned (.agg #[.int .i64 (pfC s o), .int .i64 (doV s o)]) ∧ Below W.heap.size W w' := by
  obtain ⟨ua, uc, rfl⟩ := h.form
  obtain ⟨n, hnn⟩ : ∃ n, n = s.length := ⟨_, rfl⟩
  rw [← hnn] at h hn ⊢
  have HN : Hid (n = s.length) := hnn
  have H : Hid (RdI W (.slice ua n uc) s) := h
  obtain ⟨C, hC⟩ : ∃ C, C = pfC s o := ⟨_, rfl⟩
  rw [← hC]
  have HP : Hid (∀ V, Below W.heap.size W V → Calls Try.prog 10 #[.agg #[.slice ua n uc, .int .i64 o]] V fun e w' => e = .returned (.int .i64 C) ∧ Below V.heap.size V w') := fun V hV => by
    have := spec_pf o (by rw [← HN.out]; exact hn) (H.out.below hV)
    rwa [← hC] at this
  have HDV : Hid (C ≠ 0 → doV s o = 0) := fun h9 => by rw [doV, if_neg (by rw [← hC]; exact h9)]
  obtain ⟨DV, hDV⟩ : ∃ x, x = doV s o := ⟨_, rfl⟩
  rw [← hDV] at HDV ⊢
  by_cases h0 : C ≠ 0
  · have hC2 : (C != 0) = true := by simpa using h0
    have hD0 : DV = 0 := HDV.out h0
    clear hDV hC hnn h
    subst hD0
    go_enter Try.func14, Try.ntmps14
    go_wp2_with (fail)
    refine (HP.out _ (by (repeat' (first | (with_reducible exact Below.refl _ _) | (with_reducible assumption) | (with_reducible refine Below.setCell ?_ ?_ _) | (with_reducible refine Below.alloc ?_ ?_ _) | (with_reducible refine below_drewN ?_ _) | (with_reducible refine Below.drew ?_) | (with_reducible exact Nat.le_refl _) | omega | (simp; done) | (simp; omega))))).mono ?_
    rintro e w1 ⟨rfl, hb1⟩
    have HB : Hid (BB W [(W.heap.size, .cells #[.slice ua n uc, .int .i64 o] 27), (W.heap.size + 1, .cells #[.int .i64 0, .int .i64 0] 32)] (W.heap.size + 2) w1) := (((BB.start W).push rfl _).push (k := W.heap.size + 1) (by simp) _).grow hb1 (by omega) (by have := hb1.size; simpa using this)
    clear hb1
    obtain ⟨k0, hk0⟩ : ∃ k, k = W.heap.size := ⟨_, rfl⟩
    rw [← hk0] at HB ⊢
    have t0 := cellOf (HB.out.at 1 rfl) 0 rfl
    have t1 := cellOf (HB.out.at 1 rfl) 1 rfl
    have f0 := frozOf (HB.out.at 1 rfl) 0
    have f1 := frozOf (HB.out.at 1 rfl) 1
    have tl := ltOf (HB.out.at 1 rfl)
    have q2 := (HB.out.set 1 0 rfl (.int .i64 C)).set 1 1 rfl (.int .i64 0)
    have u0 := cellOf (q2.at 1 rfl) 0 rfl
    have u1 := cellOf (q2.at 1 rfl) 1 rfl
    have QB : Hid _ := q2.bl
    clear q2 hk0
    go_wp2
    refine bodyPost_ret (by simp [results, Try.results14, go_sem, u0, u1]) rfl ⟨rfl, QB.out⟩
  have h0' : C = 0 := by simpa using h0
  have HG : Hid (PG s o) := pfC_ok (by rw [← hC]; exact h0')
  have HVV : Hid (DV = o + suL s) := by unfold Hid; rw [hDV, doV, if_pos (by rw [← hC]; exact h0')]
  subst h0'
  clear hC hDV h hnn h0 HDV
  go_enter Try.func14, Try.ntmps14
  go_wp2_with (fail)
  refine (HP.out _ (by (repeat' (first | (with_reducible exact Below.refl _ _) | (with_reducible assumption) | (with_reducible refine Below.setCell ?_ ?_ _) | (with_reducible refine Below.alloc ?_ ?_ _) | (with_reducible refine below_drewN ?_ _) | (with_reducible refine Below.drew ?_) | (with_reducible exact Nat.le_refl _) | omega | (simp; done) | (simp; omega))))).mono ?_
  rintro e w1 ⟨rfl, hb1⟩
  have HB : Hid (BB W [(W.heap.size, .cells #[.slice ua n uc, .int .i64 o] 27), (W.heap.size + 1, .cells #[.int .i64 0, .int .i64 0] 32)] (W.heap.size + 2) w1) := (((BB.start W).push rfl _).push (k := W.heap.size + 1) (by simp) _).grow hb1 (by omega) (by have := hb1.size; simpa using this)
  clear hb1 HP
  obtain ⟨k0, hk0⟩ : ∃ k, k = W.heap.size := ⟨_, rfl⟩
  rw [← hk0] at HB ⊢
  have HK : Hid (k0 = W.heap.size) := hk0
  clear hk0
  have a0 := cellOf (HB.out.at 0 rfl) 0 rfl
  have a1 := cellOf (HB.out.at 0 rfl) 1 rfl
  have al := ltOf (HB.out.at 0 rfl)
  go_wp2_with (fail)
  go_loop [4, 5] (fun q i => ∃ (k : Nat) (S : Int), k ≤ n ∧ i = .int .i64 k ∧ q = .int .i64 S ∧ 0 ≤ S ∧ S ≤ 50000000000 ∧ Hid (S = o + suL (s.take k))) (fun _ i => n - (intOf i).toNat)
  case atStart => exact ⟨0, o, Nat.zero_le _, rfl, rfl, HG.out.o0.1, by have := HG.out.o0; omega, by unfold Hid; simp [suL]⟩
  case round =>
    obtain ⟨k, S, hk, rfl, rfl, hS0, hS1, hR⟩ := hrel
    by_cases hlt : k < n
    · obtain ⟨g, oo, rfl, hg, d0⟩ := rd_at (H.out.below HB.out.bl) hlt
      obtain ⟨x, hx⟩ : ∃ x, x = s.getD k 0 := ⟨_, rfl⟩
      rw [← hx] at d0
      have hks : k < s.length := by rw [← HN.out]; exact hlt
      have hq := suL_bd HG.out.c (k + 1) hks
      have ho := HG.out.o0
      have hl := HG.out.len
      have hS2 : S + x = o + suL (s.take (k + 1)) := by rw [suL_take hks, hR.out, hx]; omega
      have HR : Hid (S + x = o + suL (s.take (k + 1)) ∧ 0 ≤ S + x ∧ S + x ≤ 50000000000) := ⟨hS2, by omega, by omega⟩
      have k1 : IntKind.i64.wrap (S + x) = S + x := by rw [IntKind.wrap_i64]; omega
      have b3 : (0 : Int) ≤ (k : Int) := by omega
      have b4 : (k : Int) < (n : Int) := by omega
      clear hx hq ho hl hS2 hks hR
      go_wp2
      go_round
      case rel => exact ⟨k + 1, S + x, by omega, by go_num, rfl, HR.out.2.1, HR.out.2.2, HR.out.1⟩
      case measure => simp [intOf] <;> omega
    · have hS2 : S = DV := by rw [hR.out, HVV.out, show k = s.length by rw [← HN.out]; omega, List.take_length]
      subst hS2
      have t0 := cellOf (HB.out.at 1 rfl) 0 rfl
      have t1 := cellOf (HB.out.at 1 rfl) 1 rfl
      have f0 := frozOf (HB.out.at 1 rfl) 0
      have f1 := frozOf (HB.out.at 1 rfl) 1
      have tl := ltOf (HB.out.at 1 rfl)
      have q2 := (HB.out.set 1 0 rfl (.int .i64 0)).set 1 1 rfl (.int .i64 S)
      have u0 := cellOf (q2.at 1 rfl) 0 rfl
      have u1 := cellOf (q2.at 1 rfl) 1 rfl
      have QB : Hid _ := q2.bl
      clear q2 hR
      go_wp2
      refine bodyPost_ret (by simp [results, Try.results14, go_sem, u0, u1]) rfl ⟨rfl, QB.out⟩

end Go.Proofs.Ytfjfogiohijkkaa
