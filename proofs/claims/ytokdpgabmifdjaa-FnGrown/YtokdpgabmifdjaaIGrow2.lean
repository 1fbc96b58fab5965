/- Proved here: shrunkBoxes of the program. (And ahead of it: Proved here: inFirstAlone is the word of the first alone.) -/
import Derived.Test.YtokdpgabmifdjaaIRuns
import Derived.Test.YtokdpgabmifdjaaIGrow
namespace Go.Proofs.Ytokdpgabmifdjaa
open Go.RowKit
set_option linter.unusedVariables false
set_option linter.unusedSimpArgs false

theorem word_alone : Word 58 (takesK 3) := by
  refine ⟨?_, enter_of (fn := Try.f58) (by kernel_rfl) (by kernel_rfl) (by kernel_rfl), by kernel_rfl⟩
  intro p q W
  cases p <;> cases q <;> (go_enter Try.func58, Try.ntmps58; go_wp2; go_returns; exact ⟨rfl, rfl⟩)

end Go.Proofs.Ytokdpgabmifdjaa

namespace Go.Proofs.Ytokdpgabmifdjaa
open Go.RowKit
set_option linter.unusedVariables false
set_option linter.unusedSimpArgs false

set_option maxRecDepth 10000 in
set_option maxHeartbeats 4000000 in
theorem impl_shrunk {w : World} {v : Value} {s : List Bx} (d : Int) (hd : 0 ≤ d ∧ d ≤ 1000) (hs : shapeK s = 0) (h : RB w v s) :
    Calls Try.prog 66 #[v, .int .i64 d] w fun e w' => ∃ v', e = .returned v' ∧ BC w' w.heap.size v' (shL s d) ∧ Below w.heap.size w w' := by
  obtain ⟨a, c, rfl⟩ := h.form
  have h150 := (boxesK_zero (shapeK_zero hs)).1
  have hsx := fun b hb => ((boxesK_zero (shapeK_zero hs)).2 b hb).1
  rcases Nat.eq_zero_or_pos s.length with h0 | hp
  · have HE : Hid (shL s d = []) := by unfold Hid shL; rw [if_pos h0]
    rw [h0]
    clear h h150 hsx hs
    go_enter Try.func66, Try.ntmps66
    go_wp2
    go_returns
    exact ⟨_, rfl, by rw [HE.out]; exact (BS.nil _ _).bc, Below.refl _ _⟩
  · obtain ⟨M, hM⟩ : ∃ M, M = misL s := ⟨_, rfl⟩
    obtain ⟨L, hL⟩ : ∃ L, L = shL s d := ⟨_, rfl⟩
    have hL2 : L = opOf (takesK 3) s (grS M d) := by rw [hL, hM]; unfold shL; rw [if_neg (by omega)]
    rw [← hL]
    obtain ⟨B, hB⟩ : ∃ B, B = bnd s s.length := ⟨_, rfl⟩
    have hnb := near_bnd hs hp
    rw [← hB] at hnb
    have hms := mis_small hs hp
    have hmn := near_mis hs hp
    rw [← hM] at hms hmn
    have H : Hid (RB w (.slice a s.length c) s ∧ s.length ≤ 150 ∧ 0 < s.length) := ⟨h, h150, hp⟩
    have HLB : Hid (Calls Try.prog 85 #[.slice a s.length c] w fun e w' => e = .returned (.agg #[.int .i64 B.x0, .int .i64 B.y0, .int .i64 B.x1, .int .i64 B.y1]) ∧ Below w.heap.size w w') := by rw [hB]; exact impl_least_any h150 hp h
    obtain ⟨B', hB'⟩ : ∃ B', B' = growB 1 B := ⟨_, rfl⟩
    have HG1 : Hid (∀ W, Calls Try.prog 86 #[.agg #[.int .i64 B.x0, .int .i64 B.y0, .int .i64 B.x1, .int .i64 B.y1], .int .i64 1] W fun e w' => e = .returned (.agg #[.int .i64 B'.x0, .int .i64 B'.y0, .int .i64 B'.x1, .int .i64 B'.y1]) ∧ Below W.heap.size W w') := fun W => by rw [hB']; exact impl_grown1 B 1 W (by omega) hnb.1
    have HS1 : Hid (∀ {W : World} {g : Nat}, Below w.heap.size w W → BS W 0 (.slice (some ⟨g, 0, none⟩) 1 1) [B'] → Calls Try.prog 77 #[.slice (some ⟨g, 0, none⟩) 1 1, .slice a s.length c, .func (.func 58) #[] #[]] W fun e w' => ∃ v', e = .returned v' ∧ BC w' W.heap.size v' M ∧ Below W.heap.size W w') := fun {W g} hW hb => by
      have e : M = opOf (takesK 3) [B'] s := by rw [hM, hB', hB]; rfl
      rw [e]
      exact impl_sweep impl_heights impl_edges word_alone rfl (by simp; omega) hb.rb (h.below hW) (fun q hq => by simp at hq; subst hq; rw [hB']; exact hnb.2) hsx
    have HGS : Hid (∀ {W : World} {v : Value}, RB W v M → Calls Try.prog 67 #[v, .int .i64 d] W fun e w' => ∃ v', e = .returned v' ∧ BS w' W.heap.size v' (grS M d) ∧ Below W.heap.size W w') := fun {W v} hv => impl_grownS d (by omega) (by omega) hmn hv
    have HS2 : Hid (∀ {W : World} {v : Value}, Below w.heap.size w W → RB W v (grS M d) → Calls Try.prog 77 #[.slice a s.length c, v, .func (.func 58) #[] #[]] W fun e w' => ∃ v', e = .returned v' ∧ BC w' W.heap.size v' L ∧ Below W.heap.size W w') := fun {W v} hW hv => by
      rw [hL2]
      refine impl_sweep impl_heights impl_edges word_alone rfl (by simp [grS]; omega) (h.below hW) hv hsx (fun q hq => ?_)
      obtain ⟨b, hb, rfl⟩ := List.mem_map.1 hq
      have := (hms.2 b hb).1
      unfold growB
      simp only
      omega
    have hsl : ¬ ((s.length : Int) = 0) := by omega
    clear h h150 hsx hs hM hL hL2 hB hB' hnb hms hmn
    go_enter Try.func66, Try.ntmps66
    go_wp2_with (fail)
    refine HLB.out.mono ?_
    rintro e w1 ⟨rfl, hb1⟩
    have B1 : Hid (Below w.heap.size w w1) := hb1
    clear hb1
    go_wp2_with (fail)
    refine (HG1.out _).mono ?_
    rintro e w2 ⟨rfl, hb2⟩
    have B2 : Hid (Below w.heap.size w w2) := B1.out.trans (hb2.mono B1.out.size)
    clear hb2
    go_wp2_with (fail)
    refine (HS1.out (B2.out.alloc B2.out.size _) (lit1 B' w2 0 (Nat.zero_le _))).mono ?_
    rintro e w3 ⟨v3, rfl, hm3, hb3⟩
    have B3 : Hid (Below w.heap.size w w3) := (B2.out.alloc B2.out.size _).trans (hb3.mono (by have := B2.out.size; simp; omega))
    have hm3' : RB w3 v3 M := hm3.rb
    obtain ⟨a3, cc3, rfl⟩ := hm3'.form
    have M3 : Hid (RB w3 (.slice a3 M.length cc3) M) := hm3'
    clear hm3 hb3 hm3'
    go_wp2_with (fail)
    refine (HGS.out M3.out).mono ?_
    rintro e w4 ⟨v4, rfl, hg4, hb4⟩
    obtain ⟨a4, c4, rfl⟩ := hg4.form
    have B4 : Hid (Below w.heap.size w w4) := B3.out.trans (hb4.mono B3.out.size)
    have M4 : Hid (RB w4 (.slice a4 (grS M d).length c4) (grS M d)) := hg4.rb
    clear hg4 hb4
    go_wp2_with (fail)
    refine (HS2.out B4.out M4.out).mono ?_
    rintro e w5 ⟨v5, rfl, h5, hb5⟩
    obtain ⟨x, y, z, rfl, h6⟩ := h5
    have R : Hid (BC w5 w.heap.size (.slice x L.length z) L ∧ Below w.heap.size w w5) := ⟨⟨x, y, z, rfl, h6.low B4.out.size⟩, B4.out.trans (hb5.mono B4.out.size)⟩
    clear h6 hb5
    go_wp2
    go_returns
    exact ⟨_, rfl, R.out.1, R.out.2⟩

end Go.Proofs.Ytokdpgabmifdjaa
