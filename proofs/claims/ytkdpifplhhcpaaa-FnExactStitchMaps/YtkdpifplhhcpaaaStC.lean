/- Proved here: copies of rows, of the program. -/
import Derived.Test.YtkdpifplhhcpaaaStG
import Derived.Test.YtkdpifplhhcpaaaCpR
namespace Go.Proofs.Ytkdpifplhhcpaaa
open Go.RowKit
set_option linter.unusedVariables false
set_option linter.unusedSimpArgs false

set_option maxRecDepth 10000 in
set_option maxHeartbeats 3200000 in
theorem impl_copiedM {w : World} {v : Value} {ls : List (List Int)} (hG : GM ls) (h : RdR w v ls) :
    Calls Try.prog 61 #[v] w fun e w' => ∃ g vs, e = .returned (.slice (some ⟨g, 0, none⟩) ls.length ls.length) ∧ RI w' w.heap.size (.slice (some ⟨g, 0, none⟩) ls.length ls.length) ls vs ∧ Below w.heap.size w w' := by
  obtain ⟨a, c, rfl⟩ := h.form
  obtain ⟨i0, hi, hz0, hz1, hz2⟩ := info_parts info_row
  obtain ⟨n, hnn⟩ : ∃ n, n = ls.length := ⟨_, rfl⟩
  have HN : Hid (n = ls.length ∧ GM ls) := ⟨hnn, hG⟩
  have hn' : n ≤ 20 := by rw [hnn]; exact hG.h1
  rw [← hnn] at h ⊢
  have H : Hid (RdR w (.slice a n c) ls) := h
  clear hnn h hG
  go_enter Try.func61, Try.ntmps61
  go_wp2_with (at_make; refine wpList_make_full _ rfl _ _ 52 rfl w.heap.size 22 i0 (.slice none 0 0) 1 Try.underlying52 hi hz0 hz1 _ _ _ _ n rfl rfl rfl rfl (by rw [hz2]; omega) (by unfold maxLen; omega) (Nat.le_refl _) ?_; intro w2 hown2 hgrow2)
  have hb2 : Below w.heap.size w w2 := (Below.refl _ _).grown hgrow2 (Nat.le_refl _) (fun k h => by cases h)
  rw [show (Value.slice none 0 0).cells = #[Value.slice none 0 0] from rfl, toList_madeCells_one] at hown2
  have HS : Hid (∃ vs, RI w2 w.heap.size (.slice (some ⟨w.heap.size, 0, none⟩) n n) (uptoR ls 0) vs ∧ Below w.heap.size w w2) := ⟨_, RI.made HN.out.1 (by rw [Nat.mul_one] at hown2; exact hown2), hb2⟩
  clear hown2 hgrow2 hb2
  go_loopw [11] (fun i wr => ∃ j : Nat, j ≤ n ∧ i = .int .i64 j ∧ Hid (∃ vs, RI wr w.heap.size (.slice (some ⟨w.heap.size, 0, none⟩) n n) (uptoR ls j) vs ∧ Below w.heap.size w wr)) (fun i _ => n - (intOf i).toNat)
  case atStart => exact ⟨0, Nat.zero_le _, rfl, HS.out⟩
  case round =>
    clear HS
    obtain ⟨j, hjn, rfl, hR⟩ := hrel
    by_cases hlt : j < n
    · obtain ⟨vs, hri, hbl⟩ := hR.out
      have HR : Hid (RI wr w.heap.size (.slice (some ⟨w.heap.size, 0, none⟩) n n) (uptoR ls j) vs ∧ Below w.heap.size w wr) := ⟨hri, hbl⟩
      obtain ⟨g, o, ua, un, uc, rfl, hg, c0, hun, hrd⟩ := (H.out.below hbl).at hlt
      have hlr := HN.out.2.rowp (show j < ls.length by rw [← HN.out.1]; exact hlt)
      have HC : Hid (Calls Try.prog 54 #[.slice ua un uc] wr fun e w' => ∃ v', e = .returned v' ∧ IS w' wr.heap.size v' (ls.getD j []) ∧ Below wr.heap.size wr w') := cl_row hlr.1 (by omega) hrd
      clear hri hbl hrd hun hlr hR
      have b0 : (0 : Int) ≤ (j : Int) := by omega
      have b1 : (j : Int) < (n : Int) := by omega
      go_wp2_with (fail)
      refine HC.out.mono ?_
      rintro e w3 ⟨v3, rfl, hi3, hb3⟩
      obtain ⟨ga, gc, rfl⟩ := hi3.form
      obtain ⟨ln, hln⟩ : ∃ x, x = (ls.getD j []).length := ⟨_, rfl⟩
      rw [← hln] at hi3 ⊢
      have hjl : j < (uptoR ls j).length := by rw [uptoR_len ls (by rw [← HN.out.1]; omega), ← HN.out.1]; exact hlt
      have hW3 := HR.out.1.below hb3
      obtain ⟨gq, cq, he, _, hgl, hxx⟩ := hW3.pos (by omega)
      injection he with he1 he2 he3
      injection he1 with he4
      injection he4 with he5
      subst he5
      have k0 := hxx j hjl
      have f0 := World.ownsRow.frozenAt (g := w.heap.size) (cap := n) (by have := hW3.o; rw [uptoR_len ls (by rw [← HN.out.1]; omega), ← HN.out.1] at this; exact this) j
      have HP : Hid (∃ vs, RI (w3.setCell ⟨w.heap.size, j, none⟩ (.slice ga ln gc)) w.heap.size (.slice (some ⟨w.heap.size, 0, none⟩) n n) (uptoR ls (j + 1)) vs ∧ Below w.heap.size w (w3.setCell ⟨w.heap.size, j, none⟩ (.slice ga ln gc))) := by
        refine ⟨vs.set j (.slice ga ln gc), ?_, (HR.out.2.trans (hb3.mono HR.out.2.size)).setCell (Nat.le_refl _) _⟩
        rw [← uptoR_next ls (by rw [← HN.out.1]; exact hlt)]
        exact HR.out.1.put hb3 HR.out.2.size hjl hi3
      clear HR HC hi3 hb3 hxx hW3 he2 he3 hjl c0 hln
      generalize rat vs j = vj at k0
      go_wp2
      go_roundw
      case rel => exact ⟨j + 1, by omega, by go_num, HP.out⟩
      case measure => simp [intOf]; omega
    · have HD : Hid (∃ vs, RI wr w.heap.size (.slice (some ⟨w.heap.size, 0, none⟩) n n) ls vs ∧ Below w.heap.size w wr) := by
        have h1 := hR.out
        rw [show j = ls.length by rw [← HN.out.1]; omega, uptoR_all] at h1
        exact h1
      clear hR
      go_wp2
      go_returns
      obtain ⟨vs, h1, h2⟩ := HD.out
      exact ⟨w.heap.size, vs, rfl, h1, h2⟩

end Go.Proofs.Ytkdpifplhhcpaaa
