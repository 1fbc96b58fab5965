/- Proved here: the program's waveOf. -/
import Derived.Test.YtgaabcgdfbgchaaCxB
namespace Go.Proofs.Ytgaabcgdfbgchaa
open Go.RowKit
set_option linter.unusedVariables false
set_option linter.unusedSimpArgs false

set_option maxRecDepth 10000 in
set_option maxHeartbeats 3200000 in
theorem impl_wave {w : World} {v : Value} {s : List Zf} (hn : s.length ≤ 1048576) (h : RCs w v s) :
    Calls Try.prog 47 #[v] w fun e w' => ∃ g, e = .returned (.slice (some ⟨g, 0, none⟩) s.length s.length) ∧ OZs w' w.heap.size (.slice (some ⟨g, 0, none⟩) s.length s.length) s ∧ Below w.heap.size w w' := by
  obtain ⟨a, c, rfl⟩ := h.form
  have H : Hid (RCs w (.slice a s.length c) s) := h
  clear h
  obtain ⟨i0, hi, hz0, hz1, hz2⟩ := info_parts info_z
  obtain ⟨n, hnn⟩ : ∃ n, n = s.length := ⟨_, rfl⟩
  have HN : Hid (n = s.length) := hnn
  rw [← hnn] at hn H ⊢
  clear hnn
  go_enter Try.func47, Try.ntmps47
  go_wp2_with (at_make; refine wpList_make_full _ rfl _ _ 30 rfl w.heap.size 24 i0 (.agg #[.float .f64 0, .float .f64 0]) 2 Try.underlying30 hi hz0 hz1 _ _ _ _ n rfl rfl rfl rfl (by rw [hz2]; omega) (by unfold maxLen; omega) (Nat.le_refl _) ?_; intro w2 hown2 hgrow2)
  have hb2 : Below w.heap.size w w2 := (Below.refl _ _).grown hgrow2 (Nat.le_refl _) (fun k h => by cases h)
  have HS : Hid (Fill 24 2 zC w2 w.heap.size w.heap.size n s 0 ∧ Below w.heap.size w w2) := ⟨⟨_, hown2, fun t ht => by omega⟩, hb2⟩
  clear hown2 hgrow2 hb2
  go_loopw [11] (fun i wr => ∃ j : Nat, j ≤ n ∧ i = .int .i64 j ∧ Hid (Fill 24 2 zC wr w.heap.size w.heap.size n s j ∧ Below w.heap.size w wr)) (fun i _ => n - (intOf i).toNat)
  case atStart => exact ⟨0, Nat.zero_le _, rfl, HS.out⟩
  case round =>
    clear HS
    obtain ⟨j, hjn, rfl, hR⟩ := hrel
    by_cases hlt : j < n
    · have hjl : j < s.length := by rw [← HN.out]; exact hlt
      obtain ⟨g, o, z, ha, hg, hz, c0⟩ := rc_at (H.out.below hR.out.2) hlt
      subst ha
      have HX : Hid (z = s[j]) := by
        unfold Hid
        rw [List.getElem?_eq_getElem hjl] at hz
        injection hz with hz
        exact hz.symm
      clear hz
      have b0 : (0 : Int) ≤ (j : Int) := by omega
      have b1 : (j : Int) < (n : Int) := by omega
      go_wp2_with (fail)
      refine (zOf_any z _).mono ?_
      rintro e w3 ⟨rfl, hb3⟩
      have HF : Hid (Fill 24 2 zC w3 w.heap.size w.heap.size n s j ∧ Below w.heap.size w w3) := ⟨hR.out.1.below hb3, hR.out.2.trans (hb3.mono hR.out.2.size)⟩
      clear hb3 c0 hg hR
      obtain ⟨⟨u0, g0⟩, f0⟩ := HF.out.1.there (j * 2) (by omega)
      obtain ⟨⟨u1, g1⟩, f1⟩ := HF.out.1.there (j * 2 + 1) (by omega)
      have HP : Hid (Fill 24 2 zC ((w3.setCell ⟨w.heap.size, j * 2, none⟩ (.float .f64 z.re)).setCell ⟨w.heap.size, j * 2 + 1, none⟩ (.float .f64 z.im)) w.heap.size w.heap.size n s (j + 1) ∧ Below w.heap.size w ((w3.setCell ⟨w.heap.size, j * 2, none⟩ (.float .f64 z.re)).setCell ⟨w.heap.size, j * 2 + 1, none⟩ (.float .f64 z.im))) := by
        have h1 := HF.out.1.put zC_len HN.out hjl
        rw [← HX.out] at h1
        simp only [zC, putsAt, Nat.add_zero] at h1
        exact ⟨h1, (HF.out.2.setCell (Nat.le_refl _) _).setCell (Nat.le_refl _) _⟩
      clear HF
      go_wp2
      go_roundw
      case rel => exact ⟨j + 1, by omega, by go_num, HP.out⟩
      case measure => simp [intOf]; omega
    · have HD : Hid (OZs wr w.heap.size (.slice (some ⟨w.heap.size, 0, none⟩) n n) s ∧ Below w.heap.size w wr) := ⟨hR.out.1.done zC_len HN.out (by rw [← HN.out]; omega), hR.out.2⟩
      clear hR
      go_wp2
      go_returns
      exact ⟨w.heap.size, rfl, HD.out.1, HD.out.2⟩

end Go.Proofs.Ytgaabcgdfbgchaa
