/- Proved here: MarchFault of the model. -/
import Derived.Test.YtbjdalcbdbphkaaMhM
import Derived.Test.YtbjdalcbdbphkaaIns
import Derived.Test.YtbjdalcbdbphkaaCeQ
import Derived.Test.YtbjdalcbdbphkaaUnd
namespace Go.Proofs.Ytbjdalcbdbphkaa
open Go.RowKit
set_option linter.unusedVariables false
set_option linter.unusedSimpArgs false

set_option maxRecDepth 100000 in
set_option maxHeartbeats 6400000 in
theorem spec_mf {W : World} {v : Value} {s : List Elm} (hs : s.length ≤ 1048576 ∧ ∀ j (h : j < s.length), smE 1048576 s[j]) (h : REl W v s) :
    Calls Try.prog 36 #[v] W fun e w' => e = .returned (.int .i64 (mfF s)) ∧ Below W.heap.size W w' := by
  obtain ⟨a, c, rfl⟩ := h.form
  obtain ⟨n, hnn⟩ : ∃ n, n = s.length := ⟨_, rfl⟩
  rw [← hnn] at h ⊢
  have hn : n ≤ 1048576 := by rw [hnn]; exact hs.1
  have H : Hid (REl W (.slice a n c) s ∧ n = s.length ∧ ∀ j (h : j < s.length), smE 1048576 s[j]) := ⟨h, hnn, hs.2⟩
  have HF : Hid (mfF s = if n = 0 then 1 else if 12 < n then 2 else mfL s) := by unfold Hid; rw [mfF, ← hnn]
  rw [HF.out]
  clear h hnn hs HF
  by_cases h0 : n = 0
  · rw [if_pos h0]
    subst h0
    go_enter Try.func36, Try.ntmps36
    go_wp2
    go_returns
    exact ⟨rfl, Below.refl _ _⟩
  have h0i : ¬ (n : Int) = 0 := by omega
  have h0b : ((n : Int) == 0) = false := by simpa using h0i
  rw [if_neg h0]
  by_cases h8 : (12 : Int) < (n : Int)
  · rw [if_pos (by omega)]
    go_enter Try.func36, Try.ntmps36
    go_wp2
    go_returns
    exact ⟨rfl, Below.refl _ _⟩
  rw [if_neg (by omega)]
  obtain ⟨M, hM⟩ : ∃ M, M = mfL s := ⟨_, rfl⟩
  have HM : Hid (M = mfL s) := hM
  rw [← hM]
  clear hM
  go_enter Try.func36, Try.ntmps36
  go_wp2
  go_loopw [3] (fun i wr => ∃ t : Nat, t ≤ n ∧ i = .int .i64 t ∧ Hid (Below W.heap.size W wr ∧ mfL (s.drop t) = mfL s)) (fun i _ => n - (intOf i).toNat)
  case atStart => exact ⟨0, Nat.zero_le _, rfl, Below.refl _ _, rfl⟩
  case round =>
    obtain ⟨t, ht, rfl, hR⟩ := hrel
    by_cases hlt : t < n
    · have htl : t < s.length := by rw [← H.out.2.1]; exact hlt
      obtain ⟨g, o, c2, he, hg, r, hx, c0, c1⟩ := (H.out.1.below hR.out.1).at htl
      simp only [Value.slice.injEq] at he
      obtain ⟨rfl, hx1, hx2⟩ := he
      clear hx1 hx2 c0
      obtain ⟨F, hF⟩ : ∃ F, F = elF s[t] := ⟨_, rfl⟩
      obtain ⟨p, hp⟩ : ∃ p, p = s[t].p := ⟨_, rfl⟩
      have HP : Hid (RdI wr (.slice r.a r.n r.c) p) := by rw [hp]; exact hx.p
      obtain ⟨m, hm⟩ : ∃ m, m = r.n := ⟨_, rfl⟩
      obtain ⟨ra, hra⟩ : ∃ ra, ra = r.a := ⟨_, rfl⟩
      obtain ⟨rc, hrc⟩ : ∃ rc, rc = r.c := ⟨_, rfl⟩
      rw [← hm, ← hra, ← hrc] at c1 HP
      have HML : Hid (m = p.length) := HP.out.len
      have hm20 : m ≤ 1048576 := by rw [HML.out, hp]; have := H.out.2.2 t htl; unfold smE at this; omega
      have HE : Hid (F = if m = 0 then 1 else if 8 < m then 2 else if p.any (oo 0 3) = true then 1 else 0) := by unfold Hid; rw [hF, elF, ← hp, ← HML.out]
      have HS : Hid (mfL s = if F = 0 then mfL (s.drop (t + 1)) else F) := by unfold Hid; rw [← hR.out.2, mfL_step htl, hF]
      have HB : Hid (Below W.heap.size W wr) := hR.out.1
      clear hF hx hR htl hp hm hra hrc
      have b0 : (0 : Int) ≤ (t : Int) := by omega
      have b1 : (t : Int) < (n : Int) := by omega
      by_cases hm0 : m = 0
      · have HN : Hid (M = 1) := by
          unfold Hid
          have h9 : F = 1 := by rw [HE.out, if_pos hm0]
          rw [HM.out, HS.out, if_neg (by rw [h9]; decide), h9]
        subst hm0
        clear HS HE
        go_wp2
        go_returns
        exact ⟨by rw [HN.out]; rfl, HB.out⟩
      have hm0i : ¬ (m : Int) = 0 := by omega
      have hm0b : ((m : Int) == 0) = false := by simpa using hm0i
      by_cases hm8 : (8 : Int) < (m : Int)
      · have HN : Hid (M = 2) := by
          unfold Hid
          have h9 : F = 2 := by rw [HE.out, if_neg hm0, if_pos (by omega)]
          rw [HM.out, HS.out, if_neg (by rw [h9]; decide), h9]
        clear HS HE
        go_wp2
        go_returns
        exact ⟨by rw [HN.out]; rfl, HB.out⟩
      have HE2 : Hid (F = if p.any (oo 0 3) = true then 1 else 0) := by unfold Hid; rw [HE.out, if_neg hm0, if_neg (by omega)]
      clear HE
      obtain ⟨V2, hV2⟩ : ∃ V2, V2 = wr := ⟨_, rfl⟩
      go_wp2
      rw [← hV2] at HP HB hg c1 ⊢
      clear hV2
      go_loopw [4] (fun i wr => ∃ k : Nat, k ≤ m ∧ i = .int .i64 k ∧ Hid (Below V2.heap.size V2 wr ∧ (p.drop k).any (oo 0 3) = p.any (oo 0 3))) (fun i _ => m - (intOf i).toNat)
      case atStart => exact ⟨0, Nat.zero_le _, rfl, Below.refl _ _, rfl⟩
      case round =>
        obtain ⟨k, hk, rfl, hR2⟩ := hrel
        have d1 := (hR2.out.1.cell (p := ⟨g, o + t * 2 + 1, none⟩) hg).trans c1
        have hgl : g < wr.heap.size := Nat.lt_of_lt_of_le hg hR2.out.1.size
        by_cases hkm : k < m
        · obtain ⟨g2, o2, rfl, hg2, k0⟩ := rd_at (HP.out.below hR2.out.1) hkm
          have hkp : k < p.length := by rw [← HML.out]; exact hkm
          obtain ⟨x, hx⟩ : ∃ x, x = p.getD k 0 := ⟨_, rfl⟩
          rw [← hx] at k0
          obtain ⟨q, hq⟩ : ∃ q, q = decide (0 ≤ x ∧ x ≤ 3) := ⟨_, rfl⟩
          have HI : Hid (∀ X, Calls Try.prog 37 #[.int .i64 x, .int .i64 0, .int .i64 3] X fun e w' => e = .returned (.bool q) ∧ w' = X) := fun X => spec_ins x 0 3 q hq X
          have HQ : Hid (p.any (oo 0 3) = (!q || (p.drop (k + 1)).any (oo 0 3))) := by unfold Hid; rw [← hR2.out.2, any_at hkp, ← getD_at hkp, ← hx, oo, hq]
          have HB2 : Hid (Below V2.heap.size V2 wr) := hR2.out.1
          clear hR2 hx hq hkp
          have b2 : (0 : Int) ≤ (k : Int) := by omega
          have b3 : (k : Int) < (m : Int) := by omega
          go_wp2_with (fail)
          refine (HI.out _).mono ?_
          rintro e w3 ⟨rfl, hw3⟩
          subst w3
          cases q
          case false =>
            have HN : Hid (M = 1) := by unfold Hid; rw [HM.out, HS.out, HE2.out, HQ.out]; simp
            clear HS HE2 HQ
            go_wp2
            go_returns
            exact ⟨by rw [HN.out]; rfl, HB.out.trans (HB2.out.mono HB.out.size)⟩
          case true =>
            have HN : Hid ((p.drop (k + 1)).any (oo 0 3) = p.any (oo 0 3)) := by unfold Hid; rw [HQ.out]; rfl
            clear HQ
            go_wp2
            go_roundw
            case rel => exact ⟨k + 1, by omega, by go_num, HB2.out, HN.out⟩
            case measure => simp [intOf]; omega
        · have HN : Hid (mfL (s.drop (t + 1)) = mfL s) := by
            unfold Hid; rw [HS.out, HE2.out, ← hR2.out.2, any_end (by rw [← HML.out]; omega)]; simp
          have HB3 : Hid (Below W.heap.size W wr) := HB.out.trans (hR2.out.1.mono HB.out.size)
          clear HS HE2
          go_wp2
          go_roundw
          case rel => exact ⟨t + 1, by omega, by go_num, HB3.out, HN.out⟩
          case measure => simp [intOf]; omega
    · have HN : Hid (M = 0) := by unfold Hid; rw [HM.out, ← hR.out.2]; exact mfL_end (by rw [← H.out.2.1]; omega)
      go_wp2
      go_returns
      exact ⟨by rw [HN.out]; rfl, hR.out.1⟩

end Go.Proofs.Ytbjdalcbdbphkaa
