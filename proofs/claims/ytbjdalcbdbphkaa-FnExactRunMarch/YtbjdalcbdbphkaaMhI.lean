/- Proved here: MarchFault of the program. -/
import Derived.Test.YtbjdalcbdbphkaaMhM
import Derived.Test.YtbjdalcbdbphkaaPbI
import Derived.Test.YtbjdalcbdbphkaaCeQ
import Derived.Test.YtbjdalcbdbphkaaUnd
import Derived.Deep.Cut
namespace Go.Proofs.Ytbjdalcbdbphkaa
open Go.RowKit
set_option linter.unusedVariables false
set_option linter.unusedSimpArgs false

set_option maxHeartbeats 1600000 in
theorem impl_ef (r : Erd) (d : Elm) (W : World) (hs : d.p.length ≤ 1048576) (h : Erd1 W r d) :
    Calls Try.prog 98 #[.agg #[.bool r.k, .slice r.a r.n r.c]] W fun e w' => e = .returned (.int .i64 (elF d)) ∧ Below W.heap.size W w' := by
  obtain ⟨V, hV⟩ : ∃ V, V = W.alloc (.cells #[.bool r.k, .slice r.a r.n r.c] 68) := ⟨_, rfl⟩
  have HV : Hid (Below W.heap.size W V ∧ V.heap[W.heap.size]? = some (.cells #[.bool r.k, .slice r.a r.n r.c] 68)) := by rw [hV]; exact ⟨by (repeat' (first | (with_reducible exact Below.refl _ _) | (with_reducible assumption) | (with_reducible refine Below.setCell ?_ ?_ _) | (with_reducible refine Below.alloc ?_ ?_ _) | (with_reducible refine below_drewN ?_ _) | (with_reducible refine Below.drew ?_) | (with_reducible exact Nat.le_refl _) | omega | (simp; done) | (simp; omega))), heap_alloc_new _ _⟩
  obtain ⟨n, hn⟩ : ∃ n, n = r.n := ⟨_, rfl⟩
  have hnl : n = d.p.length := by rw [hn]; exact h.p.len
  have HP : Hid (RdI V (.slice r.a n r.c) d.p) := by rw [hn]; exact h.p.below HV.out.1
  obtain ⟨q, hq⟩ : ∃ q, q = d.p.any (oo 0 3) := ⟨_, rfl⟩
  have HC : Hid (Calls Try.prog 107 #[.slice r.a n r.c, .int .i64 0, .int .i64 3] V fun e w' => e = .returned (.bool q) ∧ Below V.heap.size V w') := by
    rw [hq]; exact impl_any 0 3 (by omega) HP.out
  have HE : Hid (elF d = if n = 0 then 1 else if 8 < n then 2 else if q = true then 1 else 0) := by unfold Hid; rw [elF, ← hnl, hq]
  obtain ⟨R, hR⟩ : ∃ R, R = elF d := ⟨_, rfl⟩
  rw [← hR] at HE ⊢
  have p1 : V.cell? ⟨W.heap.size, 1, none⟩ = some (.slice r.a n r.c) := by rw [hn]; simp [World.cell?, HV.out.2]
  have pl : W.heap.size < V.heap.size := ltOfQ HV.out.2
  rw [← hn] at HV hV ⊢
  clear hq hnl hn h hR
  by_cases h0 : n = 0
  · have HN : Hid (R = 1) := by unfold Hid; rw [HE.out, if_pos h0]
    clear HE
    subst h0
    go_enter Try.func98, Try.ntmps98
    go_wp2
    go_returns
    exact ⟨by rw [HN.out]; rfl, by rw [← hV]; exact HV.out.1⟩
  have h0i : ¬ (n : Int) = 0 := by omega
  have h0b : ((n : Int) == 0) = false := by simpa using h0i
  by_cases h8 : (8 : Int) < (n : Int)
  · have HN : Hid (R = 2) := by unfold Hid; rw [HE.out, if_neg h0, if_pos (by omega)]
    clear HE
    go_enter Try.func98, Try.ntmps98
    go_wp2
    go_returns
    exact ⟨by rw [HN.out]; rfl, by rw [← hV]; exact HV.out.1⟩
  have HN : Hid (R = if q = true then 1 else 0) := by unfold Hid; rw [HE.out, if_neg h0, if_neg (by omega)]
  clear HE
  go_enter Try.func98, Try.ntmps98
  go_wp2_with (fail)
  rw [← hV]
  refine HC.out.mono ?_
  rintro e w1 ⟨rfl, hb⟩
  have HB : Hid (Below W.heap.size W w1) := HV.out.1.trans (hb.mono HV.out.1.size)
  clear hb HC
  cases q
  · go_wp2
    go_returns
    exact ⟨by rw [HN.out]; rfl, HB.out⟩
  · go_wp2
    go_returns
    exact ⟨by rw [HN.out]; rfl, HB.out⟩

set_option maxRecDepth 100000 in
set_option maxHeartbeats 6400000 in
theorem impl_mf {W : World} {v : Value} {s : List Elm} (hs : s.length ≤ 1048576 ∧ ∀ j (h : j < s.length), smE 1048576 s[j]) (h : REl W v s) :
    Calls Try.prog 81 #[v] W fun e w' => e = .returned (.int .i64 (mfF s)) ∧ Below W.heap.size W w' := by
  obtain ⟨a, c, rfl⟩ := h.form
  obtain ⟨n, hnn⟩ : ∃ n, n = s.length := ⟨_, rfl⟩
  rw [← hnn] at h ⊢
  have hn : n ≤ 1048576 := by rw [hnn]; exact hs.1
  have H : Hid (REl W (.slice a n c) s ∧ n = s.length ∧ ∀ j (h : j < s.length), smE 1048576 s[j]) := ⟨h, hnn, hs.2⟩
  have HF : Hid (mfF s = if n = 0 then 1 else if 12 < n then 2 else mfL s) := by unfold Hid; rw [mfF, ← hnn]
  rw [HF.out]
  clear h hnn hs HF
  by_cases h0 : n = 0
  · rw [if_pos h0]
    subst h0
    go_enter Try.func81, Try.ntmps81
    go_wp2
    go_returns
    exact ⟨rfl, Below.refl _ _⟩
  have h0i : ¬ (n : Int) = 0 := by omega
  have h0b : ((n : Int) == 0) = false := by simpa using h0i
  rw [if_neg h0]
  by_cases h8 : (12 : Int) < (n : Int)
  · rw [if_pos (by omega)]
    go_enter Try.func81, Try.ntmps81
    go_wp2
    go_returns
    exact ⟨rfl, Below.refl _ _⟩
  rw [if_neg (by omega)]
  obtain ⟨M, hM⟩ : ∃ M, M = mfL s := ⟨_, rfl⟩
  have HM : Hid (M = mfL s) := hM
  rw [← hM]
  clear hM
  go_enter Try.func81, Try.ntmps81
  go_wp2
  go_loopw [14] (fun i wr => ∃ t : Nat, t ≤ n ∧ i = .int .i64 t ∧ Hid (Below W.heap.size W wr ∧ mfL (s.drop t) = mfL s)) (fun i _ => n - (intOf i).toNat)
  case atStart => exact ⟨0, Nat.zero_le _, rfl, Below.refl _ _, rfl⟩
  case round =>
    obtain ⟨t, ht, rfl, hR⟩ := hrel
    by_cases hlt : t < n
    · have htl : t < s.length := by rw [← H.out.2.1]; exact hlt
      obtain ⟨g, o, c2, he, hg, r, hx, c0, c1⟩ := (H.out.1.below hR.out.1).at htl
      simp only [Value.slice.injEq] at he
      obtain ⟨rfl, hx1, hx2⟩ := he
      clear hx1 hx2
      obtain ⟨V, hV⟩ : ∃ V, V = wr.alloc (.cells #[.bool r.k, .slice r.a r.n r.c] 68) := ⟨_, rfl⟩
      have hVb : Below wr.heap.size wr V := by rw [hV]; (repeat' (first | (with_reducible exact Below.refl _ _) | (with_reducible assumption) | (with_reducible refine Below.setCell ?_ ?_ _) | (with_reducible refine Below.alloc ?_ ?_ _) | (with_reducible refine below_drewN ?_ _) | (with_reducible refine Below.drew ?_) | (with_reducible exact Nat.le_refl _) | omega | (simp; done) | (simp; omega)))
      have HV : Hid (Below W.heap.size W V ∧ V.heap[wr.heap.size]? = some (.cells #[.bool r.k, .slice r.a r.n r.c] 68)) := ⟨hR.out.1.trans (hVb.mono hR.out.1.size), by rw [hV]; exact heap_alloc_new _ _⟩
      obtain ⟨F, hF⟩ : ∃ F, F = elF s[t] := ⟨_, rfl⟩
      have HC : Hid (Calls Try.prog 98 #[.agg #[.bool r.k, .slice r.a r.n r.c]] V fun e w' => e = .returned (.int .i64 F) ∧ Below V.heap.size V w') := by
        rw [hF]; exact impl_ef r s[t] V (by have := H.out.2.2 t htl; unfold smE at this; omega) (hx.below hVb)
      have HS : Hid (mfL s = if F = 0 then mfL (s.drop (t + 1)) else F) := by unfold Hid; rw [← hR.out.2, mfL_step htl, hF]
      obtain ⟨b, hb⟩ : ∃ b, b = wr.heap.size := ⟨_, rfl⟩
      rw [← hb] at HV
      have e0 : V.cell? ⟨b, 0, none⟩ = some (.bool r.k) := cellOfQ HV.out.2 0 rfl
      have e1 : V.cell? ⟨b, 1, none⟩ = some (.slice r.a r.n r.c) := cellOfQ HV.out.2 1 rfl
      have el := ltOfQ HV.out.2
      clear hF hx hR hVb htl
      have b0 : (0 : Int) ≤ (t : Int) := by omega
      have b1 : (t : Int) < (n : Int) := by omega
      go_upto_region 8 with (fail)
      rw [← hV, ← hb]
      clear hV hb c0 c1 hg
      go_wp2_with (fail)
      refine HC.out.mono ?_
      rintro e w1 ⟨rfl, hb⟩
      have HB : Hid (Below W.heap.size W w1) := HV.out.1.trans (hb.mono HV.out.1.size)
      clear hb HC e0 e1 el HV
      by_cases hF0 : F = 0
      · subst hF0
        have HN : Hid (mfL (s.drop (t + 1)) = mfL s) := by unfold Hid; rw [HS.out, if_pos rfl]
        clear HS
        go_wp2
        go_roundw
        case rel => exact ⟨t + 1, by omega, by go_num, HB.out, HN.out⟩
        case measure => simp [intOf]; omega
      · have hF1 : (F != 0) = true := by simpa using hF0
        have HN : Hid (M = F) := by unfold Hid; rw [HM.out, HS.out, if_neg hF0]
        clear HS
        go_wp2
        go_returns
        exact ⟨by rw [HN.out]; rfl, HB.out⟩
    · have HN : Hid (M = 0) := by unfold Hid; rw [HM.out, ← hR.out.2]; exact mfL_end (by rw [← H.out.2.1]; omega)
      go_wp2
      go_returns
      exact ⟨by rw [HN.out]; rfl, hR.out.1⟩

end Go.Proofs.Ytbjdalcbdbphkaa
