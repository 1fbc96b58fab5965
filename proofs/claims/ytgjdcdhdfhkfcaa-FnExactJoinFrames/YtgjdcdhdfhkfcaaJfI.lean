/- Proved here: JoinFrames of the program: jfC, jfL. -/
import Derived.Test.YtgjdcdhdfhkfcaaFmH
import Derived.Test.YtgjdcdhdfhkfcaaJfM
import Derived.Test.YtgjdcdhdfhkfcaaRcL
import Derived.Test.YtgjdcdhdfhkfcaaFmQ
namespace Go.Proofs.Ytgjdcdhdfhkfcaa
open Go.RowKit
set_option linter.unusedVariables false
set_option linter.unusedSimpArgs false

set_option maxRecDepth 10000 in
set_option maxHeartbeats 12800000 in
theorem impl_join {w : World} {g1 : Nat} {ls : List (List Nat)} (hn : SmL ls) (h : RcL w (.slice (some ⟨g1, 0, none⟩) ls.length ls.length) ls) :
    Calls Try.prog 24 #[.slice (some ⟨g1, 0, none⟩) ls.length ls.length] w fun e w' => ∃ v, e = .returned (.agg #[.int .i64 (jfC ls), v]) ∧ OFl w' w.heap.size v (jfL ls) ∧ Below w.heap.size w w' := by
  obtain ⟨n, hnn⟩ : ∃ n, n = ls.length := ⟨_, rfl⟩
  obtain ⟨C, hC⟩ : ∃ C, C = jfC ls := ⟨_, rfl⟩
  have hn' : n ≤ 1048576 := by rw [hnn]; exact hn.len
  have H : Hid (RcL w (.slice (some ⟨g1, 0, none⟩) n n) ls ∧ n = ls.length ∧ SmL ls ∧ C = jfC ls ∧ C = if 25 < n then 2 else if okR ls then 0 else 1) := ⟨by rw [hnn]; exact h, hnn, hn, hC, by rw [hC, jfC, hnn]⟩
  rw [← hnn, ← hC]
  clear h hnn hC hn
  obtain ⟨i1, hi1, hy0, hy1, hy2⟩ := info_parts info_fl
  by_cases c1 : (25 : Int) < (n : Int)
  · have HC : Hid (C = 2 ∧ jfL ls = []) := by
      have e : C = 2 := by rw [H.out.2.2.2.2, if_pos (by omega)]
      exact ⟨e, by rw [jfL, ← H.out.2.2.2.1, e, if_neg (by decide)]⟩
    clear H
    go_enter Try.func24, Try.ntmps24
    go_wp2
    go_returns
    exact ⟨.slice none 0 0, by rw [HC.out.1], by rw [HC.out.2]; exact ⟨rfl, Or.inl ⟨rfl, rfl⟩⟩, by (repeat' (first | (with_reducible exact Below.refl _ _) | (with_reducible assumption) | (with_reducible refine Below.setCell ?_ ?_ _) | (with_reducible refine Below.alloc ?_ ?_ _) | (with_reducible refine below_drewN ?_ _) | (with_reducible refine Below.drew ?_) | (with_reducible exact Nat.le_refl _) | omega | (simp; done) | (simp; omega)))⟩
  obtain ⟨W0, hW0⟩ : ∃ W, W = w.alloc (.cells #[.int .i64 0, .slice none 0 0] 45) := ⟨_, rfl⟩
  have HW0 : Hid (Below w.heap.size w W0 ∧ W0.heap[w.heap.size]? = some (.cells #[.int .i64 0, .slice none 0 0] 45) ∧ W0.heap.size = w.heap.size + 1) := by
    rw [hW0]; exact ⟨by (repeat' (first | (with_reducible exact Below.refl _ _) | (with_reducible assumption) | (with_reducible refine Below.setCell ?_ ?_ _) | (with_reducible refine Below.alloc ?_ ?_ _) | (with_reducible refine below_drewN ?_ _) | (with_reducible refine Below.drew ?_) | (with_reducible exact Nat.le_refl _) | omega | (simp; done) | (simp; omega))), heap_alloc_new _ _, by simp⟩
  go_enter Try.func24, Try.ntmps24
  go_wp2
  rw [← hW0]
  clear hW0
  go_loopw [16] (fun i wr => ∃ k : Nat, k ≤ n ∧ i = .int .i64 k ∧ wr = W0 ∧ Hid (∀ j, j < k → (ls.getD j []).length = 8)) (fun i _ => n - (intOf i).toNat)
  case atStart => exact ⟨0, Nat.zero_le _, rfl, rfl, fun j hj => absurd hj (Nat.not_lt_zero _)⟩
  case round =>
    obtain ⟨k, hk, rfl, rfl, hR⟩ := hrel
    by_cases hlt : k < n
    · obtain ⟨g, o, ua, un, uc, ha, hg, c0, hun, hrd⟩ := (H.out.1.1.below HW0.out.1).at hlt
      injection ha with ha
      injection ha with ha1 ha2
      subst ha1 ha2
      rw [Nat.zero_add] at c0
      have hub : un ≤ 1048576 := by rw [hun]; exact H.out.2.2.1.row k
      have HU : Hid (un = (ls.getD k []).length) := hun
      clear hun hrd
      have b0 : (0 : Int) ≤ (k : Int) := by omega
      have b1 : (k : Int) < (n : Int) := by omega
      by_cases hc : (un : Int) = 8
      · have hq : ((un : Int) != 8) = false := by simpa using hc
        have HS : Hid (∀ j, j < k + 1 → (ls.getD j []).length = 8) := fun j hj => by
          by_cases hjk : j = k
          · subst hjk; rw [← HU.out]; omega
          · exact hR.out j (by omega)
        obtain rfl : un = 8 := by omega
        clear hR hc
        go_wp2
        go_roundw
        case rel => exact ⟨k + 1, by omega, by go_num, by first | rfl | trivial, HS.out⟩
        case measure => simp [intOf]; omega
      · have hq : ((un : Int) != 8) = true := by simpa using hc
        have HX : Hid (C = 1 ∧ jfL ls = []) := by
          have e : C = 1 := by
            rw [H.out.2.2.2.2, if_neg (by omega), if_neg]
            intro h3
            have := h3 k (by rw [← H.out.2.1]; exact hlt)
            rw [← HU.out] at this
            omega
          exact ⟨e, by rw [jfL, ← H.out.2.2.2.1, e, if_neg (by decide)]⟩
        obtain ⟨q0, q1, f0, f1, ql⟩ := two_f HW0.out.2.1
        clear hR
        go_wp2
        try simp only [Exit.inBlock, Exit.then]
        refine bodyPost_ret (by simp [results, Try.results24, go_sem, q0, q1, ql]; try rfl) rfl ⟨.slice none 0 0, by rw [HX.out.1], by rw [HX.out.2]; exact ⟨rfl, Or.inl ⟨rfl, rfl⟩⟩, ?_⟩
        have hb := HW0.out.1
        (repeat' (first | (with_reducible exact Below.refl _ _) | (with_reducible assumption) | (with_reducible refine Below.setCell ?_ ?_ _) | (with_reducible refine Below.alloc ?_ ?_ _) | (with_reducible refine below_drewN ?_ _) | (with_reducible refine Below.drew ?_) | (with_reducible exact Nat.le_refl _) | omega | (simp; done) | (simp; omega)))
    · have HOK : Hid (okR ls) := fun i hi => hR.out i (by have := H.out.2.1; omega)
      have HC0 : Hid (C = 0 ∧ jfL ls = ls.flatten.take (trK ls.flatten ls.flatten.length)) := by
        have e : C = 0 := by rw [H.out.2.2.2.2, if_neg (by omega), if_pos HOK.out]
        exact ⟨e, by rw [jfL, ← H.out.2.2.2.1, e, if_pos rfl]⟩
      have bk : ¬ (k : Int) < (n : Int) := by omega
      have hnb : n ≤ 25 := by omega
      clear hR hlt
      go_wp2
      clear bk
      obtain ⟨w5, hw5⟩ : ∃ x, x = wr := ⟨_, rfl⟩
      rw [← hw5]
      rw [← hw5] at HW0
      clear hw5
      go_loopw [5, 6, 27] (fun q e i wr => ∃ (j en m : Nat) (oa : Option Addr) (oc : Nat), j ≤ n ∧ q = .slice oa m oc ∧ e = .int .i64 en ∧ i = .int .i64 j ∧ Hid (m = 8 * j ∧ OFl wr (w.heap.size + 1) (.slice oa m oc) (ls.take j).flatten ∧ en = trK (ls.take j).flatten (8 * j) ∧ Below (w.heap.size + 1) w5 wr)) (fun _ _ i _ => n - (intOf i).toNat)
      case atStart => exact ⟨0, 0, 0, none, 0, Nat.zero_le _, rfl, rfl, rfl, rfl, ⟨rfl, Or.inl ⟨rfl, rfl⟩⟩, rfl, by have := HW0.out.2.2; rw [← this]; exact Below.refl _ _⟩
      case round =>
        obtain ⟨j, en, m, oa, oc, hj, rfl, rfl, rfl, hR⟩ := hrel
        have hm8 := hR.out.1
        have HR : Hid (OFl wr (w.heap.size + 1) (.slice oa m oc) (ls.take j).flatten ∧ en = trK (ls.take j).flatten (8 * j) ∧ Below (w.heap.size + 1) w5 wr ∧ m = 8 * j ∧ ((ls.take j).flatten).length = 8 * j) := ⟨hR.out.2.1, hR.out.2.2.1, hR.out.2.2.2, hR.out.1, flat_len HOK.out j (by rw [← H.out.2.1]; exact hj)⟩
        have HBW : Hid (Below w.heap.size w wr) := HW0.out.1.trans (HR.out.2.2.1.mono (by omega))
        have hszr : w.heap.size + 1 ≤ wr.heap.size := by have h1 := HR.out.2.2.1.size; have h2 := HW0.out.2.2; omega
        clear hR
        by_cases hlt : j < n
        · obtain ⟨g, o, ua, un, uc, ha, hg, c0, hun, hrd⟩ := (H.out.1.1.below HBW.out).at hlt
          have hcap := (H.out.1.below HBW.out).2.2 g o n n j ua un uc (by rw [ha]) hlt c0
          injection ha with ha
          injection ha with ha1 ha2
          subst ha1 ha2
          rw [Nat.zero_add] at c0
          have hr8 := HOK.out j (by rw [← H.out.2.1]; exact hlt)
          obtain rfl : un = 8 := by rw [hun]; exact hr8
          obtain ⟨r, hr⟩ : ∃ r, r = ls.getD j [] := ⟨_, rfl⟩
          rw [← hr] at hrd hr8
          obtain ⟨ug, uo, z9, rfl, hug, hz9, _⟩ := rf_at hrd (show 0 < 8 by omega)
          have HRW : Hid (RFl wr (.slice (some ⟨ug, uo, none⟩) 8 uc) r ∧ r.length = 8 ∧ r = ls.getD j []) := ⟨hrd, hr8, hr⟩
          obtain ⟨T, hT⟩ : ∃ T, T = trK r 8 := ⟨_, rfl⟩
          have HH : Hid (∀ W, Below wr.heap.size wr W → Calls Try.prog 51 #[.slice (some ⟨ug, uo, none⟩) 8 uc] W fun e w' => e = .returned (.int .i64 T) ∧ Below W.heap.size W w') := fun W hW => by rw [hT]; exact impl_held HRW.out.2.1 hcap (HRW.out.1.below hW)
          have HT : Hid (T = trK r 8) := hT
          have hT8 : T ≤ 8 := by rw [hT]; exact trK_le r 8
          have HEN : Hid (trK (ls.take (j + 1)).flatten (8 * (j + 1)) = if 0 < T then m + T else en) := by
            have h1 := flat_take (ls := ls) (j := j) (by rw [← H.out.2.1]; exact hlt)
            have h2 := trK_app (ls.take j).flatten r 8
            unfold Hid
            rw [h1, ← HRW.out.2.2, show 8 * (j + 1) = ((ls.take j).flatten).length + 8 by rw [HR.out.2.2.2.2]; omega, h2, ← HT.out, HR.out.2.2.2.2, HR.out.2.2.2.1, HR.out.2.1]
          have b0 : (0 : Int) ≤ (j : Int) := by omega
          have b1 : (j : Int) < (n : Int) := by omega
          have hmb : m ≤ 200 := by omega
          clear hrd hr8 hr hun hz9 hT hm8 hug
          go_wp2_with (fail)
          refine (HH.out _ (Below.refl _ _)).mono ?_
          rintro e w7 ⟨rfl, hb7⟩
          have HOW : Hid (w7.ownsRow (w.heap.size + 1) 55 1 (.slice oa m oc) m ((ls.take j).flatten.flatMap flC)) := by
            have h3 : OFl w7 (w.heap.size + 1) (.slice oa m oc) (ls.take j).flatten := OG.below HR.out.1 hb7
            unfold OFl OG at h3
            rw [HR.out.2.2.2.2, ← HR.out.2.2.2.1] at h3
            exact h3
          have HRW7 : Hid (RFl w7 (.slice (some ⟨ug, uo, none⟩) 8 uc) r) := HRW.out.1.below hb7
          have HB7 : Hid (Below (w.heap.size + 1) w5 w7) := HR.out.2.2.1.trans (hb7.mono hszr)
          have hsz7 : w.heap.size + 1 ≤ w7.heap.size := by have := hb7.size; omega
          clear hb7 HH c0
          have HPOST : Hid (∀ (v6 : Value) (w6 : World), w6.ownsRow (w.heap.size + 1) 55 1 v6 (m + 8) ((ls.take j).flatten.flatMap flC ++ r.flatMap flC) → w7.grownBy w6 (Value.slice oa m oc).ownBlock → ∃ oa' oc', v6 = .slice oa' (m + 8) oc' ∧ OFl w6 (w.heap.size + 1) (.slice oa' (m + 8) oc') (ls.take (j + 1)).flatten ∧ Below (w.heap.size + 1) w5 w6) := fun v6 w6 hown6 hgrow6 => by
            have hP : OFl w6 (w.heap.size + 1) v6 (ls.take (j + 1)).flatten := by
              rw [flat_take (by rw [← H.out.2.1]; exact hlt), ← HRW.out.2.2]
              exact fl_joined (by rw [HR.out.2.2.2.2, HRW.out.2.1, ← HR.out.2.2.2.1]; exact hown6)
            obtain ⟨oa', oc', e2⟩ := hP.rg.form
            rw [flat_len HOK.out (j + 1) (by rw [← H.out.2.1]; omega), show 8 * (j + 1) = m + 8 by have := HR.out.2.2.2.1; omega] at e2
            rw [e2] at hP
            exact ⟨oa', oc', e2, hP, HB7.out.grown hgrow6 hsz7 (fun k hk => (World.ownsRow.lt HOW.out k hk).1)⟩
          by_cases hT0 : (0 : Int) < (T : Int)
          · have hTn : 0 < T := by omega
            rw [if_pos hTn] at HEN
            have em : IntKind.i64.wrap ((m : Int) + (T : Int)) = ((m + T : Nat) : Int) := by rw [IntKind.wrap_i64]; omega
            go_wp2_with (at_builtin; refine wpList_append_own _ rfl (.tmp 39) (.tmp 40) 32 rfl (w.heap.size + 1) 55 i1 (.float .f64 0) 1 8 Try.underlying32 hi1 hy0 hy1 hy2 rfl (by decide) (.slice oa m oc) m _ rfl HOW.out ⟨ug, uo, none⟩ 8 uc (r.flatMap flC) rfl (by rw [fl_flat, List.length_map, HRW.out.2.1]) (fl_news HRW7.out) (ones_fl r) (by unfold maxLen; omega) (by omega) hsz7 ?_; intro v6 w6 hown6 hgrow6 _)
            obtain ⟨oa', oc', e2, R2⟩ := HPOST.out v6 w6 hown6 hgrow6
            subst e2
            have R3 : Hid _ := R2
            clear hown6 hgrow6 R2 HPOST HOW
            go_wp2
            go_roundw
            case rel => exact ⟨j + 1, m + T, m + 8, oa', oc', by omega, rfl, rfl, by go_num, by have := HR.out.2.2.2.1; omega, R3.out.1, HEN.out.symm, R3.out.2⟩
            case measure => simp [intOf]; omega
          · have hTn : ¬ 0 < T := by omega
            rw [if_neg hTn] at HEN
            go_wp2_with (at_builtin; refine wpList_append_own _ rfl (.tmp 39) (.tmp 40) 32 rfl (w.heap.size + 1) 55 i1 (.float .f64 0) 1 8 Try.underlying32 hi1 hy0 hy1 hy2 rfl (by decide) (.slice oa m oc) m _ rfl HOW.out ⟨ug, uo, none⟩ 8 uc (r.flatMap flC) rfl (by rw [fl_flat, List.length_map, HRW.out.2.1]) (fl_news HRW7.out) (ones_fl r) (by unfold maxLen; omega) (by omega) hsz7 ?_; intro v6 w6 hown6 hgrow6 _)
            obtain ⟨oa', oc', e2, R2⟩ := HPOST.out v6 w6 hown6 hgrow6
            subst e2
            have R3 : Hid _ := R2
            clear hown6 hgrow6 R2 HPOST HOW
            go_wp2
            go_roundw
            case rel => exact ⟨j + 1, en, m + 8, oa', oc', by omega, rfl, rfl, by go_num, by have := HR.out.2.2.2.1; omega, R3.out.1, HEN.out.symm, R3.out.2⟩
            case measure => simp [intOf]; omega
        · have hjn : j = n := by omega
          have HF : Hid ((ls.take j).flatten = ls.flatten ∧ ls.flatten.length = 8 * j) := by
            have e : ls.take j = ls := List.take_of_length_le (by rw [← H.out.2.1]; omega)
            exact ⟨by rw [e], by have := HR.out.2.2.2.2; rw [e] at this; exact this⟩
          have HL : Hid (jfL ls = ls.flatten.take en ∧ en ≤ m) := by
            refine ⟨by rw [HC0.out.2, HF.out.2, HR.out.2.1, HF.out.1], ?_⟩
            rw [HR.out.2.1, HR.out.2.2.2.1]; exact trK_le _ _
          have hres : wr.heap[w.heap.size]? = some (.cells #[.int .i64 0, .slice none 0 0] 45) := (HR.out.2.2.1.block _ (by omega)).trans HW0.out.2.1
          obtain ⟨q0, q1, f0, f1, ql⟩ := two_f hres
          have bj : ¬ (j : Int) < (n : Int) := by omega
          have hem := HL.out.2
          clear hres
          by_cases hm0 : m = 0
          · obtain rfl : en = 0 := by omega
            have hnil : Hid (jfL ls = []) := by unfold Hid; rw [HL.out.1]; simp
            have hnl : Hid ((ls.take j).flatten = []) := List.eq_nil_of_length_eq_zero (by rw [HR.out.2.2.2.2, ← HR.out.2.2.2.1]; exact hm0)
            subst hm0
            clear hm8 hem hjn
            rcases HR.out.1.2 with ⟨e9, _⟩ | ⟨g9, c9, _, e9, _⟩
            all_goals
              injection e9 with e9a e9b e9c
              subst e9a e9c
              clear e9b
              go_wp2
              try simp only [Exit.inBlock, Exit.then]
              refine bodyPost_ret (by simp [results, Try.results24, go_sem, q0, q1, ql]; try rfl) rfl ⟨_, by rw [HC0.out.1], by rw [hnil.out]; first | exact ⟨rfl, Or.inl ⟨rfl, rfl⟩⟩ | exact fl_kept (hnl.out ▸ HR.out.1), ?_⟩
              have hb := HBW.out
              (repeat' (first | (with_reducible exact Below.refl _ _) | (with_reducible assumption) | (with_reducible refine Below.setCell ?_ ?_ _) | (with_reducible refine Below.alloc ?_ ?_ _) | (with_reducible refine below_drewN ?_ _) | (with_reducible refine Below.drew ?_) | (with_reducible exact Nat.le_refl _) | omega | (simp; done) | (simp; omega)))
          · obtain ⟨g9, c9, e9, hB9, hc9⟩ := fl_some HR.out.1 (by rw [HR.out.2.2.2.2, ← HR.out.2.2.2.1]; omega)
            injection e9 with e9a e9b e9c
            subst e9a
            rw [← e9b, ← e9c] at hc9
            clear e9b e9c hm8 hjn
            have d0 : (0 : Int) ≤ (en : Int) := by omega
            have d1 : (en : Int) ≤ (oc : Int) := by omega
            have d2 : ¬ oc = 0 := by omega
            have d3 : en ≤ oc := by omega
            go_wp2
            try simp only [Exit.inBlock, Exit.then]
            refine bodyPost_ret (by simp [results, Try.results24, go_sem, q0, q1, ql]; try rfl) rfl ⟨.slice (some ⟨g9, 0, none⟩) en oc, by rw [HC0.out.1], ?_, ?_⟩
            · rw [HL.out.1, ← HF.out.1]
              exact fl_kept (fl_cut HR.out.1 HL.out.2)
            · have hb := HBW.out
              (repeat' (first | (with_reducible exact Below.refl _ _) | (with_reducible assumption) | (with_reducible refine Below.setCell ?_ ?_ _) | (with_reducible refine Below.alloc ?_ ?_ _) | (with_reducible refine below_drewN ?_ _) | (with_reducible refine Below.drew ?_) | (with_reducible exact Nat.le_refl _) | omega | (simp; done) | (simp; omega)))

end Go.Proofs.Ytgjdcdhdfhkfcaa
