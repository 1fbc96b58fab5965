/- Proved here: JoinFrames of the model: jfC, jfL. -/
import Derived.Test.YtgjdcdhdfhkfcaaFbI
import Derived.Test.YtgjdcdhdfhkfcaaJfM
import Derived.Test.YtgjdcdhdfhkfcaaRcL
import Derived.Test.YtgjdcdhdfhkfcaaFmQ
namespace Go.Proofs.Ytgjdcdhdfhkfcaa
open Go.RowKit
set_option linter.unusedVariables false
set_option linter.unusedSimpArgs false

set_option maxRecDepth 10000 in
set_option maxHeartbeats 12800000 in
theorem spec_join {w : World} {g1 : Nat} {ls : List (List Nat)} (hn : SmL ls) (h : RcL w (.slice (some ⟨g1, 0, none⟩) ls.length ls.length) ls) :
    Calls Try.prog 22 #[.slice (some ⟨g1, 0, none⟩) ls.length ls.length] w fun e w' => ∃ v, e = .returned (.agg #[.int .i64 (jfC ls), v]) ∧ OFl w' w.heap.size v (jfL ls) ∧ Below w.heap.size w w' := by
  obtain ⟨n, hnn⟩ : ∃ n, n = ls.length := ⟨_, rfl⟩
  obtain ⟨C, hC⟩ : ∃ C, C = jfC ls := ⟨_, rfl⟩
  have hn' : n ≤ 1048576 := by rw [hnn]; exact hn.len
  have H : Hid (RcL w (.slice (some ⟨g1, 0, none⟩) n n) ls ∧ n = ls.length ∧ SmL ls ∧ C = jfC ls ∧ C = if 25 < n then 2 else if okR ls then 0 else 1) := ⟨by rw [hnn]; exact h, hnn, hn, hC, by rw [hC, jfC, hnn]⟩
  rw [← hnn, ← hC]
  clear h hnn hC hn
  obtain ⟨i1, hi1, hy0, hy1, hy2⟩ := info_parts info_fl
  by_cases c1 : (25 : Int) < (n : Int)
  · have HC : Hid (C = 2 ∧ jfL ls = []) := by
      have e : C = 2 := by rw [H.out.2.2.2.2, if_pos (by omega)]
      exact ⟨e, by rw [jfL, ← H.out.2.2.2.1, e, if_neg (by decide)]⟩
    clear H
    go_enter Try.func22, Try.ntmps22
    go_wp2
    go_returns
    exact ⟨.slice none 0 0, by rw [HC.out.1], by rw [HC.out.2]; exact ⟨rfl, Or.inl ⟨rfl, rfl⟩⟩, by (repeat' (first | (with_reducible exact Below.refl _ _) | (with_reducible assumption) | (with_reducible refine Below.setCell ?_ ?_ _) | (with_reducible refine Below.alloc ?_ ?_ _) | (with_reducible refine below_drewN ?_ _) | (with_reducible refine Below.drew ?_) | (with_reducible exact Nat.le_refl _) | omega | (simp; done) | (simp; omega)))⟩
  obtain ⟨W0, hW0⟩ : ∃ W, W = w.alloc (.cells #[.int .i64 0, .slice none 0 0] 45) := ⟨_, rfl⟩
  have HW0 : Hid (Below w.heap.size w W0 ∧ W0.heap[w.heap.size]? = some (.cells #[.int .i64 0, .slice none 0 0] 45) ∧ W0.heap.size = w.heap.size + 1) := by
    rw [hW0]; exact ⟨by (repeat' (first | (with_reducible exact Below.refl _ _) | (with_reducible assumption) | (with_reducible refine Below.setCell ?_ ?_ _) | (with_reducible refine Below.alloc ?_ ?_ _) | (with_reducible refine below_drewN ?_ _) | (with_reducible refine Below.drew ?_) | (with_reducible exact Nat.le_refl _) | omega | (simp; done) | (simp; omega))), heap_alloc_new _ _, by simp⟩
  go_enter Try.func22, Try.ntmps22
  go_wp2
  rw [← hW0]
  clear hW0
  go_loopw [3, 4] (fun q i wr => ∃ (j m : Nat) (oa : Option Addr) (oc : Nat), j ≤ n ∧ q = .slice oa m oc ∧ i = .int .i64 j ∧ Hid (m = 8 * j ∧ OFl wr (w.heap.size + 1) (.slice oa m oc) (ls.take j).flatten ∧ (∀ i, i < j → (ls.getD i []).length = 8) ∧ Below (w.heap.size + 1) W0 wr)) (fun _ i _ => n - (intOf i).toNat)
  case atStart => exact ⟨0, 0, _, _, Nat.zero_le _, rfl, rfl, rfl, by have h9 : OFl (W0.alloc (.cells #[] 55)) (w.heap.size + 1) (.slice (some ⟨W0.heap.size, 0, none⟩) 0 0) [] := World.ownsRow_lit W0 #[] 0 (by have := HW0.out.2.2; omega) (by decide) (by simp); rw [HW0.out.2.2] at h9; exact h9, fun j hj => absurd hj (Nat.not_lt_zero _), by have := HW0.out.2.2; (repeat' (first | (with_reducible exact Below.refl _ _) | (with_reducible assumption) | (with_reducible refine Below.setCell ?_ ?_ _) | (with_reducible refine Below.alloc ?_ ?_ _) | (with_reducible refine below_drewN ?_ _) | (with_reducible refine Below.drew ?_) | (with_reducible exact Nat.le_refl _) | omega | (simp; done) | (simp; omega)))⟩
  case round =>
    obtain ⟨j, m, oa, oc, hj, rfl, rfl, hR⟩ := hrel
    have hm8 := hR.out.1
    have HR : Hid (OFl wr (w.heap.size + 1) (.slice oa m oc) (ls.take j).flatten ∧ (∀ i, i < j → (ls.getD i []).length = 8) ∧ Below (w.heap.size + 1) W0 wr ∧ m = 8 * j ∧ ((ls.take j).flatten).length = 8 * j) := ⟨hR.out.2.1, hR.out.2.2.1, hR.out.2.2.2, hR.out.1, flat_lenK j (by rw [← H.out.2.1]; exact hj) hR.out.2.2.1⟩
    have HBW : Hid (Below w.heap.size w wr) := HW0.out.1.trans (HR.out.2.2.1.mono (by omega))
    have hszr : w.heap.size + 1 ≤ wr.heap.size := by have h1 := HR.out.2.2.1.size; have h2 := HW0.out.2.2; omega
    have hres : wr.heap[w.heap.size]? = some (.cells #[.int .i64 0, .slice none 0 0] 45) := (HR.out.2.2.1.block _ (by omega)).trans HW0.out.2.1
    obtain ⟨q0, q1, f0, f1, ql⟩ := two_f hres
    have Hres : Hid (wr.heap[w.heap.size]? = some (.cells #[.int .i64 0, .slice none 0 0] 45)) := hres
    clear hR hres
    by_cases hlt : j < n
    · obtain ⟨g, o, ua, un, uc, ha, hg, c0, hun, hrd⟩ := (H.out.1.1.below HBW.out).at hlt
      injection ha with ha
      injection ha with ha1 ha2
      subst ha1 ha2
      rw [Nat.zero_add] at c0
      have hub : un ≤ 1048576 := by rw [hun]; exact H.out.2.2.1.row j
      have HU : Hid (un = (ls.getD j []).length) := hun
      have b0 : (0 : Int) ≤ (j : Int) := by omega
      have b1 : (j : Int) < (n : Int) := by omega
      by_cases hc : (un : Int) = 8
      · have hq : ((un : Int) != 8) = false := by simpa using hc
        have hr8 : (ls.getD j []).length = 8 := by rw [← HU.out]; omega
        obtain rfl : un = 8 := by omega
        obtain ⟨r, hr⟩ : ∃ r, r = ls.getD j [] := ⟨_, rfl⟩
        rw [← hr] at hrd hr8
        obtain ⟨ug, uo, z9, rfl, hug, hz9, _⟩ := rf_at hrd (show 0 < 8 by omega)
        have HRW : Hid (RFl wr (.slice (some ⟨ug, uo, none⟩) 8 uc) r ∧ r.length = 8 ∧ r = ls.getD j []) := ⟨hrd, hr8, hr⟩
        have hmb : m ≤ 200 := by omega
        obtain ⟨w7, hw7⟩ : ∃ x, x = wr := ⟨_, rfl⟩
        rw [← hw7]
        rw [← hw7] at HR HRW c0 hszr HBW
        clear hw7 hrd hr8 hr hun hz9 hm8 hug hc q0 q1 f0 f1 ql Hres
        have HOW : Hid (w7.ownsRow (w.heap.size + 1) 55 1 (.slice oa m oc) m ((ls.take j).flatten.flatMap flC)) := by
          have h3 := HR.out.1
          unfold OFl OG at h3
          rw [HR.out.2.2.2.2, ← HR.out.2.2.2.1] at h3
          exact h3
        have HPOST : Hid (∀ (v6 : Value) (w6 : World), w6.ownsRow (w.heap.size + 1) 55 1 v6 (m + 8) ((ls.take j).flatten.flatMap flC ++ r.flatMap flC) → w7.grownBy w6 (Value.slice oa m oc).ownBlock → ∃ oa' oc', v6 = .slice oa' (m + 8) oc' ∧ OFl w6 (w.heap.size + 1) (.slice oa' (m + 8) oc') (ls.take (j + 1)).flatten ∧ (∀ i, i < j + 1 → (ls.getD i []).length = 8) ∧ Below (w.heap.size + 1) W0 w6) := fun v6 w6 hown6 hgrow6 => by
          have hP : OFl w6 (w.heap.size + 1) v6 (ls.take (j + 1)).flatten := by
            rw [flat_take (by rw [← H.out.2.1]; exact hlt), ← HRW.out.2.2]
            exact fl_joined (by rw [HR.out.2.2.2.2, HRW.out.2.1, ← HR.out.2.2.2.1]; exact hown6)
          have hal : ∀ i, i < j + 1 → (ls.getD i []).length = 8 := fun i hi => by
            by_cases hij : i = j
            · subst hij; rw [← HRW.out.2.2]; exact HRW.out.2.1
            · exact HR.out.2.1 i (by omega)
          obtain ⟨oa', oc', e2⟩ := hP.rg.form
          rw [flat_lenK (j + 1) (by rw [← H.out.2.1]; omega) hal, show 8 * (j + 1) = m + 8 by have := HR.out.2.2.2.1; omega] at e2
          rw [e2] at hP
          exact ⟨oa', oc', e2, hP, hal, HR.out.2.2.1.grown hgrow6 hszr (fun k hk => (World.ownsRow.lt HOW.out k hk).1)⟩
        go_wp2_with (at_builtin; refine wpList_append_own _ rfl (.tmp 23) (.tmp 27) 32 rfl (w.heap.size + 1) 55 i1 (.float .f64 0) 1 8 Try.underlying32 hi1 hy0 hy1 hy2 rfl (by decide) (.slice oa m oc) m _ rfl HOW.out ⟨ug, uo, none⟩ 8 uc (r.flatMap flC) rfl (by rw [fl_flat, List.length_map, HRW.out.2.1]) (fl_news HRW.out.1) (ones_fl r) (by unfold maxLen; omega) (by omega) hszr ?_; intro v6 w6 hown6 hgrow6 _)
        obtain ⟨oa', oc', e2, R2⟩ := HPOST.out v6 w6 hown6 hgrow6
        subst e2
        have R3 : Hid _ := R2
        clear hown6 hgrow6 R2 HPOST HOW
        go_wp2
        go_roundw
        case rel => exact ⟨j + 1, m + 8, oa', oc', by omega, rfl, by go_num, by have := HR.out.2.2.2.1; omega, R3.out⟩
        case measure => simp [intOf]; omega
      · have hq : ((un : Int) != 8) = true := by simpa using hc
        have HX : Hid (C = 1 ∧ jfL ls = []) := by
          have e : C = 1 := by
            rw [H.out.2.2.2.2, if_neg (by omega), if_neg]
            intro h3
            have := h3 j (by rw [← H.out.2.1]; exact hlt)
            rw [← HU.out] at this
            omega
          exact ⟨e, by rw [jfL, ← H.out.2.2.2.1, e, if_neg (by decide)]⟩
        clear hun hrd hm8
        go_wp2
        try simp only [Exit.inBlock, Exit.then]
        refine bodyPost_ret (by simp [results, Try.results22, go_sem, q0, q1, ql]; try rfl) rfl ⟨.slice none 0 0, by rw [HX.out.1], by rw [HX.out.2]; exact ⟨rfl, Or.inl ⟨rfl, rfl⟩⟩, ?_⟩
        have hb := HBW.out
        (repeat' (first | (with_reducible exact Below.refl _ _) | (with_reducible assumption) | (with_reducible refine Below.setCell ?_ ?_ _) | (with_reducible refine Below.alloc ?_ ?_ _) | (with_reducible refine below_drewN ?_ _) | (with_reducible refine Below.drew ?_) | (with_reducible exact Nat.le_refl _) | omega | (simp; done) | (simp; omega)))
    · obtain ⟨F, hF⟩ : ∃ F, F = ls.flatten := ⟨_, rfl⟩
      have HF : Hid ((ls.take j).flatten = F ∧ F.length = m ∧ jfL ls = F.take (trK F m) ∧ C = 0) := by
        have e : ls.take j = ls := List.take_of_length_le (by rw [← H.out.2.1]; omega)
        have e1 : F.length = m := by have := HR.out.2.2.2.2; rw [e, ← hF] at this; rw [this, HR.out.2.2.2.1]
        have hok : okR ls := fun i hi => HR.out.2.1 i (by have := H.out.2.1; omega)
        have e2 : C = 0 := by rw [H.out.2.2.2.2, if_neg (by omega), if_pos hok]
        exact ⟨by rw [e, hF], e1, by rw [jfL, ← H.out.2.2.2.1, e2, if_pos rfl, ← hF, e1], e2⟩
      have HO : Hid (OFl wr (w.heap.size + 1) (.slice oa m oc) F) := by rw [← HF.out.1]; exact HR.out.1
      have bj : ¬ (j : Int) < (n : Int) := by omega
      have hmb : m ≤ 200 := by omega
      clear hm8 hF q0 q1 f0 f1 ql
      go_wp2
      clear bj
      obtain ⟨w5, hw5⟩ : ∃ x, x = wr := ⟨_, rfl⟩
      rw [← hw5]
      rw [← hw5] at HO HBW Hres hszr
      clear hw5 HR
      go_loopw [3] (fun q wr => ∃ k : Nat, k ≤ m ∧ q = .slice oa k oc ∧ wr = w5 ∧ Hid (trK F k = trK F m)) (fun q _ => lnV q)
      case atStart => exact ⟨m, Nat.le_refl _, rfl, rfl, rfl⟩
      case round =>
        obtain ⟨k, hk, rfl, rfl, hR⟩ := hrel
        obtain ⟨q0, q1, f0, f1, ql⟩ := two_f Hres.out
        by_cases hk0 : k = 0
        · subst hk0
          have hL : Hid (jfL ls = F.take 0) := by unfold Hid; rw [HF.out.2.2.1, ← hR.out]; rfl
          have hQ : Hid (OFl wr (w.heap.size + 1) (.slice oa 0 oc) (F.take 0)) := by
            rcases HO.out.2 with ⟨e9, _⟩ | ⟨g9, c9, _, e9, _⟩
            · injection e9 with e9a e9b e9c
              subst e9a e9c
              exact ⟨rfl, Or.inl ⟨rfl, rfl⟩⟩
            · injection e9 with e9a e9b e9c
              subst e9a
              exact fl_cut HO.out (Nat.zero_le _)
          clear hR hk
          go_wp2
          try simp only [Exit.inBlock, Exit.then]
          refine bodyPost_ret (by simp [results, Try.results22, go_sem, q0, q1, ql]; try rfl) rfl ⟨.slice oa 0 oc, by rw [HF.out.2.2.2], ?_, ?_⟩
          · rw [hL.out]; exact fl_kept hQ.out
          · have hb := HBW.out
            (repeat' (first | (with_reducible exact Below.refl _ _) | (with_reducible assumption) | (with_reducible refine Below.setCell ?_ ?_ _) | (with_reducible refine Below.alloc ?_ ?_ _) | (with_reducible refine below_drewN ?_ _) | (with_reducible refine Below.drew ?_) | (with_reducible exact Nat.le_refl _) | omega | (simp; done) | (simp; omega)))
        · obtain ⟨g9, c9, e9, hB9, hc9⟩ := fl_some HO.out (by rw [HF.out.2.1]; omega)
          rw [HF.out.2.1] at hc9 e9
          injection e9 with e9a e9b e9c
          subst e9a e9c
          clear e9b
          obtain ⟨k', hk'⟩ : ∃ k', k = k' + 1 := ⟨k - 1, by omega⟩
          obtain ⟨g, o, z, ha, hg, hz, c0⟩ := rf_at HO.out.rg (show k' < m by omega)
          injection ha with ha
          injection ha with ha1 ha2
          subst ha1 ha2
          rw [Nat.zero_add] at c0
          have ek : IntKind.i64.wrap ((k : Int) - 1) = (k' : Int) := by rw [IntKind.wrap_i64]; omega
          have p0 : (0 : Int) < (k : Int) := by omega
          have p1 : 0 < k := by omega
          have p2 : (0 : Int) ≤ (k' : Int) := by omega
          have p3 : (k' : Int) < (k : Int) := by omega
          have p4 : (k' : Int) ≤ (oc : Int) := by omega
          have p5 : ¬ oc = 0 := by omega
          have p6 : k' ≤ oc := by omega
          have p7 : k' < k := by omega
          have HT : Hid (trK F k = if (fv z).isNone then trK F k' else k) := by
            unfold Hid
            rw [hk', trK, show F.getD k' 0 = z by rw [List.getD_eq_getElem?_getD, hz]; rfl]
          have HZ : Hid (∀ W, Calls Try.prog 50 #[.float .f64 z] W fun e w' => e = .returned (.bool (fv z).isNone) ∧ w' = W) := fun W => spec_isNaN z W
          obtain ⟨Z, hZ⟩ : ∃ Z, Z = (fv z).isNone := ⟨_, rfl⟩
          rw [← hZ] at HT HZ
          have HKK : Hid (k = k' + 1) := hk'
          clear hZ hz hk' hB9 hg
          go_wp2_with (fail)
          refine (HZ.out _).mono ?_
          rintro e w3 ⟨rfl, hw3⟩
          subst w3
          cases Z with
          | true =>
            go_wp2
            go_roundw
            case rel => exact ⟨k', by omega, rfl, by first | rfl | trivial, by have h1 := HT.out; rw [if_pos trivial] at h1; have h2 := hR.out; exact h1.symm.trans h2⟩
            case measure => simp [lnV]; omega
          | false =>
            have hL : Hid (jfL ls = F.take k) := by unfold Hid; rw [HF.out.2.2.1, ← hR.out, HT.out]; rfl
            go_wp2
            try simp only [Exit.inBlock, Exit.then]
            refine bodyPost_ret (by simp [results, Try.results22, go_sem, q0, q1, ql]; try rfl) rfl ⟨.slice (some ⟨g9, 0, none⟩) k oc, by rw [HF.out.2.2.2], ?_, ?_⟩
            · rw [hL.out]; exact fl_kept (fl_cut HO.out hk)
            · have hb := HBW.out
              (repeat' (first | (with_reducible exact Below.refl _ _) | (with_reducible assumption) | (with_reducible refine Below.setCell ?_ ?_ _) | (with_reducible refine Below.alloc ?_ ?_ _) | (with_reducible refine below_drewN ?_ _) | (with_reducible refine Below.drew ?_) | (with_reducible exact Nat.le_refl _) | omega | (simp; done) | (simp; omega)))

end Go.Proofs.Ytgjdcdhdfhkfcaa
