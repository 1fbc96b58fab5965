/- Proved here: EndOf of the program: eoC, eoV. -/
import Derived.Test.YtgbbigokbbllgaaCzI
import Derived.Test.YtgbbigokbbllgaaS2B
import Derived.Test.YtgbbigokbbllgaaHaC
namespace Go.Proofs.Ytgbbigokbbllgaa
open Go.RowKit
set_option linter.unusedVariables false
set_option linter.unusedSimpArgs false

set_option maxRecDepth 10000 in
set_option maxHeartbeats 6400000 in
theorem impl_eo (M : Int) {w : World} {a b a3 : Option Addr} {c d c3 : Nat} {s t : List Int} {l : List Hau} (hn : s.length ≤ 1048576 ∧ t.length ≤ 1048576) (h : RdL w (.slice a s.length c) (.slice b t.length d) s t) (hl : RG 4 haC w (.slice a3 l.length c3) l) :
    Calls Try.prog 17 #[.agg #[.slice a s.length c, .int .i64 M, .slice b t.length d], .slice a3 l.length c3] w fun e w' => e = .returned (.agg #[.int .i64 (eoC M s t (l.map Hau.t)), .int .i64 (eoV M s t (l.map Hau.t))]) ∧ Below w.heap.size w w' := by
  obtain ⟨n, hnn⟩ : ∃ n, n = s.length := ⟨_, rfl⟩
  obtain ⟨m, hmm⟩ : ∃ n, n = t.length := ⟨_, rfl⟩
  obtain ⟨u, huu⟩ : ∃ n, n = l.length := ⟨_, rfl⟩
  obtain ⟨ts, hts⟩ : ∃ ts, ts = l.map Hau.t := ⟨_, rfl⟩
  obtain ⟨D, hD⟩ : ∃ D, D = eoC M s t ts := ⟨_, rfl⟩
  obtain ⟨V, hV⟩ : ∃ D, D = eoV M s t ts := ⟨_, rfl⟩
  obtain ⟨x, hx⟩ : ∃ D, D = clF M s t := ⟨_, rfl⟩
  have HF : Hid (∀ W, Below w.heap.size w W → Calls Try.prog 12 #[.agg #[.slice a n c, .int .i64 M, .slice b m d]] W fun e w' => e = .returned (.int .i64 x) ∧ Below W.heap.size W w') := fun W hb => by
    rw [hx, hnn, hmm]; exact impl_cl M hn (h.below hb)
  rw [← hts, ← hD, ← hV, ← hnn, ← hmm, ← huu]
  have hlt : ts.length = u := by rw [hts, huu]; simp
  have H : Hid (RG 4 haC w (.slice a3 u c3) l ∧ u = l.length ∧ ts = l.map Hau.t ∧ ts.length = u ∧ D = (if x ≠ 0 then x else if 200 < u then 2 else chG 0 1000000000 ts) ∧ V = (if D = 0 ∧ 0 < u then mxL ts + M else 0) ∧ (x = 0 → ClOk M s t)) := by
    refine ⟨by rw [huu]; exact hl, huu, hts, hlt, by rw [hD, hx, ← hlt]; rfl, by rw [hV, hD, ← hlt]; rfl, fun e => clF_ok (by rw [← hx]; exact e)⟩
  have HS : Hid (S2 w (.cells #[.slice a n c, .int .i64 M, .slice b m d] 27) (.cells #[.int .i64 0, .int .i64 0] 34) ((w.alloc (.cells #[.slice a n c, .int .i64 M, .slice b m d] 27)).alloc (.cells #[.int .i64 0, .int .i64 0] 34))) := S2.new _ _ _
  clear h hl hnn hmm huu hts hD hV hx hlt hn
  go_enter Try.func17, Try.ntmps17
  go_wp2_with (fail)
  obtain ⟨U, hU⟩ : ∃ U, U = (w.alloc (.cells #[.slice a n c, .int .i64 M, .slice b m d] 27)).alloc (.cells #[.int .i64 0, .int .i64 0] 34) := ⟨_, rfl⟩
  rw [← hU] at HS ⊢
  clear hU
  refine (HF.out _ HS.out.bl).mono ?_
  rintro e w1 ⟨rfl, hb1⟩
  have HT : Hid (S2 w (.cells #[.slice a n c, .int .i64 M, .slice b m d] 27) (.cells #[.int .i64 0, .int .i64 0] 34) w1) := HS.out.next hb1
  clear hb1 HF HS
  obtain ⟨p0, p1, p2, pf, pl⟩ := tw_three HT.out.b0
  obtain ⟨q0, q1, qf, ql⟩ := tw_two HT.out.b1
  have qf0 := qf 0
  have qf1 := qf 1
  have HB : Hid (Below w.heap.size w w1) := HT.out.bl
  clear pf qf
  by_cases hx0 : x = 0
  case neg =>
    have HV : Hid (D = x ∧ V = 0) := by
      have hd : D = x := by rw [H.out.2.2.2.2.1, if_pos hx0]
      exact ⟨hd, by rw [H.out.2.2.2.2.2.1, if_neg (by rw [hd]; exact fun e => hx0 e.1)]⟩
    have hA1 : (x != 0) = true := by simpa using hx0
    go_wp2
    try simp only [Exit.inBlock, Exit.then]
    refine bodyPost_ret (by simp [results, Try.results17, go_sem, q0, q1]; try rfl) rfl ⟨by rw [HV.out.1, HV.out.2], ?_⟩
    have hB := HB.out
    (repeat' (first | (with_reducible exact Below.refl _ _) | (with_reducible assumption) | (with_reducible refine Below.setCell ?_ ?_ _) | (with_reducible refine Below.alloc ?_ ?_ _) | (with_reducible refine below_drewN ?_ _) | (with_reducible refine Below.drew ?_) | (with_reducible exact Nat.le_refl _) | omega | (simp; done) | (simp; omega)))
  subst hx0
  have HO : Hid (ClOk M s t) := H.out.2.2.2.2.2.2 rfl
  have hm0 : 1 ≤ M := HO.out.mv.1
  have hm1 : M ≤ 100 := HO.out.mv.2
  by_cases h2 : (200 : Int) < (u : Int)
  · have HV : Hid (D = 2 ∧ V = 0) := by
      have hd : D = 2 := by rw [H.out.2.2.2.2.1, if_neg (by simp), if_pos (by omega)]
      exact ⟨hd, by rw [H.out.2.2.2.2.2.1, if_neg (by rw [hd]; exact fun e => absurd e.1 (by decide))]⟩
    go_wp2
    try simp only [Exit.inBlock, Exit.then]
    refine bodyPost_ret (by simp [results, Try.results17, go_sem, q0, q1]; try rfl) rfl ⟨by rw [HV.out.1, HV.out.2], ?_⟩
    have hB := HB.out
    (repeat' (first | (with_reducible exact Below.refl _ _) | (with_reducible assumption) | (with_reducible refine Below.setCell ?_ ?_ _) | (with_reducible refine Below.alloc ?_ ?_ _) | (with_reducible refine below_drewN ?_ _) | (with_reducible refine Below.drew ?_) | (with_reducible exact Nat.le_refl _) | omega | (simp; done) | (simp; omega)))
  have HD : Hid (D = chG 0 1000000000 ts) := by unfold Hid; rw [H.out.2.2.2.2.1, if_neg (by simp), if_neg (by omega)]
  go_wp2
  go_loopw [6, 21] (fun q i wr => ∃ (k : Nat) (E : Int), k ≤ u ∧ q = .int .i64 E ∧ i = .int .i64 k ∧ (0 ≤ E ∧ E ≤ 2000000000) ∧ Hid (S2 w (.cells #[.slice a n c, .int .i64 M, .slice b m d] 27) (.cells #[.int .i64 0, .int .i64 0] 34) wr ∧ E = (if k = 0 then 0 else mxL (ts.take k) + M) ∧ ∀ j, j < k → 0 ≤ ts.getD j 0 ∧ ts.getD j 0 ≤ 1000000000)) (fun _ i _ => u - (intOf i).toNat)
  case atStart => exact ⟨0, 0, Nat.zero_le _, rfl, rfl, by omega, HT.out, rfl, fun j hj => by omega⟩
  case round =>
    clear HT p0 p1 p2 pl q0 q1 ql qf0 qf1 HB
    obtain ⟨k, E, hk, rfl, rfl, hE, hR⟩ := hrel
    have hE0 := hE.1
    have hE1 := hE.2
    obtain ⟨p0, p1, p2, pf, pl⟩ := tw_three hR.out.1.b0
    obtain ⟨q0, q1, qf, ql⟩ := tw_two hR.out.1.b1
    have qf0 := qf 0
    have qf1 := qf 1
    have HB : Hid (Below w.heap.size w wr) := hR.out.1.bl
    clear pf qf hE
    by_cases hlt : k < u
    · have hkl : k < l.length := by rw [← H.out.2.1]; exact hlt
      obtain ⟨g, o, c2, he, hg, hj⟩ := (H.out.1.below hR.out.1.bl).pos (by rw [← H.out.2.1]; omega)
      simp only [Value.slice.injEq] at he
      obtain ⟨rfl, hx1, hx2⟩ := he
      clear hx1 hx2
      obtain ⟨c0, c1, c2', c3'⟩ := haC_at (hj k hkl)
      obtain ⟨y, hy⟩ : ∃ y, y = l[k] := ⟨_, rfl⟩
      rw [← hy] at c0 c1 c2' c3'
      obtain ⟨yt, yw, yf, yo⟩ := y
      simp only at c0 c1 c2' c3'
      have HY : Hid (yt = ts.getD k 0 ∧ k < ts.length) := by
        refine ⟨?_, by rw [H.out.2.2.2.1]; exact hlt⟩
        rw [H.out.2.2.1, List.getD_eq_getElem?_getD, List.getElem?_map, List.getElem?_eq_getElem hkl, ← hy]; rfl
      obtain ⟨q, hq⟩ : ∃ q, q = decide (0 ≤ yt ∧ yt ≤ 1000000000) := ⟨_, rfl⟩
      have HI : Hid (∀ W, Calls Try.prog 42 #[.int .i64 yt, .int .i64 0, .int .i64 1000000000] W fun e w' => e = .returned (.bool q) ∧ w' = W) := impl_insC yt 0 1000000000 q hq
      have HQ : Hid (q = decide (0 ≤ yt ∧ yt ≤ 1000000000)) := hq
      have b0 : (0 : Int) ≤ (k : Int) := by omega
      have b1 : (k : Int) < (u : Int) := by omega
      have HS : Hid (S2 w (.cells #[.slice a n c, .int .i64 M, .slice b m d] 27) (.cells #[.int .i64 0, .int .i64 0] 34) (wr.alloc (.cells #[.int .i64 yt, .int .i64 yw, .int .i64 yf, .int .i64 yo] 68))) := hR.out.1.next (by (repeat' (first | (with_reducible exact Below.refl _ _) | (with_reducible assumption) | (with_reducible refine Below.setCell ?_ ?_ _) | (with_reducible refine Below.alloc ?_ ?_ _) | (with_reducible refine below_drewN ?_ _) | (with_reducible refine Below.drew ?_) | (with_reducible exact Nat.le_refl _) | omega | (simp; done) | (simp; omega))))
      have HR : Hid (E = (if k = 0 then 0 else mxL (ts.take k) + M) ∧ ∀ j, j < k → 0 ≤ ts.getD j 0 ∧ ts.getD j 0 ≤ 1000000000) := hR.out.2
      clear hq hy hj hkl hR
      go_wp2_with (fail)
      refine (HI.out _).mono ?_
      rintro e w5 ⟨rfl, hw5⟩
      subst w5
      clear HI
      cases q with
      | false =>
        have HV : Hid (D = 3 ∧ V = 0) := by
          have hne : chG 0 1000000000 ts ≠ 0 := fun e => of_decide_eq_false HQ.out.symm (by rw [HY.out.1]; exact chG_iff.1 e k HY.out.2)
          have hd : D = 3 := by rw [HD.out]; exact (cl_two _ _ _).resolve_left hne
          exact ⟨hd, by rw [H.out.2.2.2.2.2.1, if_neg (by rw [hd]; exact fun e => absurd e.1 (by decide))]⟩
        obtain ⟨U5, hU5⟩ : ∃ U, U = wr.alloc (.cells #[.int .i64 yt, .int .i64 yw, .int .i64 yf, .int .i64 yo] 68) := ⟨_, rfl⟩
        rw [← hU5] at HS ⊢
        clear hU5 p0 p1 p2 pl q0 q1 ql qf0 qf1 HB c0 c1 c2' c3' hg
        obtain ⟨q0, q1, qf, ql⟩ := tw_two HS.out.b1
        have qf0 := qf 0
        have qf1 := qf 1
        have HB : Hid (Below w.heap.size w U5) := HS.out.bl
        clear qf
        go_wp2
        try simp only [Exit.inBlock, Exit.then]
        refine bodyPost_ret (by simp [results, Try.results17, go_sem, q0, q1]; try rfl) rfl ⟨by rw [HV.out.1, HV.out.2], ?_⟩
        have hB := HB.out
        (repeat' (first | (with_reducible exact Below.refl _ _) | (with_reducible assumption) | (with_reducible refine Below.setCell ?_ ?_ _) | (with_reducible refine Below.alloc ?_ ?_ _) | (with_reducible refine below_drewN ?_ _) | (with_reducible refine Below.drew ?_) | (with_reducible exact Nat.le_refl _) | omega | (simp; done) | (simp; omega)))
      | true =>
        have hyb : 0 ≤ yt ∧ yt ≤ 1000000000 := of_decide_eq_true HQ.out.symm
        have hyb0 := hyb.1
        have hyb1 := hyb.2
        have HN : Hid (∀ j, j < k + 1 → 0 ≤ ts.getD j 0 ∧ ts.getD j 0 ≤ 1000000000) := fun j hj => by
          rcases (by omega : j < k ∨ j = k) with e | rfl
          · exact HR.out.2 j e
          · rw [← HY.out.1]; exact hyb
        have HM : Hid ((E < yt + M → yt + M = (if k + 1 = 0 then 0 else mxL (ts.take (k + 1)) + M)) ∧ (¬ E < yt + M → E = (if k + 1 = 0 then 0 else mxL (ts.take (k + 1)) + M))) := by
          unfold Hid
          rw [if_neg (by omega), mxL_take HY.out.2, ← HY.out.1]
          have h1 := HR.out.1
          by_cases hk0 : k = 0
          · rw [if_pos hk0] at h1
            subst hk0
            simp only [List.take_zero, mxL, List.foldl_nil]
            omega
          · rw [if_neg hk0] at h1
            omega
        clear HR hyb HQ
        by_cases hgt : E < yt + M
        · go_wp2
          go_roundw
          case rel => exact ⟨k + 1, yt + M, by omega, by first | rfl | (congr 1; omega) | (simp; omega), by go_num, by omega, HS.out, HM.out.1 hgt, HN.out⟩
          case measure => simp [intOf]; omega
        · go_wp2
          go_roundw
          case rel => exact ⟨k + 1, E, by omega, by first | rfl | (congr 1; omega) | (simp; omega), by go_num, by omega, HS.out, HM.out.2 hgt, HN.out⟩
          case measure => simp [intOf]; omega
    · have HV : Hid (D = 0 ∧ V = E) := by
        have hd : D = 0 := by rw [HD.out]; exact chG_iff.2 fun j hj => hR.out.2.2 j (by rw [H.out.2.2.2.1] at hj; omega)
        have hk2 : k = u := by omega
        refine ⟨hd, ?_⟩
        rw [H.out.2.2.2.2.2.1, hR.out.2.1, hk2]
        by_cases hu : u = 0
        · rw [if_neg (by omega), if_pos hu]
        · rw [if_pos ⟨hd, by omega⟩, if_neg hu, ← H.out.2.2.2.1, List.take_length]
      clear hR
      go_wp2
      try simp only [Exit.inBlock, Exit.then]
      refine bodyPost_ret (by simp [results, Try.results17, go_sem, q0, q1]; try rfl) rfl ⟨by rw [HV.out.1, HV.out.2], ?_⟩
      have hB := HB.out
      (repeat' (first | (with_reducible exact Below.refl _ _) | (with_reducible assumption) | (with_reducible refine Below.setCell ?_ ?_ _) | (with_reducible refine Below.alloc ?_ ?_ _) | (with_reducible refine below_drewN ?_ _) | (with_reducible refine Below.drew ?_) | (with_reducible exact Nat.le_refl _) | omega | (simp; done) | (simp; omega)))

end Go.Proofs.Ytgbbigokbbllgaa
