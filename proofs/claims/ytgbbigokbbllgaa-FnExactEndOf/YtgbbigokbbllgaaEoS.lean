/- Proved here: EndOf of the model: eoC, eoV. -/
import Derived.Test.YtgbbigokbbllgaaCzS
import Derived.Test.YtgbbigokbbllgaaS2B
import Derived.Test.YtgbbigokbbllgaaHaC
import Derived.Test.YtgbbigokbbllgaaMx20
namespace Go.Proofs.Ytgbbigokbbllgaa
open Go.RowKit
set_option linter.unusedVariables false
set_option linter.unusedSimpArgs false

theorem cl_twoS (lo hi : Int) (s : List Int) : chG lo hi s = 0 ∨ chG lo hi s = 3 := by
  induction s with
  | nil => exact Or.inl rfl
  | cons a t ih =>
    rw [chG]
    split
    · exact ih
    · exact Or.inr rfl

set_option maxRecDepth 10000 in
set_option maxHeartbeats 6400000 in
theorem spec_eo (M : Int) {w : World} {a b a3 : Option Addr} {c d c3 : Nat} {s t : List Int} {l : List Hau} (hn : s.length ≤ 1048576 ∧ t.length ≤ 1048576) (h : RdL w (.slice a s.length c) (.slice b t.length d) s t) (hl : RG 4 haC w (.slice a3 l.length c3) l) :
    Calls Try.prog 15 #[.agg #[.slice a s.length c, .int .i64 M, .slice b t.length d], .slice a3 l.length c3] w fun e w' => e = .returned (.agg #[.int .i64 (eoC M s t (l.map Hau.t)), .int .i64 (eoV M s t (l.map Hau.t))]) ∧ Below w.heap.size w w' := by
  obtain ⟨n, hnn⟩ : ∃ n, n = s.length := ⟨_, rfl⟩
  obtain ⟨m, hmm⟩ : ∃ n, n = t.length := ⟨_, rfl⟩
  obtain ⟨u, huu⟩ : ∃ n, n = l.length := ⟨_, rfl⟩
  obtain ⟨ts, hts⟩ : ∃ ts, ts = l.map Hau.t := ⟨_, rfl⟩
  obtain ⟨D, hD⟩ : ∃ D, D = eoC M s t ts := ⟨_, rfl⟩
  obtain ⟨V, hV⟩ : ∃ D, D = eoV M s t ts := ⟨_, rfl⟩
  obtain ⟨x, hx⟩ : ∃ D, D = clF M s t := ⟨_, rfl⟩
  have HF : Hid (∀ W, Below w.heap.size w W → Calls Try.prog 10 #[.agg #[.slice a n c, .int .i64 M, .slice b m d]] W fun e w' => e = .returned (.int .i64 x) ∧ Below W.heap.size W w') := fun W hb => by
    rw [hx, hnn, hmm]; exact spec_cl M hn (h.below hb)
  rw [← hts, ← hD, ← hV, ← hnn, ← hmm, ← huu]
  have hlt : ts.length = u := by rw [hts, huu]; simp
  have H : Hid (RG 4 haC w (.slice a3 u c3) l ∧ u = l.length ∧ ts = l.map Hau.t ∧ ts.length = u ∧ D = (if x ≠ 0 then x else if 200 < u then 2 else chG 0 1000000000 ts) ∧ V = (if D = 0 ∧ 0 < u then mxL ts + M else 0) ∧ (x = 0 → ClOk M s t)) := by
    refine ⟨by rw [huu]; exact hl, huu, hts, hlt, by rw [hD, hx, ← hlt]; rfl, by rw [hV, hD, ← hlt]; rfl, fun e => clF_ok (by rw [← hx]; exact e)⟩
  have HS : Hid (S2 w (.cells #[.slice a n c, .int .i64 M, .slice b m d] 27) (.cells #[.int .i64 0, .int .i64 0] 34) ((w.alloc (.cells #[.slice a n c, .int .i64 M, .slice b m d] 27)).alloc (.cells #[.int .i64 0, .int .i64 0] 34))) := S2.new _ _ _
  clear h hl hnn hmm huu hts hD hV hx hlt hn
  go_enter Try.func15, Try.ntmps15
  go_wp2_with (fail)
  obtain ⟨U, hU⟩ : ∃ U, U = (w.alloc (.cells #[.slice a n c, .int .i64 M, .slice b m d] 27)).alloc (.cells #[.int .i64 0, .int .i64 0] 34) := ⟨_, rfl⟩
  rw [← hU] at HS ⊢
  clear hU
  refine (HF.out _ HS.out.bl).mono ?_
  rintro e w1 ⟨rfl, hb1⟩
  have HT : Hid (S2 w (.cells #[.slice a n c, .int .i64 M, .slice b m d] 27) (.cells #[.int .i64 0, .int .i64 0] 34) w1) := HS.out.next hb1
  clear hb1 HF HS
  obtain ⟨p0, p1, p2, pf, pl⟩ := tw_three HT.out.b0
  obtain ⟨q0, q1, qf, ql⟩ := tw_two HT.out.b1
  have qf0 := qf 0
  have qf1 := qf 1
  have HB : Hid (Below w.heap.size w w1) := HT.out.bl
  clear pf qf
  by_cases hx0 : x = 0
  case neg =>
    have HV : Hid (D = x ∧ V = 0) := by
      have hd : D = x := by rw [H.out.2.2.2.2.1, if_pos hx0]
      exact ⟨hd, by rw [H.out.2.2.2.2.2.1, if_neg (by rw [hd]; exact fun e => hx0 e.1)]⟩
    have hA1 : (x != 0) = true := by simpa using hx0
    go_wp2
    try simp only [Exit.inBlock, Exit.then]
    refine bodyPost_ret (by simp [results, Try.results15, go_sem, q0, q1]; try rfl) rfl ⟨by rw [HV.out.1, HV.out.2], ?_⟩
    have hB := HB.out
    (repeat' (first | (with_reducible exact Below.refl _ _) | (with_reducible assumption) | (with_reducible refine Below.setCell ?_ ?_ _) | (with_reducible refine Below.alloc ?_ ?_ _) | (with_reducible refine below_drewN ?_ _) | (with_reducible refine Below.drew ?_) | (with_reducible exact Nat.le_refl _) | omega | (simp; done) | (simp; omega)))
  subst hx0
  have HO : Hid (ClOk M s t) := H.out.2.2.2.2.2.2 rfl
  have hm0 : 1 ≤ M := HO.out.mv.1
  have hm1 : M ≤ 100 := HO.out.mv.2
  by_cases h2 : (200 : Int) < (u : Int)
  · have HV : Hid (D = 2 ∧ V = 0) := by
      have hd : D = 2 := by rw [H.out.2.2.2.2.1, if_neg (by simp), if_pos (by omega)]
      exact ⟨hd, by rw [H.out.2.2.2.2.2.1, if_neg (by rw [hd]; exact fun e => absurd e.1 (by decide))]⟩
    go_wp2
    try simp only [Exit.inBlock, Exit.then]
    refine bodyPost_ret (by simp [results, Try.results15, go_sem, q0, q1]; try rfl) rfl ⟨by rw [HV.out.1, HV.out.2], ?_⟩
    have hB := HB.out
    (repeat' (first | (with_reducible exact Below.refl _ _) | (with_reducible assumption) | (with_reducible refine Below.setCell ?_ ?_ _) | (with_reducible refine Below.alloc ?_ ?_ _) | (with_reducible refine below_drewN ?_ _) | (with_reducible refine Below.drew ?_) | (with_reducible exact Nat.le_refl _) | omega | (simp; done) | (simp; omega)))
  have HD : Hid (D = chG 0 1000000000 ts) := by unfold Hid; rw [H.out.2.2.2.2.1, if_neg (by simp), if_neg (by omega)]
  by_cases hu0 : u = 0
  · have HV : Hid (D = 0 ∧ V = 0) := by
      have hd : D = 0 := by
        rw [HD.out]; exact chG_iff.2 fun j hj => by rw [H.out.2.2.2.1] at hj; omega
      exact ⟨hd, by rw [H.out.2.2.2.2.2.1, if_neg (by omega)]⟩
    subst hu0
    go_wp2
    try simp only [Exit.inBlock, Exit.then]
    refine bodyPost_ret (by simp [results, Try.results15, go_sem, q0, q1]; try rfl) rfl ⟨by rw [HV.out.1, HV.out.2], ?_⟩
    have hB := HB.out
    (repeat' (first | (with_reducible exact Below.refl _ _) | (with_reducible assumption) | (with_reducible refine Below.setCell ?_ ?_ _) | (with_reducible refine Below.alloc ?_ ?_ _) | (with_reducible refine below_drewN ?_ _) | (with_reducible refine Below.drew ?_) | (with_reducible exact Nat.le_refl _) | omega | (simp; done) | (simp; omega)))
  have hu1 : ((u : Int) == 0) = false := beq_eq_false_iff_ne.2 (by omega)
  have hup : (0 : Int) < (u : Int) := by omega
  have hu2 : 0 < u := by omega
  obtain ⟨g, o, c2, he, hg, hj⟩ := (H.out.1.below HT.out.bl).pos (by rw [← H.out.2.1]; omega)
  simp only [Value.slice.injEq] at he
  obtain ⟨rfl, hx1, hx2⟩ := he
  clear hx1 hx2
  have hl0 : 0 < l.length := by rw [← H.out.2.1]; omega
  have c0 := (haC_at (hj 0 hl0)).1
  obtain ⟨y0, hy0⟩ : ∃ y, y = (l[0]'hl0).t := ⟨_, rfl⟩
  rw [← hy0] at c0
  have HY0 : Hid (y0 = ts.getD 0 0) := by
    unfold Hid
    rw [hy0, H.out.2.2.1, List.getD_eq_getElem?_getD, List.getElem?_map, List.getElem?_eq_getElem hl0]; rfl
  rw [Nat.zero_mul, Nat.add_zero] at c0
  clear hy0 hj hu0 hl0
  go_wp2
  go_loopw [6, 7] (fun q i wr => ∃ (k : Nat) (E : Int), k ≤ u ∧ q = .int .i64 E ∧ i = .int .i64 k ∧ w1 = wr ∧ Hid ((k = 0 → E = ts.getD 0 0) ∧ (0 < k → E = mxL (ts.take k) ∧ 0 ≤ E ∧ E ≤ 1000000000) ∧ ∀ j, j < k → 0 ≤ ts.getD j 0 ∧ ts.getD j 0 ≤ 1000000000)) (fun _ i _ => u - (intOf i).toNat)
  case atStart => exact ⟨0, y0, Nat.zero_le _, rfl, rfl, rfl, fun _ => HY0.out, fun h => by omega, fun j hj => by omega⟩
  case round =>
    obtain ⟨k, E, hk, rfl, rfl, rfl, hR⟩ := hrel
    by_cases hlt : k < u
    · have hkl : k < l.length := by rw [← H.out.2.1]; exact hlt
      obtain ⟨g', o', c2, he, hg', hj⟩ := (H.out.1.below HT.out.bl).pos (by rw [← H.out.2.1]; omega)
      simp only [Value.slice.injEq, Option.some.injEq, Addr.mk.injEq, and_true] at he
      obtain ⟨⟨rfl, rfl⟩, hx1, hx2⟩ := he
      clear hx1 hx2 hg'
      have c1 := (haC_at (hj k hkl)).1
      obtain ⟨yt, hy⟩ : ∃ y, y = (l[k]).t := ⟨_, rfl⟩
      rw [← hy] at c1
      have HY : Hid (yt = ts.getD k 0 ∧ k < ts.length) := by
        refine ⟨?_, by rw [H.out.2.2.2.1]; exact hlt⟩
        rw [hy, H.out.2.2.1, List.getD_eq_getElem?_getD, List.getElem?_map, List.getElem?_eq_getElem hkl]; rfl
      obtain ⟨q, hq⟩ : ∃ q, q = decide (0 ≤ yt ∧ yt ≤ 1000000000) := ⟨_, rfl⟩
      have HI : Hid (∀ W, Calls Try.prog 39 #[.int .i64 yt, .int .i64 0, .int .i64 1000000000] W fun e w' => e = .returned (.bool q) ∧ w' = W) := by rw [hq]; exact spec_in10 yt 0 1000000000
      have HQ : Hid (q = decide (0 ≤ yt ∧ yt ≤ 1000000000)) := hq
      obtain ⟨mx, hmx⟩ : ∃ x, x = max E yt := ⟨_, rfl⟩
      have HX : Hid (∀ W, Calls Try.prog 44 #[.int .i64 E, .int .i64 yt] W fun e w' => e = .returned (.int .i64 mx) ∧ w' = W) := by rw [hmx]; exact spec_max20 E yt
      have HMX : Hid (mx = max E yt) := hmx
      have b0 : (0 : Int) ≤ (k : Int) := by omega
      have b1 : (k : Int) < (u : Int) := by omega
      clear hq hy hj hkl hmx
      go_wp2_with (fail)
      refine (HI.out _).mono ?_
      rintro e w5 ⟨rfl, hw5⟩
      subst w5
      clear HI
      cases q with
      | false =>
        have HV : Hid (D = 3 ∧ V = 0) := by
          have hne : chG 0 1000000000 ts ≠ 0 := fun e => of_decide_eq_false HQ.out.symm (by rw [HY.out.1]; exact chG_iff.1 e k HY.out.2)
          have hd : D = 3 := by rw [HD.out]; exact (cl_twoS _ _ _).resolve_left hne
          exact ⟨hd, by rw [H.out.2.2.2.2.2.1, if_neg (by rw [hd]; exact fun e => absurd e.1 (by decide))]⟩
        go_wp2
        try simp only [Exit.inBlock, Exit.then]
        refine bodyPost_ret (by simp [results, Try.results15, go_sem, q0, q1]; try rfl) rfl ⟨by rw [HV.out.1, HV.out.2], ?_⟩
        have hB := HB.out
        (repeat' (first | (with_reducible exact Below.refl _ _) | (with_reducible assumption) | (with_reducible refine Below.setCell ?_ ?_ _) | (with_reducible refine Below.alloc ?_ ?_ _) | (with_reducible refine below_drewN ?_ _) | (with_reducible refine Below.drew ?_) | (with_reducible exact Nat.le_refl _) | omega | (simp; done) | (simp; omega)))
      | true =>
        have hyb : 0 ≤ yt ∧ yt ≤ 1000000000 := of_decide_eq_true HQ.out.symm
        have HN : Hid ((k + 1 = 0 → mx = ts.getD 0 0) ∧ (0 < k + 1 → mx = mxL (ts.take (k + 1)) ∧ 0 ≤ mx ∧ mx ≤ 1000000000) ∧ ∀ j, j < k + 1 → 0 ≤ ts.getD j 0 ∧ ts.getD j 0 ≤ 1000000000) := by
          refine ⟨fun h => by omega, fun _ => ?_, fun j hj => ?_⟩
          · rw [HMX.out, mxL_take HY.out.2, ← HY.out.1]
            by_cases hk0 : k = 0
            · have h1 := hR.out.1 hk0
              subst hk0
              rw [← HY.out.1] at h1
              rw [h1]
              simp only [List.take_zero, mxL, List.foldl_nil]
              omega
            · have h1 := hR.out.2.1 (by omega)
              rw [← h1.1]
              omega
          · rcases (by omega : j < k ∨ j = k) with e | rfl
            · exact hR.out.2.2 j e
            · rw [← HY.out.1]; exact hyb
        clear hR hyb HQ HY
        go_wp2_with (fail)
        refine (HX.out _).mono ?_
        rintro e w5 ⟨rfl, hw5⟩
        subst w5
        clear HX HMX
        go_wp2
        go_roundw
        case rel => exact ⟨k + 1, mx, by omega, rfl, by go_num, by first | rfl | trivial, HN.out⟩
        case measure => simp [intOf]; omega
    · have hk2 : k = u := by omega
      have hb := hR.out.2.1 (by omega)
      have HV : Hid (D = 0 ∧ V = E + M) := by
        have hd : D = 0 := by rw [HD.out]; exact chG_iff.2 fun j hj => hR.out.2.2 j (by rw [H.out.2.2.2.1] at hj; omega)
        refine ⟨hd, ?_⟩
        rw [H.out.2.2.2.2.2.1, if_pos ⟨hd, hu2⟩, hb.1, hk2, ← H.out.2.2.2.1, List.take_length]
      have hb0 := hb.2.1
      have hb1 := hb.2.2
      clear hR hb
      go_wp2
      try simp only [Exit.inBlock, Exit.then]
      refine bodyPost_ret (by simp [results, Try.results15, go_sem, q0, q1]; try rfl) rfl ⟨by rw [HV.out.1, HV.out.2], ?_⟩
      have hB := HB.out
      (repeat' (first | (with_reducible exact Below.refl _ _) | (with_reducible assumption) | (with_reducible refine Below.setCell ?_ ?_ _) | (with_reducible refine Below.alloc ?_ ?_ _) | (with_reducible refine below_drewN ?_ _) | (with_reducible refine Below.drew ?_) | (with_reducible exact Nat.le_refl _) | omega | (simp; done) | (simp; omega)))

end Go.Proofs.Ytgbbigokbbllgaa
