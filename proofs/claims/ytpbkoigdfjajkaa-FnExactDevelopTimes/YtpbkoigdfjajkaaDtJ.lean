/- Proved here: DevelopTimes of the program. -/
import Derived.Test.YtpbkoigdfjajkaaDtI
import Derived.Test.YtpbkoigdfjajkaaCpI
import Derived.Test.YtpbkoigdfjajkaaGfI
import Derived.Test.YtpbkoigdfjajkaaDtK
namespace Go.Proofs.Ytpbkoigdfjajkaa
open Go.RowKit
set_option linter.unusedVariables false
set_option linter.unusedSimpArgs false

set_option maxRecDepth 10000 in
set_option maxHeartbeats 12800000 in
theorem impl_down {w : World} {v : Value} {R : List (List Int)} (hG : GG 1000000 R) (h : RdR w v R) :
    Calls Try.prog 21 #[v] w fun e w' => ∃ g vs L, e = .returned (.slice (some ⟨g, 0, none⟩) R.length R.length) ∧ GV w' w.heap.size g R.length R.length (R.getD 0 []).length L vs ∧ ST R.length (R.getD 0 []).length R L ∧ Below w.heap.size w w' := by
  obtain ⟨a, c, rfl⟩ := h.form
  obtain ⟨n, hnn⟩ : ∃ n, n = R.length := ⟨_, rfl⟩
  obtain ⟨wd, hwd⟩ : ∃ n, n = (R.getD 0 []).length := ⟨_, rfl⟩
  have HG : Hid (GG 1000000 R ∧ n = R.length ∧ Sh n wd R ∧ (∀ L, Sh n wd L → (∀ i k, i < n → k < wd → at2 L i k = dn R k i) → ST n wd R L)) := ⟨hG, hnn, by rw [hnn, hwd]; exact hG.sh, by rw [hnn, hwd]; exact fun L h1 h2 => down_st hG h2⟩
  have hn16 : n ≤ 16 := by rw [hnn]; exact hG.h1
  have hn0 : 0 < n := by rw [hnn]; exact hG.h0
  have hw16 : wd ≤ 16 := by rw [hwd]; exact hG.w1
  have hw0 : 0 < wd := by rw [hwd]; exact hG.w0
  have HC : Hid (Calls Try.prog 30 #[.slice a n c] w fun e w' => ∃ g vs, e = .returned (.slice (some ⟨g, 0, none⟩) n n) ∧ RI w' w.heap.size (.slice (some ⟨g, 0, none⟩) n n) R vs ∧ Below w.heap.size w w') := by
    rw [← hnn] at h
    have := impl_copied hG h
    rw [← hnn] at this
    exact this
  rw [← hnn, ← hwd]
  clear h hG hnn hwd
  go_enter Try.func21, Try.ntmps21
  go_wp2_with (fail)
  refine HC.out.mono ?_
  rintro e w1 ⟨g, vs, rfl, hri, hb1⟩
  have HS : Hid (∃ L, GV w1 w.heap.size g n n wd L vs ∧ (∀ i k, i < n → k < wd → at2 L i k = if i < 1 then dn R k i else at2 R i k) ∧ Below w.heap.size w w1) := by
    refine ⟨R, ⟨hri, HG.out.2.2.1, hw0⟩, fun i k hi hk => ?_, hb1⟩
    by_cases e : i < 1
    · rw [if_pos e, show i = 0 by omega]; rfl
    · rw [if_neg e]
  clear hri hb1 HC
  go_wp2
  go_loopw [4] (fun i wr => ∃ (y p : Nat), y ≤ n ∧ i = .int .i64 y ∧ y = p + 1 ∧ Hid (∃ L, GV wr w.heap.size g n n wd L vs ∧ (∀ i k, i < n → k < wd → at2 L i k = if i < y then dn R k i else at2 R i k) ∧ Below w.heap.size w wr)) (fun i _ => n - (intOf i).toNat)
  case atStart => exact ⟨1, 0, by omega, rfl, rfl, HS.out⟩
  case round =>
    clear HS
    obtain ⟨y, p, hy, rfl, hyp, hR⟩ := hrel
    have hwr : IntKind.i64.wrap ((y : Int) - 1) = (p : Int) := by rw [IntKind.wrap_i64]; omega
    have hsub : (y : Int) - 1 = (p : Int) := by omega
    by_cases hlt : y < n
    · obtain ⟨L, hGV, hL, hbl⟩ := hR.out
      obtain ⟨gp, cp, hrp, p0, hgl, hgpl, _, _, _, hcp⟩ := hGV.at (show p < n by omega)
      have HR : Hid (rat vs p = .slice (some ⟨gp, 0, none⟩) wd cp ∧ y = p + 1 ∧ ∃ L, GV wr w.heap.size g n n wd L vs ∧ (∀ i k, i < n → k < wd → at2 L i k = if i < y ∨ (i = y ∧ k < 0) then dn R k i else at2 R i k) ∧ Below w.heap.size w wr) := ⟨hrp, hyp, L, hGV, fun i k hi hk => by rw [hL i k hi hk]; by_cases e : i < y <;> simp [e], hbl⟩
      clear hR hGV hL hbl hrp hcp
      have b0 : (0 : Int) ≤ (y : Int) := by omega
      have b1 : (y : Int) < (n : Int) := by omega
      have b2 : (0 : Int) ≤ (p : Int) := by omega
      have b3 : (p : Int) < (n : Int) := by omega
      clear hyp
      go_wp2
      clear p0 hgl hgpl hsub hwr
      go_loopw [21] (fun i wr => ∃ (x : Nat), x ≤ wd ∧ i = .int .i64 x ∧ Hid (rat vs p = .slice (some ⟨gp, 0, none⟩) wd cp ∧ y = p + 1 ∧ ∃ L, GV wr w.heap.size g n n wd L vs ∧ (∀ i k, i < n → k < wd → at2 L i k = if i < y ∨ (i = y ∧ k < x) then dn R k i else at2 R i k) ∧ Below w.heap.size w wr)) (fun i _ => wd - (intOf i).toNat)
      case atStart => exact ⟨0, Nat.zero_le _, rfl, HR.out⟩
      case round =>
        clear HR
        obtain ⟨x, hx, rfl, hR⟩ := hrel
        by_cases hltx : x < wd
        · obtain ⟨hrp, hyp, L, hGV, hL, hbl⟩ := hR.out
          obtain ⟨g1, c1, r1, _, _, hgpl, _, _, _, hcp⟩ := hGV.at (show p < n by omega)
          rw [hrp] at r1
          injection r1 with e1 e2 e3
          injection e1 with e4
          injection e4 with e5
          subst e5
          obtain ⟨gy, cy, hry, py, hgl, hgyl, _, _, _, hcy⟩ := hGV.at hlt
          have d0 := (hcp x hltx).1
          have d1 := (hcy x hltx).1
          have d2 := (hcy x hltx).2
          have h1 := hL p x (by omega) hltx
          have h2 := hL y x hlt hltx
          rw [if_pos (by omega)] at h1
          rw [if_neg (by omega)] at h2
          obtain ⟨A, hA⟩ : ∃ A, A = at2 L p x := ⟨_, rfl⟩
          obtain ⟨D, hD⟩ : ∃ D, D = at2 L y x := ⟨_, rfl⟩
          rw [← hA] at d0 h1
          rw [← hD] at d1 h2
          have hAb := dn_bd HG.out.1 (i := p) (k := x) (by rw [← HG.out.2.1]; omega)
          rw [← h1] at hAb
          have hDb := HG.out.1.at y x
          have hD2 : D = (R.getD y []).getD x 0 := h2
          rw [← hD2] at hDb
          have hwr : IntKind.i64.wrap (D + A) = D + A := by rw [IntKind.wrap_i64]; omega
          have HD : Hid (D + A = dn R x y) := by unfold Hid; rw [hyp, dn, ← hyp, ← h2, ← h1]; omega
          have HS : Hid (rat vs p = .slice (some ⟨gp, 0, none⟩) wd cp ∧ y = p + 1 ∧ rat vs y = .slice (some ⟨gy, 0, none⟩) wd cy ∧ GV wr w.heap.size g n n wd L vs ∧ (∀ i k, i < n → k < wd → at2 L i k = if i < y ∨ (i = y ∧ k < x) then dn R k i else at2 R i k) ∧ Below w.heap.size w wr) := ⟨hrp, hyp, hry, hGV, hL, hbl⟩
          have HP : Hid (rat vs p = .slice (some ⟨gp, 0, none⟩) wd cp ∧ y = p + 1 ∧ ∃ L, GV (wr.setCell ⟨gy, x, none⟩ (.int .i64 (D + A))) w.heap.size g n n wd L vs ∧ (∀ i k, i < n → k < wd → at2 L i k = if i < y ∨ (i = y ∧ k < x + 1) then dn R k i else at2 R i k) ∧ Below w.heap.size w (wr.setCell ⟨gy, x, none⟩ (.int .i64 (D + A)))) := by
            refine ⟨hrp, hyp, set2 L y x (D + A), hGV.set hlt hry x (D + A), fun i k hi hk => ?_, hGV.bel hlt hry x (D + A) hbl⟩
            rw [at2_set2 hGV.sh hlt hltx]
            by_cases e : i = y ∧ k = x
            · rw [if_pos e, if_pos (by omega), e.1, e.2]; exact HD.out
            · rw [if_neg e, hL i k hi hk]
              by_cases e2 : i < y ∨ (i = y ∧ k < x)
              · rw [if_pos e2, if_pos (by omega)]
              · rw [if_neg e2, if_neg (by omega)]
          clear hR hrp hyp hGV hL hbl hcp hcy hry h1 h2 hA hD hAb hDb hD2 HD HS e2 e3
          have b4 : (0 : Int) ≤ (x : Int) := by omega
          have b5 : (x : Int) < (wd : Int) := by omega
          go_wp2
          go_roundw
          case rel => exact ⟨x + 1, by omega, by go_num, HP.out⟩
          case measure => simp [intOf]; omega
        · have HP : Hid (y + 1 = y + 1 ∧ ∃ L, GV wr w.heap.size g n n wd L vs ∧ (∀ i k, i < n → k < wd → at2 L i k = if i < y + 1 then dn R k i else at2 R i k) ∧ Below w.heap.size w wr) := by
            obtain ⟨_, _, L, h1, h2, h3⟩ := hR.out
            refine ⟨rfl, L, h1, fun i k hi hk => ?_, h3⟩
            rw [h2 i k hi hk]
            by_cases e : i < y + 1
            · rw [if_pos (by omega), if_pos e]
            · rw [if_neg (by omega), if_neg e]
          clear hR
          go_wp2
          go_roundw
          case rel => exact ⟨y + 1, y, by omega, by go_num, rfl, HP.out.2⟩
          case measure => simp [intOf]; omega
    · have HP : Hid (∃ L, GV wr w.heap.size g n n wd L vs ∧ ST n wd R L ∧ Below w.heap.size w wr) := by
        obtain ⟨L, h1, h2, h3⟩ := hR.out
        exact ⟨L, h1, HG.out.2.2.2 L h1.sh fun i k hi hk => by rw [h2 i k hi hk, if_pos (by omega)], h3⟩
      clear hR hyp hwr hsub
      go_wp2
      go_returns
      obtain ⟨L, h1, h2, h3⟩ := HP.out
      exact ⟨g, vs, L, rfl, h1, h2, h3⟩

set_option maxRecDepth 10000 in
set_option maxHeartbeats 12800000 in
theorem impl_dt {w : World} {v : Value} {ls : List (List Int)} (hn : SmR ls) (h : RdR w v ls) :
    Calls Try.prog 8 #[v] w fun e w' => ∃ v' vs, e = .returned (.agg #[.int .i64 (gfC ls 1000000), v']) ∧ RI w' w.heap.size v' (dtL ls) vs ∧ Below w.heap.size w w' := by
  obtain ⟨a, c, rfl⟩ := h.form
  obtain ⟨n, hnn⟩ : ∃ n, n = ls.length := ⟨_, rfl⟩
  obtain ⟨C, hC⟩ : ∃ C, C = gfC ls 1000000 := ⟨_, rfl⟩
  rw [← hnn] at h ⊢
  rw [← hC]
  have HF : Hid (∀ W, Below w.heap.size w W → Calls Try.prog 20 #[.slice a n c] W fun e w' => e = .returned (.int .i64 C) ∧ w' = W) := fun W hW => by rw [hC]; exact impl_gf hn (h.below hW)
  have H : Hid (RdR w (.slice a n c) ls ∧ n = ls.length ∧ C = gfC ls 1000000) := ⟨h, hnn, hC⟩
  clear h hn hC hnn
  have k2 := heap_alloc_new w (.cells #[.int .i64 0, .slice none 0 0] 25)
  obtain ⟨q0, q1, qf0, qf1, ql⟩ := two_of k2
  have HB : Hid (Below w.heap.size w (w.alloc (.cells #[.int .i64 0, .slice none 0 0] 25)) ∧ (w.alloc (.cells #[.int .i64 0, .slice none 0 0] 25)).heap[w.heap.size]? = some (.cells #[.int .i64 0, .slice none 0 0] 25) ∧ w.heap.size < (w.alloc (.cells #[.int .i64 0, .slice none 0 0] 25)).heap.size) := ⟨by (repeat' (first | (with_reducible exact Below.refl _ _) | (with_reducible assumption) | (with_reducible refine Below.setCell ?_ ?_ _) | (with_reducible refine Below.alloc ?_ ?_ _) | (with_reducible refine below_drewN ?_ _) | (with_reducible refine Below.drew ?_) | (with_reducible exact Nat.le_refl _) | omega | (simp; done) | (simp; omega))), k2, by simp⟩
  clear k2
  go_enter Try.func8, Try.ntmps8
  go_wp2_with (fail)
  refine (HF.out _ HB.out.1).mono ?_
  rintro e w1 ⟨rfl, rfl⟩
  clear HF
  obtain ⟨W0, hW0⟩ : ∃ W, W = w.alloc (.cells #[.int .i64 0, .slice none 0 0] 25) := ⟨_, rfl⟩
  rw [← hW0] at HB q0 q1 qf0 qf1 ql ⊢
  clear hW0
  by_cases hA0 : C = 0
  case neg =>
    have HV : Hid (dtL ls = []) := dtL_nil (by rw [← H.out.2.2]; exact hA0)
    have hA1 : (C != 0) = true := by simpa using hA0
    go_wp2
    try simp only [Exit.inBlock, Exit.then]
    refine bodyPost_ret (by simp [results, Try.results8, go_sem, q0, q1, ql]; try rfl) rfl ⟨.slice none 0 0, [], rfl, ?_, ?_⟩
    · rw [HV.out]; exact RI.nil _ _
    · have hB := HB.out.1
      (repeat' (first | (with_reducible exact Below.refl _ _) | (with_reducible assumption) | (with_reducible refine Below.setCell ?_ ?_ _) | (with_reducible refine Below.alloc ?_ ?_ _) | (with_reducible refine below_drewN ?_ _) | (with_reducible refine Below.drew ?_) | (with_reducible exact Nat.le_refl _) | omega | (simp; done) | (simp; omega)))
  have hG := gfC_good (H.out.2.2.symm.trans hA0)
  obtain ⟨wd, hwd⟩ : ∃ n, n = (ls.getD 0 []).length := ⟨_, rfl⟩
  have HG : Hid (GG 1000000 ls ∧ n = ls.length ∧ Sh n wd ls ∧ RdR W0 (.slice a n c) ls ∧ (∀ T, Sh n wd T → Rest n wd ls T → Low n wd ls T → dtL ls = T) ∧ (∀ i k, i < n → k < wd → 0 ≤ at2 ls i k ∧ at2 ls i k ≤ 1000000)) :=
    ⟨hG, H.out.2.1, by rw [H.out.2.1, hwd]; exact hG.sh, H.out.1.below HB.out.1, by rw [H.out.2.1, hwd]; exact fun T h1 h2 h3 => dtL_is (H.out.2.2.symm.trans hA0) h1 h2 h3, fun i k hi hk => by
      have h1 := hG.at i k
      refine ⟨h1.1, ?_⟩
      rcases h1.2 with h2 | h2
      · exact h2
      · show (ls.getD i []).getD k 0 ≤ 1000000; omega⟩
  have hn16 : n ≤ 16 := by rw [H.out.2.1]; exact hG.h1
  have hn0 : 0 < n := by rw [H.out.2.1]; exact hG.h0
  have hw16 : wd ≤ 16 := by rw [hwd]; exact hG.w1
  have hw0 : 0 < wd := by rw [hwd]; exact hG.w0
  have HD : Hid (Calls Try.prog 21 #[.slice a n c] W0 fun e w' => ∃ g vs L, e = .returned (.slice (some ⟨g, 0, none⟩) n n) ∧ GV w' W0.heap.size g n n wd L vs ∧ ST n wd ls L ∧ Below W0.heap.size W0 w') := by
    have := impl_down hG HG.out.2.2.2.1
    rw [← H.out.2.1, ← hwd] at this
    exact this
  clear H hG hwd
  subst hA0
  go_wp2_with (fail)
  refine HD.out.mono ?_
  rintro e w2 ⟨g, vs, L, rfl, hgv, hst, hb2⟩
  have HS : Hid (∃ S, GV w2 W0.heap.size g n n wd S vs ∧ ST n wd ls S ∧ (true = false → Rest n wd ls S ∧ Low n wd ls S) ∧ Below W0.heap.size W0 w2) := ⟨L, hgv, hst, fun e => (by cases e), hb2⟩
  clear HD hgv hst hb2 q0 q1 qf0 qf1 ql
  go_wp2
  go_loopw [5] (fun q wr => ∃ so : Bool, q = .bool so ∧ Hid (∃ S, GV wr W0.heap.size g n n wd S vs ∧ ST n wd ls S ∧ (so = false → Rest n wd ls S ∧ Low n wd ls S) ∧ Below W0.heap.size W0 wr)) (fun q wr => 2 * (allS wd (gvS wr W0.heap.size g n n wd vs) n).toNat + flagOf q)
  case atStart => exact ⟨true, rfl, HS.out⟩
  case round =>
    clear HS
    obtain ⟨so, rfl, hR⟩ := hrel
    cases so with
    | true =>
      obtain ⟨S, hgv, hst, _, hbl⟩ := hR.out
      have HC : Hid (Calls Try.prog 22 #[.slice (some ⟨g, 0, none⟩) n n, .slice a n c] wr fun e w' => ∃ so S', e = .returned (.bool so) ∧ GV w' W0.heap.size g n n wd S' vs ∧ RD n wd ls S S' so ∧ Below W0.heap.size wr w') :=
        impl_shorten hn16 hw16 hn0 hbl.size hgv hst HG.out.2.2.2.2.2 HG.out.2.2.1 (fun W hW => HG.out.2.2.2.1.below (hbl.trans hW))
      have HT : Hid (GV wr W0.heap.size g n n wd S vs ∧ ST n wd ls S ∧ Below W0.heap.size W0 wr) := ⟨hgv, hst, hbl⟩
      clear hR hgv hst hbl
      go_wp2_with (fail)
      refine HC.out.mono ?_
      rintro e w3 ⟨so, S', rfl, hgv, hrd, hb3⟩
      have HP : Hid (∃ S, GV w3 W0.heap.size g n n wd S vs ∧ ST n wd ls S ∧ (so = false → Rest n wd ls S ∧ Low n wd ls S) ∧ Below W0.heap.size W0 w3) := ⟨S', hgv, HT.out.2.1.next hrd.rl hn0, fun e => by subst e; exact HT.out.2.1.rest hrd hn0, HT.out.2.2.trans hb3⟩
      have HM : Hid (2 * (allS wd (gvS w3 W0.heap.size g n n wd vs) n).toNat + flagOf (.bool so) < 2 * (allS wd (gvS wr W0.heap.size g n n wd vs) n).toNat + flagOf (.bool true)) := by
        unfold Hid
        rw [hgv.is, HT.out.1.is]
        have h1 := allS_le n hrd.rl.le
        have h2 := allS_nn n hrd.rl.nn
        cases so with
        | true =>
          have h3 := allS_lt n hrd.rl.le (hrd.rl.st rfl)
          simp only [flagOf]; omega
        | false => simp only [flagOf]; omega
      clear HC HT hgv hrd hb3
      go_wp2
      go_roundw
      case rel => exact ⟨so, rfl, HP.out⟩
      case measure => exact HM.out
    | false =>
      have HP : Hid (RI wr W0.heap.size (.slice (some ⟨g, 0, none⟩) n n) (dtL ls) vs ∧ Below w.heap.size w wr ∧ wr.heap[w.heap.size]? = some (.cells #[.int .i64 0, .slice none 0 0] 25) ∧ w.heap.size < W0.heap.size) := by
        obtain ⟨S, h1, h2, h3, h4⟩ := hR.out
        refine ⟨?_, HB.out.1.trans (h4.mono HB.out.1.size), (h4.block _ HB.out.2.2).trans HB.out.2.1, HB.out.2.2⟩
        rw [HG.out.2.2.2.2.1 S h1.sh (h3 rfl).1 (h3 rfl).2]
        exact h1.ri
      obtain ⟨q0, q1, qf0, qf1, ql⟩ := two_of HP.out.2.2.1
      clear hR
      go_wp2
      try simp only [Exit.inBlock, Exit.then]
      refine bodyPost_ret (by simp [results, Try.results8, go_sem, q0, q1, ql]; try rfl) rfl ⟨.slice (some ⟨g, 0, none⟩) n n, vs, rfl, ?_, ?_⟩
      · have hs := HP.out.2.2.2
        refine RI.low (B := W0.heap.size) ?_ (by omega)
        repeat' (refine ri_result (w := w) ?_ (by omega) _ _)
        exact HP.out.1
      · have hB := HP.out.2.1
        (repeat' (first | (with_reducible exact Below.refl _ _) | (with_reducible assumption) | (with_reducible refine Below.setCell ?_ ?_ _) | (with_reducible refine Below.alloc ?_ ?_ _) | (with_reducible refine below_drewN ?_ _) | (with_reducible refine Below.drew ?_) | (with_reducible exact Nat.le_refl _) | omega | (simp; done) | (simp; omega)))

end Go.Proofs.Ytpbkoigdfjajkaa
