/- Proved here: the least times, of the model. -/
import Derived.Test.YtpbkoigdfjajkaaBsS
import Derived.Test.YtpbkoigdfjajkaaCpS
import Derived.Test.YtpbkoigdfjajkaaGfS
import Derived.Test.YtpbkoigdfjajkaaDtK
import Derived.Test.YtpbkoigdfjajkaaDtN
import Derived.Test.YtpbkoigdfjajkaaReg
namespace Go.Proofs.Ytpbkoigdfjajkaa
open Go.RowKit
set_option linter.unusedVariables false
set_option linter.unusedSimpArgs false

set_option maxRecDepth 10000 in
set_option maxHeartbeats 25600000 in
theorem spec_times {w : World} {v : Value} {ls : List (List Int)} (h0 : gfC ls 1000000 = 0) (h : RdR w v ls) :
    Calls Try.prog 18 #[v] w fun e w' => ∃ v' vs, e = .returned v' ∧ RI w' w.heap.size v' (dtL ls) vs ∧ Below w.heap.size w w' := by
  obtain ⟨a, c, rfl⟩ := h.form
  have hG := gfC_good h0
  obtain ⟨n, hnn⟩ : ∃ n, n = ls.length := ⟨_, rfl⟩
  obtain ⟨wd, hwd⟩ : ∃ n, n = (ls.getD 0 []).length := ⟨_, rfl⟩
  rw [← hnn] at h ⊢
  have HG : Hid (GG 1000000 ls ∧ n = ls.length ∧ Sh n wd ls ∧ RdR w (.slice a n c) ls ∧ (∀ T, Sh n wd T → Rest n wd ls T → Low n wd ls T → dtL ls = T) ∧ (∀ i k, i < n → k < wd → 0 ≤ at2 ls i k ∧ at2 ls i k ≤ 1000000)) :=
    ⟨hG, hnn, by rw [hnn, hwd]; exact hG.sh, h, by rw [hnn, hwd]; exact fun T h1 h2 h3 => dtL_is h0 h1 h2 h3, fun i k hi hk => by
      have h1 := hG.at i k
      refine ⟨h1.1, ?_⟩
      rcases h1.2 with h2 | h2
      · exact h2
      · show (ls.getD i []).getD k 0 ≤ 1000000; omega⟩
  have hn16 : n ≤ 16 := by rw [hnn]; exact hG.h1
  have hn0 : 0 < n := by rw [hnn]; exact hG.h0
  have hw16 : wd ≤ 16 := by rw [hwd]; exact hG.w1
  have hw0 : 0 < wd := by rw [hwd]; exact hG.w0
  have HCP : Hid (Calls Try.prog 27 #[.slice a n c] w fun e w' => ∃ v' vs, e = .returned v' ∧ RI w' w.heap.size v' ls vs ∧ Below w.heap.size w w') := spec_copy hG h
  obtain ⟨nb, hnb⟩ : ∃ nb : Nat → Nat → List (Int × Int), nb = fun (i k : Nat) => nbS n wd i k := ⟨_, rfl⟩
  have HNB : Hid (nb = fun (i k : Nat) => nbS n wd i k) := hnb
  clear h hG hnn hwd h0 hnb
  go_enter Try.func18, Try.ntmps18
  go_wp2_with (fail)
  refine HCP.out.mono ?_
  rintro e w2 ⟨v2, vs, rfl, hri, hb2⟩
  obtain ⟨g, oc, rfl, _, _, _⟩ := hri.pos (by rw [← HG.out.2.1]; exact hn0)
  rw [← HG.out.2.1] at hri ⊢
  have HS : Hid (∃ L, GV w2 w.heap.size g n oc wd L vs ∧ (∀ i k, i < n → k < wd → at2 L i k = if 1 ≤ i ∧ i < 1 then 1152921504606846976 else at2 ls i k) ∧ Below w.heap.size w w2) := ⟨ls, ⟨hri, HG.out.2.2.1, hw0⟩, fun i k _ _ => by rw [if_neg (by omega)], hb2⟩
  clear hri hb2 HCP
  go_wp2
  go_loopw [5] (fun i wr => ∃ (y : Nat), 1 ≤ y ∧ (y ≤ n ∨ y = 1) ∧ i = .int .i64 y ∧ Hid (∃ L, GV wr w.heap.size g n oc wd L vs ∧ (∀ i k, i < n → k < wd → at2 L i k = if 1 ≤ i ∧ i < y then 1152921504606846976 else at2 ls i k) ∧ Below w.heap.size w wr)) (fun i _ => n - (intOf i).toNat)
  case atStart => exact ⟨1, by omega, Or.inr rfl, rfl, HS.out⟩
  case round =>
    clear HS
    obtain ⟨y, hy1, hy, rfl, hR⟩ := hrel
    by_cases hlt : y < n
    · have HR : Hid (∃ L, GV wr w.heap.size g n oc wd L vs ∧ (∀ i k, i < n → k < wd → at2 L i k = if (1 ≤ i ∧ i < y) ∨ (i = y ∧ k < 0) then 1152921504606846976 else at2 ls i k) ∧ Below w.heap.size w wr) := by
        obtain ⟨L, hGV, hL, hbl⟩ := hR.out
        exact ⟨L, hGV, fun i k hi hk => by rw [hL i k hi hk]; by_cases e : 1 ≤ i ∧ i < y <;> simp [e], hbl⟩
      clear hR
      have b0 : (0 : Int) ≤ (y : Int) := by omega
      have b1 : (y : Int) < (n : Int) := by omega
      go_wp2
      go_loopw [6] (fun i wr => ∃ (x : Nat), x ≤ wd ∧ i = .int .i64 x ∧ Hid (∃ L, GV wr w.heap.size g n oc wd L vs ∧ (∀ i k, i < n → k < wd → at2 L i k = if (1 ≤ i ∧ i < y) ∨ (i = y ∧ k < x) then 1152921504606846976 else at2 ls i k) ∧ Below w.heap.size w wr)) (fun i _ => wd - (intOf i).toNat)
      case atStart => exact ⟨0, Nat.zero_le _, rfl, HR.out⟩
      case round =>
        clear HR
        obtain ⟨x, hx, rfl, hR⟩ := hrel
        obtain ⟨L, hGV, hL, hbl⟩ := hR.out
        obtain ⟨gy, cy, hry, c0, hgl, hgyl, hBy, hBg, hne, hcy⟩ := hGV.at hlt
        by_cases hltx : x < wd
        · obtain ⟨d1, d2⟩ := hcy x hltx
          have HP : Hid (∃ L, GV (wr.setCell ⟨gy, x, none⟩ (.int .i64 1152921504606846976)) w.heap.size g n oc wd L vs ∧ (∀ i k, i < n → k < wd → at2 L i k = if (1 ≤ i ∧ i < y) ∨ (i = y ∧ k < x + 1) then 1152921504606846976 else at2 ls i k) ∧ Below w.heap.size w (wr.setCell ⟨gy, x, none⟩ (.int .i64 1152921504606846976))) := by
            refine ⟨set2 L y x 1152921504606846976, hGV.set hlt hry x _, fun i k hi hk => ?_, hGV.bel hlt hry x _ hbl⟩
            rw [at2_set2 hGV.sh hlt hltx]
            by_cases e : i = y ∧ k = x
            · rw [if_pos e, if_pos (by omega)]
            · rw [if_neg e, hL i k hi hk]
              by_cases e2 : (1 ≤ i ∧ i < y) ∨ (i = y ∧ k < x)
              · rw [if_pos e2, if_pos (by omega)]
              · rw [if_neg e2, if_neg (by omega)]
          generalize at2 L y x = old at d1
          clear hR hGV hL hbl hry hBy hBg hne hcy
          have b2 : (0 : Int) ≤ (x : Int) := by omega
          have b3 : (x : Int) < (wd : Int) := by omega
          go_wp2
          go_roundw
          case rel => exact ⟨x + 1, by omega, by go_num, HP.out⟩
          case measure => simp [intOf]; omega
        · have HP : Hid (∃ L, GV wr w.heap.size g n oc wd L vs ∧ (∀ i k, i < n → k < wd → at2 L i k = if 1 ≤ i ∧ i < y + 1 then 1152921504606846976 else at2 ls i k) ∧ Below w.heap.size w wr) := by
            refine ⟨L, hGV, fun i k hi hk => ?_, hbl⟩
            rw [hL i k hi hk]
            by_cases e : 1 ≤ i ∧ i < y + 1
            · rw [if_pos (by omega), if_pos e]
            · rw [if_neg (by omega), if_neg e]
          clear hR hGV hL hbl hry hBy hBg hne hcy
          go_wp2
          go_roundw
          case rel => exact ⟨y + 1, by omega, by omega, by go_num, HP.out⟩
          case measure => simp [intOf]; omega
    · have HS : Hid (∃ S, GV wr w.heap.size g n oc wd S vs ∧ ST n wd ls S ∧ (true = false → Rest n wd ls S ∧ Low n wd ls S) ∧ Below w.heap.size w wr) := by
        obtain ⟨L, h1, h2, h3⟩ := hR.out
        exact ⟨L, h1, far_st HG.out.2.2.2.2.2 hn0 hn16 (fun i k hi hk => by
          rw [h2 i k hi hk]
          by_cases e : 1 ≤ i
          · rw [if_pos ⟨e, by omega⟩, if_pos e]
          · rw [if_neg (fun q => e q.1), if_neg e]), fun e => (by cases e), h3⟩
      clear hR
      go_wp2
      go_loopw [7] (fun q wr => ∃ so : Bool, q = .bool so ∧ Hid (∃ S, GV wr w.heap.size g n oc wd S vs ∧ ST n wd ls S ∧ (so = false → Rest n wd ls S ∧ Low n wd ls S) ∧ Below w.heap.size w wr)) (fun q wr => 2 * (allS wd (gvS wr w.heap.size g n oc wd vs) n).toNat + flagOf q)
      case atStart => exact ⟨true, rfl, HS.out⟩
      case round =>
        clear HS
        obtain ⟨so, rfl, hR⟩ := hrel
        cases so with
        | true =>
          obtain ⟨S0, hgv, hst, _, hbl⟩ := hR.out
          have HT : Hid (GV wr w.heap.size g n oc wd S0 vs ∧ ST n wd ls S0 ∧ Below w.heap.size w wr) := ⟨hgv, hst, hbl⟩
          clear hR hgv hst hbl
          obtain ⟨Wr, hWr⟩ : ∃ x, x = wr := ⟨_, rfl⟩
          subst hWr
          go_wp2
          go_loopw [7, 8] (fun q i wr => ∃ (y : Nat) (so : Bool), y ≤ n ∧ i = .int .i64 y ∧ q = .bool so ∧ Hid (∃ S, GV wr w.heap.size g n oc wd S vs ∧ RL n wd ls S0 S so ∧ (so = false → Seen n wd ls S nb y 0 0) ∧ Below w.heap.size w wr)) (fun _ i _ => n - (intOf i).toNat)
          case atStart => exact ⟨0, false, Nat.zero_le _, rfl, rfl, S0, HT.out.1, RL.start HT.out.2.1.nn, fun _ => Seen.zero, HT.out.2.2⟩
          case round =>
            obtain ⟨y, so, hy, rfl, rfl, hR⟩ := hrel
            by_cases hlt : y < n
            · have HS : Hid (∃ S, GV wr w.heap.size g n oc wd S vs ∧ RL n wd ls S0 S so ∧ (so = false → Seen n wd ls S nb y 0 0) ∧ Below w.heap.size w wr) := hR.out
              clear hR
              have b0 : (0 : Int) ≤ (y : Int) := by omega
              have b1 : (y : Int) < (n : Int) := by omega
              go_wp2
              go_loopw [7, 9] (fun q i wr => ∃ (x : Nat) (so : Bool), x ≤ wd ∧ i = .int .i64 x ∧ q = .bool so ∧ Hid (∃ S, GV wr w.heap.size g n oc wd S vs ∧ RL n wd ls S0 S so ∧ (so = false → Seen n wd ls S nb y x 0) ∧ Below w.heap.size w wr)) (fun _ i _ => wd - (intOf i).toNat)
              case atStart => exact ⟨0, so, Nat.zero_le _, rfl, rfl, HS.out⟩
              case round =>
                clear HS
                obtain ⟨x, so, hx, rfl, rfl, hR⟩ := hrel
                obtain ⟨S, hGV, hRL, hSe, hbl⟩ := hR.out
                obtain ⟨gy, cy, hry, c0, hgl, hgyl, hBy, hBg, hne, hcy⟩ := hGV.at hlt
                by_cases hltx : x < wd
                · have HS : Hid (GV wr w.heap.size g n oc wd S vs ∧ RL n wd ls S0 S so ∧ (so = false → Seen n wd ls S nb y x 0) ∧ Below w.heap.size w wr) := ⟨hGV, hRL, hSe, hbl⟩
                  have HRY : Hid (rat vs y = .slice (some ⟨gy, 0, none⟩) wd cy ∧ w.heap.size ≤ gy) := ⟨hry, hBy⟩
                  have HC : Hid (Calls Try.prog 28 #[.slice (some ⟨g, 0, none⟩) n oc, .int .i64 y, .int .i64 x] wr fun e w' => ∃ v', e = .returned v' ∧ OG 42 2 bsE w' wr.heap.size v' (nb y x) ∧ Below wr.heap.size wr w') := by
                    unfold Hid
                    rw [HNB.out]
                    exact spec_beside hn16 hw16 hlt hltx hGV.sh hGV.ri.rd
                  have hgyz' : gy < wr.heap.size := hgyl
                  clear hGV hRL hSe hbl hR hcy hry hBy hBg hne
                  have b2 : (0 : Int) ≤ (x : Int) := by omega
                  have b3 : (x : Int) < (wd : Int) := by omega
                  go_wp2_with (fail)
                  refine HC.out.mono ?_
                  rintro e w3 ⟨v3, rfl, hog, hb3⟩
                  clear c0 hgl hgyl
                  obtain ⟨la, lc, rfl⟩ := og_form hog
                  obtain ⟨m, hm⟩ : ∃ m, m = (nb y x).length := ⟨_, rfl⟩
                  rw [← hm] at hog ⊢
                  have HL : Hid (m = (nb y x).length ∧ m ≤ 4) := ⟨hm, by rw [hm, HNB.out]; exact nbS_len _ _ _ _⟩
                  have HI : Hid (OG 42 2 bsE w3 wr.heap.size (.slice la m lc) (nb y x) ∧ ∃ S, GV w3 w.heap.size g n oc wd S vs ∧ RL n wd ls S0 S so ∧ (so = false → Seen n wd ls S nb y x 0) ∧ Below w.heap.size w w3) := ⟨hog, S, HS.out.1.below hb3, HS.out.2.1, HS.out.2.2.1, HS.out.2.2.2.trans (hb3.mono HS.out.2.2.2.size)⟩
                  have hm4 : m ≤ 4 := HL.out.2
                  obtain ⟨wz, hwz⟩ : ∃ n, n = wr.heap.size := ⟨_, rfl⟩
                  have hgyz : gy < wz := by rw [hwz]; exact hgyz'
                  rw [← hwz] at HI
                  clear HC hog hb3 hm HS hwz hgyz'
                  go_wp2
                  go_loopw [7, 11] (fun q i wr => ∃ (t : Nat) (so : Bool), t ≤ m ∧ i = .int .i64 t ∧ q = .bool so ∧ Hid (OG 42 2 bsE wr wz (.slice la m lc) (nb y x) ∧ ∃ S, GV wr w.heap.size g n oc wd S vs ∧ RL n wd ls S0 S so ∧ (so = false → Seen n wd ls S nb y x t) ∧ Below w.heap.size w wr)) (fun _ i _ => m - (intOf i).toNat)
                  case atStart => exact ⟨0, so, Nat.zero_le _, rfl, rfl, HI.out⟩
                  case round =>
                    clear HI
                    obtain ⟨t, so, ht, rfl, rfl, hR⟩ := hrel
                    by_cases hltt : t < m
                    · obtain ⟨hog, S, hGV, hRL, hSe, hbl⟩ := hR.out
                      obtain ⟨j, mm, hjm, hj, hmm, hadj⟩ := nbS_get (n := n) (W := wd) hlt hltx (q := t) (by have := HL.out.1; rw [HNB.out] at this; show t < (nbS n wd y x).length; rw [← this]; exact hltt)
                      obtain ⟨lg, lo, rfl, hlg, l0, l1⟩ := bs_at (OG.rg bsE_len hog) hltt
                      have hjm' : (nb y x).getD t (0, 0) = ((j : Int), (mm : Int)) := by rw [HNB.out]; exact hjm
                      rw [hjm'] at l0 l1
                      simp only at l0 l1
                      have HS : Hid (OG 42 2 bsE wr wz (.slice (some ⟨lg, lo, none⟩) m lc) (nb y x) ∧ GV wr w.heap.size g n oc wd S vs ∧ RL n wd ls S0 S so ∧ (so = false → Seen n wd ls S nb y x t) ∧ Below w.heap.size w wr ∧ (nb y x).getD t (0, 0) = ((j : Int), (mm : Int)) ∧ Adj y x j mm) := ⟨hog, hGV, hRL, hSe, hbl, hjm', hadj⟩
                      clear hog hGV hRL hSe hbl hjm hjm' hadj hR
                      have b4 : (0 : Int) ≤ (t : Int) := by omega
                      have b5 : (t : Int) < (m : Int) := by omega
                      obtain ⟨gj, cj, hrj, p0, hgl, hgjl, _, _, _, hcj⟩ := HS.out.2.1.at hj
                      obtain ⟨g1, c1, r1, py, _, hgyl, _, _, _, hcy⟩ := HS.out.2.1.at hlt
                      rw [HRY.out.1] at r1
                      injection r1 with e1 e2 e3
                      injection e1 with e4
                      injection e4 with e5
                      subst e5 e3
                      obtain ⟨rg, ro, sa, sn, sc, rfl, hrg, q0, hsn, hsd⟩ := (HG.out.2.2.2.1.below HS.out.2.2.2.2.1).at hlt
                      rw [HG.out.2.2.1.wd y hlt] at hsn
                      subst hsn
                      obtain ⟨sg, so2, rfl, hsg, q1⟩ := rd_at hsd hltx
                      have p1 := (hcj mm hmm).1
                      have py1 := (hcy x hltx).1
                      have pyf := (hcy x hltx).2
                      obtain ⟨A, hA⟩ : ∃ A, A = at2 S j mm := ⟨_, rfl⟩
                      obtain ⟨D, hD⟩ : ∃ D, D = (ls.getD y []).getD x 0 := ⟨_, rfl⟩
                      obtain ⟨E, hE⟩ : ∃ E, E = at2 S y x := ⟨_, rfl⟩
                      rw [← hA] at p1
                      rw [← hD] at q1
                      rw [← hE] at py1
                      have hAb : 0 ≤ A ∧ A ≤ 1152921504606846976 := by rw [hA]; exact ⟨HS.out.2.2.1.nn j mm hj hmm, Int.le_trans (HS.out.2.2.1.le j mm hj hmm) (HT.out.2.1.bd j mm hj hmm)⟩
                      have hDb : 0 ≤ D ∧ D ≤ 1000000 := by rw [hD]; exact HG.out.2.2.2.2.2 y x hlt hltx
                      have HD : Hid (A = at2 S j mm ∧ D = at2 ls y x ∧ E = at2 S y x ∧ 0 ≤ D) := ⟨hA, hD, hE, hDb.1⟩
                      have hwr : IntKind.i64.wrap (A + D) = A + D := by rw [IntKind.wrap_i64]; omega
                      have c4 : (0 : Int) ≤ (j : Int) := by omega
                      have c5 : (j : Int) < (n : Int) := by omega
                      have c6 : (0 : Int) ≤ (mm : Int) := by omega
                      have c7 : (mm : Int) < (sn : Int) := by omega
                      clear hsd hcj hcy hA hD hE hrj e2
                      go_wp2_with (fail)
                      (refine wp_region_und (by kernel_rfl) (by kernel_rfl) (fun hund => ?_); (repeat (go_big_quiet_step (fail))); with_reducible refine wpQuiet_nil ?_; clear hund; intro W1 hb1; obtain ⟨hc1, hf1⟩ := undcell hb1)
                      have HW : Hid (OG 42 2 bsE W1 wz (.slice (some ⟨lg, lo, none⟩) m lc) (nb y x) ∧ GV W1 w.heap.size g n oc sn S vs ∧ Below w.heap.size w W1) := ⟨OG.below HS.out.1 hb1, HS.out.2.1.below hb1, HS.out.2.2.2.2.1.trans (hb1.mono HS.out.2.2.2.2.1.size)⟩
                      have py0 := (hb1.cell (p := ⟨g, y, none⟩) hgl).trans py
                      have py2 := (hb1.cell (p := ⟨gy, x, none⟩) hgyl).trans py1
                      have pyf2 := (hb1.frozen (p := ⟨gy, x, none⟩) hgyl).trans pyf
                      have hgyl2 : gy < W1.heap.size := Nat.lt_of_lt_of_le hgyl hb1.size
                      have hgl2 : g < W1.heap.size := Nat.lt_of_lt_of_le hgl hb1.size
                      clear hb1 hc1 hf1 p0 p1 q0 q1 py py1 pyf hgl hgjl hrg hsg hgyl l0 l1 hlg
                      by_cases hth : A + D < E
                      · have HP : Hid (OG 42 2 bsE (W1.setCell ⟨gy, x, none⟩ (.int .i64 (A + D))) wz (.slice (some ⟨lg, lo, none⟩) m lc) (nb y x) ∧ ∃ S, GV (W1.setCell ⟨gy, x, none⟩ (.int .i64 (A + D))) w.heap.size g n oc sn S vs ∧ RL n sn ls S0 S true ∧ (true = false → Seen n sn ls S nb y x (t + 1)) ∧ Below w.heap.size w (W1.setCell ⟨gy, x, none⟩ (.int .i64 (A + D)))) := by
                          refine ⟨?_, set2 S y x (A + D), HW.out.2.1.set hlt HRY.out.1 x (A + D), ?_, fun e => (by cases e), HW.out.2.1.bel hlt HRY.out.1 x (A + D) HW.out.2.2⟩
                          · exact ownsRow_keep HW.out.1 fun q hq => heap_setCell_other _ _ _ _ (by have := (World.ownsRow.lt HW.out.1 q hq).1; intro e; simp at e; omega)
                          · rw [HD.out.1, HD.out.2.1]
                            exact HS.out.2.2.1.turn HW.out.2.1.sh hlt hltx hj hmm HS.out.2.2.2.2.2.2 (by rw [← HD.out.2.1]; exact HD.out.2.2.2) (by rw [← HD.out.1, ← HD.out.2.1, ← HD.out.2.2.1]; exact hth)
                        clear HS HW HD
                        go_wp2
                        go_roundw
                        case rel => exact ⟨t + 1, true, by omega, by go_num, rfl, HP.out⟩
                        case measure => simp [intOf]; omega
                      · have HP : Hid (OG 42 2 bsE W1 wz (.slice (some ⟨lg, lo, none⟩) m lc) (nb y x) ∧ ∃ S, GV W1 w.heap.size g n oc sn S vs ∧ RL n sn ls S0 S so ∧ (so = false → Seen n sn ls S nb y x (t + 1)) ∧ Below w.heap.size w W1) := by
                          refine ⟨HW.out.1, S, HW.out.2.1, HS.out.2.2.1, fun e => (HS.out.2.2.2.1 e).one ?_, HW.out.2.2⟩
                          rw [HS.out.2.2.2.2.2.1]
                          simp only [Int.toNat_natCast]
                          rw [← HD.out.1, ← HD.out.2.1, ← HD.out.2.2.1]
                          omega
                        clear HS HW HD
                        go_wp2
                        go_roundw
                        case rel => exact ⟨t + 1, so, by omega, by go_num, rfl, HP.out⟩
                        case measure => simp [intOf]; omega
                    · have HP : Hid (∃ S, GV wr w.heap.size g n oc wd S vs ∧ RL n wd ls S0 S so ∧ (so = false → Seen n wd ls S nb y (x + 1) 0) ∧ Below w.heap.size w wr) := by
                        obtain ⟨_, S, h1, h2, h3, h4⟩ := hR.out
                        exact ⟨S, h1, h2, fun e => (h3 e).place (by have := HL.out.1; omega), h4⟩
                      clear hR
                      go_wp2
                      go_roundw
                      case rel => exact ⟨x + 1, so, by omega, by go_num, rfl, HP.out⟩
                      case measure => simp [intOf]; omega
                · have HP : Hid (∃ S, GV wr w.heap.size g n oc wd S vs ∧ RL n wd ls S0 S so ∧ (so = false → Seen n wd ls S nb (y + 1) 0 0) ∧ Below w.heap.size w wr) := ⟨S, hGV, hRL, fun e => Seen.row (by have := hSe e; rw [show x = wd by omega] at this; exact this), hbl⟩
                  clear hR hGV hRL hSe hbl hry hBy hBg hne hcy
                  go_wp2
                  go_roundw
                  case rel => exact ⟨y + 1, so, by omega, by go_num, rfl, HP.out⟩
                  case measure => simp [intOf]; omega
            · have HP : Hid (∃ S, GV wr w.heap.size g n oc wd S vs ∧ ST n wd ls S ∧ (so = false → Rest n wd ls S ∧ Low n wd ls S) ∧ Below w.heap.size w wr) ∧ Hid (2 * (allS wd (gvS wr w.heap.size g n oc wd vs) n).toNat + flagOf (.bool so) < 2 * (allS wd (gvS Wr w.heap.size g n oc wd vs) n).toNat + flagOf (.bool true)) := by
                obtain ⟨S, h1, h2, h3, h4⟩ := hR.out
                have hrd : RD n wd ls S0 S so := ⟨h2, fun e => by
                  have := h3 e
                  rw [show y = n by omega] at this
                  exact this.rest fun i k hi hk p => by rw [HNB.out]; exact nbS_mem (by omega) (by omega) (by omega) (by omega) p⟩
                refine ⟨⟨S, h1, HT.out.2.1.next h2 hn0, fun e => by subst e; exact HT.out.2.1.rest hrd hn0, h4⟩, ?_⟩
                unfold Hid
                rw [h1.is, HT.out.1.is]
                have q1 := allS_le n h2.le
                have q2 := allS_nn n h2.nn
                cases so with
                | true =>
                  have q3 := allS_lt n h2.le (h2.st rfl)
                  simp only [flagOf]; omega
                | false => simp only [flagOf]; omega
              obtain ⟨HP, HM⟩ := HP
              clear hR
              go_wp2
              go_roundw
              case rel => exact ⟨so, rfl, HP.out⟩
              case measure => exact HM.out
        | false =>
          have HP : Hid (RI wr w.heap.size (.slice (some ⟨g, 0, none⟩) n oc) (dtL ls) vs ∧ Below w.heap.size w wr) := by
            obtain ⟨S, h1, h2, h3, h4⟩ := hR.out
            refine ⟨?_, h4⟩
            rw [HG.out.2.2.2.2.1 S h1.sh (h3 rfl).1 (h3 rfl).2]
            exact h1.ri
          clear hR
          go_wp2
          go_returns
          exact ⟨_, vs, rfl, HP.out.1, HP.out.2⟩

end Go.Proofs.Ytpbkoigdfjajkaa
