/- Proved here: a round that shortens times, of the program. -/
import Derived.Test.YtpbkoigdfjajkaaBsI
import Derived.Test.YtpbkoigdfjajkaaDtM
import Derived.Test.YtpbkoigdfjajkaaDtN
namespace Go.Proofs.Ytpbkoigdfjajkaa
open Go.RowKit
set_option linter.unusedVariables false
set_option linter.unusedSimpArgs false

/-- A place of the list that is beside. -/
theorem nbI_get {n W i k q : Nat} (hi : i < n) (hk : k < W) (hq : q < (nbI n W i k).length) : ∃ j m : Nat, (nbI n W i k).getD q (0, 0) = ((j : Int), (m : Int)) ∧ j < n ∧ m < W ∧ Adj i k j m := by
  rw [getD_lt hq]
  exact Nb.adj ((nbI_mem (by omega) (by omega) (by omega) (by omega) _).1 (List.getElem_mem hq))
theorem pt_at {w : World} {a : Option Addr} {n c : Nat} {s : List (Int × Int)} (h : RG 2 ptE w (.slice a n c) s) {q : Nat} (hq : q < n) : ∃ g o, a = some ⟨g, o, none⟩ ∧ g < w.heap.size ∧ w.cell? ⟨g, o + q * 2, none⟩ = some (.int .i64 (s.getD q (0, 0)).2) ∧ w.cell? ⟨g, o + q * 2 + 1, none⟩ = some (.int .i64 (s.getD q (0, 0)).1) := by
  have hn : n = s.length := h.len
  obtain ⟨g, o, c2, he, hg, hx⟩ := h.pos (by omega)
  injection he with he1 he2 he3
  subst he1
  have h0 := hx q (by omega) 0 (by omega)
  have h1 := hx q (by omega) 1 (by omega)
  rw [Nat.add_zero] at h0
  rw [getD_lt (show q < s.length by omega)]
  exact ⟨g, o, rfl, hg, h0, h1⟩

set_option maxRecDepth 10000 in
set_option maxHeartbeats 25600000 in
theorem impl_shorten {w : World} {B g n c wd : Nat} {S0 R : List (List Int)} {vs : List Value} {ra : Option Addr} {rn rc : Nat} (hn : n ≤ 16) (hw : wd ≤ 16) (hn0 : 0 < n) (hBw : B ≤ w.heap.size) (hG : GV w B g n c wd S0 vs) (hst : ST n wd R S0) (hRb : ∀ i k, i < n → k < wd → 0 ≤ at2 R i k ∧ at2 R i k ≤ 1000000) (hRS : Sh n wd R) (hr : ∀ W, Below B w W → RdR W (.slice ra rn rc) R) :
    Calls Try.prog 22 #[.slice (some ⟨g, 0, none⟩) n c, .slice ra rn rc] w fun e w' => ∃ so S, e = .returned (.bool so) ∧ GV w' B g n c wd S vs ∧ RD n wd R S0 S so ∧ Below B w w' := by
  have hrn : rn = n := by rw [(hr w (Below.refl _ _)).len]; exact hRS.len
  subst hrn
  have HR : Hid (∀ W, Below B w W → RdR W (.slice ra rn rc) R) := hr
  have HG : Hid (GV w B g rn c wd S0 vs ∧ ST rn wd R S0 ∧ (∀ i k, i < rn → k < wd → 0 ≤ at2 R i k ∧ at2 R i k ≤ 1000000) ∧ Sh rn wd R) := ⟨hG, hst, hRb, hRS⟩
  have hw0 : 0 < wd := hG.wp
  clear hr hG hst hRb hRS
  obtain ⟨nb, hnb⟩ : ∃ nb : Nat → Nat → List (Int × Int), nb = fun (i k : Nat) => nbI rn wd i k := ⟨_, rfl⟩
  have HNB : Hid (nb = fun (i k : Nat) => nbI rn wd i k) := hnb
  clear hnb
  go_enter Try.func22, Try.ntmps22
  go_wp2
  go_loopw [5, 14] (fun q i wr => ∃ (y : Nat) (so : Bool), y ≤ rn ∧ i = .int .i64 y ∧ q = .bool so ∧ Hid (∃ S, GV wr B g rn c wd S vs ∧ RL rn wd R S0 S so ∧ (so = false → Seen rn wd R S nb y 0 0) ∧ Below B w wr)) (fun _ i _ => rn - (intOf i).toNat)
  case atStart => exact ⟨0, false, Nat.zero_le _, rfl, rfl, S0, HG.out.1, RL.start HG.out.2.1.nn, fun _ => Seen.zero, Below.refl _ _⟩
  case round =>
    obtain ⟨y, so, hy, rfl, rfl, hR⟩ := hrel
    by_cases hlt : y < rn
    · obtain ⟨S, hGV, hRL, hSe, hbl⟩ := hR.out
      obtain ⟨gy, cy, hry, c0, hgl, hgyl, hBy, hBg, hne, hcells⟩ := hGV.at hlt
      have HRY : Hid (rat vs y = .slice (some ⟨gy, 0, none⟩) wd cy ∧ B ≤ gy) := ⟨hry, hBy⟩
      have HS : Hid (∃ S, GV wr B g rn c wd S vs ∧ RL rn wd R S0 S so ∧ (so = false → Seen rn wd R S nb y 0 0) ∧ Below B w wr) := ⟨S, hGV, hRL, hSe, hbl⟩
      clear hGV hRL hSe hbl hR hcells hry hBy hBg hne
      have b0 : (0 : Int) ≤ (y : Int) := by omega
      have b1 : (y : Int) < (rn : Int) := by omega
      go_wp2
      clear c0 hgl hgyl
      go_loopw [5, 21] (fun q i wr => ∃ (x : Nat) (so : Bool), x ≤ wd ∧ i = .int .i64 x ∧ q = .bool so ∧ Hid (∃ S, GV wr B g rn c wd S vs ∧ RL rn wd R S0 S so ∧ (so = false → Seen rn wd R S nb y x 0) ∧ Below B w wr)) (fun _ i _ => wd - (intOf i).toNat)
      case atStart => exact ⟨0, so, Nat.zero_le _, rfl, rfl, HS.out⟩
      case round =>
        clear HS
        obtain ⟨x, so, hx, rfl, rfl, hR⟩ := hrel
        by_cases hltx : x < wd
        · obtain ⟨S, hGV, hRL, hSe, hbl⟩ := hR.out
          have HS : Hid (GV wr B g rn c wd S vs ∧ RL rn wd R S0 S so ∧ (so = false → Seen rn wd R S nb y x 0) ∧ Below B w wr) := ⟨hGV, hRL, hSe, hbl⟩
          have HC : Hid (Calls Try.prog 34 #[.slice (some ⟨g, 0, none⟩) rn c, .agg #[.int .i64 x, .int .i64 y]] wr fun e w' => ∃ v', e = .returned v' ∧ OG 48 2 ptE w' wr.heap.size v' (nb y x) ∧ Below wr.heap.size wr w') := by
            unfold Hid
            rw [HNB.out]
            exact impl_beside hn hw hlt hltx hGV.sh hGV.ri.rd
          clear hGV hRL hSe hbl hR
          have b2 : (0 : Int) ≤ (x : Int) := by omega
          have b3 : (x : Int) < (wd : Int) := by omega
          go_wp2_with (fail)
          refine HC.out.mono ?_
          rintro e w2 ⟨v2, rfl, hog, hb2⟩
          obtain ⟨la, lc, rfl⟩ := og_form hog
          obtain ⟨m, hm⟩ : ∃ m, m = (nb y x).length := ⟨_, rfl⟩
          rw [← hm] at hog ⊢
          have HL : Hid (m = (nb y x).length ∧ m ≤ 4 ∧ B ≤ wr.heap.size) := ⟨hm, by rw [hm, HNB.out]; exact nbI_len _ _ _ _, by have := HS.out.2.2.2.size; omega⟩
          have HI : Hid (OG 48 2 ptE w2 wr.heap.size (.slice la m lc) (nb y x) ∧ ∃ S, GV w2 B g rn c wd S vs ∧ RL rn wd R S0 S so ∧ (so = false → Seen rn wd R S nb y x 0) ∧ Below B w w2) := ⟨hog, S, HS.out.1.below hb2, HS.out.2.1, HS.out.2.2.1, HS.out.2.2.2.trans (hb2.mono (by have := HS.out.2.2.2.size; omega))⟩
          have hm4 : m ≤ 4 := HL.out.2.1
          obtain ⟨wz, hwz⟩ : ∃ n, n = wr.heap.size := ⟨_, rfl⟩
          have hgyz : gy < wz := by
            rw [hwz]
            obtain ⟨g1, c1, r1, _, _, l1, _⟩ := HS.out.1.at hlt
            rw [HRY.out.1] at r1
            injection r1 with e1
            injection e1 with e2
            injection e2 with e3
            rw [e3]; exact l1
          rw [← hwz] at HI HL
          clear HC hog hb2 hm HS hwz
          go_wp2
          go_loopw [5, 30] (fun q i wr => ∃ (t : Nat) (so : Bool), t ≤ m ∧ i = .int .i64 t ∧ q = .bool so ∧ Hid (OG 48 2 ptE wr wz (.slice la m lc) (nb y x) ∧ ∃ S, GV wr B g rn c wd S vs ∧ RL rn wd R S0 S so ∧ (so = false → Seen rn wd R S nb y x t) ∧ Below B w wr)) (fun _ i _ => m - (intOf i).toNat)
          case atStart => exact ⟨0, so, Nat.zero_le _, rfl, rfl, HI.out⟩
          case round =>
            clear HI
            obtain ⟨t, so, ht, rfl, rfl, hR⟩ := hrel
            by_cases hltt : t < m
            · obtain ⟨hog, S, hGV, hRL, hSe, hbl⟩ := hR.out
              obtain ⟨j, mm, hjm, hj, hmm, hadj⟩ := nbI_get (n := rn) (W := wd) hlt hltx (q := t) (by have := HL.out.1; rw [HNB.out] at this; show t < (nbI rn wd y x).length; rw [← this]; exact hltt)
              obtain ⟨lg, lo, rfl, hlg, l0, l1⟩ := pt_at (OG.rg ptE_len hog) hltt
              have hjm' : (nb y x).getD t (0, 0) = ((j : Int), (mm : Int)) := by rw [HNB.out]; exact hjm
              rw [hjm'] at l0 l1
              simp only at l0 l1
              have HS : Hid (OG 48 2 ptE wr wz (.slice (some ⟨lg, lo, none⟩) m lc) (nb y x) ∧ GV wr B g rn c wd S vs ∧ RL rn wd R S0 S so ∧ (so = false → Seen rn wd R S nb y x t) ∧ Below B w wr ∧ (nb y x).getD t (0, 0) = ((j : Int), (mm : Int)) ∧ Adj y x j mm) := ⟨hog, hGV, hRL, hSe, hbl, hjm', hadj⟩
              clear hog hGV hRL hSe hbl hjm hjm' hadj hR
              have b4 : (0 : Int) ≤ (t : Int) := by omega
              have b5 : (t : Int) < (m : Int) := by omega
              go_wp2_with (fail)
              obtain ⟨V, hV⟩ : ∃ V, V = wr.alloc (.cells #[.int .i64 mm, .int .i64 j] 48) := ⟨_, rfl⟩
              rw [← hV]
              have hbV : Below wr.heap.size wr V := by rw [hV]; (repeat' (first | (with_reducible exact Below.refl _ _) | (with_reducible assumption) | (with_reducible refine Below.setCell ?_ ?_ _) | (with_reducible refine Below.alloc ?_ ?_ _) | (with_reducible refine below_drewN ?_ _) | (with_reducible refine Below.drew ?_) | (with_reducible exact Nat.le_refl _) | omega | (simp; done) | (simp; omega)))
              have hkV : V.heap[wr.heap.size]? = some (.cells #[.int .i64 mm, .int .i64 j] 48) := by rw [hV]; exact heap_alloc_new wr _
              obtain ⟨u0, u1, uf0, uf1, ul⟩ := two_of hkV
              have hBr : B ≤ wr.heap.size := by have := HS.out.2.2.2.2.1.size; omega
              have HV : Hid (OG 48 2 ptE V wz (.slice (some ⟨lg, lo, none⟩) m lc) (nb y x) ∧ GV V B g rn c wd S vs ∧ Below B w V) := ⟨OG.below HS.out.1 hbV, HS.out.2.1.below hbV, HS.out.2.2.2.2.1.trans (hbV.mono hBr)⟩
              obtain ⟨gj, cj, hrj, p0, hgl, hgjl, _, _, _, hcj⟩ := HV.out.2.1.at hj
              obtain ⟨g1, c1, r1, py, _, hgyl, _, _, _, hcy⟩ := HV.out.2.1.at hlt
              rw [HRY.out.1] at r1
              injection r1 with e1 e2 e3
              injection e1 with e4
              injection e4 with e5
              subst e5
              obtain ⟨rg, ro, sa, sn, sc, rfl, hrg, q0, hsn, hsd⟩ := (HR.out V HV.out.2.2).at hlt
              rw [HG.out.2.2.2.wd y hlt] at hsn
              subst hsn
              obtain ⟨sg, so2, rfl, hsg, q1⟩ := rd_at hsd hltx
              have p1 := (hcj mm hmm).1
              have py1 := (hcy x hltx).1
              have pyf := (hcy x hltx).2
              obtain ⟨A, hA⟩ : ∃ A, A = at2 S j mm := ⟨_, rfl⟩
              obtain ⟨D, hD⟩ : ∃ D, D = (R.getD y []).getD x 0 := ⟨_, rfl⟩
              obtain ⟨E, hE⟩ : ∃ E, E = at2 S y x := ⟨_, rfl⟩
              rw [← hA] at p1
              rw [← hD] at q1
              rw [← hE] at py1
              have hAb : 0 ≤ A ∧ A ≤ 1152921504606846976 := by rw [hA]; exact ⟨HS.out.2.2.1.nn j mm hj hmm, Int.le_trans (HS.out.2.2.1.le j mm hj hmm) (HG.out.2.1.bd j mm hj hmm)⟩
              have hDb : 0 ≤ D ∧ D ≤ 1000000 := by rw [hD]; exact HG.out.2.2.1 y x hlt hltx
              have HD : Hid (A = at2 S j mm ∧ D = at2 R y x ∧ E = at2 S y x ∧ 0 ≤ D) := ⟨hA, hD, hE, hDb.1⟩
              have hwr : IntKind.i64.wrap (A + D) = A + D := by rw [IntKind.wrap_i64]; omega
              have c4 : (0 : Int) ≤ (j : Int) := by omega
              have c5 : (j : Int) < (rn : Int) := by omega
              have c6 : (0 : Int) ≤ (mm : Int) := by omega
              have c7 : (mm : Int) < (sn : Int) := by omega
              clear hV hbV hkV hsd hcj hcy hA hD hE hrj e2 e3 l0 l1 hlg
              (refine wp_region_und (by kernel_rfl) (by kernel_rfl) (fun hund => ?_); (repeat (go_big_quiet_step (fail))); with_reducible refine wpQuiet_nil ?_; clear hund; intro W1 hb1; obtain ⟨hc1, hf1⟩ := undcell hb1)
              have HW : Hid (OG 48 2 ptE W1 wz (.slice (some ⟨lg, lo, none⟩) m lc) (nb y x) ∧ GV W1 B g rn c sn S vs ∧ Below B w W1) := ⟨OG.below HV.out.1 hb1, HV.out.2.1.below hb1, HV.out.2.2.trans (hb1.mono (by have := HV.out.2.2.size; omega))⟩
              have py2 := (hb1.cell (p := ⟨gy, x, none⟩) hgyl).trans py1
              have pyf2 := (hb1.frozen (p := ⟨gy, x, none⟩) hgyl).trans pyf
              have hgyl2 : gy < W1.heap.size := Nat.lt_of_lt_of_le hgyl hb1.size
              clear HV hb1 hc1 hf1 p0 p1 q0 q1 py py1 pyf u0 u1 uf0 uf1 ul hgl hgjl hrg hsg hgyl
              by_cases hth : A + D < E
              · have HP : Hid (OG 48 2 ptE (W1.setCell ⟨gy, x, none⟩ (.int .i64 (A + D))) wz (.slice (some ⟨lg, lo, none⟩) m lc) (nb y x) ∧ ∃ S, GV (W1.setCell ⟨gy, x, none⟩ (.int .i64 (A + D))) B g rn c sn S vs ∧ RL rn sn R S0 S true ∧ (true = false → Seen rn sn R S nb y x (t + 1)) ∧ Below B w (W1.setCell ⟨gy, x, none⟩ (.int .i64 (A + D)))) := by
                  refine ⟨?_, set2 S y x (A + D), HW.out.2.1.set hlt HRY.out.1 x (A + D), ?_, fun e => (by cases e), HW.out.2.1.bel hlt HRY.out.1 x (A + D) HW.out.2.2⟩
                  · exact ownsRow_keep HW.out.1 fun q hq => heap_setCell_other _ _ _ _ (by have := (World.ownsRow.lt HW.out.1 q hq).1; intro e; simp at e; omega)
                  · rw [HD.out.1, HD.out.2.1]
                    exact HS.out.2.2.1.turn HW.out.2.1.sh hlt hltx hj hmm HS.out.2.2.2.2.2.2 (by rw [← HD.out.2.1]; exact HD.out.2.2.2) (by rw [← HD.out.1, ← HD.out.2.1, ← HD.out.2.2.1]; exact hth)
                clear HS HW HD
                go_wp2
                go_roundw
                case rel => exact ⟨t + 1, true, by omega, by go_num, rfl, HP.out⟩
                case measure => simp [intOf]; omega
              · have HP : Hid (OG 48 2 ptE W1 wz (.slice (some ⟨lg, lo, none⟩) m lc) (nb y x) ∧ ∃ S, GV W1 B g rn c sn S vs ∧ RL rn sn R S0 S so ∧ (so = false → Seen rn sn R S nb y x (t + 1)) ∧ Below B w W1) := by
                  refine ⟨HW.out.1, S, HW.out.2.1, HS.out.2.2.1, fun e => (HS.out.2.2.2.1 e).one ?_, HW.out.2.2⟩
                  rw [HS.out.2.2.2.2.2.1]
                  simp only [Int.toNat_natCast]
                  rw [← HD.out.1, ← HD.out.2.1, ← HD.out.2.2.1]
                  omega
                clear HS HW HD
                go_wp2
                go_roundw
                case rel => exact ⟨t + 1, so, by omega, by go_num, rfl, HP.out⟩
                case measure => simp [intOf]; omega
            · have HP : Hid (∃ S, GV wr B g rn c wd S vs ∧ RL rn wd R S0 S so ∧ (so = false → Seen rn wd R S nb y (x + 1) 0) ∧ Below B w wr) := by
                obtain ⟨_, S, h1, h2, h3, h4⟩ := hR.out
                exact ⟨S, h1, h2, fun e => (h3 e).place (by have := HL.out.1; omega), h4⟩
              clear hR
              go_wp2
              go_roundw
              case rel => exact ⟨x + 1, so, by omega, by go_num, rfl, HP.out⟩
              case measure => simp [intOf]; omega
        · have HP : Hid (∃ S, GV wr B g rn c wd S vs ∧ RL rn wd R S0 S so ∧ (so = false → Seen rn wd R S nb (y + 1) 0 0) ∧ Below B w wr) := by
            obtain ⟨S, h1, h2, h3, h4⟩ := hR.out
            exact ⟨S, h1, h2, fun e => Seen.row (by have := h3 e; rw [show x = wd by omega] at this; exact this), h4⟩
          clear hR
          go_wp2
          go_roundw
          case rel => exact ⟨y + 1, so, by omega, by go_num, rfl, HP.out⟩
          case measure => simp [intOf]; omega
    · have HP : Hid (∃ S, GV wr B g rn c wd S vs ∧ RD rn wd R S0 S so ∧ Below B w wr) := by
        obtain ⟨S, h1, h2, h3, h4⟩ := hR.out
        refine ⟨S, h1, ⟨h2, fun e => ?_⟩, h4⟩
        have := h3 e
        rw [show y = rn by omega] at this
        exact this.rest fun i k hi hk p => by rw [HNB.out]; exact nbI_mem (by omega) (by omega) (by omega) (by omega) p
      clear hR
      go_wp2
      go_returns
      obtain ⟨S, h1, h2, h3⟩ := HP.out
      exact ⟨so, S, rfl, h1, h2, h3⟩

end Go.Proofs.Ytpbkoigdfjajkaa
