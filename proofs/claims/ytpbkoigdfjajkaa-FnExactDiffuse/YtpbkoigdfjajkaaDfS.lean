/- Proved here: Diffuse of the model. -/
import Derived.Test.YtpbkoigdfjajkaaBsS
import Derived.Test.YtpbkoigdfjajkaaDtN
import Derived.Test.YtpbkoigdfjajkaaDfM
import Derived.Test.YtpbkoigdfjajkaaDfN
import Derived.Test.YtpbkoigdfjajkaaCpS
import Derived.Test.YtpbkoigdfjajkaaGfS
import Derived.Test.YtpbkoigdfjajkaaIns
import Derived.Test.YtpbkoigdfjajkaaReg
import Derived.Test.YtpbkoigdfjajkaaGtB
namespace Go.Proofs.Ytpbkoigdfjajkaa
open Go.RowKit
set_option linter.unusedVariables false
set_option linter.unusedSimpArgs false

set_option maxRecDepth 10000 in
set_option maxHeartbeats 51200000 in
theorem spec_di (sh st : Int) {w : World} {v : Value} {ls : List (List Int)} (hn : SmR ls) (h : RdR w v ls) :
    Calls Try.prog 14 #[v, .int .i64 sh, .int .i64 st] w fun e w' => ∃ v' vs, e = .returned (.agg #[.int .i64 (diC ls sh st), v']) ∧ RI w' w.heap.size v' (diL ls sh st) vs ∧ Below w.heap.size w w' := by
  obtain ⟨a, c, rfl⟩ := h.form
  obtain ⟨n, hnn⟩ : ∃ n, n = ls.length := ⟨_, rfl⟩
  obtain ⟨A, hA⟩ : ∃ C, C = gfC ls 1000000 := ⟨_, rfl⟩
  obtain ⟨C, hC⟩ : ∃ C, C = diC ls sh st := ⟨_, rfl⟩
  obtain ⟨r1, hr1⟩ : ∃ r, r = decide (0 ≤ sh ∧ sh ≤ 16) := ⟨_, rfl⟩
  obtain ⟨r2, hr2⟩ : ∃ r, r = decide (0 ≤ st ∧ st ≤ 20) := ⟨_, rfl⟩
  rw [← hnn] at h ⊢
  rw [← hC]
  have HF : Hid (∀ W, Below w.heap.size w W → Calls Try.prog 17 #[.slice a n c] W fun e w' => e = .returned (.int .i64 A) ∧ Below W.heap.size W w') := fun W hW => by rw [hA]; exact spec_gf hn (h.below hW)
  have HI1 : Hid (∀ W, Calls Try.prog 26 #[.int .i64 sh, .int .i64 0, .int .i64 16] W fun e w' => e = .returned (.bool r1) ∧ w' = W) := spec_ins sh 0 16 r1 hr1
  have HI2 : Hid (∀ W, Calls Try.prog 26 #[.int .i64 st, .int .i64 0, .int .i64 20] W fun e w' => e = .returned (.bool r2) ∧ w' = W) := spec_ins st 0 20 r2 hr2
  have H : Hid (RdR w (.slice a n c) ls ∧ n = ls.length ∧ A = gfC ls 1000000 ∧ C = diC ls sh st ∧ diL ls sh st = (if C = 0 then itD sh ls.length (ls.getD 0 []).length ls st.toNat else []) ∧ r1 = decide (0 ≤ sh ∧ sh ≤ 16) ∧ r2 = decide (0 ≤ st ∧ st ≤ 20)) := ⟨h, hnn, hA, hC, by rw [hC]; rfl, hr1, hr2⟩
  clear h hn hC hnn hA hr1 hr2
  go_enter Try.func14, Try.ntmps14
  go_wp2_with (fail)
  refine (HF.out _ (by (repeat' (first | (with_reducible exact Below.refl _ _) | (with_reducible assumption) | (with_reducible refine Below.setCell ?_ ?_ _) | (with_reducible refine Below.alloc ?_ ?_ _) | (with_reducible refine below_drewN ?_ _) | (with_reducible refine Below.drew ?_) | (with_reducible exact Nat.le_refl _) | omega | (simp; done) | (simp; omega))))).mono ?_
  rintro e W0 ⟨rfl, hb1⟩
  have HB : Hid (Below w.heap.size w W0 ∧ W0.heap[w.heap.size]? = some (.cells #[.int .i64 0, .slice none 0 0] 25) ∧ w.heap.size < W0.heap.size) := by
    have k2 := (hb1.block w.heap.size (by simp)).trans (heap_alloc_new w (.cells #[.int .i64 0, .slice none 0 0] 25))
    exact ⟨(show Below w.heap.size w _ from by (repeat' (first | (with_reducible exact Below.refl _ _) | (with_reducible assumption) | (with_reducible refine Below.setCell ?_ ?_ _) | (with_reducible refine Below.alloc ?_ ?_ _) | (with_reducible refine below_drewN ?_ _) | (with_reducible refine Below.drew ?_) | (with_reducible exact Nat.le_refl _) | omega | (simp; done) | (simp; omega)))).trans (hb1.mono (by simp)), k2, ltOf k2⟩
  obtain ⟨q0, q1, qf0, qf1, ql⟩ := two_of HB.out.2.1
  clear HF hb1
  by_cases hA0 : A = 0
  case neg =>
    have HV : Hid (C = A ∧ diL ls sh st = []) := by
      have e : C = A := by rw [H.out.2.2.2.1, diC, if_neg (by rw [← H.out.2.2.1]; exact hA0), H.out.2.2.1]
      exact ⟨e, by rw [H.out.2.2.2.2.1, if_neg (by rw [e]; exact hA0)]⟩
    have hA1 : (A != 0) = true := by simpa using hA0
    go_wp2
    try simp only [Exit.inBlock, Exit.then]
    refine bodyPost_ret (by simp [results, Try.results14, go_sem, q0, q1, ql]; try rfl) rfl ⟨.slice none 0 0, [], by rw [HV.out.1], ?_, ?_⟩
    · rw [HV.out.2]; exact RI.nil _ _
    · have hB := HB.out.1
      (repeat' (first | (with_reducible exact Below.refl _ _) | (with_reducible assumption) | (with_reducible refine Below.setCell ?_ ?_ _) | (with_reducible refine Below.alloc ?_ ?_ _) | (with_reducible refine below_drewN ?_ _) | (with_reducible refine Below.drew ?_) | (with_reducible exact Nat.le_refl _) | omega | (simp; done) | (simp; omega)))
  have HA0 : Hid (gfC ls 1000000 = 0) := H.out.2.2.1.symm.trans hA0
  have HC : Hid (C = if (0 ≤ sh ∧ sh ≤ 16) ∧ (0 ≤ st ∧ st ≤ 20) then gfC (itD sh ls.length (ls.getD 0 []).length ls st.toNat) 1000000 else 3) := by unfold Hid; rw [H.out.2.2.2.1, diC, if_pos HA0.out]
  subst hA0
  go_wp2_with (fail)
  refine (HI1.out _).mono ?_
  rintro e w1 ⟨rfl, rfl⟩
  cases r1 with
  | false =>
    have HV : Hid (C = 3 ∧ diL ls sh st = []) := by
      have e : C = 3 := by rw [HC.out, if_neg (fun q => (of_decide_eq_false H.out.2.2.2.2.2.1.symm) q.1)]
      exact ⟨e, by rw [H.out.2.2.2.2.1, if_neg (by rw [e]; decide)]⟩
    go_wp2
    try simp only [Exit.inBlock, Exit.then]
    refine bodyPost_ret (by simp [results, Try.results14, go_sem, q0, q1, ql]; try rfl) rfl ⟨.slice none 0 0, [], by rw [HV.out.1], ?_, ?_⟩
    · rw [HV.out.2]; exact RI.nil _ _
    · have hB := HB.out.1
      (repeat' (first | (with_reducible exact Below.refl _ _) | (with_reducible assumption) | (with_reducible refine Below.setCell ?_ ?_ _) | (with_reducible refine Below.alloc ?_ ?_ _) | (with_reducible refine below_drewN ?_ _) | (with_reducible refine Below.drew ?_) | (with_reducible exact Nat.le_refl _) | omega | (simp; done) | (simp; omega)))
  | true =>
  go_wp2_with (fail)
  refine (HI2.out _).mono ?_
  rintro e w1 ⟨rfl, rfl⟩
  cases r2 with
  | false =>
    have HV : Hid (C = 3 ∧ diL ls sh st = []) := by
      have e : C = 3 := by rw [HC.out, if_neg (fun q => (of_decide_eq_false H.out.2.2.2.2.2.2.symm) q.2)]
      exact ⟨e, by rw [H.out.2.2.2.2.1, if_neg (by rw [e]; decide)]⟩
    go_wp2
    try simp only [Exit.inBlock, Exit.then]
    refine bodyPost_ret (by simp [results, Try.results14, go_sem, q0, q1, ql]; try rfl) rfl ⟨.slice none 0 0, [], by rw [HV.out.1], ?_, ?_⟩
    · rw [HV.out.2]; exact RI.nil _ _
    · have hB := HB.out.1
      (repeat' (first | (with_reducible exact Below.refl _ _) | (with_reducible assumption) | (with_reducible refine Below.setCell ?_ ?_ _) | (with_reducible refine Below.alloc ?_ ?_ _) | (with_reducible refine below_drewN ?_ _) | (with_reducible refine Below.drew ?_) | (with_reducible exact Nat.le_refl _) | omega | (simp; done) | (simp; omega)))
  | true =>
  have hs := of_decide_eq_true H.out.2.2.2.2.2.1.symm
  have ht := of_decide_eq_true H.out.2.2.2.2.2.2.symm
  obtain ⟨s, hst⟩ : ∃ s : Nat, st = (s : Int) := ⟨st.toNat, by omega⟩
  have hG := gfC_good HA0.out
  obtain ⟨wd, hwd⟩ : ∃ n, n = (ls.getD 0 []).length := ⟨_, rfl⟩
  have HG : Hid (DO n wd ls ∧ C = gfC (itD sh n wd ls s) 1000000 ∧ diL ls sh st = (if C = 0 then itD sh n wd ls s else []) ∧ RdR w1 (.slice a n c) ls) := by
    refine ⟨by rw [H.out.2.1, hwd]; exact hG.do, ?_, ?_, H.out.1.below HB.out.1⟩
    · rw [HC.out, if_pos ⟨hs, ht⟩, H.out.2.1, hwd, hst]; rfl
    · rw [H.out.2.2.2.2.1, H.out.2.1, hwd, hst]; rfl
  have hn16 : n ≤ 16 := by rw [H.out.2.1]; exact hG.h1
  have hn0 : 0 < n := by rw [H.out.2.1]; exact hG.h0
  have hw16 : wd ≤ 16 := by rw [hwd]; exact hG.w1
  have hw0 : 0 < wd := by rw [hwd]; exact hG.w0
  have HCP : Hid (Calls Try.prog 27 #[.slice a n c] w1 fun e w' => ∃ v' vs, e = .returned v' ∧ RI w' w1.heap.size v' ls vs ∧ Below w1.heap.size w1 w') := spec_copy hG HG.out.2.2.2
  have hs0 := hs.1
  have hs1 := hs.2
  have ht20 : s ≤ 20 := by omega
  obtain ⟨nb, hnb⟩ : ∃ nb : Nat → Nat → List (Int × Int), nb = fun (i k : Nat) => nbS n wd i k := ⟨_, rfl⟩
  have HNB : Hid (nb = fun (i k : Nat) => nbS n wd i k) := hnb
  rw [hst]
  clear H HC hG hwd hs ht HI1 HI2 hst hnb
  go_wp2_with (fail)
  refine HCP.out.mono ?_
  rintro e w2 ⟨v2, vs, rfl, hri, hb2⟩
  have hl0 := HG.out.1.sh.len
  obtain ⟨gn, cn, rfl, _, _, _⟩ := hri.pos (by rw [hl0]; exact hn0)
  rw [hl0] at hri ⊢
  have HS : Hid (∃ vs, RI w2 w1.heap.size (.slice (some ⟨gn, 0, none⟩) n cn) (itD sh n wd ls 0) vs ∧ DO n wd (itD sh n wd ls 0) ∧ Below w1.heap.size w1 w2) := ⟨vs, hri, HG.out.1, hb2⟩
  clear HCP hri hb2 q0 q1 qf0 qf1 ql hl0
  go_wp2
  go_loopw [8, 9] (fun q i wr => ∃ (kk gn cn : Nat), kk ≤ s ∧ i = .int .i64 kk ∧ q = .slice (some ⟨gn, 0, none⟩) n cn ∧ Hid (∃ vs, RI wr w1.heap.size (.slice (some ⟨gn, 0, none⟩) n cn) (itD sh n wd ls kk) vs ∧ DO n wd (itD sh n wd ls kk) ∧ Below w1.heap.size w1 wr)) (fun _ i _ => s - (intOf i).toNat)
  case atStart => exact ⟨0, gn, cn, Nat.zero_le _, rfl, rfl, HS.out⟩
  case round =>
    clear HS
    obtain ⟨kk, gn, cn, hk, rfl, rfl, hR⟩ := hrel
    by_cases hltk : kk < s
    · obtain ⟨vn, hri, hdo, hbl⟩ := hR.out
      obtain ⟨S, hS⟩ : ∃ S, S = itD sh n wd ls kk := ⟨_, rfl⟩
      rw [← hS] at hri hdo
      have HSS : Hid (S = itD sh n wd ls kk ∧ DO n wd S ∧ Below w1.heap.size w1 wr ∧ RdR wr (.slice (some ⟨gn, 0, none⟩) n cn) S) := ⟨hS, hdo, hbl, hri.rd⟩
      have HCP : Hid (Calls Try.prog 27 #[.slice (some ⟨gn, 0, none⟩) n cn] wr fun e w' => ∃ v' vs, e = .returned v' ∧ RI w' wr.heap.size v' S vs ∧ Below wr.heap.size wr w') := spec_copy (hdo.gg hn0 hn16 hw0 hw16) hri.rd
      clear hR hri hdo hbl hS
      have b0 : (0 : Int) ≤ (kk : Int) := by omega
      have b1 : (kk : Int) < (s : Int) := by omega
      go_wp2_with (fail)
      refine HCP.out.mono ?_
      rintro e w3 ⟨v3, vs, rfl, hri, hb3⟩
      have hl0 := HSS.out.2.1.sh.len
      obtain ⟨g, oc, rfl, _, _, _⟩ := hri.pos (by rw [hl0]; exact hn0)
      rw [hl0] at hri ⊢
      obtain ⟨Wk, hWk⟩ : ∃ x, x = wr := ⟨_, rfl⟩
      subst hWk
      have HS : Hid (∃ L, GV w3 Wk.heap.size g n oc wd L vs ∧ DS sh n wd S nb 0 0 0 L ∧ Below Wk.heap.size Wk w3) := ⟨S, ⟨hri, HSS.out.2.1.sh, hw0⟩, DS.start HSS.out.2.1 hs0 hs1, hb3⟩
      clear HCP hri hb3 hl0
      go_wp2
      go_loopw [11] (fun i wr => ∃ (y : Nat), y ≤ n ∧ i = .int .i64 y ∧ Hid (∃ L, GV wr Wk.heap.size g n oc wd L vs ∧ DS sh n wd S nb y 0 0 L ∧ Below Wk.heap.size Wk wr)) (fun i _ => n - (intOf i).toNat)
      case atStart => exact ⟨0, Nat.zero_le _, rfl, HS.out⟩
      case round =>
        clear HS
        obtain ⟨y, hy, rfl, hR⟩ := hrel
        by_cases hlt : y < n
        · have HS : Hid (∃ L, GV wr Wk.heap.size g n oc wd L vs ∧ DS sh n wd S nb y 0 0 L ∧ Below Wk.heap.size Wk wr) := hR.out
          clear hR
          have b2 : (0 : Int) ≤ (y : Int) := by omega
          have b3 : (y : Int) < (n : Int) := by omega
          go_wp2
          go_loopw [12] (fun i wr => ∃ (x : Nat), x ≤ wd ∧ i = .int .i64 x ∧ Hid (∃ L, GV wr Wk.heap.size g n oc wd L vs ∧ DS sh n wd S nb y x 0 L ∧ Below Wk.heap.size Wk wr)) (fun i _ => wd - (intOf i).toNat)
          case atStart => exact ⟨0, Nat.zero_le _, rfl, HS.out⟩
          case round =>
            clear HS
            obtain ⟨x, hx, rfl, hR⟩ := hrel
            obtain ⟨L, hGV, hDS, hbl⟩ := hR.out
            obtain ⟨ag, ao, ra, rn, rc, hae, hag, a0, hrn, hrd⟩ := (HSS.out.2.2.2.below hbl).at hlt
            injection hae with hae1
            injection hae1 with hae2 hae3
            subst hae2 hae3
            rw [HSS.out.2.1.sh.wd y hlt] at hrn
            subst hrn
            by_cases hltx : x < rn
            · obtain ⟨rg, ro, rfl, hrg, r0⟩ := rd_at hrd hltx
              obtain ⟨H, hH⟩ : ∃ H, H = (S.getD y []).getD x 0 := ⟨_, rfl⟩
              rw [← hH] at r0
              obtain ⟨G, hG⟩ : ∃ G, G = gift sh S y x := ⟨_, rfl⟩
              have hgb := gift_bd hs0 hs1 (HSS.out.2.1.nn y x hlt hltx) (HSS.out.2.1.bd hlt hltx)
              have hHx : at2 S y x = H := hH.symm
              rw [← hG, hHx] at hgb
              have hw1 : IntKind.i64.wrap (H * sh) = H * sh := by rw [IntKind.wrap_i64]; omega
              have hq : (H * sh).tdiv 64 = G := by rw [Int.tdiv_eq_ediv_of_nonneg hgb.2.2.1, hG, gift, hHx]
              have hGb : 0 ≤ G ∧ G ≤ 256000000 := by have := HSS.out.2.1.bd hlt hltx; have h4 := hgb.2.1; have h5 := hgb.1; rw [hHx] at this; omega
              have hw2 : IntKind.i64.wrap ((H * sh).tdiv 64) = G := by rw [hq, IntKind.wrap_i64]; omega
              have HGG : Hid (G = gift sh S y x) := hG
              have HS : Hid (GV wr Wk.heap.size g n oc rn L vs ∧ DS sh n rn S nb y x 0 L ∧ Below Wk.heap.size Wk wr) := ⟨hGV, hDS, hbl⟩
              have HC : Hid (Calls Try.prog 28 #[.slice (some ⟨gn, 0, none⟩) n cn, .int .i64 y, .int .i64 x] wr fun e w' => ∃ v', e = .returned v' ∧ OG 42 2 bsE w' wr.heap.size v' (nb y x) ∧ Below wr.heap.size wr w') := by
                unfold Hid
                rw [HNB.out]
                exact spec_beside hn16 hw16 hlt hltx HSS.out.2.1.sh (HSS.out.2.2.2.below hbl)
              clear hR hGV hDS hbl hH hG hgb hHx hrd
              have b4 : (0 : Int) ≤ (x : Int) := by omega
              have b5 : (x : Int) < (rn : Int) := by omega
              simp only [Nat.zero_add] at a0
              go_wp2_with (fail)
              refine HC.out.mono ?_
              rintro e w5 ⟨v5, rfl, hog, hb5⟩
              obtain ⟨la, lc, rfl⟩ := og_form hog
              obtain ⟨m, hm⟩ : ∃ m, m = (nb y x).length := ⟨_, rfl⟩
              rw [← hm] at hog ⊢
              have HL : Hid (m = (nb y x).length ∧ m ≤ 4) := ⟨hm, by rw [hm, HNB.out]; exact nbS_len _ _ _ _⟩
              have HI : Hid (OG 42 2 bsE w5 wr.heap.size (.slice la m lc) (nb y x) ∧ ∃ L, GV w5 Wk.heap.size g n oc rn L vs ∧ DS sh n rn S nb y x 0 L ∧ Below Wk.heap.size Wk w5) := ⟨hog, L, HS.out.1.below hb5, HS.out.2.1, HS.out.2.2.trans (hb5.mono HS.out.2.2.size)⟩
              have hm4 : m ≤ 4 := HL.out.2
              obtain ⟨wz, hwz⟩ : ∃ n, n = wr.heap.size := ⟨_, rfl⟩
              have HZ : Hid (∀ i, i < n → ∀ q, (rat vs i).ownBlock = some q → q < wz) := fun i hi q hq => by
                rw [hwz]; exact (rowBlk (HS.out.1.ri.bx i (by rw [HS.out.1.sh.len]; exact hi)) hq).2.1
              rw [← hwz] at HI
              obtain ⟨wd, hwd⟩ : ∃ x, x = rn := ⟨_, rfl⟩
              subst hwd
              clear HC hog hb5 hm HS hwz r0 hrg hw1 hq hw2 a0 hag
              go_wp2
              go_loopw [15] (fun i wr => ∃ (t : Nat), t ≤ m ∧ i = .int .i64 t ∧ Hid (OG 42 2 bsE wr wz (.slice la m lc) (nb y x) ∧ ∃ L, GV wr Wk.heap.size g n oc wd L vs ∧ DS sh n wd S nb y x t L ∧ Below Wk.heap.size Wk wr)) (fun i _ => m - (intOf i).toNat)
              case atStart => exact ⟨0, Nat.zero_le _, rfl, HI.out⟩
              case round =>
                clear HI
                obtain ⟨t, ht, rfl, hR⟩ := hrel
                by_cases hltt : t < m
                · obtain ⟨hog, L, hGV, hDS, hbl⟩ := hR.out
                  obtain ⟨j, mm, hjm, hj, hmm, hadj⟩ := nbS_get (n := n) (W := wd) hlt hltx (q := t) (by have := HL.out.1; rw [HNB.out] at this; show t < (nbS n wd y x).length; rw [← this]; exact hltt)
                  obtain ⟨lg, lo, rfl, hlg, l0, l1⟩ := bs_at (OG.rg bsE_len hog) hltt
                  have hjm' : (nb y x).getD t (0, 0) = ((j : Int), (mm : Int)) := by rw [HNB.out]; exact hjm
                  rw [hjm'] at l0 l1
                  simp only at l0 l1
                  have hDO := hDS.nn HSS.out.2.1 hs0 hs1 hGV.sh
                  have hne : ¬ (j = y ∧ mm = x) := by unfold Adj at hadj; omega
                  obtain ⟨gy, cy, hry, py, hgl, hgyl, hBy, _, hgyg, hcy⟩ := hGV.at hlt
                  obtain ⟨py1, pyf⟩ := hcy x hltx
                  obtain ⟨E, hE⟩ : ∃ E, E = at2 L y x := ⟨_, rfl⟩
                  rw [← hE] at py1
                  have hEb : 0 ≤ E ∧ E ≤ 256000000 := by rw [hE]; exact ⟨hDO.nn y x hlt hltx, hDO.bd hlt hltx⟩
                  have hwE : IntKind.i64.wrap (E - G) = E - G := by rw [IntKind.wrap_i64]; omega
                  have hGd : GV wr.drew Wk.heap.size g n oc wd L vs := hGV.below (Below.refl _ _).drew
                  have hod : OG 42 2 bsE wr.drew wz (.slice (some ⟨lg, lo, none⟩) m lc) (nb y x) := OG.below hog (Below.refl _ _).drew
                  obtain ⟨V2, hV2⟩ : ∃ V2, V2 = wr.drew.setCell ⟨gy, x, none⟩ (.int .i64 (E - G)) := ⟨_, rfl⟩
                  have hgyz : gy < wz := HZ.out y hlt gy (by rw [hry]; rfl)
                  have hG2 : GV V2 Wk.heap.size g n oc wd (set2 L y x (E - G)) vs := by rw [hV2]; exact hGd.set hlt hry x (E - G)
                  have hb2 : Below Wk.heap.size Wk V2 := by rw [hV2]; exact hGd.bel hlt hry x (E - G) hbl.drew
                  have ho2 : OG 42 2 bsE V2 wz (.slice (some ⟨lg, lo, none⟩) m lc) (nb y x) := by
                    rw [hV2]
                    exact ownsRow_keep hod fun q hq => heap_setCell_other _ _ _ _ (by have := (World.ownsRow.lt hod q hq).1; intro e; simp at e; omega)
                  have pyS : V2.cell? ⟨g, y, none⟩ = some (.slice (some ⟨gy, 0, none⟩) wd cy) := by
                    have e : V2.heap[g]? = wr.heap[g]? := by rw [hV2, heap_setCell_other _ _ _ _ (by intro e; simp at e; exact hgyg e.symm)]; rfl
                    exact (World.cell?_of_block (a := ⟨g, y, none⟩) e).trans py
                  obtain ⟨lg2, lo2, hle, hlg2, n0, n1⟩ := bs_at (OG.rg bsE_len ho2) hltt
                  injection hle with hle1
                  injection hle1 with hle2 hle3
                  subst hle2 hle3
                  rw [hjm'] at n0 n1
                  simp only at n0 n1
                  obtain ⟨gj, cj, hrj, p0, hgl2, hgjl, hBj, _, hgjg, hcj⟩ := hG2.at hj
                  obtain ⟨p1, pf⟩ := hcj mm hmm
                  rw [at2_set2 hGV.sh hlt hltx, if_neg hne] at p1
                  obtain ⟨A, hA⟩ : ∃ A, A = at2 L j mm := ⟨_, rfl⟩
                  rw [← hA] at p1
                  have hAb : 0 ≤ A ∧ A ≤ 256000000 := by rw [hA]; exact ⟨hDO.nn j mm hj hmm, hDO.bd hj hmm⟩
                  have hwA : IntKind.i64.wrap (A + G) = A + G := by rw [IntKind.wrap_i64]; omega
                  have hgd2 : GV V2.drew Wk.heap.size g n oc wd (set2 L y x (E - G)) vs := hG2.below (Below.refl _ _).drew
                  have hod2 : OG 42 2 bsE V2.drew wz (.slice (some ⟨lg, lo, none⟩) m lc) (nb y x) := OG.below ho2 (Below.refl _ _).drew
                  have hgjz : gj < wz := HZ.out j hj gj (by rw [hrj]; rfl)
                  have ho3 : OG 42 2 bsE (V2.drew.setCell ⟨gj, mm, none⟩ (.int .i64 (A + G))) wz (.slice (some ⟨lg, lo, none⟩) m lc) (nb y x) :=
                    ownsRow_keep hod2 fun q hq => heap_setCell_other _ _ _ _ (by have := (World.ownsRow.lt hod2 q hq).1; intro e; simp at e; omega)
                  have HP : Hid (OG 42 2 bsE (V2.drew.setCell ⟨gj, mm, none⟩ (.int .i64 (A + G))) wz (.slice (some ⟨lg, lo, none⟩) m lc) (nb y x) ∧ ∃ L, GV (V2.drew.setCell ⟨gj, mm, none⟩ (.int .i64 (A + G))) Wk.heap.size g n oc wd L vs ∧ DS sh n wd S nb y x (t + 1) L ∧ Below Wk.heap.size Wk (V2.drew.setCell ⟨gj, mm, none⟩ (.int .i64 (A + G)))) := by
                    refine ⟨ho3, _, hgd2.set hj hrj mm (A + G), ?_, hgd2.bel hj hrj mm (A + G) hb2.drew⟩
                    rw [hE, hA, HGG.out]
                    exact hDS.op HSS.out.2.1 hs0 hs1 hGV.sh hlt hltx hj hmm hadj hjm' (by omega)
                  obtain ⟨lg3, lo3, hle, hlg3, s0, s1⟩ := bs_at (OG.rg bsE_len ho3) hltt
                  injection hle with hle1
                  injection hle1 with hle2 hle3
                  subst hle2 hle3
                  rw [hjm'] at s0 s1
                  simp only at s0 s1
                  have s2 : (V2.drew.setCell ⟨gj, mm, none⟩ (.int .i64 (A + G))).cell? ⟨g, j, none⟩ = some (.slice (some ⟨gj, 0, none⟩) wd cj) := by
                    have e : (V2.drew.setCell ⟨gj, mm, none⟩ (.int .i64 (A + G))).heap[g]? = V2.heap[g]? := by rw [heap_setCell_other _ _ _ _ (by intro e; simp at e; exact hgjg e.symm)]; rfl
                    exact (World.cell?_of_block (a := ⟨g, j, none⟩) e).trans p0
                  have HSE : Hid ((V2.drew.setCell ⟨gj, mm, none⟩ (.int .i64 (A + G))).cell? ⟨lg, lo + t * 2, none⟩ = some (.int .i64 j) ∧ (V2.drew.setCell ⟨gj, mm, none⟩ (.int .i64 (A + G))).cell? ⟨lg, lo + t * 2 + 1, none⟩ = some (.int .i64 mm) ∧ (V2.drew.setCell ⟨gj, mm, none⟩ (.int .i64 (A + G))).cell? ⟨g, j, none⟩ = some (.slice (some ⟨gj, 0, none⟩) wd cj)) := ⟨s0, s1, s2⟩
                  have b6 : (0 : Int) ≤ (t : Int) := by omega
                  have b7 : (t : Int) < (m : Int) := by omega
                  have c4 : (0 : Int) ≤ (j : Int) := by omega
                  have c5 : (j : Int) < (n : Int) := by omega
                  have c6 : (0 : Int) ≤ (mm : Int) := by omega
                  have c7 : (mm : Int) < (wd : Int) := by omega
                  have HV2 : Hid (V2 = wr.drew.setCell ⟨gy, x, none⟩ (.int .i64 (E - G))) := hV2
                  clear hR hog hGV hDS hbl hjm hjm' hadj hDO hcy hE hA hG2 hb2 ho2 hcj hgyz hBy hBj hgjg hgyg hGd hod hgd2 hod2 hgjz ho3 s0 s1 s2 hV2 l0 l1 hlg hlg2 hlg3
                  go_wp2_with (fail)
                  refine wp_region_holdsA (S := fun w' => w'.cell? ⟨g, y, none⟩ = some (.slice (some ⟨gy, 0, none⟩) wd cy) ∧ True ∧ True) (by kernel_rfl) ⟨py, trivial, trivial⟩ (fun hS => ?_)
                  have py1' : wr.drew.cell? ⟨gy, x, none⟩ = some (.int .i64 E) := py1
                  have pyf' : wr.drew.frozen? ⟨gy, x, none⟩ = false := pyf
                  have hgyl' : gy < wr.drew.heap.size := hgyl
                  refine fl_takeA (i := 0) (d := 76) (v := .slice (some ⟨g, 0, none⟩) n oc) rfl rfl rfl (by kernel_rfl) (by kernel_rfl) (by kernel_rfl) hS ?_ ?_
                  · intro w' hk; obtain ⟨hk0, hk1, hk2⟩ := hk; go_simp
                  simp only [Act.put, List.setIfInBounds_toArray, List.set_cons_zero, List.set_cons_succ]
                  refine fl_takeA (i := 1) (d := 77) (v := .int .i64 y) rfl rfl rfl (by kernel_rfl) (by kernel_rfl) (by kernel_rfl) hS ?_ ?_
                  · intro w' hk; obtain ⟨hk0, hk1, hk2⟩ := hk; go_simp
                  simp only [Act.put, List.setIfInBounds_toArray, List.set_cons_zero, List.set_cons_succ]
                  refine fl_takeA (i := 2) (d := 78) (v := .pointer (some ⟨g, y, none⟩)) rfl rfl rfl (by kernel_rfl) (by kernel_rfl) (by kernel_rfl) hS ?_ ?_
                  · intro w' hk; obtain ⟨hk0, hk1, hk2⟩ := hk; go_simp
                  simp only [Act.put, List.setIfInBounds_toArray, List.set_cons_zero, List.set_cons_succ]
                  refine fl_takeA (i := 3) (d := 79) (v := .slice (some ⟨gy, 0, none⟩) wd cy) rfl rfl rfl (by kernel_rfl) (by kernel_rfl) (by kernel_rfl) hS ?_ ?_
                  · intro w' hk; obtain ⟨hk0, hk1, hk2⟩ := hk; go_simp
                  simp only [Act.put, List.setIfInBounds_toArray, List.set_cons_zero, List.set_cons_succ]
                  refine fl_takeA (i := 4) (d := 80) (v := .int .i64 x) rfl rfl rfl (by kernel_rfl) (by kernel_rfl) (by kernel_rfl) hS ?_ ?_
                  · intro w' hk; obtain ⟨hk0, hk1, hk2⟩ := hk; go_simp
                  simp only [Act.put, List.setIfInBounds_toArray, List.set_cons_zero, List.set_cons_succ]
                  refine fl_takeA (i := 5) (d := 81) (v := .slice (some ⟨g, 0, none⟩) n oc) rfl rfl rfl (by kernel_rfl) (by kernel_rfl) (by kernel_rfl) hS ?_ ?_
                  · intro w' hk; obtain ⟨hk0, hk1, hk2⟩ := hk; go_simp
                  simp only [Act.put, List.setIfInBounds_toArray, List.set_cons_zero, List.set_cons_succ]
                  refine fl_takeA (i := 6) (d := 82) (v := .int .i64 y) rfl rfl rfl (by kernel_rfl) (by kernel_rfl) (by kernel_rfl) hS ?_ ?_
                  · intro w' hk; obtain ⟨hk0, hk1, hk2⟩ := hk; go_simp
                  simp only [Act.put, List.setIfInBounds_toArray, List.set_cons_zero, List.set_cons_succ]
                  refine fl_takeA (i := 7) (d := 83) (v := .pointer (some ⟨g, y, none⟩)) rfl rfl rfl (by kernel_rfl) (by kernel_rfl) (by kernel_rfl) hS ?_ ?_
                  · intro w' hk; obtain ⟨hk0, hk1, hk2⟩ := hk; go_simp
                  simp only [Act.put, List.setIfInBounds_toArray, List.set_cons_zero, List.set_cons_succ]
                  refine fl_takeA (i := 8) (d := 84) (v := .slice (some ⟨gy, 0, none⟩) wd cy) rfl rfl rfl (by kernel_rfl) (by kernel_rfl) (by kernel_rfl) hS ?_ ?_
                  · intro w' hk; obtain ⟨hk0, hk1, hk2⟩ := hk; go_simp
                  simp only [Act.put, List.setIfInBounds_toArray, List.set_cons_zero, List.set_cons_succ]
                  refine fl_takeA (i := 9) (d := 85) (v := .int .i64 x) rfl rfl rfl (by kernel_rfl) (by kernel_rfl) (by kernel_rfl) hS ?_ ?_
                  · intro w' hk; obtain ⟨hk0, hk1, hk2⟩ := hk; go_simp
                  simp only [Act.put, List.setIfInBounds_toArray, List.set_cons_zero, List.set_cons_succ]
                  refine fl_takeA (i := 10) (d := 86) (v := .pointer (some ⟨gy, x, none⟩)) rfl rfl rfl (by kernel_rfl) (by kernel_rfl) (by kernel_rfl) hS ?_ ?_
                  · intro w' hk; obtain ⟨hk0, hk1, hk2⟩ := hk; go_simp
                  simp only [Act.put, List.setIfInBounds_toArray, List.set_cons_zero, List.set_cons_succ]
                  refine fl_takeA (i := 12) (d := 88) (v := .int .i64 G) rfl rfl rfl (by kernel_rfl) (by kernel_rfl) (by kernel_rfl) hS ?_ ?_
                  · intro w' hk; obtain ⟨hk0, hk1, hk2⟩ := hk; go_simp
                  simp only [Act.put, List.setIfInBounds_toArray, List.set_cons_zero, List.set_cons_succ]
                  refine wpAnyH_all (rs := [11]) (by kernel_rfl) (by simp) ?_
                  intro i hi; obtain rfl := List.mem_singleton.1 hi; clear hi
                  refine op_val (d := 87) (v := .int .i64 E) (w' := wr.drew) rfl rfl rfl (by go_simp; try rfl) ?_
                  simp only [Act.put, List.setIfInBounds_toArray, List.set_cons_zero, List.set_cons_succ]
                  refine ⟨hS, wpAnyH_all (rs := [13]) (by kernel_rfl) (by simp) ?_⟩
                  intro i hi; obtain rfl := List.mem_singleton.1 hi; clear hi
                  refine op_val (d := 89) (v := .int .i64 (E - G)) (w' := wr.drew) rfl rfl rfl (by go_simp; try rfl) ?_
                  simp only [Act.put, List.setIfInBounds_toArray, List.set_cons_zero, List.set_cons_succ]
                  refine ⟨hS, wpAnyH_all (rs := [14]) (by kernel_rfl) (by simp) ?_⟩
                  intro i hi; obtain rfl := List.mem_singleton.1 hi; clear hi
                  refine op_val (d := 90) (v := .pointer (some ⟨gy, x, none⟩)) (w' := wr.drew) rfl rfl rfl (by go_simp; try rfl) ?_
                  simp only [Act.put, List.setIfInBounds_toArray, List.set_cons_zero, List.set_cons_succ]
                  refine ⟨hS, wpAnyH_all (rs := [15]) (by kernel_rfl) (by simp) ?_⟩
                  intro i hi; obtain rfl := List.mem_singleton.1 hi; clear hi
                  refine op_skipN rfl rfl (w' := wr.drew.setCell ⟨gy, x, none⟩ (.int .i64 (E - G))) (by go_simp; try rfl) ?_
                  rw [← HV2.out]
                  refine ⟨⟨pyS, trivial, trivial⟩, wpAnyH_done (by kernel_rfl) (NoPanic.normal ?_) _⟩
                  clear hS py1' pyf' hgyl' py py1 pyf hgyl HV2 pyS hgl
                  go_wp2_with (fail)
                  refine wp_region_holdsA (S := fun w' => w'.cell? ⟨lg, lo + t * 2, none⟩ = some (.int .i64 j) ∧ w'.cell? ⟨lg, lo + t * 2 + 1, none⟩ = some (.int .i64 mm) ∧ w'.cell? ⟨g, j, none⟩ = some (.slice (some ⟨gj, 0, none⟩) wd cj)) (by kernel_rfl) ⟨n0, n1, p0⟩ (fun hS => ?_)
                  have p1' : V2.drew.cell? ⟨gj, mm, none⟩ = some (.int .i64 A) := p1
                  have pf' : V2.drew.frozen? ⟨gj, mm, none⟩ = false := pf
                  have hgjl' : gj < V2.drew.heap.size := hgjl
                  refine fl_takeA (i := 0) (d := 91) (v := .slice (some ⟨g, 0, none⟩) n oc) rfl rfl rfl (by kernel_rfl) (by kernel_rfl) (by kernel_rfl) hS ?_ ?_
                  · intro w' hk; obtain ⟨hk0, hk1, hk2⟩ := hk; go_simp
                  simp only [Act.put, List.setIfInBounds_toArray, List.set_cons_zero, List.set_cons_succ]
                  refine fl_takeA (i := 1) (d := 92) (v := .slice (some ⟨lg, lo, none⟩) m lc) rfl rfl rfl (by kernel_rfl) (by kernel_rfl) (by kernel_rfl) hS ?_ ?_
                  · intro w' hk; obtain ⟨hk0, hk1, hk2⟩ := hk; go_simp
                  simp only [Act.put, List.setIfInBounds_toArray, List.set_cons_zero, List.set_cons_succ]
                  refine fl_takeA (i := 2) (d := 93) (v := .int .i64 t) rfl rfl rfl (by kernel_rfl) (by kernel_rfl) (by kernel_rfl) hS ?_ ?_
                  · intro w' hk; obtain ⟨hk0, hk1, hk2⟩ := hk; go_simp
                  simp only [Act.put, List.setIfInBounds_toArray, List.set_cons_zero, List.set_cons_succ]
                  refine fl_takeA (i := 3) (d := 94) (v := .pointer (some ⟨lg, lo + t * 2, none⟩)) rfl rfl rfl (by kernel_rfl) (by kernel_rfl) (by kernel_rfl) hS ?_ ?_
                  · intro w' hk; obtain ⟨hk0, hk1, hk2⟩ := hk; go_simp
                  simp only [Act.put, List.setIfInBounds_toArray, List.set_cons_zero, List.set_cons_succ]
                  refine fl_takeA (i := 4) (d := 95) (v := .pointer (some ⟨lg, lo + t * 2, none⟩)) rfl rfl rfl (by kernel_rfl) (by kernel_rfl) (by kernel_rfl) hS ?_ ?_
                  · intro w' hk; obtain ⟨hk0, hk1, hk2⟩ := hk; go_simp
                  simp only [Act.put, List.setIfInBounds_toArray, List.set_cons_zero, List.set_cons_succ]
                  refine fl_takeA (i := 5) (d := 96) (v := .int .i64 j) rfl rfl rfl (by kernel_rfl) (by kernel_rfl) (by kernel_rfl) hS ?_ ?_
                  · intro w' hk; obtain ⟨hk0, hk1, hk2⟩ := hk; go_simp
                  simp only [Act.put, List.setIfInBounds_toArray, List.set_cons_zero, List.set_cons_succ]
                  refine fl_takeA (i := 6) (d := 97) (v := .pointer (some ⟨g, j, none⟩)) rfl rfl rfl (by kernel_rfl) (by kernel_rfl) (by kernel_rfl) hS ?_ ?_
                  · intro w' hk; obtain ⟨hk0, hk1, hk2⟩ := hk; go_simp
                  simp only [Act.put, List.setIfInBounds_toArray, List.set_cons_zero, List.set_cons_succ]
                  refine fl_takeA (i := 7) (d := 98) (v := .slice (some ⟨gj, 0, none⟩) wd cj) rfl rfl rfl (by kernel_rfl) (by kernel_rfl) (by kernel_rfl) hS ?_ ?_
                  · intro w' hk; obtain ⟨hk0, hk1, hk2⟩ := hk; go_simp
                  simp only [Act.put, List.setIfInBounds_toArray, List.set_cons_zero, List.set_cons_succ]
                  refine fl_takeA (i := 8) (d := 99) (v := .slice (some ⟨lg, lo, none⟩) m lc) rfl rfl rfl (by kernel_rfl) (by kernel_rfl) (by kernel_rfl) hS ?_ ?_
                  · intro w' hk; obtain ⟨hk0, hk1, hk2⟩ := hk; go_simp
                  simp only [Act.put, List.setIfInBounds_toArray, List.set_cons_zero, List.set_cons_succ]
                  refine fl_takeA (i := 9) (d := 100) (v := .int .i64 t) rfl rfl rfl (by kernel_rfl) (by kernel_rfl) (by kernel_rfl) hS ?_ ?_
                  · intro w' hk; obtain ⟨hk0, hk1, hk2⟩ := hk; go_simp
                  simp only [Act.put, List.setIfInBounds_toArray, List.set_cons_zero, List.set_cons_succ]
                  refine fl_takeA (i := 10) (d := 101) (v := .pointer (some ⟨lg, lo + t * 2, none⟩)) rfl rfl rfl (by kernel_rfl) (by kernel_rfl) (by kernel_rfl) hS ?_ ?_
                  · intro w' hk; obtain ⟨hk0, hk1, hk2⟩ := hk; go_simp
                  simp only [Act.put, List.setIfInBounds_toArray, List.set_cons_zero, List.set_cons_succ]
                  refine fl_takeA (i := 11) (d := 102) (v := .pointer (some ⟨lg, lo + t * 2 + 1, none⟩)) rfl rfl rfl (by kernel_rfl) (by kernel_rfl) (by kernel_rfl) hS ?_ ?_
                  · intro w' hk; obtain ⟨hk0, hk1, hk2⟩ := hk; go_simp
                  simp only [Act.put, List.setIfInBounds_toArray, List.set_cons_zero, List.set_cons_succ]
                  refine fl_takeA (i := 12) (d := 103) (v := .int .i64 mm) rfl rfl rfl (by kernel_rfl) (by kernel_rfl) (by kernel_rfl) hS ?_ ?_
                  · intro w' hk; obtain ⟨hk0, hk1, hk2⟩ := hk; go_simp
                  simp only [Act.put, List.setIfInBounds_toArray, List.set_cons_zero, List.set_cons_succ]
                  refine fl_takeA (i := 13) (d := 104) (v := .slice (some ⟨g, 0, none⟩) n oc) rfl rfl rfl (by kernel_rfl) (by kernel_rfl) (by kernel_rfl) hS ?_ ?_
                  · intro w' hk; obtain ⟨hk0, hk1, hk2⟩ := hk; go_simp
                  simp only [Act.put, List.setIfInBounds_toArray, List.set_cons_zero, List.set_cons_succ]
                  refine fl_takeA (i := 14) (d := 105) (v := .slice (some ⟨lg, lo, none⟩) m lc) rfl rfl rfl (by kernel_rfl) (by kernel_rfl) (by kernel_rfl) hS ?_ ?_
                  · intro w' hk; obtain ⟨hk0, hk1, hk2⟩ := hk; go_simp
                  simp only [Act.put, List.setIfInBounds_toArray, List.set_cons_zero, List.set_cons_succ]
                  refine fl_takeA (i := 15) (d := 106) (v := .int .i64 t) rfl rfl rfl (by kernel_rfl) (by kernel_rfl) (by kernel_rfl) hS ?_ ?_
                  · intro w' hk; obtain ⟨hk0, hk1, hk2⟩ := hk; go_simp
                  simp only [Act.put, List.setIfInBounds_toArray, List.set_cons_zero, List.set_cons_succ]
                  refine fl_takeA (i := 16) (d := 107) (v := .pointer (some ⟨lg, lo + t * 2, none⟩)) rfl rfl rfl (by kernel_rfl) (by kernel_rfl) (by kernel_rfl) hS ?_ ?_
                  · intro w' hk; obtain ⟨hk0, hk1, hk2⟩ := hk; go_simp
                  simp only [Act.put, List.setIfInBounds_toArray, List.set_cons_zero, List.set_cons_succ]
                  refine fl_takeA (i := 17) (d := 108) (v := .pointer (some ⟨lg, lo + t * 2, none⟩)) rfl rfl rfl (by kernel_rfl) (by kernel_rfl) (by kernel_rfl) hS ?_ ?_
                  · intro w' hk; obtain ⟨hk0, hk1, hk2⟩ := hk; go_simp
                  simp only [Act.put, List.setIfInBounds_toArray, List.set_cons_zero, List.set_cons_succ]
                  refine fl_takeA (i := 18) (d := 109) (v := .int .i64 j) rfl rfl rfl (by kernel_rfl) (by kernel_rfl) (by kernel_rfl) hS ?_ ?_
                  · intro w' hk; obtain ⟨hk0, hk1, hk2⟩ := hk; go_simp
                  simp only [Act.put, List.setIfInBounds_toArray, List.set_cons_zero, List.set_cons_succ]
                  refine fl_takeA (i := 19) (d := 110) (v := .pointer (some ⟨g, j, none⟩)) rfl rfl rfl (by kernel_rfl) (by kernel_rfl) (by kernel_rfl) hS ?_ ?_
                  · intro w' hk; obtain ⟨hk0, hk1, hk2⟩ := hk; go_simp
                  simp only [Act.put, List.setIfInBounds_toArray, List.set_cons_zero, List.set_cons_succ]
                  refine fl_takeA (i := 20) (d := 111) (v := .slice (some ⟨gj, 0, none⟩) wd cj) rfl rfl rfl (by kernel_rfl) (by kernel_rfl) (by kernel_rfl) hS ?_ ?_
                  · intro w' hk; obtain ⟨hk0, hk1, hk2⟩ := hk; go_simp
                  simp only [Act.put, List.setIfInBounds_toArray, List.set_cons_zero, List.set_cons_succ]
                  refine fl_takeA (i := 21) (d := 112) (v := .slice (some ⟨lg, lo, none⟩) m lc) rfl rfl rfl (by kernel_rfl) (by kernel_rfl) (by kernel_rfl) hS ?_ ?_
                  · intro w' hk; obtain ⟨hk0, hk1, hk2⟩ := hk; go_simp
                  simp only [Act.put, List.setIfInBounds_toArray, List.set_cons_zero, List.set_cons_succ]
                  refine fl_takeA (i := 22) (d := 113) (v := .int .i64 t) rfl rfl rfl (by kernel_rfl) (by kernel_rfl) (by kernel_rfl) hS ?_ ?_
                  · intro w' hk; obtain ⟨hk0, hk1, hk2⟩ := hk; go_simp
                  simp only [Act.put, List.setIfInBounds_toArray, List.set_cons_zero, List.set_cons_succ]
                  refine fl_takeA (i := 23) (d := 114) (v := .pointer (some ⟨lg, lo + t * 2, none⟩)) rfl rfl rfl (by kernel_rfl) (by kernel_rfl) (by kernel_rfl) hS ?_ ?_
                  · intro w' hk; obtain ⟨hk0, hk1, hk2⟩ := hk; go_simp
                  simp only [Act.put, List.setIfInBounds_toArray, List.set_cons_zero, List.set_cons_succ]
                  refine fl_takeA (i := 24) (d := 115) (v := .pointer (some ⟨lg, lo + t * 2 + 1, none⟩)) rfl rfl rfl (by kernel_rfl) (by kernel_rfl) (by kernel_rfl) hS ?_ ?_
                  · intro w' hk; obtain ⟨hk0, hk1, hk2⟩ := hk; go_simp
                  simp only [Act.put, List.setIfInBounds_toArray, List.set_cons_zero, List.set_cons_succ]
                  refine fl_takeA (i := 25) (d := 116) (v := .int .i64 mm) rfl rfl rfl (by kernel_rfl) (by kernel_rfl) (by kernel_rfl) hS ?_ ?_
                  · intro w' hk; obtain ⟨hk0, hk1, hk2⟩ := hk; go_simp
                  simp only [Act.put, List.setIfInBounds_toArray, List.set_cons_zero, List.set_cons_succ]
                  refine fl_takeA (i := 26) (d := 117) (v := .pointer (some ⟨gj, mm, none⟩)) rfl rfl rfl (by kernel_rfl) (by kernel_rfl) (by kernel_rfl) hS ?_ ?_
                  · intro w' hk; obtain ⟨hk0, hk1, hk2⟩ := hk; go_simp
                  simp only [Act.put, List.setIfInBounds_toArray, List.set_cons_zero, List.set_cons_succ]
                  refine fl_takeA (i := 28) (d := 119) (v := .int .i64 G) rfl rfl rfl (by kernel_rfl) (by kernel_rfl) (by kernel_rfl) hS ?_ ?_
                  · intro w' hk; obtain ⟨hk0, hk1, hk2⟩ := hk; go_simp
                  simp only [Act.put, List.setIfInBounds_toArray, List.set_cons_zero, List.set_cons_succ]
                  refine wpAnyH_all (rs := [27]) (by kernel_rfl) (by simp) ?_
                  intro i hi; obtain rfl := List.mem_singleton.1 hi; clear hi
                  refine op_val (d := 118) (v := .int .i64 A) (w' := V2.drew) rfl rfl rfl (by go_simp; try rfl) ?_
                  simp only [Act.put, List.setIfInBounds_toArray, List.set_cons_zero, List.set_cons_succ]
                  refine ⟨hS, wpAnyH_all (rs := [29]) (by kernel_rfl) (by simp) ?_⟩
                  intro i hi; obtain rfl := List.mem_singleton.1 hi; clear hi
                  refine op_val (d := 120) (v := .int .i64 (A + G)) (w' := V2.drew) rfl rfl rfl (by go_simp; try rfl) ?_
                  simp only [Act.put, List.setIfInBounds_toArray, List.set_cons_zero, List.set_cons_succ]
                  refine ⟨hS, wpAnyH_all (rs := [30]) (by kernel_rfl) (by simp) ?_⟩
                  intro i hi; obtain rfl := List.mem_singleton.1 hi; clear hi
                  refine op_val (d := 121) (v := .pointer (some ⟨gj, mm, none⟩)) (w' := V2.drew) rfl rfl rfl (by go_simp; try rfl) ?_
                  simp only [Act.put, List.setIfInBounds_toArray, List.set_cons_zero, List.set_cons_succ]
                  refine ⟨hS, wpAnyH_all (rs := [31]) (by kernel_rfl) (by simp) ?_⟩
                  intro i hi; obtain rfl := List.mem_singleton.1 hi; clear hi
                  refine op_skipN rfl rfl (w' := V2.drew.setCell ⟨gj, mm, none⟩ (.int .i64 (A + G))) (by go_simp; try rfl) ?_
                  refine ⟨HSE.out, wpAnyH_done (by kernel_rfl) (NoPanic.normal ?_) _⟩
                  generalize V2.drew.setCell ⟨gj, mm, none⟩ (.int .i64 (A + G)) = V' at HP ⊢
                  clear hS HSE p0 p1 pf p1' pf' hgjl hgjl' hgl2 n0 n1 hry hrj
                  go_wp2
                  go_roundw
                  case rel => exact ⟨t + 1, by omega, by go_num, HP.out⟩
                  case measure => simp [intOf]; omega
                · have HP : Hid (∃ L, GV wr Wk.heap.size g n oc wd L vs ∧ DS sh n wd S nb y (x + 1) 0 L ∧ Below Wk.heap.size Wk wr) := by
                    obtain ⟨_, L, h1, h2, h3⟩ := hR.out
                    refine ⟨L, h1, DS.place (by rw [← HL.out.1, show m = t by omega]; exact h2) (fun i k hi hk => (gift_bd hs0 hs1 (HSS.out.2.1.nn i k hi hk) (HSS.out.2.1.bd hi hk)).1), h3⟩
                  clear hR
                  go_wp2
                  go_roundw
                  case rel => exact ⟨x + 1, by omega, by go_num, HP.out⟩
                  case measure => simp [intOf]; omega
            · have HP : Hid (∃ L, GV wr Wk.heap.size g n oc rn L vs ∧ DS sh n rn S nb (y + 1) 0 0 L ∧ Below Wk.heap.size Wk wr) := ⟨L, hGV, DS.row (by rw [show x = rn by omega] at hDS; exact hDS), hbl⟩
              clear hR hGV hDS hbl hrd
              simp only [Nat.zero_add] at a0
              go_wp2
              go_roundw
              case rel => exact ⟨y + 1, by omega, by go_num, HP.out⟩
              case measure => simp [intOf]; omega
        · have HP : Hid (∃ vs, RI wr w1.heap.size (.slice (some ⟨g, 0, none⟩) n oc) (itD sh n wd ls (kk + 1)) vs ∧ DO n wd (itD sh n wd ls (kk + 1)) ∧ Below w1.heap.size w1 wr) := by
            obtain ⟨L, h1, h2, h3⟩ := hR.out
            have e : L = dfL sh n wd S := dfL_is h1.sh fun i k hi hk => by
              have := h2.va i k hi hk
              rw [show y = n by omega, HNB.out] at this
              exact this
            have hd := h2.nn HSS.out.2.1 hs0 hs1 h1.sh
            rw [itD, ← HSS.out.1, ← e]
            exact ⟨vs, h1.ri.low HSS.out.2.2.1.size, hd, HSS.out.2.2.1.trans (h3.mono HSS.out.2.2.1.size)⟩
          clear hR
          go_wp2
          go_roundw
          case rel => exact ⟨kk + 1, g, oc, by omega, by go_num, rfl, HP.out⟩
          case measure => simp [intOf]; omega
    · have ek : kk = s := by omega
      subst ek
      obtain ⟨vs, hri, hdo, hbl⟩ := hR.out
      have HF : Hid (Calls Try.prog 17 #[.slice (some ⟨gn, 0, none⟩) n cn] wr fun e w' => e = .returned (.int .i64 C) ∧ Below wr.heap.size wr w') := by
        unfold Hid
        rw [HG.out.2.1]
        exact spec_gf (sh_sm hdo.sh hn16 hw16) hri.rd
      have HP0 : Hid (RI wr w1.heap.size (.slice (some ⟨gn, 0, none⟩) n cn) (itD sh n wd ls kk) vs ∧ Below w1.heap.size w1 wr) := ⟨hri, hbl⟩
      clear hR hri hdo hbl
      go_wp2_with (fail)
      refine HF.out.mono ?_
      rintro e w4 ⟨rfl, hb4⟩
      have HP : Hid (RI w4 w1.heap.size (.slice (some ⟨gn, 0, none⟩) n cn) (itD sh n wd ls kk) vs ∧ Below w.heap.size w w4 ∧ w4.heap[w.heap.size]? = some (.cells #[.int .i64 0, .slice none 0 0] 25) ∧ w.heap.size < w1.heap.size) := by
        have hbw : Below w1.heap.size w1 w4 := HP0.out.2.trans (hb4.mono HP0.out.2.size)
        exact ⟨HP0.out.1.below hb4, HB.out.1.trans (hbw.mono HB.out.1.size), (hbw.block _ HB.out.2.2).trans HB.out.2.1, HB.out.2.2⟩
      obtain ⟨q0, q1, qf0, qf1, ql⟩ := two_of HP.out.2.2.1
      clear HF HP0 hb4
      by_cases hC0 : C = 0
      · have HV : Hid (diL ls sh st = itD sh n wd ls kk) := by unfold Hid; rw [HG.out.2.2.1, if_pos hC0]
        subst hC0
        go_wp2
        try simp only [Exit.inBlock, Exit.then]
        refine bodyPost_ret (by simp [results, Try.results14, go_sem, q0, q1, ql]; try rfl) rfl ⟨.slice (some ⟨gn, 0, none⟩) n cn, vs, rfl, ?_, ?_⟩
        · rw [HV.out]
          have hs := HP.out.2.2.2
          refine RI.low (B := w1.heap.size) ?_ (by omega)
          repeat' (refine ri_result (w := w) ?_ (by omega) _ _)
          exact HP.out.1
        · have hB := HP.out.2.1
          (repeat' (first | (with_reducible exact Below.refl _ _) | (with_reducible assumption) | (with_reducible refine Below.setCell ?_ ?_ _) | (with_reducible refine Below.alloc ?_ ?_ _) | (with_reducible refine below_drewN ?_ _) | (with_reducible refine Below.drew ?_) | (with_reducible exact Nat.le_refl _) | omega | (simp; done) | (simp; omega)))
      · have HV : Hid (diL ls sh st = []) := by unfold Hid; rw [HG.out.2.2.1, if_neg hC0]
        have hA1 : (C != 0) = true := by simpa using hC0
        go_wp2
        try simp only [Exit.inBlock, Exit.then]
        refine bodyPost_ret (by simp [results, Try.results14, go_sem, q0, q1, ql]; try rfl) rfl ⟨.slice none 0 0, [], rfl, ?_, ?_⟩
        · rw [HV.out]; exact RI.nil _ _
        · have hB := HP.out.2.1
          (repeat' (first | (with_reducible exact Below.refl _ _) | (with_reducible assumption) | (with_reducible refine Below.setCell ?_ ?_ _) | (with_reducible refine Below.alloc ?_ ?_ _) | (with_reducible refine below_drewN ?_ _) | (with_reducible refine Below.drew ?_) | (with_reducible exact Nat.le_refl _) | omega | (simp; done) | (simp; omega)))

end Go.Proofs.Ytpbkoigdfjajkaa
