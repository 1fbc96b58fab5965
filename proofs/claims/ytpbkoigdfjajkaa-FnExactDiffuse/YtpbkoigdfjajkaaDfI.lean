/- Proved here: one step of diffusion, of the program. -/
import Derived.Test.YtpbkoigdfjajkaaBsI
import Derived.Test.YtpbkoigdfjajkaaDtI
import Derived.Test.YtpbkoigdfjajkaaDfM
import Derived.Test.YtpbkoigdfjajkaaDfN
import Derived.Test.YtpbkoigdfjajkaaCpI
import Derived.Test.YtpbkoigdfjajkaaReg
import Derived.Deep.DeepCutAuto
namespace Go.Proofs.Ytpbkoigdfjajkaa
open Go.RowKit
set_option linter.unusedVariables false
set_option linter.unusedSimpArgs false

set_option maxRecDepth 10000 in
set_option maxHeartbeats 25600000 in
theorem impl_diffused {w : World} {v : Value} {S : List (List Int)} {n wd : Nat} (sh : Int) (hn : n ≤ 16) (hw : wd ≤ 16) (hn0 : 0 < n) (hw0 : 0 < wd) (hs0 : 0 ≤ sh) (hs1 : sh ≤ 16) (hS : DO n wd S) (h : RdR w v S) :
    Calls Try.prog 31 #[v, .int .i64 sh] w fun e w' => ∃ g vs, e = .returned (.slice (some ⟨g, 0, none⟩) n n) ∧ GV w' w.heap.size g n n wd (dfL sh n wd S) vs ∧ DO n wd (dfL sh n wd S) ∧ Below w.heap.size w w' := by
  obtain ⟨a, c, rfl⟩ := h.form
  have hl := hS.sh.len
  have HC : Hid (Calls Try.prog 30 #[.slice a n c] w fun e w' => ∃ g vs, e = .returned (.slice (some ⟨g, 0, none⟩) n n) ∧ RI w' w.heap.size (.slice (some ⟨g, 0, none⟩) n n) S vs ∧ Below w.heap.size w w') := by
    rw [hl] at h
    have := impl_copied (hS.gg hn0 hn hw0 hw) h
    rw [hl] at this
    exact this
  rw [hl] at h ⊢
  have HG : Hid (DO n wd S ∧ RdR w (.slice a n c) S) := ⟨hS, h⟩
  obtain ⟨nb, hnb⟩ : ∃ nb : Nat → Nat → List (Int × Int), nb = fun (i k : Nat) => nbI n wd i k := ⟨_, rfl⟩
  have HNB : Hid (nb = fun (i k : Nat) => nbI n wd i k) := hnb
  clear h hS hl hnb
  go_enter Try.func31, Try.ntmps31
  go_wp2_with (fail)
  refine HC.out.mono ?_
  rintro e w1 ⟨g, vs, rfl, hri, hb1⟩
  have HS : Hid (∃ L, GV w1 w.heap.size g n n wd L vs ∧ DS sh n wd S nb 0 0 0 L ∧ Below w.heap.size w w1) := ⟨S, ⟨hri, HG.out.1.sh, hw0⟩, DS.start HG.out.1 hs0 hs1, hb1⟩
  clear HC hri hb1
  go_wp2
  go_loopw [17] (fun i wr => ∃ (y : Nat), y ≤ n ∧ i = .int .i64 y ∧ Hid (∃ L, GV wr w.heap.size g n n wd L vs ∧ DS sh n wd S nb y 0 0 L ∧ Below w.heap.size w wr)) (fun i _ => n - (intOf i).toNat)
  case atStart => exact ⟨0, Nat.zero_le _, rfl, HS.out⟩
  case round =>
    clear HS
    obtain ⟨y, hy, rfl, hR⟩ := hrel
    by_cases hlt : y < n
    · obtain ⟨ag, ao, ra, rn, rc, rfl, hag, a0, hrn, hrd⟩ := HG.out.2.at hlt
      rw [HG.out.1.sh.wd y hlt] at hrn
      subst hrn
      have HRD : Hid (RdI w (.slice ra rn rc) (S.getD y [])) := hrd
      have HS : Hid (∃ L, GV wr w.heap.size g n n rn L vs ∧ DS sh n rn S nb y 0 0 L ∧ Below w.heap.size w wr) := hR.out
      have a1 : wr.cell? ⟨ag, ao + y, none⟩ = some (.slice ra rn rc) := by obtain ⟨_, _, _, hb⟩ := hR.out; exact (hb.cell (p := ⟨ag, ao + y, none⟩) hag).trans a0
      have hag1 : ag < wr.heap.size := by obtain ⟨_, _, _, hb⟩ := hR.out; exact Nat.lt_of_lt_of_le hag hb.size
      clear hrd hR a0 hag
      have b0 : (0 : Int) ≤ (y : Int) := by omega
      have b1 : (y : Int) < (n : Int) := by omega
      go_wp2
      clear a1 hag1
      go_loopw [24] (fun i wr => ∃ (x : Nat), x ≤ rn ∧ i = .int .i64 x ∧ Hid (∃ L, GV wr w.heap.size g n n rn L vs ∧ DS sh n rn S nb y x 0 L ∧ Below w.heap.size w wr)) (fun i _ => rn - (intOf i).toNat)
      case atStart => exact ⟨0, Nat.zero_le _, rfl, HS.out⟩
      case round =>
        clear HS
        obtain ⟨x, hx, rfl, hR⟩ := hrel
        by_cases hltx : x < rn
        · obtain ⟨L, hGV, hDS, hbl⟩ := hR.out
          obtain ⟨rg, ro, rfl, hrg, r0⟩ := rd_at (HRD.out.below hbl) hltx
          obtain ⟨H, hH⟩ : ∃ H, H = (S.getD y []).getD x 0 := ⟨_, rfl⟩
          rw [← hH] at r0
          obtain ⟨G, hG⟩ : ∃ G, G = gift sh S y x := ⟨_, rfl⟩
          have hgb := gift_bd hs0 hs1 (HG.out.1.nn y x hlt hltx) (HG.out.1.bd hlt hltx)
          have hHx : at2 S y x = H := hH.symm
          rw [← hG, hHx] at hgb
          have hw1 : IntKind.i64.wrap (H * sh) = H * sh := by rw [IntKind.wrap_i64]; omega
          have hq : (H * sh).tdiv 64 = G := by rw [Int.tdiv_eq_ediv_of_nonneg hgb.2.2.1, hG, gift, hHx]
          have hGb : 0 ≤ G ∧ G ≤ 256000000 := by have := HG.out.1.bd hlt hltx; have h4 := hgb.2.1; have h5 := hgb.1; rw [hHx] at this; omega
          have hw2 : IntKind.i64.wrap ((H * sh).tdiv 64) = G := by rw [hq, IntKind.wrap_i64]; omega
          have HGG : Hid (G = gift sh S y x) := hG
          have HS : Hid (GV wr w.heap.size g n n rn L vs ∧ DS sh n rn S nb y x 0 L ∧ Below w.heap.size w wr) := ⟨hGV, hDS, hbl⟩
          have HC : Hid (Calls Try.prog 34 #[.slice (some ⟨ag, ao, none⟩) n c, .agg #[.int .i64 x, .int .i64 y]] wr fun e w' => ∃ v', e = .returned v' ∧ OG 48 2 ptE w' wr.heap.size v' (nb y x) ∧ Below wr.heap.size wr w') := by
            unfold Hid
            rw [HNB.out]
            exact impl_beside hn hw hlt hltx HG.out.1.sh (HG.out.2.below hbl)
          clear hR hGV hDS hbl hH hG hgb hHx
          have b2 : (0 : Int) ≤ (x : Int) := by omega
          have b3 : (x : Int) < (rn : Int) := by omega
          go_wp2_with (fail)
          try rw [hq]
          refine HC.out.mono ?_
          rintro e w2 ⟨v2, rfl, hog, hb2⟩
          obtain ⟨la, lc, rfl⟩ := og_form hog
          obtain ⟨m, hm⟩ : ∃ m, m = (nb y x).length := ⟨_, rfl⟩
          rw [← hm] at hog ⊢
          have HL : Hid (m = (nb y x).length ∧ m ≤ 4) := ⟨hm, by rw [hm, HNB.out]; exact nbI_len _ _ _ _⟩
          have HI : Hid (OG 48 2 ptE w2 wr.heap.size (.slice la m lc) (nb y x) ∧ ∃ L, GV w2 w.heap.size g n n rn L vs ∧ DS sh n rn S nb y x 0 L ∧ Below w.heap.size w w2) := ⟨hog, L, HS.out.1.below hb2, HS.out.2.1, HS.out.2.2.trans (hb2.mono HS.out.2.2.size)⟩
          have hm4 : m ≤ 4 := HL.out.2
          obtain ⟨wz, hwz⟩ : ∃ n, n = wr.heap.size := ⟨_, rfl⟩
          have HZ : Hid (∀ i, i < n → ∀ q, (rat vs i).ownBlock = some q → q < wz) := fun i hi q hq => by
            rw [hwz]; exact (rowBlk (HS.out.1.ri.bx i (by rw [HS.out.1.sh.len]; exact hi)) hq).2.1
          rw [← hwz] at HI
          clear HC hog hb2 hm HS hwz r0 hrg hw1 hq hw2
          go_wp2
          go_loopw [39] (fun i wr => ∃ (t : Nat), t ≤ m ∧ i = .int .i64 t ∧ Hid (OG 48 2 ptE wr wz (.slice la m lc) (nb y x) ∧ ∃ L, GV wr w.heap.size g n n rn L vs ∧ DS sh n rn S nb y x t L ∧ Below w.heap.size w wr)) (fun i _ => m - (intOf i).toNat)
          case atStart => exact ⟨0, Nat.zero_le _, rfl, HI.out⟩
          case round =>
            clear HI
            obtain ⟨t, ht, rfl, hR⟩ := hrel
            by_cases hltt : t < m
            · obtain ⟨hog, L, hGV, hDS, hbl⟩ := hR.out
              obtain ⟨j, mm, hjm, hj, hmm, hadj⟩ := nbI_get (n := n) (W := rn) hlt hltx (q := t) (by have := HL.out.1; rw [HNB.out] at this; show t < (nbI n rn y x).length; rw [← this]; exact hltt)
              obtain ⟨lg, lo, rfl, hlg, l0, l1⟩ := pt_at (OG.rg ptE_len hog) hltt
              have hjm' : (nb y x).getD t (0, 0) = ((j : Int), (mm : Int)) := by rw [HNB.out]; exact hjm
              rw [hjm'] at l0 l1
              simp only at l0 l1
              have HS : Hid (OG 48 2 ptE wr wz (.slice (some ⟨lg, lo, none⟩) m lc) (nb y x) ∧ GV wr w.heap.size g n n rn L vs ∧ DS sh n rn S nb y x t L ∧ Below w.heap.size w wr ∧ (nb y x).getD t (0, 0) = ((j : Int), (mm : Int)) ∧ Adj y x j mm) := ⟨hog, hGV, hDS, hbl, hjm', hadj⟩
              have hDO := hDS.nn HG.out.1 hs0 hs1 hGV.sh
              have hne : ¬ (j = y ∧ mm = x) := by unfold Adj at hadj; omega
              obtain ⟨V, hV⟩ : ∃ V, V = wr.alloc (.cells #[.int .i64 mm, .int .i64 j] 48) := ⟨_, rfl⟩
              have hbV : Below wr.heap.size wr V := by rw [hV]; (repeat' (first | (with_reducible exact Below.refl _ _) | (with_reducible assumption) | (with_reducible refine Below.setCell ?_ ?_ _) | (with_reducible refine Below.alloc ?_ ?_ _) | (with_reducible refine below_drewN ?_ _) | (with_reducible refine Below.drew ?_) | (with_reducible exact Nat.le_refl _) | omega | (simp; done) | (simp; omega)))
              have hkV : V.heap[wr.heap.size]? = some (.cells #[.int .i64 mm, .int .i64 j] 48) := by rw [hV]; exact heap_alloc_new wr _
              have hGVV := hGV.below hbV
              obtain ⟨gy, cy, hry, py, hgl, hgyl, hBy, _, _, hcy⟩ := hGVV.at hlt
              obtain ⟨py1, pyf⟩ := hcy x hltx
              obtain ⟨E, hE⟩ : ∃ E, E = at2 L y x := ⟨_, rfl⟩
              rw [← hE] at py1
              have hEb : 0 ≤ E ∧ E ≤ 256000000 := by rw [hE]; exact ⟨hDO.nn y x hlt hltx, hDO.bd hlt hltx⟩
              have hwE : IntKind.i64.wrap (E - G) = E - G := by rw [IntKind.wrap_i64]; omega
              obtain ⟨V2, hV2⟩ : ∃ V2, V2 = V.setCell ⟨gy, x, none⟩ (.int .i64 (E - G)) := ⟨_, rfl⟩
              have hgyz : gy < wz := HZ.out y hlt gy (by rw [hry]; rfl)
              have hgyw : gy < wr.heap.size := by
                have h1 := rowBlk (hGV.ri.bx y (by rw [hGV.sh.len]; exact hlt)) (g := gy) (by rw [hry]; rfl)
                exact h1.2.1
              have hG2 : GV V2 w.heap.size g n n rn (set2 L y x (E - G)) vs := by rw [hV2]; exact hGVV.set hlt hry x (E - G)
              have hb2 : Below w.heap.size w V2 := by rw [hV2]; exact hGVV.bel hlt hry x (E - G) (hbl.trans (hbV.mono hbl.size))
              have hk2 : V2.heap[wr.heap.size]? = some (.cells #[.int .i64 mm, .int .i64 j] 48) := by rw [hV2, heap_setCell_other _ _ _ _ (by intro e; simp at e; omega)]; exact hkV
              have ho2 : OG 48 2 ptE V2 wz (.slice (some ⟨lg, lo, none⟩) m lc) (nb y x) := by
                have h1 := OG.below hog hbV
                rw [hV2]
                exact ownsRow_keep h1 fun q hq => heap_setCell_other _ _ _ _ (by have := (World.ownsRow.lt h1 q hq).1; intro e; simp at e; omega)
              obtain ⟨u0, u1, uf0, uf1, ul⟩ := two_of hk2
              obtain ⟨gj, cj, hrj, p0, hgl2, hgjl, hBj, _, hgjg, hcj⟩ := hG2.at hj
              obtain ⟨p1, pf⟩ := hcj mm hmm
              rw [at2_set2 hGV.sh hlt hltx, if_neg hne] at p1
              obtain ⟨A, hA⟩ : ∃ A, A = at2 L j mm := ⟨_, rfl⟩
              rw [← hA] at p1
              have hAb : 0 ≤ A ∧ A ≤ 256000000 := by rw [hA]; exact ⟨hDO.nn j mm hj hmm, hDO.bd hj hmm⟩
              have hwA : IntKind.i64.wrap (A + G) = A + G := by rw [IntKind.wrap_i64]; omega
              have HP : Hid (OG 48 2 ptE (V2.drew.setCell ⟨gj, mm, none⟩ (.int .i64 (A + G))) wz (.slice (some ⟨lg, lo, none⟩) m lc) (nb y x) ∧ ∃ L, GV (V2.drew.setCell ⟨gj, mm, none⟩ (.int .i64 (A + G))) w.heap.size g n n rn L vs ∧ DS sh n rn S nb y x (t + 1) L ∧ Below w.heap.size w (V2.drew.setCell ⟨gj, mm, none⟩ (.int .i64 (A + G)))) := by
                have hgd : GV V2.drew w.heap.size g n n rn (set2 L y x (E - G)) vs := hG2.below (Below.refl _ _).drew
                have hod : OG 48 2 ptE V2.drew wz (.slice (some ⟨lg, lo, none⟩) m lc) (nb y x) := OG.below ho2 (Below.refl _ _).drew
                refine ⟨?_, _, hgd.set hj hrj mm (A + G), ?_, hgd.bel hj hrj mm (A + G) hb2.drew⟩
                · have hgjz : gj < wz := HZ.out j hj gj (by rw [hrj]; rfl)
                  exact ownsRow_keep hod fun q hq => heap_setCell_other _ _ _ _ (by have := (World.ownsRow.lt hod q hq).1; intro e; simp at e; omega)
                · rw [hE, hA, HGG.out]
                  exact hDS.op HG.out.1 hs0 hs1 hGV.sh hlt hltx hj hmm hadj hjm' (by omega)
              have HSS : Hid ((V2.drew.setCell ⟨gj, mm, none⟩ (.int .i64 (A + G))).cell? ⟨wr.heap.size, 1, none⟩ = some (.int .i64 j) ∧ (V2.drew.setCell ⟨gj, mm, none⟩ (.int .i64 (A + G))).cell? ⟨wr.heap.size, 0, none⟩ = some (.int .i64 mm) ∧ (V2.drew.setCell ⟨gj, mm, none⟩ (.int .i64 (A + G))).cell? ⟨g, j, none⟩ = some (.slice (some ⟨gj, 0, none⟩) rn cj)) := by
                have hgjw : gj < wr.heap.size := (rowBlk (hGV.ri.bx j (by rw [hGV.sh.len]; exact hj)) (g := gj) (by rw [hrj]; rfl)).2.1
                have hk3 : (V2.drew.setCell ⟨gj, mm, none⟩ (.int .i64 (A + G))).heap[wr.heap.size]? = some (.cells #[.int .i64 mm, .int .i64 j] 48) := by
                  rw [heap_setCell_other _ _ _ _ (by intro e; simp at e; omega)]; exact hk2
                refine ⟨cellOf hk3 1 rfl, cellOf hk3 0 rfl, ?_⟩
                have e : (V2.drew.setCell ⟨gj, mm, none⟩ (.int .i64 (A + G))).heap[g]? = V2.heap[g]? := by
                  rw [heap_setCell_other _ _ _ _ (by intro e; simp at e; exact hgjg e.symm)]; rfl
                exact (World.cell?_of_block (a := ⟨g, j, none⟩) e).trans p0
              have b4 : (0 : Int) ≤ (t : Int) := by omega
              have b5 : (t : Int) < (m : Int) := by omega
              have c4 : (0 : Int) ≤ (j : Int) := by omega
              have c5 : (j : Int) < (n : Int) := by omega
              have c6 : (0 : Int) ≤ (mm : Int) := by omega
              have c7 : (mm : Int) < (rn : Int) := by omega
              clear hR hog hGV hDS hbl hjm hjm' hadj HS hDO hbV hkV hGVV hcy hE hA hG2 hb2 hk2 ho2 hcj hgyz hgyw hBy hBj hgjg
              have HV : Hid (V = wr.alloc (.cells #[.int .i64 mm, .int .i64 j] 48)) := hV
              have HV2 : Hid (V2 = V.setCell ⟨gy, x, none⟩ (.int .i64 (E - G))) := hV2
              clear hV hV2
              go_upto_region 12 with (fail)
              rw [← HV.out]
              go_upto_region 13 with (fail)
              rw [← HV2.out]
              clear HV HV2 l0 l1 hlg py py1 pyf hgyl hgl
              refine wp_region_holdsA (S := fun w' => w'.cell? ⟨wr.heap.size, 1, none⟩ = some (.int .i64 j) ∧ w'.cell? ⟨wr.heap.size, 0, none⟩ = some (.int .i64 mm) ∧ w'.cell? ⟨g, j, none⟩ = some (.slice (some ⟨gj, 0, none⟩) rn cj)) (by kernel_rfl) ⟨u1, u0, p0⟩ (fun hS => ?_)
              refine fl_takeA (i := 0) (d := 53) (v := .slice (some ⟨g, 0, none⟩) n n) rfl rfl rfl (by kernel_rfl) (by kernel_rfl) (by kernel_rfl) hS ?_ ?_
              · intro w' hk; obtain ⟨hk0, hk1, hk2⟩ := hk; go_simp
              simp only [Act.put, List.setIfInBounds_toArray, List.set_cons_zero, List.set_cons_succ]
              refine fl_takeA (i := 1) (d := 54) (v := .pointer (some ⟨wr.heap.size, 1, none⟩)) rfl rfl rfl (by kernel_rfl) (by kernel_rfl) (by kernel_rfl) hS ?_ ?_
              · intro w' hk; obtain ⟨hk0, hk1, hk2⟩ := hk; go_simp
              simp only [Act.put, List.setIfInBounds_toArray, List.set_cons_zero, List.set_cons_succ]
              refine fl_takeA (i := 2) (d := 55) (v := .int .i64 j) rfl rfl rfl (by kernel_rfl) (by kernel_rfl) (by kernel_rfl) hS ?_ ?_
              · intro w' hk; obtain ⟨hk0, hk1, hk2⟩ := hk; go_simp
              simp only [Act.put, List.setIfInBounds_toArray, List.set_cons_zero, List.set_cons_succ]
              refine fl_takeA (i := 3) (d := 56) (v := .pointer (some ⟨g, j, none⟩)) rfl rfl rfl (by kernel_rfl) (by kernel_rfl) (by kernel_rfl) hS ?_ ?_
              · intro w' hk; obtain ⟨hk0, hk1, hk2⟩ := hk; go_simp
              simp only [Act.put, List.setIfInBounds_toArray, List.set_cons_zero, List.set_cons_succ]
              refine fl_takeA (i := 4) (d := 57) (v := .slice (some ⟨gj, 0, none⟩) rn cj) rfl rfl rfl (by kernel_rfl) (by kernel_rfl) (by kernel_rfl) hS ?_ ?_
              · intro w' hk; obtain ⟨hk0, hk1, hk2⟩ := hk; go_simp
              simp only [Act.put, List.setIfInBounds_toArray, List.set_cons_zero, List.set_cons_succ]
              refine fl_takeA (i := 5) (d := 58) (v := .pointer (some ⟨wr.heap.size, 0, none⟩)) rfl rfl rfl (by kernel_rfl) (by kernel_rfl) (by kernel_rfl) hS ?_ ?_
              · intro w' hk; obtain ⟨hk0, hk1, hk2⟩ := hk; go_simp
              simp only [Act.put, List.setIfInBounds_toArray, List.set_cons_zero, List.set_cons_succ]
              refine fl_takeA (i := 6) (d := 59) (v := .int .i64 mm) rfl rfl rfl (by kernel_rfl) (by kernel_rfl) (by kernel_rfl) hS ?_ ?_
              · intro w' hk; obtain ⟨hk0, hk1, hk2⟩ := hk; go_simp
              simp only [Act.put, List.setIfInBounds_toArray, List.set_cons_zero, List.set_cons_succ]
              refine fl_takeA (i := 7) (d := 60) (v := .pointer (some ⟨gj, mm, none⟩)) rfl rfl rfl (by kernel_rfl) (by kernel_rfl) (by kernel_rfl) hS ?_ ?_
              · intro w' hk; obtain ⟨hk0, hk1, hk2⟩ := hk; go_simp
              simp only [Act.put, List.setIfInBounds_toArray, List.set_cons_zero, List.set_cons_succ]
              refine fl_takeA (i := 9) (d := 62) (v := .int .i64 G) rfl rfl rfl (by kernel_rfl) (by kernel_rfl) (by kernel_rfl) hS ?_ ?_
              · intro w' hk; obtain ⟨hk0, hk1, hk2⟩ := hk; go_simp
              simp only [Act.put, List.setIfInBounds_toArray, List.set_cons_zero, List.set_cons_succ]
              have p1' : V2.drew.cell? ⟨gj, mm, none⟩ = some (.int .i64 A) := p1
              have pf' : V2.drew.frozen? ⟨gj, mm, none⟩ = false := pf
              have hgjl' : gj < V2.drew.heap.size := hgjl
              refine wpAnyH_all (rs := [8]) (by kernel_rfl) (by simp) ?_
              intro i hi; obtain rfl := List.mem_singleton.1 hi; clear hi
              refine op_val (d := 61) (v := .int .i64 A) (w' := V2.drew) rfl rfl rfl (by go_simp; try rfl) ?_
              simp only [Act.put, List.setIfInBounds_toArray, List.set_cons_zero, List.set_cons_succ]
              refine ⟨hS, wpAnyH_all (rs := [10]) (by kernel_rfl) (by simp) ?_⟩
              intro i hi; obtain rfl := List.mem_singleton.1 hi; clear hi
              refine op_val (d := 63) (v := .int .i64 (A + G)) (w' := V2.drew) rfl rfl rfl (by go_simp; try rfl) ?_
              simp only [Act.put, List.setIfInBounds_toArray, List.set_cons_zero, List.set_cons_succ]
              refine ⟨hS, wpAnyH_all (rs := [11]) (by kernel_rfl) (by simp) ?_⟩
              intro i hi; obtain rfl := List.mem_singleton.1 hi; clear hi
              refine op_val (d := 64) (v := .pointer (some ⟨gj, mm, none⟩)) (w' := V2.drew) rfl rfl rfl (by go_simp; try rfl) ?_
              simp only [Act.put, List.setIfInBounds_toArray, List.set_cons_zero, List.set_cons_succ]
              refine ⟨hS, wpAnyH_all (rs := [12]) (by kernel_rfl) (by simp) ?_⟩
              intro i hi; obtain rfl := List.mem_singleton.1 hi; clear hi
              refine op_skipN rfl rfl (w' := V2.drew.setCell ⟨gj, mm, none⟩ (.int .i64 (A + G))) (by go_simp; try rfl) ?_
              refine ⟨HSS.out, wpAnyH_done (by kernel_rfl) (NoPanic.normal ?_) _⟩
              generalize V2.drew.setCell ⟨gj, mm, none⟩ (.int .i64 (A + G)) = V' at HP ⊢
              clear hS HSS p0 p1 pf p1' pf' hgjl hgjl' hgl2 u0 u1 uf0 uf1 ul hry hrj
              go_wp2
              go_roundw
              case rel => exact ⟨t + 1, by omega, by go_num, HP.out⟩
              case measure => simp [intOf]; omega
            · have HP : Hid (∃ L, GV wr w.heap.size g n n rn L vs ∧ DS sh n rn S nb y (x + 1) 0 L ∧ Below w.heap.size w wr) := by
                obtain ⟨_, L, h1, h2, h3⟩ := hR.out
                refine ⟨L, h1, DS.place (by rw [← HL.out.1, show m = t by omega]; exact h2) (fun i k hi hk => (gift_bd hs0 hs1 (HG.out.1.nn i k hi hk) (HG.out.1.bd hi hk)).1), h3⟩
              clear hR
              go_wp2
              go_roundw
              case rel => exact ⟨x + 1, by omega, by go_num, HP.out⟩
              case measure => simp [intOf]; omega
        · have HP : Hid (∃ L, GV wr w.heap.size g n n rn L vs ∧ DS sh n rn S nb (y + 1) 0 0 L ∧ Below w.heap.size w wr) := by
            obtain ⟨L, h1, h2, h3⟩ := hR.out
            exact ⟨L, h1, DS.row (by rw [show x = rn by omega] at h2; exact h2), h3⟩
          clear hR
          go_wp2
          go_roundw
          case rel => exact ⟨y + 1, by omega, by go_num, HP.out⟩
          case measure => simp [intOf]; omega
    · have HP : Hid (GV wr w.heap.size g n n wd (dfL sh n wd S) vs ∧ DO n wd (dfL sh n wd S) ∧ Below w.heap.size w wr) := by
        obtain ⟨L, h1, h2, h3⟩ := hR.out
        have e : L = dfL sh n wd S := dfL_isI h1.sh fun i k hi hk => by
          have := h2.va i k hi hk
          rw [show y = n by omega, HNB.out] at this
          exact this
        rw [← e]
        exact ⟨h1, h2.nn HG.out.1 hs0 hs1 h1.sh, h3⟩
      clear hR
      go_wp2
      go_returns
      exact ⟨g, vs, rfl, HP.out.1, HP.out.2.1, HP.out.2.2⟩

end Go.Proofs.Ytpbkoigdfjajkaa
