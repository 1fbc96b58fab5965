/- Proved here: StripMat of the model. -/
import Derived.Test.YtceljakmjddgbabEsM
import Derived.StillTail
namespace Go.Proofs.Ytceljakmjddgbab
open Go.RowKit
set_option linter.unusedVariables false
set_option linter.unusedSimpArgs false

set_option maxRecDepth 10000 in
set_option maxHeartbeats 25600000 in
theorem spec_stripMat {w : World} {v : Value} {s : List (List Flm)} (m : Int) (hn : SmF s) (h : RsC w v s) :
    Calls Try.prog 30 #[.agg #[v], .int .i64 m] w fun e w' => ∃ (vq : Value × Value) (vs : List Value), e = .returned (.agg #[.int .i64 (stC s m), vq.1, vq.2]) ∧ RoE w' w.heap.size vq.1 vq.2 (etL (stC s m) (fun i => stL (s.getD i []) m) s.length) (etG (stC s m) (fun i => stL (s.getD i []) m) s.length) vs ∧ Below w.heap.size w w' := by
  obtain ⟨a, c, rfl⟩ := h.form
  obtain ⟨n, hnn⟩ : ∃ n, n = s.length := ⟨_, rfl⟩
  obtain ⟨F, hF0⟩ : ∃ F, F = secF s := ⟨_, rfl⟩
  obtain ⟨C, hC⟩ : ∃ C, C = stC s m := ⟨_, rfl⟩
  obtain ⟨L, hL⟩ : ∃ L, L = etL C (fun i => stL (s.getD i []) m) n := ⟨_, rfl⟩
  obtain ⟨G, hG⟩ : ∃ G, G = etG C (fun i => stL (s.getD i []) m) n := ⟨_, rfl⟩
  rw [← hnn] at h ⊢
  rw [← hC, ← hL, ← hG]
  have HSF : Hid (∀ W, Below w.heap.size w W → Calls Try.prog 36 #[.agg #[.slice a n c]] W fun e w' => e = .returned (.int .i64 F) ∧ Below W.heap.size W w') := fun W hW => by rw [hF0]; exact spec_secF hn (h.rs.below hW)
  have H : Hid (RsC w (.slice a n c) s ∧ n = s.length ∧ F = secF s ∧ C = stC s m ∧ L = etL C (fun i => stL (s.getD i []) m) n ∧ G = etG C (fun i => stL (s.getD i []) m) n) := ⟨h, hnn, hF0, hC, hL, hG⟩
  have HBAD : Hid (∀ D, stC s m = D → D ≠ 0 → C = D ∧ ∀ W : World, RoE W w.heap.size (.slice none 0 0) (.slice none 0 0) L G []) := fun D hD hd => by
    have hc2 : C = D := by rw [hC, hD]
    refine ⟨hc2, fun W => ?_⟩
    rw [hL, hG, etL, etG, if_neg (by rw [hc2]; exact hd), if_neg (by rw [hc2]; exact hd)]
    exact ⟨RoF.nil _ _, World.ownsRow_nil _ _ _ _⟩
  clear h hnn hn hF0 hC hL hG
  go_enter Try.func30, Try.ntmps30
  go_wp2_with (fail)
  refine (HSF.out _ (by (repeat' (first | (with_reducible exact Below.refl _ _) | (with_reducible assumption) | (with_reducible refine Below.setCell ?_ ?_ _) | (with_reducible refine Below.alloc ?_ ?_ _) | (with_reducible refine below_drewN ?_ _) | (with_reducible refine Below.drew ?_) | (with_reducible exact Nat.le_refl _) | omega | (simp; done) | (simp; omega))))).mono ?_
  rintro e w1 ⟨rfl, hb1⟩
  have k0 := (hb1.block w.heap.size (by simp <;> omega)).trans ((Below.heap_alloc _ _ _ (by simp)).trans (heap_alloc_new w _))
  have k1 := (hb1.block (w.heap.size + 1) (by simp)).trans (kn_at1s w _ _)
  have hbw : Below w.heap.size w w1 := (show Below w.heap.size w _ from by (repeat' (first | (with_reducible exact Below.refl _ _) | (with_reducible assumption) | (with_reducible refine Below.setCell ?_ ?_ _) | (with_reducible refine Below.alloc ?_ ?_ _) | (with_reducible refine below_drewN ?_ _) | (with_reducible refine Below.drew ?_) | (with_reducible exact Nat.le_refl _) | omega | (simp; done) | (simp; omega)))).trans (hb1.mono (by simp; omega))
  have H1 : Hid (Below w.heap.size w w1 ∧ w1.heap[w.heap.size + 1]? = some (.cells #[.int .i64 0, .slice none 0 0, .slice none 0 0] 32) ∧ w1.heap[w.heap.size]? = some (.cells #[.slice a n c] 30)) := ⟨hbw, k1, k0⟩
  obtain ⟨a0, al⟩ := one_ofs k0
  obtain ⟨p0, p1, p2, f0, f1, f2, pl⟩ := three_s k1
  have HB0 : Hid (∀ D : Int, Below w.heap.size w (((w1.setCell ⟨w.heap.size + 1, 0, none⟩ (.int .i64 D)).setCell ⟨w.heap.size + 1, 1, none⟩ (.slice none 0 0)).setCell ⟨w.heap.size + 1, 2, none⟩ (.slice none 0 0))) := fun D => by
    have := H1.out.1; (repeat' (first | (with_reducible exact Below.refl _ _) | (with_reducible assumption) | (with_reducible refine Below.setCell ?_ ?_ _) | (with_reducible refine Below.alloc ?_ ?_ _) | (with_reducible refine below_drewN ?_ _) | (with_reducible refine Below.drew ?_) | (with_reducible exact Nat.le_refl _) | omega | (simp; done) | (simp; omega)))
  clear hb1 k0 k1 hbw HSF
  by_cases hF : F = 0
  case neg =>
    have HE : Hid _ := HBAD.out F (by rw [stC, ← H.out.2.2.1, if_neg hF]) hF
    have hF' : (F == 0) = false := by simpa using hF
    go_wp2
    refine bodyPost_ret (by simp [results, Try.results30, go_sem, p0, p1, p2, pl]; try rfl) rfl ?_
    first | exact ⟨(_, _), [], by rw [HE.out.1] <;> rfl, HE.out.2 _, HB0.out _⟩ | exact ⟨_, _, by rw [HE.out.1] <;> rfl, ⟨[], HE.out.2 _⟩, HB0.out _⟩
  have HF : Hid (secF s = 0) := H.out.2.2.1 ▸ hF
  subst hF
  go_wp2_with (fail)
  refine (spec_mat m _).mono ?_
  rintro e w2 ⟨rfl, rfl⟩
  by_cases hm : 1 ≤ m ∧ m ≤ 12
  case neg =>
    rw [decide_eq_false hm]
    have HE : Hid _ := HBAD.out 1 (by rw [stC, if_pos HF.out, if_neg hm]) (by decide)
    clear hm
    go_wp2
    refine bodyPost_ret (by simp [results, Try.results30, go_sem, p0, p1, p2, pl]; try rfl) rfl ?_
    first | exact ⟨(_, _), [], by rw [HE.out.1] <;> rfl, HE.out.2 _, HB0.out _⟩ | exact ⟨_, _, by rw [HE.out.1] <;> rfl, ⟨[], HE.out.2 _⟩, HB0.out _⟩
  rw [decide_eq_true hm]
  have HM : Hid (1 ≤ m ∧ m ≤ 12) := hm
  have HC0 : Hid (C = 0) := by unfold Hid; rw [H.out.2.2.2.1, stC, if_pos HF.out, if_pos hm]
  have HGS : Hid (GS s) := secF_zero.1 HF.out
  clear hm HBAD HB0
  have hn16 : n ≤ 16 := by rw [H.out.2.1]; exact HGS.out.len
  obtain ⟨w1, hw1e⟩ : ∃ x, x = w2 := ⟨_, rfl⟩
  subst hw1e
  have HCP : Hid (Calls Try.prog 38 #[.agg #[.slice a n c]] w1 fun e w' => ∃ v' vs, e = .returned (.agg #[v']) ∧ RoF w' w1.heap.size v' s vs ∧ Below w1.heap.size w1 w') := spec_copy12 HGS.out (H.out.1.below H1.out.1)
  go_wp2_with (fail)
  refine HCP.out.mono ?_
  rintro e w3 ⟨v3, vs0, rfl, hro3, hb3⟩
  obtain ⟨gC, cc, hv3, hgB, _, _⟩ := hro3.pos (by have := HGS.out.pos; omega)
  rw [← H.out.2.1] at hv3
  subst hv3
  clear HCP p0 p1 p2 f0 f1 f2 pl a0 al
  go_wp2_with (fail)
  obtain ⟨K, hK⟩ : ∃ K, K = w3.heap.size := ⟨_, rfl⟩
  obtain ⟨w4, hw4⟩ : ∃ x, x = w3.alloc (.cells #[.slice (some ⟨gC, 0, none⟩) n cc] 30) := ⟨_, rfl⟩
  have HS0 : Hid (DP w w1 K n cc gC (mpK s (stF m) 0) w4) := by
    have hb4 : Below w3.heap.size w3 w4 := by rw [hw4]; (repeat' (first | (with_reducible exact Below.refl _ _) | (with_reducible assumption) | (with_reducible refine Below.setCell ?_ ?_ _) | (with_reducible refine Below.alloc ?_ ?_ _) | (with_reducible refine below_drewN ?_ _) | (with_reducible refine Below.drew ?_) | (with_reducible exact Nat.le_refl _) | omega | (simp; done) | (simp; omega)))
    exact ⟨⟨vs0, by rw [mpK_zero]; exact hro3.below hb4⟩, by rw [hw4, hK]; exact heap_alloc_new _ _, hb3.trans (hb4.mono hb3.size)⟩
  go_wp2
  rw [← hw4, ← hK]
  clear hw4 hK hro3 hb3 hgB
  go_loopw [7] (fun i wr => ∃ j : Nat, j ≤ n ∧ i = .int .i64 j ∧ Hid (DP w w1 K n cc gC (mpK s (stF m) j) wr)) (fun i _ => n - (intOf i).toNat)
  case atStart => exact ⟨0, Nat.zero_le _, rfl, HS0.out⟩
  case round =>
    clear HS0
    obtain ⟨j, hjn, rfl, hR⟩ := hrel
    have b0' := cellOf hR.out.kb 0 rfl
    have bl' := ltOf hR.out.kb
    by_cases hlt : j < n
    · obtain ⟨vs, hro⟩ := hR.out.ro
      have hjs : j < s.length := by rw [← H.out.2.1]; exact hlt
      have hjl : j < (mpK s (stF m) j).length := by rw [mpK_len]; exact hjs
      obtain ⟨gc', cc', he, _, hgcl, hcc⟩ := hro.pos (by omega)
      injection he with he1 he2 he3
      injection he1 with he4
      injection he4 with he5
      subst he5
      have c0 := hcc j hjl
      have fz : wr.frozen? ⟨gC, j, none⟩ = false := World.ownsRow.frozenAt (show wr.ownsRow w1.heap.size 62 1 (.slice (some ⟨gC, 0, none⟩) n cc) n vs by have := hro.o; rw [mpK_len, ← H.out.2.1] at this; exact this) j
      have hrow := hro.bx j hjl
      rw [mpK_at s (stF m) hjs] at hrow
      obtain ⟨col, hcol⟩ : ∃ x, x = s.getD j [] := ⟨_, rfl⟩
      rw [← hcol] at hrow
      obtain ⟨xa, xc, hxf⟩ := hrow.form
      obtain ⟨xn, hxn⟩ : ∃ x, x = col.length := ⟨_, rfl⟩
      rw [← hxn] at hxf
      rw [hxf] at c0
      have hgc := HGS.out.col j hjs
      rw [← hcol] at hgc
      have hx24 : xn ≤ 24 := by rw [hxn]; exact hgc.len
      have HK : Hid (DP w w1 K n cc gC (mpK s (stF m) j) wr ∧ RoF wr w1.heap.size (.slice (some ⟨gC, 0, none⟩) n cc) (mpK s (stF m) j) vs ∧ j < (mpK s (stF m) j).length ∧ rat vs j = .slice xa xn xc ∧ OG 76 2 flC wr w1.heap.size (.slice xa xn xc) col ∧ xn = col.length ∧ col = s.getD j [] ∧ j < s.length) := ⟨hR.out, hro, hjl, hxf, by rw [← hxf]; exact hrow, hxn, hcol, hjs⟩
      have b0 : (0 : Int) ≤ (j : Int) := by omega
      have b1 : (j : Int) < (n : Int) := by omega
      clear hro hrow hcc he2 he3 hxf hjl hjs hgc hcol hxn hR
      rcases Nat.eq_zero_or_pos xn with hx0 | hx0
      · have HE : Hid (DP w w1 K n cc gC (mpK s (stF m) (j + 1)) wr) := by
          rw [← mpK_same s (stF m) (by unfold stF; rw [if_neg (by rw [← HK.out.2.2.2.2.2.2.1]; have := HK.out.2.2.2.2.2.1; omega)])]
          exact HK.out.1
        subst hx0
        clear HK
        go_wp2
        go_roundw
        case rel => exact ⟨j + 1, by omega, by go_num, HE.out⟩
        case measure => simp [intOf]; omega
      obtain ⟨p, hp⟩ : ∃ p, xn = p + 1 := ⟨xn - 1, by omega⟩
      obtain ⟨xg, rfl⟩ : ∃ xg, xa = some ⟨xg, 0, none⟩ := by
        rcases HK.out.2.2.2.2.1.2 with ⟨e, h9⟩ | ⟨g9, cap, cur, e, _⟩
        · injection e with _ e2; omega
        · injection e with e1; exact ⟨g9, e1⟩
      obtain ⟨g', o', he, hgl, d0, d1⟩ := fl_at (OG.rg flC_len HK.out.2.2.2.2.1) (show p < xn by omega)
      injection he with he1
      injection he1 with he2 he3
      subst he2 he3
      rw [Nat.zero_add] at d0 d1
      obtain ⟨pm, hpm⟩ : ∃ x, x = (fat col p).m := ⟨_, rfl⟩
      rw [← hpm] at d0
      have HP : Hid (pm = (fat col (col.length - 1)).m ∧ 0 < col.length ∧ col.length - 1 = p) := by
        have e : col.length - 1 = p := by rw [← HK.out.2.2.2.2.2.1]; omega
        exact ⟨by rw [e]; exact hpm, by rw [← HK.out.2.2.2.2.2.1]; omega, e⟩
      have k1 : IntKind.i64.wrap ((xn : Int) - 1) = (p : Int) := by rw [IntKind.wrap_i64]; omega
      have k2 : (xn : Int) - 1 = (p : Int) := by omega
      have k3 : (0 : Int) ≤ (p : Int) := by omega
      have k4 : (p : Int) < (xn : Int) := by omega
      have k5 : (0 : Int) < (xn : Int) := by omega
      have k6 : p ≤ xn := by omega
      have k8 : IntKind.i64.wrap (p : Int) = (p : Int) := by rw [IntKind.wrap_i64]; omega
      have k7 : (p : Int) ≤ (xc : Int) := by
        rcases HK.out.2.2.2.2.1.2 with ⟨e, h9⟩ | ⟨g9, cap, cur, e, _, _, h5, _⟩
        · cases e
        · injection e with e1 e2 e3; rw [← HK.out.2.2.2.2.2.1] at h5; omega
      clear hpm d1 hp
      by_cases hs : pm = m
      · have hsF : stF m (s.getD j []) = (s.getD j []).take p := by
          have h9 := HP.out
          rw [← HK.out.2.2.2.2.2.2.1]
          unfold stF
          rw [if_pos ⟨h9.2.1, by rw [← h9.1]; exact hs⟩, h9.2.2]
        have HX : Hid (DP w w1 K n cc gC (mpK s (stF m) (j + 1)) (wr.drew.setCell ⟨gC, j, none⟩ (.slice (some ⟨xg, 0, none⟩) p xc))) := by
          have hD0 : Below wr.heap.size wr wr.drew := (Below.refl _ _).drew
          have hpf : PF w1.heap.size wr.drew wr.drew (rat vs j) (.slice (some ⟨xg, 0, none⟩) p xc) (stF m (s.getD j [])) := by
            rw [hsF, HK.out.2.2.2.1]
            refine ⟨?_, World.grownBy.refl _ _, fun q hq => Or.inr hq⟩
            rw [← HK.out.2.2.2.2.2.2.1]
            exact og_cut (HK.out.2.2.2.2.1.below hD0) k6
          have h9 := ((HK.out.1.below hD0).swap (HK.out.2.1.below hD0) HK.out.2.2.1 hpf).1
          rw [mpK_set s (stF m) HK.out.2.2.2.2.2.2.2] at h9
          exact h9
        subst hs
        clear hsF HK HP
        go_wp2_with (fail)
        refine wp_region_still_tail 8 (by kernel_rfl) (by kernel_rfl) ?_
        have hdw : ({ wr with drawn := wr.drawn + 1 } : World) = wr.drew := rfl
        rw [hdw]
        clear hdw
        simp only [List.take_succ_cons, List.take_zero, List.drop_succ_cons, List.drop_zero]
        iterate 8 still_step
        refine wpStill_nil ?_
        go_wp2
        go_roundw
        case rel => exact ⟨j + 1, by omega, by go_num, HX.out⟩
        case measure => simp [intOf]; omega
      · have hs' : (pm == m) = false := by simpa using hs
        have HE : Hid (DP w w1 K n cc gC (mpK s (stF m) (j + 1)) wr) := by
          rw [← mpK_same s (stF m) (by unfold stF; rw [if_neg (by rw [← HK.out.2.2.2.2.2.2.1]; exact fun h => hs (by rw [HP.out.1]; exact h.2))])]
          exact HK.out.1
        clear HK HP
        go_wp2
        go_roundw
        case rel => exact ⟨j + 1, by omega, by go_num, HE.out⟩
        case measure => simp [intOf]; omega
    · have HX : Hid (DP w w1 K n cc gC (mpK s (stF m) s.length) wr) := by
        have h1 := hR.out
        rw [show j = s.length by rw [← H.out.2.1]; omega] at h1
        exact h1
      clear hR
      have HLY : Hid (LyOk s (fun i => stL (s.getD i []) m)) := st_ly HGS.out m
      have HAE : Hid (mpK s (stF m) s.length = aftS (fun i => stL (s.getD i []) m) s.length) := mpK_aft fun i hi => by rw [stL_put (HGS.out.col i hi)]; rfl
      have HGO : Hid (Calls Try.prog 40 #[.agg #[.slice a n c], .agg #[.slice (some ⟨gC, 0, none⟩) n cc]] wr fun e w' => ∃ ga gc, e = .returned (.agg #[.int .i64 0, .slice (some ⟨gC, 0, none⟩) n cc, .slice ga 12 gc]) ∧ IS w' wr.heap.size (.slice ga 12 gc) G ∧ Below wr.heap.size wr w') := by
        obtain ⟨vs, hro⟩ := HX.out.ro
        rw [HAE.out] at hro
        have h9 := spec_gone HGS.out.ws (aft_ws HGS.out HLY.out) (H.out.1.rs.below (H1.out.1.trans (HX.out.bl.mono H1.out.1.size))) hro.rd
        rw [aftS_len, books_all HGS.out HLY.out] at h9
        have e2 : G = goA (fun i => stL (s.getD i []) m) s.length := by rw [H.out.2.2.2.2.2, etG, if_pos HC0.out, H.out.2.1]
        rw [e2]
        exact h9
      have hsb := (HX.out.bl.block _ (ltOf H1.out.2.2)).trans H1.out.2.2
      have x0 := cellOf hsb 0 rfl
      have x1 := ltOf hsb
      clear hsb
      go_wp2_with (fail)
      refine HGO.out.mono ?_
      rintro e w5 ⟨ga, gc, rfl, hgo, hb5⟩
      have hX5 := HX.out.below hb5
      have k1 := (hX5.bl.block _ (ltOf H1.out.2.1)).trans H1.out.2.1
      obtain ⟨p0, p1, p2, f0, f1, f2, pl⟩ := three_s k1
      obtain ⟨W, hW⟩ : ∃ W, W = ((w5.setCell ⟨w.heap.size + 1, 0, none⟩ (.int .i64 0)).setCell ⟨w.heap.size + 1, 1, none⟩ (.slice (some ⟨gC, 0, none⟩) n cc)).setCell ⟨w.heap.size + 1, 2, none⟩ (.slice ga 12 gc) := ⟨_, rfl⟩
      have HFI : Hid (∃ vs, RoE W w.heap.size (.slice (some ⟨gC, 0, none⟩) n cc) (.slice ga 12 gc) L G vs ∧ Below w.heap.size w W) := by
        have hbW : Below w.heap.size w W := by rw [hW]; have := H1.out.1.trans (hX5.bl.mono H1.out.1.size); (repeat' (first | (with_reducible exact Below.refl _ _) | (with_reducible assumption) | (with_reducible refine Below.setCell ?_ ?_ _) | (with_reducible refine Below.alloc ?_ ?_ _) | (with_reducible refine below_drewN ?_ _) | (with_reducible refine Below.drew ?_) | (with_reducible exact Nat.le_refl _) | omega | (simp; done) | (simp; omega)))
        obtain ⟨vs, hro⟩ := hX5.ro
        rw [HAE.out] at hro
        have ho : ∀ z, w1.heap.size ≤ z → W.heap[z]? = w5.heap[z]? := fun z hz => by
          have := ltOf H1.out.2.1
          rw [hW, heap_setCell_other _ _ _ _ (by simp; omega), heap_setCell_other _ _ _ _ (by simp; omega), heap_setCell_other _ _ _ _ (by simp; omega)]
        have e1 : L = aftS (fun i => stL (s.getD i []) m) s.length := by rw [H.out.2.2.2.2.1, etL, if_pos HC0.out, H.out.2.1]
        refine ⟨vs, ⟨?_, ?_⟩, hbW⟩
        · rw [e1]
          exact (hro.kept (fun z hz => ho z (rowBlk hro.o hz).1) (fun i hi z hz => ho z (rowBlk (hro.bx i hi) hz).1)).low H1.out.1.size
        · have h8 := rowLow (IS.kept (w' := W) hgo (fun q hq => ho q (Nat.le_trans HX.out.bl.size (World.ownsRow.lt hgo q hq).1))) (Nat.le_trans H1.out.1.size HX.out.bl.size)
          exact h8
      have HWW : Hid _ := hW
      clear hW hX5 k1 hb5 hgo HGO x0 x1
      go_wp2
      rw [← HWW.out]
      obtain ⟨vs, z1, z2⟩ := HFI.out
      refine bodyPost_ret (by rw [HWW.out]; simp [results, Try.results30, go_sem, p0, p1, p2, pl]; try rfl) rfl ?_
      first | exact ⟨(_, _), vs, by rw [HC0.out] <;> rfl, z1, z2⟩ | exact ⟨_, _, by rw [HC0.out] <;> rfl, ⟨vs, z1⟩, z2⟩


end Go.Proofs.Ytceljakmjddgbab
