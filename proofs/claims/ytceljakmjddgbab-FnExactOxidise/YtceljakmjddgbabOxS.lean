/- Proved here: Oxidise of the model. -/
import Derived.Test.YtceljakmjddgbabOxH
import Derived.Test.YtceljakmjddgbabDsM
import Derived.Test.YtceljakmjddgbabEsP
import Derived.Test.YtceljakmjddgbabCoS
namespace Go.Proofs.Ytceljakmjddgbab
open Go.RowKit
set_option linter.unusedVariables false
set_option linter.unusedSimpArgs false

set_option maxRecDepth 10000 in
set_option maxHeartbeats 25600000 in
theorem spec_oxidise {w : World} {v : Value} {s : List (List Flm)} (m : Int) (hn : SmF s) (h : RsC w v s) :
    Calls Try.prog 25 #[.agg #[v], .int .i64 m] w fun e w' => ∃ u vs, e = .returned (.agg #[.int .i64 (oxC s m), u]) ∧ RoF w' w.heap.size u (oxS s m) vs ∧ Below w.heap.size w w' := by
  obtain ⟨a, c, rfl⟩ := h.form
  obtain ⟨n, hnn⟩ : ∃ n, n = s.length := ⟨_, rfl⟩
  obtain ⟨F, hF0⟩ : ∃ F, F = secF s := ⟨_, rfl⟩
  obtain ⟨C, hC⟩ : ∃ C, C = oxC s m := ⟨_, rfl⟩
  obtain ⟨L, hL⟩ : ∃ L, L = oxS s m := ⟨_, rfl⟩
  rw [← hnn] at h ⊢
  rw [← hC, ← hL]
  obtain ⟨i0, hi0, hz0, hz1, hz2⟩ := info_parts info_rowF
  obtain ⟨i1, hi1, hy0, hy1, hy2⟩ := info_parts info_Film
  have HSF : Hid (∀ W, Below w.heap.size w W → Calls Try.prog 36 #[.agg #[.slice a n c]] W fun e w' => e = .returned (.int .i64 F) ∧ Below W.heap.size W w') := fun W hW => by rw [hF0]; exact spec_secF hn (h.rs.below hW)
  have H : Hid (RsC w (.slice a n c) s ∧ n = s.length ∧ F = secF s ∧ C = oxC s m ∧ L = oxS s m) := ⟨h, hnn, hF0, hC, hL⟩
  have HBAD : Hid (∀ D, oxC s m = D → D ≠ 0 → C = D ∧ L = []) := fun D hD hd => by
    exact ⟨by rw [hC, hD], by rw [hL, oxS, if_neg (by rw [hD]; exact hd)]⟩
  clear h hnn hn hF0 hC hL
  go_enter Try.func25, Try.ntmps25
  go_wp2_with (fail)
  refine (HSF.out _ (by (repeat' (first | (with_reducible exact Below.refl _ _) | (with_reducible assumption) | (with_reducible refine Below.setCell ?_ ?_ _) | (with_reducible refine Below.alloc ?_ ?_ _) | (with_reducible refine below_drewN ?_ _) | (with_reducible refine Below.drew ?_) | (with_reducible exact Nat.le_refl _) | omega | (simp; done) | (simp; omega))))).mono ?_
  rintro e w1 ⟨rfl, hb1⟩
  have k0 := (hb1.block w.heap.size (by simp <;> omega)).trans ((Below.heap_alloc _ _ _ (by simp)).trans (heap_alloc_new w _))
  have k1 := (hb1.block (w.heap.size + 1) (by simp)).trans (kn_at1s w _ _)
  have hbw : Below w.heap.size w w1 := (show Below w.heap.size w _ from by (repeat' (first | (with_reducible exact Below.refl _ _) | (with_reducible assumption) | (with_reducible refine Below.setCell ?_ ?_ _) | (with_reducible refine Below.alloc ?_ ?_ _) | (with_reducible refine below_drewN ?_ _) | (with_reducible refine Below.drew ?_) | (with_reducible exact Nat.le_refl _) | omega | (simp; done) | (simp; omega)))).trans (hb1.mono (by simp; omega))
  have H1 : Hid (Below w.heap.size w w1 ∧ w1.heap[w.heap.size + 1]? = some (.cells #[.int .i64 0, .slice none 0 0] 49) ∧ w1.heap[w.heap.size]? = some (.cells #[.slice a n c] 30)) := ⟨hbw, k1, k0⟩
  obtain ⟨p0, p1, f0, f1, pl⟩ := two_ofs k1
  have HB0 : Hid (∀ D : Int, Below w.heap.size w ((w1.setCell ⟨w.heap.size + 1, 0, none⟩ (.int .i64 D)).setCell ⟨w.heap.size + 1, 1, none⟩ (.slice none 0 0))) := fun D => by
    have := H1.out.1; (repeat' (first | (with_reducible exact Below.refl _ _) | (with_reducible assumption) | (with_reducible refine Below.setCell ?_ ?_ _) | (with_reducible refine Below.alloc ?_ ?_ _) | (with_reducible refine below_drewN ?_ _) | (with_reducible refine Below.drew ?_) | (with_reducible exact Nat.le_refl _) | omega | (simp; done) | (simp; omega)))
  clear hb1 k0 k1 hbw HSF
  by_cases hF : F = 0
  case neg =>
    obtain ⟨hCF, hLF⟩ := HBAD.out F (by rw [oxC, ← H.out.2.2.1, if_neg hF]) hF
    have HE : Hid (C = F ∧ ∀ W : World, RoF W w.heap.size (.slice none 0 0) L []) := ⟨hCF, fun W => by rw [hLF]; exact RoF.nil _ _⟩
    have hF' : (F == 0) = false := by simpa using hF
    clear hCF hLF
    go_wp2
    refine bodyPost_ret (by simp [results, Try.results25, go_sem, p0, p1, pl]; try rfl) rfl ?_
    first | exact ⟨_, [], by rw [HE.out.1] <;> rfl, HE.out.2 _, HB0.out _⟩ | exact ⟨_, by rw [HE.out.1] <;> rfl, ⟨[], HE.out.2 _⟩, HB0.out _⟩
  have HF : Hid (secF s = 0) := H.out.2.2.1 ▸ hF
  subst hF
  go_wp2_with (fail)
  refine (spec_in10 m 1 100000 _).mono ?_
  rintro e w2 ⟨rfl, rfl⟩
  by_cases ht : 1 ≤ m ∧ m ≤ 100000
  case neg =>
    rw [decide_eq_false ht]
    obtain ⟨hCF, hLF⟩ := HBAD.out 3 (by rw [oxC, if_pos HF.out, if_neg ht]) (by decide)
    have HE : Hid (C = 3 ∧ ∀ W : World, RoF W w.heap.size (.slice none 0 0) L []) := ⟨hCF, fun W => by rw [hLF]; exact RoF.nil _ _⟩
    clear hCF hLF ht
    go_wp2
    refine bodyPost_ret (by simp [results, Try.results25, go_sem, p0, p1, pl]; try rfl) rfl ?_
    first | exact ⟨_, [], by rw [HE.out.1] <;> rfl, HE.out.2 _, HB0.out _⟩ | exact ⟨_, by rw [HE.out.1] <;> rfl, ⟨[], HE.out.2 _⟩, HB0.out _⟩
  rw [decide_eq_true ht]
  have HM : Hid (1 ≤ m ∧ m ≤ 100000) := ht
  have HGS : Hid (GS s) := secF_zero.1 HF.out
  obtain ⟨LL, hLL⟩ : ∃ LL, LL = aftS (fun i => oxL (s.getD i []) m) s.length := ⟨_, rfl⟩
  have HLL : Hid (LL = aftS (fun i => oxL (s.getD i []) m) s.length ∧ LL.length = n) := ⟨hLL, by rw [hLL, aftS_len, H.out.2.1]⟩
  have HPF : Hid (C = secF LL ∧ L = if C = 0 then LL else []) := by
    have hc2 : C = secF LL := by rw [H.out.2.2.2.1, oxC, if_pos HF.out, if_pos ht, hLL]
    exact ⟨hc2, by rw [H.out.2.2.2.2, oxS, ← H.out.2.2.2.1, hLL]⟩
  have HSM : Hid (SmF LL) := by
    refine SmF.of (by rw [HLL.out.2, H.out.2.1]; exact HGS.out.len) fun i hi => ?_
    rw [HLL.out.2, H.out.2.1] at hi
    rw [hLL, aftS_at _ hi]
    have h7 := putA_len (oxL (s.getD i []) m) (oxL (s.getD i []) m).length
    have h8 := (ox_st HGS.out ht i hi).1
    omega
  clear hLL ht HBAD HB0 p0 p1 f0 f1 pl
  have hn16 : n ≤ 16 := by rw [H.out.2.1]; exact HGS.out.len
  obtain ⟨w1, hw1e⟩ : ∃ x, x = w2 := ⟨_, rfl⟩
  subst hw1e
  obtain ⟨K, hK⟩ : ∃ K, K = w1.heap.size := ⟨_, rfl⟩
  obtain ⟨w4, hw4⟩ : ∃ x, x = w1.alloc (.cells #[.slice none 0 0] 30) := ⟨_, rfl⟩
  have HS0 : Hid (∃ vs, PP w1 K none 0 0 LL vs w4) := by
    refine ⟨[], by rw [List.take_zero]; exact RoF.nil _ _, by rw [hw4, hK]; exact heap_alloc_new _ _, by rw [hw4]; (repeat' (first | (with_reducible exact Below.refl _ _) | (with_reducible assumption) | (with_reducible refine Below.setCell ?_ ?_ _) | (with_reducible refine Below.alloc ?_ ?_ _) | (with_reducible refine below_drewN ?_ _) | (with_reducible refine Below.drew ?_) | (with_reducible exact Nat.le_refl _) | omega | (simp; done) | (simp; omega))), by rw [hw4, hK]; simp, by omega⟩
  go_wp2
  rw [← hw4, ← hK]
  clear hw4 hK
  go_loopw [7] (fun i wr => ∃ j : Nat, j ≤ n ∧ i = .int .i64 j ∧ ∃ oa oc, Hid (∃ vs, PP w1 K oa j oc LL vs wr)) (fun i _ => n - (intOf i).toNat)
  case atStart => exact ⟨0, Nat.zero_le _, rfl, none, 0, HS0.out⟩
  case round =>
    clear HS0
    obtain ⟨j, hjn, rfl, oa, oc, hR⟩ := hrel
    obtain ⟨vs, hPP⟩ := hR.out
    have HPP : Hid (PP w1 K oa j oc LL vs wr) := hPP
    have HBW : Hid (Below w.heap.size w wr) := H1.out.1.trans (hPP.bl.mono H1.out.1.size)
    have hk0 := (hPP.bl.block _ (ltOf H1.out.2.2)).trans H1.out.2.2
    have HK0 : Hid (wr.heap[w.heap.size]? = some (.cells #[.slice a n c] 30)) := hk0
    have s0 := cellOf hk0 0 rfl
    have s1 := ltOf hk0
    clear hR hPP hk0
    by_cases hlt : j < n
    · obtain ⟨g, o, ua, un, uc, rfl, hg, c0, hun, hrd, hnil⟩ := H.out.1.at hlt
      have hjs : j < s.length := by rw [← H.out.2.1]; exact hlt
      obtain ⟨col, hcol⟩ : ∃ x, x = s.getD j [] := ⟨_, rfl⟩
      have hgc := HGS.out.col j hjs
      have HNX : Hid (LL.take (j + 1) = LL.take j ++ [grF m col]) := by
        have hjl : j < LL.length := by rw [HLL.out.2]; exact hlt
        unfold Hid
        rw [List.take_succ_eq_append_getElem hjl]
        congr 2
        have h3 : LL[j] = (aftS (fun i => oxL (s.getD i []) m) s.length).getD j [] := by rw [← HLL.out.1]; simp [hjl]
        rw [h3, aftS_at _ hjs, oxL_put hgc HM.out, hcol]
      rw [← hcol] at hgc hun hrd
      have hu24 : un ≤ 24 := by rw [hun]; exact hgc.len
      have HU : Hid (RG 2 flC wr (.slice ua un uc) col ∧ un = col.length ∧ (ua = none → un = 0 ∧ uc = 0) ∧ GC col) := ⟨hrd.below HBW.out, hun, hnil, hgc⟩
      have HTL : Hid ((LL.take j).length = j) := by unfold Hid; rw [List.length_take, HLL.out.2]; omega
      have HC0 : Hid (∀ W, Below w.heap.size w W → W.cell? ⟨g, o + j, none⟩ = some (.slice ua un uc)) := fun W hW => (hW.cell (p := ⟨g, o + j, none⟩) hg).trans c0
      have hgw : g < w.heap.size := hg
      clear hrd hun hnil hgc hcol hjs c0 hg
      have b0 : (0 : Int) ≤ (j : Int) := by omega
      have b1 : (j : Int) < (n : Int) := by omega
      go_wp2_with (fail)
      clear s0 s1
      have hS0 : Below wr.heap.size wr wr.drew := (Below.refl _ _).drew
      refine wp_region_holdsA (S := fun w' => Below w.heap.size w w' ∧ w'.heap[w.heap.size]? = some (.cells #[.slice (some ⟨g, o, none⟩) n c] 30)) (by kernel_rfl) ⟨HBW.out.trans ((hS0).mono HBW.out.size), ((hS0).block _ (ltOf HK0.out)).trans HK0.out⟩ (fun hS => ?_)
      refine fl_takeA (i := 0) (d := 26) (v := .pointer (some ⟨K, 0, none⟩)) rfl rfl rfl (by kernel_rfl) (by kernel_rfl) (by kernel_rfl) hS ?_ ?_
      · intro w' hk; obtain ⟨hk0, hk1⟩ := hk; have x0 := cellOf hk1 0 rfl; have x1 := ltOf hk1; have x2 := HC0.out w' hk0; have x3 : g < w'.heap.size := Nat.lt_of_lt_of_le hgw hk0.size; go_simp
      simp only [Act.put, List.setIfInBounds_toArray, List.set_cons_zero, List.set_cons_succ]
      refine fl_takeA (i := 3) (d := 29) (v := .pointer (some ⟨w.heap.size, 0, none⟩)) rfl rfl rfl (by kernel_rfl) (by kernel_rfl) (by kernel_rfl) hS ?_ ?_
      · intro w' hk; obtain ⟨hk0, hk1⟩ := hk; have x0 := cellOf hk1 0 rfl; have x1 := ltOf hk1; have x2 := HC0.out w' hk0; have x3 : g < w'.heap.size := Nat.lt_of_lt_of_le hgw hk0.size; go_simp
      simp only [Act.put, List.setIfInBounds_toArray, List.set_cons_zero, List.set_cons_succ]
      refine fl_takeA (i := 4) (d := 30) (v := .slice (some ⟨g, o, none⟩) n c) rfl rfl rfl (by kernel_rfl) (by kernel_rfl) (by kernel_rfl) hS ?_ ?_
      · intro w' hk; obtain ⟨hk0, hk1⟩ := hk; have x0 := cellOf hk1 0 rfl; have x1 := ltOf hk1; have x2 := HC0.out w' hk0; have x3 : g < w'.heap.size := Nat.lt_of_lt_of_le hgw hk0.size; go_simp
      simp only [Act.put, List.setIfInBounds_toArray, List.set_cons_zero, List.set_cons_succ]
      refine fl_takeA (i := 5) (d := 31) (v := .int .i64 j) rfl rfl rfl (by kernel_rfl) (by kernel_rfl) (by kernel_rfl) hS ?_ ?_
      · intro w' hk; obtain ⟨hk0, hk1⟩ := hk; have x0 := cellOf hk1 0 rfl; have x1 := ltOf hk1; have x2 := HC0.out w' hk0; have x3 : g < w'.heap.size := Nat.lt_of_lt_of_le hgw hk0.size; go_simp
      simp only [Act.put, List.setIfInBounds_toArray, List.set_cons_zero, List.set_cons_succ]
      refine fl_takeA (i := 6) (d := 32) (v := .pointer (some ⟨g, o + j, none⟩)) rfl rfl rfl (by kernel_rfl) (by kernel_rfl) (by kernel_rfl) hS ?_ ?_
      · intro w' hk; obtain ⟨hk0, hk1⟩ := hk; have x0 := cellOf hk1 0 rfl; have x1 := ltOf hk1; have x2 := HC0.out w' hk0; have x3 : g < w'.heap.size := Nat.lt_of_lt_of_le hgw hk0.size; go_simp
      simp only [Act.put, List.setIfInBounds_toArray, List.set_cons_zero, List.set_cons_succ]
      refine fl_takeA (i := 7) (d := 33) (v := .slice ua un uc) rfl rfl rfl (by kernel_rfl) (by kernel_rfl) (by kernel_rfl) hS ?_ ?_
      · intro w' hk; obtain ⟨hk0, hk1⟩ := hk; have x0 := cellOf hk1 0 rfl; have x1 := ltOf hk1; have x2 := HC0.out w' hk0; have x3 : g < w'.heap.size := Nat.lt_of_lt_of_le hgw hk0.size; go_simp
      simp only [Act.put, List.setIfInBounds_toArray, List.set_cons_zero, List.set_cons_succ]
      refine fl_takeA (i := 9) (d := 35) (v := .int .i64 m) rfl rfl rfl (by kernel_rfl) (by kernel_rfl) (by kernel_rfl) hS ?_ ?_
      · intro w' hk; obtain ⟨hk0, hk1⟩ := hk; have x0 := cellOf hk1 0 rfl; have x1 := ltOf hk1; have x2 := HC0.out w' hk0; have x3 : g < w'.heap.size := Nat.lt_of_lt_of_le hgw hk0.size; go_simp
      simp only [Act.put, List.setIfInBounds_toArray, List.set_cons_zero, List.set_cons_succ]
      refine wpAnyH_all (rs := [1, 2]) (by kernel_rfl) (by simp) ?_
      intro i hi
      rcases (by simpa using hi : i = 1 ∨ i = 2) with rfl | rfl
      · clear hi
        have cb_1 : wr.drew.cell? ⟨K, 0, none⟩ = some (.slice oa j oc) := cellOf (((hS0).block _ (ltOf HPP.out.kb)).trans HPP.out.kb) 0 rfl
        have lb_1 : K < wr.drew.heap.size := ltOf (((hS0).block _ (ltOf HPP.out.kb)).trans HPP.out.kb)
        refine op_val (d := 27) (v := .slice oa j oc) (w' := wr.drew) rfl rfl rfl (by go_simp) ?_
        simp only [Act.put, List.setIfInBounds_toArray, List.set_cons_zero, List.set_cons_succ]
        refine ⟨⟨HBW.out.trans ((hS0).mono HBW.out.size), ((hS0).block _ (ltOf HK0.out)).trans HK0.out⟩, ?_⟩
        clear cb_1 lb_1
        refine wpAnyH_all (rs := [2]) (by kernel_rfl) (by simp) ?_
        intro i hi
        obtain rfl : i = 2 := by simpa using hi
        clear hi
        refine op_val (d := 28) (v := .slice (some ⟨wr.drew.heap.size, 0, none⟩) 0 0) (w' := wr.drew.alloc (.cells #[] 76)) rfl rfl rfl (by go_simp; try rfl) ?_
        simp only [Act.put, List.setIfInBounds_toArray, List.set_cons_zero, List.set_cons_succ]
        have hl_1_2 : (wr.drew.alloc (.cells #[] 76)).ownsRow wr.heap.size 76 2 (.slice (some ⟨wr.drew.heap.size, 0, none⟩) 0 0) 0 [] := World.ownsRow_lit wr.drew #[] 0 (hS0).size (by decide) (by simp)
        have hk_1_2 : Below wr.heap.size wr (wr.drew.alloc (.cells #[] 76)) := (hS0).alloc (hS0).size _
        obtain ⟨y_1_2, hy_1_2⟩ : ∃ y, y = wr.drew.alloc (.cells #[] 76) := ⟨_, rfl⟩
        rw [← hy_1_2] at hl_1_2 hk_1_2 ⊢
        clear hy_1_2
        refine ⟨⟨HBW.out.trans ((hk_1_2).mono HBW.out.size), ((hk_1_2).block _ (ltOf HK0.out)).trans HK0.out⟩, ?_⟩
        refine wpAnyH_all (rs := [8]) (by kernel_rfl) (by simp) ?_
        intro i hi
        obtain rfl : i = 8 := by simpa using hi
        clear hi
        refine op_appA rfl rfl rfl _ _ 62 rfl wr.heap.size 76 i1 (.agg #[.int .i64 0, .int .i64 0]) 2 16 Try.underlying62 hi1 hy0 hy1 hy2 rfl (by decide) (.slice (some ⟨wr.drew.heap.size, 0, none⟩) 0 0) 0 [] rfl hl_1_2 ua un uc (col.flatMap flC) rfl (by rw [fm_length flC_len, HU.out.2.1]) HU.out.2.2.1 (row_newsF (HU.out.1.below hk_1_2)) (flC_ones col) (by unfold maxLen; omega) (by omega) (hk_1_2).size ?_
        intro v_1_2_8 z_1_2_8 hown_1_2_8 hgrow_1_2_8
        have hk_1_2_8 : Below wr.heap.size wr z_1_2_8 := (hk_1_2).grown hgrow_1_2_8 (hk_1_2).size (fun q hq => (World.ownsRow.lt hl_1_2 q hq).1)
        have ho_1_2_8 : OG 76 2 flC z_1_2_8 wr.heap.size v_1_2_8 col := by
          unfold OG; rw [← HU.out.2.1]; rw [Nat.zero_add, List.nil_append] at hown_1_2_8; exact hown_1_2_8
        obtain ⟨va_1_2_8, vc_1_2_8, hve_1_2_8⟩ := ho_1_2_8.form
        rw [← HU.out.2.1] at hve_1_2_8
        subst hve_1_2_8
        clear hown_1_2_8 hgrow_1_2_8
        simp only [Act.put, List.setIfInBounds_toArray, List.set_cons_zero, List.set_cons_succ]
        refine ⟨⟨HBW.out.trans ((hk_1_2_8).mono HBW.out.size), ((hk_1_2_8).block _ (ltOf HK0.out)).trans HK0.out⟩, ?_⟩
        refine wpAnyH_all (rs := [10]) (by kernel_rfl) (by simp) ?_
        intro i hi
        obtain rfl : i = 10 := by simpa using hi
        clear hi
        refine op_call (d := 36) rfl rfl rfl (by go_simp) ((spec_grow HU.out.2.2.2 HM.out (hk_1_2_8).size ho_1_2_8).mono ?_)
        rintro e z_1_2_8_10 ⟨v_1_2_8_10, rfl, ho_1_2_8_10, hb_1_2_8_10⟩
        obtain ⟨va_1_2_8_10, vc_1_2_8_10, hve_1_2_8_10⟩ := ho_1_2_8_10.form
        obtain ⟨vn_1_2_8_10, hvn_1_2_8_10⟩ : ∃ x, x = (grF m col).length := ⟨_, rfl⟩
        rw [← hvn_1_2_8_10] at hve_1_2_8_10
        subst hve_1_2_8_10
        clear hvn_1_2_8_10
        have hk_1_2_8_10 : Below wr.heap.size wr z_1_2_8_10 := (hk_1_2_8).trans (hb_1_2_8_10.mono (hk_1_2_8).size)
        clear hb_1_2_8_10
        refine ⟨_, rfl, ⟨HBW.out.trans ((hk_1_2_8_10).mono HBW.out.size), ((hk_1_2_8_10).block _ (ltOf HK0.out)).trans HK0.out⟩, ?_⟩
        simp only [Act.put, List.setIfInBounds_toArray, List.set_cons_zero, List.set_cons_succ]
        refine wpAnyH_all (rs := [11]) (by kernel_rfl) (by simp) ?_
        intro i hi
        obtain rfl : i = 11 := by simpa using hi
        clear hi
        refine op_val (d := 37) (v := .slice (some ⟨z_1_2_8_10.heap.size, 0, none⟩) 1 1) (w' := z_1_2_8_10.alloc (.cells #[.slice va_1_2_8_10 vn_1_2_8_10 vc_1_2_8_10] 62)) rfl rfl rfl (by go_simp; try rfl) ?_
        simp only [Act.put, List.setIfInBounds_toArray, List.set_cons_zero, List.set_cons_succ]
        have hk_1_2_8_10_11 : Below wr.heap.size wr (z_1_2_8_10.alloc (.cells #[.slice va_1_2_8_10 vn_1_2_8_10 vc_1_2_8_10] 62)) := (hk_1_2_8_10).alloc (hk_1_2_8_10).size _
        refine ⟨⟨HBW.out.trans ((hk_1_2_8_10_11).mono HBW.out.size), ((hk_1_2_8_10_11).block _ (ltOf HK0.out)).trans HK0.out⟩, ?_⟩
        refine wpAnyH_all (rs := [12]) (by kernel_rfl) (by simp) ?_
        intro i hi
        obtain rfl : i = 12 := by simpa using hi
        clear hi
        have hoR : z_1_2_8_10.ownsRow (K + 1) 62 1 (.slice oa j oc) j vs := by
          have h1 := (HPP.out.ro.below hk_1_2_8_10).o
          rw [HTL.out] at h1
          exact h1
        have hkz : z_1_2_8_10.heap[K]? = some (.cells #[.slice oa j oc] 30) := ((hk_1_2_8_10).block _ (ltOf HPP.out.kb)).trans HPP.out.kb
        refine op_appA rfl rfl rfl _ _ 28 rfl (K + 1) 62 i0 (.slice none 0 0) 1 24 Try.underlying28 hi0 hz0 hz1 hz2 rfl (by decide) (.slice oa j oc) j vs rfl (World.ownsRow.alloc hoR _) (some ⟨z_1_2_8_10.heap.size, 0, none⟩) 1 1 [.slice va_1_2_8_10 vn_1_2_8_10 vc_1_2_8_10] rfl rfl (fun h => by cases h) (fun ad h => by injection h with h; subst h; exact World.news_of_block (cs := #[.slice va_1_2_8_10 vn_1_2_8_10 vc_1_2_8_10]) (t := 62) (fr := (0, 0)) (heap_alloc_new z_1_2_8_10 _)) (by simp [Value.oneCell']) (by unfold maxLen; omega) (by omega) (Nat.le_trans HPP.out.ks (hk_1_2_8_10_11).size) ?_
        intro v6 w6 hown6 hgrow6
        obtain ⟨e0, e1, e2⟩ := keep_box hkz hoR hgrow6
        have hW6 : Below w.heap.size w w6 := by
          have h7 := HBW.out.trans ((hk_1_2_8_10_11).mono HBW.out.size)
          exact h7.grown hgrow6 h7.size fun q hq => by have := (rowBlk hoR hq).1; have := HPP.out.vk; have := H1.out.1.size; omega
        have hK6 : w6.heap[w.heap.size]? = some (.cells #[.slice (some ⟨g, o, none⟩) n c] 30) := by
          rw [hgrow6.block _ (by have := (hk_1_2_8_10_11).size; have := ltOf HK0.out; omega) fun e => by have := (rowBlk hoR e.symm).1; have := HPP.out.vk; have := H1.out.1.size; omega]
          exact ((hk_1_2_8_10_11).block _ (ltOf HK0.out)).trans HK0.out
        obtain ⟨na, nc, hv6, HP3⟩ := pp_push HPP.out hk_1_2_8_10 ho_1_2_8_10 HTL.out hown6 hgrow6 HNX.out (by rw [HLL.out.2]; omega)
        subst hv6
        have R : Hid _ := HP3
        have hKw : w.heap.size ≠ K := by have := HPP.out.vk; have := ltOf H1.out.2.2; omega
        have hB9 : Below w.heap.size w (w6.setCell ⟨K, 0, none⟩ (.slice na (j + 1) nc)) := hW6.setCell (show w.heap.size ≤ K by have := HPP.out.vk; have := H1.out.1.size; omega) _
        have hK9 : (w6.setCell ⟨K, 0, none⟩ (.slice na (j + 1) nc)).heap[w.heap.size]? = some (.cells #[.slice (some ⟨g, o, none⟩) n c] 30) := by
          rw [heap_setCell_other _ _ _ _ (by simpa using hKw)]; exact hK6
        clear hown6 hgrow6 HP3
        simp only [Act.put, List.setIfInBounds_toArray, List.set_cons_zero, List.set_cons_succ]
        refine ⟨⟨hW6, hK6⟩, wpAnyH_all (rs := [13]) (by kernel_rfl) (by simp) ?_⟩
        intro i hi
        obtain rfl : i = 13 := by simpa using hi
        clear hi
        refine op_val (d := 39) (v := .pointer (some ⟨K, 0, none⟩)) (w' := w6) rfl rfl rfl (by go_simp; try rfl) ?_
        simp only [Act.put, List.setIfInBounds_toArray, List.set_cons_zero, List.set_cons_succ]
        refine ⟨⟨hW6, hK6⟩, wpAnyH_all (rs := [14]) (by kernel_rfl) (by simp) ?_⟩
        intro i hi
        obtain rfl : i = 14 := by simpa using hi
        clear hi
        refine op_skipN (w' := w6.setCell ⟨K, 0, none⟩ (.slice na (j + 1) nc)) rfl rfl (by go_simp) ?_
        refine ⟨⟨hB9, hK9⟩, wpAnyH_done (by kernel_rfl) (NoPanic.normal ?_) _⟩
        clear e0 e1 e2 hkz hoR hW6 hK6 hB9 hK9 hKw
        go_wp2
        go_roundw
        case rel => exact ⟨j + 1, by omega, by go_num, na, nc, R.out⟩
        case measure => simp [intOf]; omega
      · clear hi
        refine op_val (d := 28) (v := .slice (some ⟨wr.drew.heap.size, 0, none⟩) 0 0) (w' := wr.drew.alloc (.cells #[] 76)) rfl rfl rfl (by go_simp; try rfl) ?_
        simp only [Act.put, List.setIfInBounds_toArray, List.set_cons_zero, List.set_cons_succ]
        have hl_2 : (wr.drew.alloc (.cells #[] 76)).ownsRow wr.heap.size 76 2 (.slice (some ⟨wr.drew.heap.size, 0, none⟩) 0 0) 0 [] := World.ownsRow_lit wr.drew #[] 0 (hS0).size (by decide) (by simp)
        have hk_2 : Below wr.heap.size wr (wr.drew.alloc (.cells #[] 76)) := (hS0).alloc (hS0).size _
        obtain ⟨y_2, hy_2⟩ : ∃ y, y = wr.drew.alloc (.cells #[] 76) := ⟨_, rfl⟩
        rw [← hy_2] at hl_2 hk_2 ⊢
        clear hy_2
        refine ⟨⟨HBW.out.trans ((hk_2).mono HBW.out.size), ((hk_2).block _ (ltOf HK0.out)).trans HK0.out⟩, ?_⟩
        refine wpAnyH_all (rs := [1, 8]) (by kernel_rfl) (by simp) ?_
        intro i hi
        rcases (by simpa using hi : i = 1 ∨ i = 8) with rfl | rfl
        · clear hi
          have cb_2_1 : y_2.cell? ⟨K, 0, none⟩ = some (.slice oa j oc) := cellOf (((hk_2).block _ (ltOf HPP.out.kb)).trans HPP.out.kb) 0 rfl
          have lb_2_1 : K < y_2.heap.size := ltOf (((hk_2).block _ (ltOf HPP.out.kb)).trans HPP.out.kb)
          refine op_val (d := 27) (v := .slice oa j oc) (w' := y_2) rfl rfl rfl (by go_simp) ?_
          simp only [Act.put, List.setIfInBounds_toArray, List.set_cons_zero, List.set_cons_succ]
          refine ⟨⟨HBW.out.trans ((hk_2).mono HBW.out.size), ((hk_2).block _ (ltOf HK0.out)).trans HK0.out⟩, ?_⟩
          clear cb_2_1 lb_2_1
          refine wpAnyH_all (rs := [8]) (by kernel_rfl) (by simp) ?_
          intro i hi
          obtain rfl : i = 8 := by simpa using hi
          clear hi
          refine op_appA rfl rfl rfl _ _ 62 rfl wr.heap.size 76 i1 (.agg #[.int .i64 0, .int .i64 0]) 2 16 Try.underlying62 hi1 hy0 hy1 hy2 rfl (by decide) (.slice (some ⟨wr.drew.heap.size, 0, none⟩) 0 0) 0 [] rfl hl_2 ua un uc (col.flatMap flC) rfl (by rw [fm_length flC_len, HU.out.2.1]) HU.out.2.2.1 (row_newsF (HU.out.1.below hk_2)) (flC_ones col) (by unfold maxLen; omega) (by omega) (hk_2).size ?_
          intro v_2_1_8 z_2_1_8 hown_2_1_8 hgrow_2_1_8
          have hk_2_1_8 : Below wr.heap.size wr z_2_1_8 := (hk_2).grown hgrow_2_1_8 (hk_2).size (fun q hq => (World.ownsRow.lt hl_2 q hq).1)
          have ho_2_1_8 : OG 76 2 flC z_2_1_8 wr.heap.size v_2_1_8 col := by
            unfold OG; rw [← HU.out.2.1]; rw [Nat.zero_add, List.nil_append] at hown_2_1_8; exact hown_2_1_8
          obtain ⟨va_2_1_8, vc_2_1_8, hve_2_1_8⟩ := ho_2_1_8.form
          rw [← HU.out.2.1] at hve_2_1_8
          subst hve_2_1_8
          clear hown_2_1_8 hgrow_2_1_8
          simp only [Act.put, List.setIfInBounds_toArray, List.set_cons_zero, List.set_cons_succ]
          refine ⟨⟨HBW.out.trans ((hk_2_1_8).mono HBW.out.size), ((hk_2_1_8).block _ (ltOf HK0.out)).trans HK0.out⟩, ?_⟩
          refine wpAnyH_all (rs := [10]) (by kernel_rfl) (by simp) ?_
          intro i hi
          obtain rfl : i = 10 := by simpa using hi
          clear hi
          refine op_call (d := 36) rfl rfl rfl (by go_simp) ((spec_grow HU.out.2.2.2 HM.out (hk_2_1_8).size ho_2_1_8).mono ?_)
          rintro e z_2_1_8_10 ⟨v_2_1_8_10, rfl, ho_2_1_8_10, hb_2_1_8_10⟩
          obtain ⟨va_2_1_8_10, vc_2_1_8_10, hve_2_1_8_10⟩ := ho_2_1_8_10.form
          obtain ⟨vn_2_1_8_10, hvn_2_1_8_10⟩ : ∃ x, x = (grF m col).length := ⟨_, rfl⟩
          rw [← hvn_2_1_8_10] at hve_2_1_8_10
          subst hve_2_1_8_10
          clear hvn_2_1_8_10
          have hk_2_1_8_10 : Below wr.heap.size wr z_2_1_8_10 := (hk_2_1_8).trans (hb_2_1_8_10.mono (hk_2_1_8).size)
          clear hb_2_1_8_10
          refine ⟨_, rfl, ⟨HBW.out.trans ((hk_2_1_8_10).mono HBW.out.size), ((hk_2_1_8_10).block _ (ltOf HK0.out)).trans HK0.out⟩, ?_⟩
          simp only [Act.put, List.setIfInBounds_toArray, List.set_cons_zero, List.set_cons_succ]
          refine wpAnyH_all (rs := [11]) (by kernel_rfl) (by simp) ?_
          intro i hi
          obtain rfl : i = 11 := by simpa using hi
          clear hi
          refine op_val (d := 37) (v := .slice (some ⟨z_2_1_8_10.heap.size, 0, none⟩) 1 1) (w' := z_2_1_8_10.alloc (.cells #[.slice va_2_1_8_10 vn_2_1_8_10 vc_2_1_8_10] 62)) rfl rfl rfl (by go_simp; try rfl) ?_
          simp only [Act.put, List.setIfInBounds_toArray, List.set_cons_zero, List.set_cons_succ]
          have hk_2_1_8_10_11 : Below wr.heap.size wr (z_2_1_8_10.alloc (.cells #[.slice va_2_1_8_10 vn_2_1_8_10 vc_2_1_8_10] 62)) := (hk_2_1_8_10).alloc (hk_2_1_8_10).size _
          refine ⟨⟨HBW.out.trans ((hk_2_1_8_10_11).mono HBW.out.size), ((hk_2_1_8_10_11).block _ (ltOf HK0.out)).trans HK0.out⟩, ?_⟩
          refine wpAnyH_all (rs := [12]) (by kernel_rfl) (by simp) ?_
          intro i hi
          obtain rfl : i = 12 := by simpa using hi
          clear hi
          have hoR : z_2_1_8_10.ownsRow (K + 1) 62 1 (.slice oa j oc) j vs := by
            have h1 := (HPP.out.ro.below hk_2_1_8_10).o
            rw [HTL.out] at h1
            exact h1
          have hkz : z_2_1_8_10.heap[K]? = some (.cells #[.slice oa j oc] 30) := ((hk_2_1_8_10).block _ (ltOf HPP.out.kb)).trans HPP.out.kb
          refine op_appA rfl rfl rfl _ _ 28 rfl (K + 1) 62 i0 (.slice none 0 0) 1 24 Try.underlying28 hi0 hz0 hz1 hz2 rfl (by decide) (.slice oa j oc) j vs rfl (World.ownsRow.alloc hoR _) (some ⟨z_2_1_8_10.heap.size, 0, none⟩) 1 1 [.slice va_2_1_8_10 vn_2_1_8_10 vc_2_1_8_10] rfl rfl (fun h => by cases h) (fun ad h => by injection h with h; subst h; exact World.news_of_block (cs := #[.slice va_2_1_8_10 vn_2_1_8_10 vc_2_1_8_10]) (t := 62) (fr := (0, 0)) (heap_alloc_new z_2_1_8_10 _)) (by simp [Value.oneCell']) (by unfold maxLen; omega) (by omega) (Nat.le_trans HPP.out.ks (hk_2_1_8_10_11).size) ?_
          intro v6 w6 hown6 hgrow6
          obtain ⟨e0, e1, e2⟩ := keep_box hkz hoR hgrow6
          have hW6 : Below w.heap.size w w6 := by
            have h7 := HBW.out.trans ((hk_2_1_8_10_11).mono HBW.out.size)
            exact h7.grown hgrow6 h7.size fun q hq => by have := (rowBlk hoR hq).1; have := HPP.out.vk; have := H1.out.1.size; omega
          have hK6 : w6.heap[w.heap.size]? = some (.cells #[.slice (some ⟨g, o, none⟩) n c] 30) := by
            rw [hgrow6.block _ (by have := (hk_2_1_8_10_11).size; have := ltOf HK0.out; omega) fun e => by have := (rowBlk hoR e.symm).1; have := HPP.out.vk; have := H1.out.1.size; omega]
            exact ((hk_2_1_8_10_11).block _ (ltOf HK0.out)).trans HK0.out
          obtain ⟨na, nc, hv6, HP3⟩ := pp_push HPP.out hk_2_1_8_10 ho_2_1_8_10 HTL.out hown6 hgrow6 HNX.out (by rw [HLL.out.2]; omega)
          subst hv6
          have R : Hid _ := HP3
          have hKw : w.heap.size ≠ K := by have := HPP.out.vk; have := ltOf H1.out.2.2; omega
          have hB9 : Below w.heap.size w (w6.setCell ⟨K, 0, none⟩ (.slice na (j + 1) nc)) := hW6.setCell (show w.heap.size ≤ K by have := HPP.out.vk; have := H1.out.1.size; omega) _
          have hK9 : (w6.setCell ⟨K, 0, none⟩ (.slice na (j + 1) nc)).heap[w.heap.size]? = some (.cells #[.slice (some ⟨g, o, none⟩) n c] 30) := by
            rw [heap_setCell_other _ _ _ _ (by simpa using hKw)]; exact hK6
          clear hown6 hgrow6 HP3
          simp only [Act.put, List.setIfInBounds_toArray, List.set_cons_zero, List.set_cons_succ]
          refine ⟨⟨hW6, hK6⟩, wpAnyH_all (rs := [13]) (by kernel_rfl) (by simp) ?_⟩
          intro i hi
          obtain rfl : i = 13 := by simpa using hi
          clear hi
          refine op_val (d := 39) (v := .pointer (some ⟨K, 0, none⟩)) (w' := w6) rfl rfl rfl (by go_simp; try rfl) ?_
          simp only [Act.put, List.setIfInBounds_toArray, List.set_cons_zero, List.set_cons_succ]
          refine ⟨⟨hW6, hK6⟩, wpAnyH_all (rs := [14]) (by kernel_rfl) (by simp) ?_⟩
          intro i hi
          obtain rfl : i = 14 := by simpa using hi
          clear hi
          refine op_skipN (w' := w6.setCell ⟨K, 0, none⟩ (.slice na (j + 1) nc)) rfl rfl (by go_simp) ?_
          refine ⟨⟨hB9, hK9⟩, wpAnyH_done (by kernel_rfl) (NoPanic.normal ?_) _⟩
          clear e0 e1 e2 hkz hoR hW6 hK6 hB9 hK9 hKw
          go_wp2
          go_roundw
          case rel => exact ⟨j + 1, by omega, by go_num, na, nc, R.out⟩
          case measure => simp [intOf]; omega
        · clear hi
          refine op_appA rfl rfl rfl _ _ 62 rfl wr.heap.size 76 i1 (.agg #[.int .i64 0, .int .i64 0]) 2 16 Try.underlying62 hi1 hy0 hy1 hy2 rfl (by decide) (.slice (some ⟨wr.drew.heap.size, 0, none⟩) 0 0) 0 [] rfl hl_2 ua un uc (col.flatMap flC) rfl (by rw [fm_length flC_len, HU.out.2.1]) HU.out.2.2.1 (row_newsF (HU.out.1.below hk_2)) (flC_ones col) (by unfold maxLen; omega) (by omega) (hk_2).size ?_
          intro v_2_8 z_2_8 hown_2_8 hgrow_2_8
          have hk_2_8 : Below wr.heap.size wr z_2_8 := (hk_2).grown hgrow_2_8 (hk_2).size (fun q hq => (World.ownsRow.lt hl_2 q hq).1)
          have ho_2_8 : OG 76 2 flC z_2_8 wr.heap.size v_2_8 col := by
            unfold OG; rw [← HU.out.2.1]; rw [Nat.zero_add, List.nil_append] at hown_2_8; exact hown_2_8
          obtain ⟨va_2_8, vc_2_8, hve_2_8⟩ := ho_2_8.form
          rw [← HU.out.2.1] at hve_2_8
          subst hve_2_8
          clear hown_2_8 hgrow_2_8
          simp only [Act.put, List.setIfInBounds_toArray, List.set_cons_zero, List.set_cons_succ]
          refine ⟨⟨HBW.out.trans ((hk_2_8).mono HBW.out.size), ((hk_2_8).block _ (ltOf HK0.out)).trans HK0.out⟩, ?_⟩
          refine wpAnyH_all (rs := [1, 10]) (by kernel_rfl) (by simp) ?_
          intro i hi
          rcases (by simpa using hi : i = 1 ∨ i = 10) with rfl | rfl
          · clear hi
            have cb_2_8_1 : z_2_8.cell? ⟨K, 0, none⟩ = some (.slice oa j oc) := cellOf (((hk_2_8).block _ (ltOf HPP.out.kb)).trans HPP.out.kb) 0 rfl
            have lb_2_8_1 : K < z_2_8.heap.size := ltOf (((hk_2_8).block _ (ltOf HPP.out.kb)).trans HPP.out.kb)
            refine op_val (d := 27) (v := .slice oa j oc) (w' := z_2_8) rfl rfl rfl (by go_simp) ?_
            simp only [Act.put, List.setIfInBounds_toArray, List.set_cons_zero, List.set_cons_succ]
            refine ⟨⟨HBW.out.trans ((hk_2_8).mono HBW.out.size), ((hk_2_8).block _ (ltOf HK0.out)).trans HK0.out⟩, ?_⟩
            clear cb_2_8_1 lb_2_8_1
            refine wpAnyH_all (rs := [10]) (by kernel_rfl) (by simp) ?_
            intro i hi
            obtain rfl : i = 10 := by simpa using hi
            clear hi
            refine op_call (d := 36) rfl rfl rfl (by go_simp) ((spec_grow HU.out.2.2.2 HM.out (hk_2_8).size ho_2_8).mono ?_)
            rintro e z_2_8_1_10 ⟨v_2_8_1_10, rfl, ho_2_8_1_10, hb_2_8_1_10⟩
            obtain ⟨va_2_8_1_10, vc_2_8_1_10, hve_2_8_1_10⟩ := ho_2_8_1_10.form
            obtain ⟨vn_2_8_1_10, hvn_2_8_1_10⟩ : ∃ x, x = (grF m col).length := ⟨_, rfl⟩
            rw [← hvn_2_8_1_10] at hve_2_8_1_10
            subst hve_2_8_1_10
            clear hvn_2_8_1_10
            have hk_2_8_1_10 : Below wr.heap.size wr z_2_8_1_10 := (hk_2_8).trans (hb_2_8_1_10.mono (hk_2_8).size)
            clear hb_2_8_1_10
            refine ⟨_, rfl, ⟨HBW.out.trans ((hk_2_8_1_10).mono HBW.out.size), ((hk_2_8_1_10).block _ (ltOf HK0.out)).trans HK0.out⟩, ?_⟩
            simp only [Act.put, List.setIfInBounds_toArray, List.set_cons_zero, List.set_cons_succ]
            refine wpAnyH_all (rs := [11]) (by kernel_rfl) (by simp) ?_
            intro i hi
            obtain rfl : i = 11 := by simpa using hi
            clear hi
            refine op_val (d := 37) (v := .slice (some ⟨z_2_8_1_10.heap.size, 0, none⟩) 1 1) (w' := z_2_8_1_10.alloc (.cells #[.slice va_2_8_1_10 vn_2_8_1_10 vc_2_8_1_10] 62)) rfl rfl rfl (by go_simp; try rfl) ?_
            simp only [Act.put, List.setIfInBounds_toArray, List.set_cons_zero, List.set_cons_succ]
            have hk_2_8_1_10_11 : Below wr.heap.size wr (z_2_8_1_10.alloc (.cells #[.slice va_2_8_1_10 vn_2_8_1_10 vc_2_8_1_10] 62)) := (hk_2_8_1_10).alloc (hk_2_8_1_10).size _
            refine ⟨⟨HBW.out.trans ((hk_2_8_1_10_11).mono HBW.out.size), ((hk_2_8_1_10_11).block _ (ltOf HK0.out)).trans HK0.out⟩, ?_⟩
            refine wpAnyH_all (rs := [12]) (by kernel_rfl) (by simp) ?_
            intro i hi
            obtain rfl : i = 12 := by simpa using hi
            clear hi
            have hoR : z_2_8_1_10.ownsRow (K + 1) 62 1 (.slice oa j oc) j vs := by
              have h1 := (HPP.out.ro.below hk_2_8_1_10).o
              rw [HTL.out] at h1
              exact h1
            have hkz : z_2_8_1_10.heap[K]? = some (.cells #[.slice oa j oc] 30) := ((hk_2_8_1_10).block _ (ltOf HPP.out.kb)).trans HPP.out.kb
            refine op_appA rfl rfl rfl _ _ 28 rfl (K + 1) 62 i0 (.slice none 0 0) 1 24 Try.underlying28 hi0 hz0 hz1 hz2 rfl (by decide) (.slice oa j oc) j vs rfl (World.ownsRow.alloc hoR _) (some ⟨z_2_8_1_10.heap.size, 0, none⟩) 1 1 [.slice va_2_8_1_10 vn_2_8_1_10 vc_2_8_1_10] rfl rfl (fun h => by cases h) (fun ad h => by injection h with h; subst h; exact World.news_of_block (cs := #[.slice va_2_8_1_10 vn_2_8_1_10 vc_2_8_1_10]) (t := 62) (fr := (0, 0)) (heap_alloc_new z_2_8_1_10 _)) (by simp [Value.oneCell']) (by unfold maxLen; omega) (by omega) (Nat.le_trans HPP.out.ks (hk_2_8_1_10_11).size) ?_
            intro v6 w6 hown6 hgrow6
            obtain ⟨e0, e1, e2⟩ := keep_box hkz hoR hgrow6
            have hW6 : Below w.heap.size w w6 := by
              have h7 := HBW.out.trans ((hk_2_8_1_10_11).mono HBW.out.size)
              exact h7.grown hgrow6 h7.size fun q hq => by have := (rowBlk hoR hq).1; have := HPP.out.vk; have := H1.out.1.size; omega
            have hK6 : w6.heap[w.heap.size]? = some (.cells #[.slice (some ⟨g, o, none⟩) n c] 30) := by
              rw [hgrow6.block _ (by have := (hk_2_8_1_10_11).size; have := ltOf HK0.out; omega) fun e => by have := (rowBlk hoR e.symm).1; have := HPP.out.vk; have := H1.out.1.size; omega]
              exact ((hk_2_8_1_10_11).block _ (ltOf HK0.out)).trans HK0.out
            obtain ⟨na, nc, hv6, HP3⟩ := pp_push HPP.out hk_2_8_1_10 ho_2_8_1_10 HTL.out hown6 hgrow6 HNX.out (by rw [HLL.out.2]; omega)
            subst hv6
            have R : Hid _ := HP3
            have hKw : w.heap.size ≠ K := by have := HPP.out.vk; have := ltOf H1.out.2.2; omega
            have hB9 : Below w.heap.size w (w6.setCell ⟨K, 0, none⟩ (.slice na (j + 1) nc)) := hW6.setCell (show w.heap.size ≤ K by have := HPP.out.vk; have := H1.out.1.size; omega) _
            have hK9 : (w6.setCell ⟨K, 0, none⟩ (.slice na (j + 1) nc)).heap[w.heap.size]? = some (.cells #[.slice (some ⟨g, o, none⟩) n c] 30) := by
              rw [heap_setCell_other _ _ _ _ (by simpa using hKw)]; exact hK6
            clear hown6 hgrow6 HP3
            simp only [Act.put, List.setIfInBounds_toArray, List.set_cons_zero, List.set_cons_succ]
            refine ⟨⟨hW6, hK6⟩, wpAnyH_all (rs := [13]) (by kernel_rfl) (by simp) ?_⟩
            intro i hi
            obtain rfl : i = 13 := by simpa using hi
            clear hi
            refine op_val (d := 39) (v := .pointer (some ⟨K, 0, none⟩)) (w' := w6) rfl rfl rfl (by go_simp; try rfl) ?_
            simp only [Act.put, List.setIfInBounds_toArray, List.set_cons_zero, List.set_cons_succ]
            refine ⟨⟨hW6, hK6⟩, wpAnyH_all (rs := [14]) (by kernel_rfl) (by simp) ?_⟩
            intro i hi
            obtain rfl : i = 14 := by simpa using hi
            clear hi
            refine op_skipN (w' := w6.setCell ⟨K, 0, none⟩ (.slice na (j + 1) nc)) rfl rfl (by go_simp) ?_
            refine ⟨⟨hB9, hK9⟩, wpAnyH_done (by kernel_rfl) (NoPanic.normal ?_) _⟩
            clear e0 e1 e2 hkz hoR hW6 hK6 hB9 hK9 hKw
            go_wp2
            go_roundw
            case rel => exact ⟨j + 1, by omega, by go_num, na, nc, R.out⟩
            case measure => simp [intOf]; omega
          · clear hi
            refine op_call (d := 36) rfl rfl rfl (by go_simp) ((spec_grow HU.out.2.2.2 HM.out (hk_2_8).size ho_2_8).mono ?_)
            rintro e z_2_8_10 ⟨v_2_8_10, rfl, ho_2_8_10, hb_2_8_10⟩
            obtain ⟨va_2_8_10, vc_2_8_10, hve_2_8_10⟩ := ho_2_8_10.form
            obtain ⟨vn_2_8_10, hvn_2_8_10⟩ : ∃ x, x = (grF m col).length := ⟨_, rfl⟩
            rw [← hvn_2_8_10] at hve_2_8_10
            subst hve_2_8_10
            clear hvn_2_8_10
            have hk_2_8_10 : Below wr.heap.size wr z_2_8_10 := (hk_2_8).trans (hb_2_8_10.mono (hk_2_8).size)
            clear hb_2_8_10
            refine ⟨_, rfl, ⟨HBW.out.trans ((hk_2_8_10).mono HBW.out.size), ((hk_2_8_10).block _ (ltOf HK0.out)).trans HK0.out⟩, ?_⟩
            simp only [Act.put, List.setIfInBounds_toArray, List.set_cons_zero, List.set_cons_succ]
            refine wpAnyH_all (rs := [1, 11]) (by kernel_rfl) (by simp) ?_
            intro i hi
            rcases (by simpa using hi : i = 1 ∨ i = 11) with rfl | rfl
            · clear hi
              have cb_2_8_10_1 : z_2_8_10.cell? ⟨K, 0, none⟩ = some (.slice oa j oc) := cellOf (((hk_2_8_10).block _ (ltOf HPP.out.kb)).trans HPP.out.kb) 0 rfl
              have lb_2_8_10_1 : K < z_2_8_10.heap.size := ltOf (((hk_2_8_10).block _ (ltOf HPP.out.kb)).trans HPP.out.kb)
              refine op_val (d := 27) (v := .slice oa j oc) (w' := z_2_8_10) rfl rfl rfl (by go_simp) ?_
              simp only [Act.put, List.setIfInBounds_toArray, List.set_cons_zero, List.set_cons_succ]
              refine ⟨⟨HBW.out.trans ((hk_2_8_10).mono HBW.out.size), ((hk_2_8_10).block _ (ltOf HK0.out)).trans HK0.out⟩, ?_⟩
              clear cb_2_8_10_1 lb_2_8_10_1
              refine wpAnyH_all (rs := [11]) (by kernel_rfl) (by simp) ?_
              intro i hi
              obtain rfl : i = 11 := by simpa using hi
              clear hi
              refine op_val (d := 37) (v := .slice (some ⟨z_2_8_10.heap.size, 0, none⟩) 1 1) (w' := z_2_8_10.alloc (.cells #[.slice va_2_8_10 vn_2_8_10 vc_2_8_10] 62)) rfl rfl rfl (by go_simp; try rfl) ?_
              simp only [Act.put, List.setIfInBounds_toArray, List.set_cons_zero, List.set_cons_succ]
              have hk_2_8_10_1_11 : Below wr.heap.size wr (z_2_8_10.alloc (.cells #[.slice va_2_8_10 vn_2_8_10 vc_2_8_10] 62)) := (hk_2_8_10).alloc (hk_2_8_10).size _
              refine ⟨⟨HBW.out.trans ((hk_2_8_10_1_11).mono HBW.out.size), ((hk_2_8_10_1_11).block _ (ltOf HK0.out)).trans HK0.out⟩, ?_⟩
              refine wpAnyH_all (rs := [12]) (by kernel_rfl) (by simp) ?_
              intro i hi
              obtain rfl : i = 12 := by simpa using hi
              clear hi
              have hoR : z_2_8_10.ownsRow (K + 1) 62 1 (.slice oa j oc) j vs := by
                have h1 := (HPP.out.ro.below hk_2_8_10).o
                rw [HTL.out] at h1
                exact h1
              have hkz : z_2_8_10.heap[K]? = some (.cells #[.slice oa j oc] 30) := ((hk_2_8_10).block _ (ltOf HPP.out.kb)).trans HPP.out.kb
              refine op_appA rfl rfl rfl _ _ 28 rfl (K + 1) 62 i0 (.slice none 0 0) 1 24 Try.underlying28 hi0 hz0 hz1 hz2 rfl (by decide) (.slice oa j oc) j vs rfl (World.ownsRow.alloc hoR _) (some ⟨z_2_8_10.heap.size, 0, none⟩) 1 1 [.slice va_2_8_10 vn_2_8_10 vc_2_8_10] rfl rfl (fun h => by cases h) (fun ad h => by injection h with h; subst h; exact World.news_of_block (cs := #[.slice va_2_8_10 vn_2_8_10 vc_2_8_10]) (t := 62) (fr := (0, 0)) (heap_alloc_new z_2_8_10 _)) (by simp [Value.oneCell']) (by unfold maxLen; omega) (by omega) (Nat.le_trans HPP.out.ks (hk_2_8_10_1_11).size) ?_
              intro v6 w6 hown6 hgrow6
              obtain ⟨e0, e1, e2⟩ := keep_box hkz hoR hgrow6
              have hW6 : Below w.heap.size w w6 := by
                have h7 := HBW.out.trans ((hk_2_8_10_1_11).mono HBW.out.size)
                exact h7.grown hgrow6 h7.size fun q hq => by have := (rowBlk hoR hq).1; have := HPP.out.vk; have := H1.out.1.size; omega
              have hK6 : w6.heap[w.heap.size]? = some (.cells #[.slice (some ⟨g, o, none⟩) n c] 30) := by
                rw [hgrow6.block _ (by have := (hk_2_8_10_1_11).size; have := ltOf HK0.out; omega) fun e => by have := (rowBlk hoR e.symm).1; have := HPP.out.vk; have := H1.out.1.size; omega]
                exact ((hk_2_8_10_1_11).block _ (ltOf HK0.out)).trans HK0.out
              obtain ⟨na, nc, hv6, HP3⟩ := pp_push HPP.out hk_2_8_10 ho_2_8_10 HTL.out hown6 hgrow6 HNX.out (by rw [HLL.out.2]; omega)
              subst hv6
              have R : Hid _ := HP3
              have hKw : w.heap.size ≠ K := by have := HPP.out.vk; have := ltOf H1.out.2.2; omega
              have hB9 : Below w.heap.size w (w6.setCell ⟨K, 0, none⟩ (.slice na (j + 1) nc)) := hW6.setCell (show w.heap.size ≤ K by have := HPP.out.vk; have := H1.out.1.size; omega) _
              have hK9 : (w6.setCell ⟨K, 0, none⟩ (.slice na (j + 1) nc)).heap[w.heap.size]? = some (.cells #[.slice (some ⟨g, o, none⟩) n c] 30) := by
                rw [heap_setCell_other _ _ _ _ (by simpa using hKw)]; exact hK6
              clear hown6 hgrow6 HP3
              simp only [Act.put, List.setIfInBounds_toArray, List.set_cons_zero, List.set_cons_succ]
              refine ⟨⟨hW6, hK6⟩, wpAnyH_all (rs := [13]) (by kernel_rfl) (by simp) ?_⟩
              intro i hi
              obtain rfl : i = 13 := by simpa using hi
              clear hi
              refine op_val (d := 39) (v := .pointer (some ⟨K, 0, none⟩)) (w' := w6) rfl rfl rfl (by go_simp; try rfl) ?_
              simp only [Act.put, List.setIfInBounds_toArray, List.set_cons_zero, List.set_cons_succ]
              refine ⟨⟨hW6, hK6⟩, wpAnyH_all (rs := [14]) (by kernel_rfl) (by simp) ?_⟩
              intro i hi
              obtain rfl : i = 14 := by simpa using hi
              clear hi
              refine op_skipN (w' := w6.setCell ⟨K, 0, none⟩ (.slice na (j + 1) nc)) rfl rfl (by go_simp) ?_
              refine ⟨⟨hB9, hK9⟩, wpAnyH_done (by kernel_rfl) (NoPanic.normal ?_) _⟩
              clear e0 e1 e2 hkz hoR hW6 hK6 hB9 hK9 hKw
              go_wp2
              go_roundw
              case rel => exact ⟨j + 1, by omega, by go_num, na, nc, R.out⟩
              case measure => simp [intOf]; omega
            · clear hi
              refine op_val (d := 37) (v := .slice (some ⟨z_2_8_10.heap.size, 0, none⟩) 1 1) (w' := z_2_8_10.alloc (.cells #[.slice va_2_8_10 vn_2_8_10 vc_2_8_10] 62)) rfl rfl rfl (by go_simp; try rfl) ?_
              simp only [Act.put, List.setIfInBounds_toArray, List.set_cons_zero, List.set_cons_succ]
              have hk_2_8_10_11 : Below wr.heap.size wr (z_2_8_10.alloc (.cells #[.slice va_2_8_10 vn_2_8_10 vc_2_8_10] 62)) := (hk_2_8_10).alloc (hk_2_8_10).size _
              refine ⟨⟨HBW.out.trans ((hk_2_8_10_11).mono HBW.out.size), ((hk_2_8_10_11).block _ (ltOf HK0.out)).trans HK0.out⟩, ?_⟩
              refine wpAnyH_all (rs := [1]) (by kernel_rfl) (by simp) ?_
              intro i hi
              obtain rfl : i = 1 := by simpa using hi
              clear hi
              have cb_2_8_10_11_1 : (z_2_8_10.alloc (.cells #[.slice va_2_8_10 vn_2_8_10 vc_2_8_10] 62)).cell? ⟨K, 0, none⟩ = some (.slice oa j oc) := cellOf (((hk_2_8_10_11).block _ (ltOf HPP.out.kb)).trans HPP.out.kb) 0 rfl
              have lb_2_8_10_11_1 : K < (z_2_8_10.alloc (.cells #[.slice va_2_8_10 vn_2_8_10 vc_2_8_10] 62)).heap.size := ltOf (((hk_2_8_10_11).block _ (ltOf HPP.out.kb)).trans HPP.out.kb)
              refine op_val (d := 27) (v := .slice oa j oc) (w' := (z_2_8_10.alloc (.cells #[.slice va_2_8_10 vn_2_8_10 vc_2_8_10] 62))) rfl rfl rfl (by go_simp) ?_
              simp only [Act.put, List.setIfInBounds_toArray, List.set_cons_zero, List.set_cons_succ]
              refine ⟨⟨HBW.out.trans ((hk_2_8_10_11).mono HBW.out.size), ((hk_2_8_10_11).block _ (ltOf HK0.out)).trans HK0.out⟩, ?_⟩
              clear cb_2_8_10_11_1 lb_2_8_10_11_1
              refine wpAnyH_all (rs := [12]) (by kernel_rfl) (by simp) ?_
              intro i hi
              obtain rfl : i = 12 := by simpa using hi
              clear hi
              have hoR : z_2_8_10.ownsRow (K + 1) 62 1 (.slice oa j oc) j vs := by
                have h1 := (HPP.out.ro.below hk_2_8_10).o
                rw [HTL.out] at h1
                exact h1
              have hkz : z_2_8_10.heap[K]? = some (.cells #[.slice oa j oc] 30) := ((hk_2_8_10).block _ (ltOf HPP.out.kb)).trans HPP.out.kb
              refine op_appA rfl rfl rfl _ _ 28 rfl (K + 1) 62 i0 (.slice none 0 0) 1 24 Try.underlying28 hi0 hz0 hz1 hz2 rfl (by decide) (.slice oa j oc) j vs rfl (World.ownsRow.alloc hoR _) (some ⟨z_2_8_10.heap.size, 0, none⟩) 1 1 [.slice va_2_8_10 vn_2_8_10 vc_2_8_10] rfl rfl (fun h => by cases h) (fun ad h => by injection h with h; subst h; exact World.news_of_block (cs := #[.slice va_2_8_10 vn_2_8_10 vc_2_8_10]) (t := 62) (fr := (0, 0)) (heap_alloc_new z_2_8_10 _)) (by simp [Value.oneCell']) (by unfold maxLen; omega) (by omega) (Nat.le_trans HPP.out.ks (hk_2_8_10_11).size) ?_
              intro v6 w6 hown6 hgrow6
              obtain ⟨e0, e1, e2⟩ := keep_box hkz hoR hgrow6
              have hW6 : Below w.heap.size w w6 := by
                have h7 := HBW.out.trans ((hk_2_8_10_11).mono HBW.out.size)
                exact h7.grown hgrow6 h7.size fun q hq => by have := (rowBlk hoR hq).1; have := HPP.out.vk; have := H1.out.1.size; omega
              have hK6 : w6.heap[w.heap.size]? = some (.cells #[.slice (some ⟨g, o, none⟩) n c] 30) := by
                rw [hgrow6.block _ (by have := (hk_2_8_10_11).size; have := ltOf HK0.out; omega) fun e => by have := (rowBlk hoR e.symm).1; have := HPP.out.vk; have := H1.out.1.size; omega]
                exact ((hk_2_8_10_11).block _ (ltOf HK0.out)).trans HK0.out
              obtain ⟨na, nc, hv6, HP3⟩ := pp_push HPP.out hk_2_8_10 ho_2_8_10 HTL.out hown6 hgrow6 HNX.out (by rw [HLL.out.2]; omega)
              subst hv6
              have R : Hid _ := HP3
              have hKw : w.heap.size ≠ K := by have := HPP.out.vk; have := ltOf H1.out.2.2; omega
              have hB9 : Below w.heap.size w (w6.setCell ⟨K, 0, none⟩ (.slice na (j + 1) nc)) := hW6.setCell (show w.heap.size ≤ K by have := HPP.out.vk; have := H1.out.1.size; omega) _
              have hK9 : (w6.setCell ⟨K, 0, none⟩ (.slice na (j + 1) nc)).heap[w.heap.size]? = some (.cells #[.slice (some ⟨g, o, none⟩) n c] 30) := by
                rw [heap_setCell_other _ _ _ _ (by simpa using hKw)]; exact hK6
              clear hown6 hgrow6 HP3
              simp only [Act.put, List.setIfInBounds_toArray, List.set_cons_zero, List.set_cons_succ]
              refine ⟨⟨hW6, hK6⟩, wpAnyH_all (rs := [13]) (by kernel_rfl) (by simp) ?_⟩
              intro i hi
              obtain rfl : i = 13 := by simpa using hi
              clear hi
              refine op_val (d := 39) (v := .pointer (some ⟨K, 0, none⟩)) (w' := w6) rfl rfl rfl (by go_simp; try rfl) ?_
              simp only [Act.put, List.setIfInBounds_toArray, List.set_cons_zero, List.set_cons_succ]
              refine ⟨⟨hW6, hK6⟩, wpAnyH_all (rs := [14]) (by kernel_rfl) (by simp) ?_⟩
              intro i hi
              obtain rfl : i = 14 := by simpa using hi
              clear hi
              refine op_skipN (w' := w6.setCell ⟨K, 0, none⟩ (.slice na (j + 1) nc)) rfl rfl (by go_simp) ?_
              refine ⟨⟨hB9, hK9⟩, wpAnyH_done (by kernel_rfl) (NoPanic.normal ?_) _⟩
              clear e0 e1 e2 hkz hoR hW6 hK6 hB9 hK9 hKw
              go_wp2
              go_roundw
              case rel => exact ⟨j + 1, by omega, by go_num, na, nc, R.out⟩
              case measure => simp [intOf]; omega
    · have hjn' : j = n := by omega
      subst hjn'
      have HX : Hid (RoF wr (K + 1) (.slice oa j oc) LL vs) := by
        have h1 := HPP.out.ro
        rw [show LL.take j = LL by rw [← HLL.out.2]; exact List.take_length] at h1
        exact h1
      have b0' := cellOf HPP.out.kb 0 rfl
      have bl' := ltOf HPP.out.kb
      have HTO : Hid (Calls Try.prog 60 #[.agg #[.slice oa j oc]] wr fun e w' => e = .returned (.agg #[.int .i64 C, if C = 0 then .slice oa j oc else .slice none 0 0]) ∧ Below wr.heap.size wr w') := by
        rw [HPF.out.1]
        exact spec_told HSM.out HX.out.rd
      go_wp2_with (fail)
      refine HTO.out.mono ?_
      rintro e w5 ⟨rfl, hb5⟩
      have k1 := (hb5.block _ (Nat.lt_of_lt_of_le (ltOf H1.out.2.1) HPP.out.bl.size)).trans ((HPP.out.bl.block _ (ltOf H1.out.2.1)).trans H1.out.2.1)
      obtain ⟨p0, p1, f0, f1, pl⟩ := two_ofs k1
      obtain ⟨q, hq⟩ : ∃ q, q = if C = 0 then .slice oa j oc else (.slice none 0 0 : Value) := ⟨_, rfl⟩
      rw [← hq]
      obtain ⟨qa, qn, qc, hqf⟩ : ∃ qa qn qc, q = .slice qa qn qc := by
        rw [hq]; by_cases h9 : C = 0
        · rw [if_pos h9]; exact ⟨_, _, _, rfl⟩
        · rw [if_neg h9]; exact ⟨_, _, _, rfl⟩
      obtain ⟨W, hW⟩ : ∃ W, W = (w5.setCell ⟨w.heap.size + 1, 0, none⟩ (.int .i64 C)).setCell ⟨w.heap.size + 1, 1, none⟩ q := ⟨_, rfl⟩
      have HFI : Hid (∃ vs, RoF W w.heap.size q L vs ∧ Below w.heap.size w W) := by
        have hbW : Below w.heap.size w W := by rw [hW]; have := HBW.out.trans (hb5.mono HBW.out.size); (repeat' (first | (with_reducible exact Below.refl _ _) | (with_reducible assumption) | (with_reducible refine Below.setCell ?_ ?_ _) | (with_reducible refine Below.alloc ?_ ?_ _) | (with_reducible refine below_drewN ?_ _) | (with_reducible refine Below.drew ?_) | (with_reducible exact Nat.le_refl _) | omega | (simp; done) | (simp; omega)))
        by_cases h9 : C = 0
        · have hro := HX.out.below hb5
          have hK9 := HPP.out.vk
          have ho : ∀ z, K + 1 ≤ z → W.heap[z]? = w5.heap[z]? := fun z hz => by
            have := ltOf H1.out.2.1
            rw [hW, heap_setCell_other _ _ _ _ (by simp; omega), heap_setCell_other _ _ _ _ (by simp; omega)]
          refine ⟨vs, ?_, hbW⟩
          rw [HPF.out.2, hq, if_pos h9, if_pos h9]
          exact (hro.kept (fun z hz => ho z (rowBlk hro.o hz).1) (fun i hi z hz => ho z (rowBlk (hro.bx i hi) hz).1)).low (by have := H1.out.1.size; omega)
        · exact ⟨[], by rw [HPF.out.2, hq, if_neg h9, if_neg h9]; exact RoF.nil _ _, hbW⟩
      subst hqf
      have HWW : Hid _ := hW
      clear hW k1 hb5 hq HTO HX b0' bl' s0 s1
      go_wp2
      rw [← HWW.out]
      obtain ⟨vs, z1, z2⟩ := HFI.out
      refine bodyPost_ret (by rw [HWW.out]; simp [results, Try.results25, go_sem, p0, p1, pl]; try rfl) rfl ?_
      first | exact ⟨_, vs, rfl, z1, z2⟩ | exact ⟨_, rfl, ⟨vs, z1⟩, z2⟩

end Go.Proofs.Ytceljakmjddgbab
