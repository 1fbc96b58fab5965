/- Proved here: the model's copy of a book. -/
import Derived.Test.YtcfjanignfbidaaQcB
import Derived.Test.YtcfjanignfbidaaQaK
import Derived.Test.YtcfjanignfbidaaQbU
import Derived.Test.YtcfjanignfbidaaOpA
import Derived.Deep.Cut
import Derived.BigQuiet
namespace Go.Proofs.Ytcfjanignfbidaa
open Go.RowKit Go.Maps
set_option linter.unusedVariables false
set_option linter.unusedSimpArgs false

set_option maxRecDepth 10000 in
set_option maxHeartbeats 25600000 in
theorem cpB : CpB := by
  intro st w vw vl vs b hst hs h
  obtain ⟨i0, hi0, hz0, hz1, hz2⟩ := info_parts info_i64
  obtain ⟨iw, hiw, hw0, hw1, hw2⟩ := info_parts info_Window
  obtain ⟨il, hil, hl0, hl1, hl2⟩ := info_parts info_Lot
  obtain ⟨wa, wk, e1⟩ := h.wn.form
  obtain ⟨la, lc, e2⟩ := h.ls.rlo.form
  obtain ⟨xa, xc, e3⟩ := h.sc.form
  subst e1 e2 e3
  obtain ⟨wn, hwn⟩ : ∃ n, n = b.wn.length := ⟨_, rfl⟩
  obtain ⟨ln, hln⟩ : ∃ n, n = b.ls.length := ⟨_, rfl⟩
  obtain ⟨xn, hxn⟩ : ∃ n, n = b.sc.length := ⟨_, rfl⟩
  have hs1 := hs.wn
  have hs2 := hs.ls
  have hs3 := hs.sc
  rw [← hwn] at hs1
  rw [← hln] at hs2
  rw [← hxn] at hs3
  rw [← hwn, ← hln, ← hxn] at h ⊢
  obtain ⟨V, hV⟩ : ∃ W, W = (w.alloc (.cells #[.int .i64 st, .slice wa wn wk, .slice la ln lc, .slice xa xn xc] 31)).alloc (.cells #[.int .i64 0, .slice none 0 0, .slice none 0 0, .slice none 0 0] 31) := ⟨_, rfl⟩
  have HV : Hid (Below w.heap.size w V ∧ V.heap[w.heap.size]? = some (.cells #[.int .i64 st, .slice wa wn wk, .slice la ln lc, .slice xa xn xc] 31) ∧ V.heap[w.heap.size + 1]? = some (.cells #[.int .i64 0, .slice none 0 0, .slice none 0 0, .slice none 0 0] 31)) := by
    rw [hV]
    refine ⟨by (repeat' (first | (with_reducible exact Below.refl _ _) | (with_reducible assumption) | (with_reducible refine Below.setCell ?_ ?_ _) | (with_reducible refine Below.alloc ?_ ?_ _) | (with_reducible refine below_drewN ?_ _) | (with_reducible refine Below.drew ?_) | (with_reducible exact Nat.le_refl _) | omega | (simp; done) | (simp; omega))), (Below.heap_alloc _ _ _ (by simp)).trans (heap_alloc_new w _), ?_⟩
    have := heap_alloc_new (w.alloc (.cells #[.int .i64 st, .slice wa wn wk, .slice la ln lc, .slice xa xn xc] 31)) (.cells #[.int .i64 0, .slice none 0 0, .slice none 0 0, .slice none 0 0] 31); simpa using this
  have HRD : Hid (RdX V (.slice wa wn wk) (.slice la ln lc) (.slice xa xn xc) b) := h.below HV.out.1
  have HL : Hid (wn = b.wn.length ∧ ln = b.ls.length ∧ xn = b.sc.length ∧ b.st = st ∧ NC (.slice wa wn wk) ∧ NC (.slice xa xn xc)) := ⟨hwn, hln, hxn, hst, h.nw, h.ns⟩
  have HSM : Hid (∀ j (h : j < b.ls.length), smLo 1048576 b.ls[j]) := hs.at_
  obtain ⟨p0, p1, p2, p3, pl⟩ : V.cell? ⟨w.heap.size, 0, none⟩ = some (.int .i64 st) ∧ V.cell? ⟨w.heap.size, 1, none⟩ = some (.slice wa wn wk) ∧ V.cell? ⟨w.heap.size, 2, none⟩ = some (.slice la ln lc) ∧ V.cell? ⟨w.heap.size, 3, none⟩ = some (.slice xa xn xc) ∧ w.heap.size < V.heap.size := ⟨cellOfQ HV.out.2.1 0 rfl, cellOfQ HV.out.2.1 1 rfl, cellOfQ HV.out.2.1 2 rfl, cellOfQ HV.out.2.1 3 rfl, ltOfQ HV.out.2.1⟩
  clear h hs hst hwn hln hxn
  go_enter Try.func39, Try.ntmps39
  go_upto_region 1 with fail
  rw [← hV]
  clear hV
  go_cut [3] from 6 (fun r3 wx => ∃ (K : Nat) (na : Option Addr) (nc : Nat) (sa : Option Addr) (sd : Nat), r3 = .pointer (some ⟨K, 0, none⟩) ∧ Hid (CB V wx K st (.slice na wn nc) (.slice none 0 0) (.slice sa xn sd) ⟨st, b.wn, [], b.sc⟩ []))
  case first =>
    refine wp_region_float (by kernel_rfl) (fun hS => ?_)
    refine fl_take (i := 0) (d := 6) (v := .pointer (some ⟨w.heap.size, 0, none⟩)) rfl rfl rfl (by kernel_rfl) (by kernel_rfl) (by kernel_rfl) hS ?_ ?_
    · intro w' hk; go_simp
    simp only [Act.put, List.setIfInBounds_toArray, List.set_cons_zero, List.set_cons_succ]
    refine fl_take (i := 1) (d := 7) (v := .int .i64 st) rfl rfl rfl (by kernel_rfl) (by kernel_rfl) (by kernel_rfl) hS ?_ ?_
    · intro w' hk; go_simp
    simp only [Act.put, List.setIfInBounds_toArray, List.set_cons_zero, List.set_cons_succ]
    refine fl_take (i := 3) (d := 9) (v := .pointer (some ⟨w.heap.size, 1, none⟩)) rfl rfl rfl (by kernel_rfl) (by kernel_rfl) (by kernel_rfl) hS ?_ ?_
    · intro w' hk; go_simp
    simp only [Act.put, List.setIfInBounds_toArray, List.set_cons_zero, List.set_cons_succ]
    refine fl_take (i := 4) (d := 10) (v := .slice wa wn wk) rfl rfl rfl (by kernel_rfl) (by kernel_rfl) (by kernel_rfl) hS ?_ ?_
    · intro w' hk; go_simp
    simp only [Act.put, List.setIfInBounds_toArray, List.set_cons_zero, List.set_cons_succ]
    refine fl_take (i := 7) (d := 13) (v := .pointer (some ⟨w.heap.size, 3, none⟩)) rfl rfl rfl (by kernel_rfl) (by kernel_rfl) (by kernel_rfl) hS ?_ ?_
    · intro w' hk; go_simp
    simp only [Act.put, List.setIfInBounds_toArray, List.set_cons_zero, List.set_cons_succ]
    refine fl_take (i := 8) (d := 14) (v := .slice xa xn xc) rfl rfl rfl (by kernel_rfl) (by kernel_rfl) (by kernel_rfl) hS ?_ ?_
    · intro w' hk; go_simp
    simp only [Act.put, List.setIfInBounds_toArray, List.set_cons_zero, List.set_cons_succ]
    have hF : C3 V V.drew (.slice none 0 0) (.slice none 0 0) [] [] none := C3.start V
    refine wpAnyH_all (rs := [2, 6, 11]) (by kernel_rfl) (by simp) ?_
    intro i hi
    rcases (by simpa using hi : i = 2 ∨ i = 6 ∨ i = 11) with rfl | rfl | rfl
    · clear hi
      refine op_val (d := 8) (v := .slice (some ⟨(V.drew).heap.size, 0, none⟩) 0 0) (w' := (V.drew).alloc (.cells #[] 99)) rfl rfl rfl (by go_simp; try rfl) ?_
      simp only [Act.put, List.setIfInBounds_toArray, List.set_cons_zero, List.set_cons_succ]
      have hF := hF.mkA
      refine ⟨KS.of hF.bl, ?_⟩
      obtain ⟨g2, hg2⟩ : ∃ x, x = (V.drew).heap.size := ⟨_, rfl⟩
      rw [← hg2] at hF ⊢
      generalize (V.drew).alloc (.cells #[] 99) = y2 at hF ⊢
      clear hg2
      refine wpAnyH_all (rs := [5, 6, 11]) (by kernel_rfl) (by simp) ?_
      intro i hi
      rcases (by simpa using hi : i = 5 ∨ i = 6 ∨ i = 11) with rfl | rfl | rfl
      · clear hi
        refine op_appA (dd := 11) rfl rfl rfl _ _ 28 rfl V.heap.size 99 iw (.agg #[.int .i64 0, .int .i64 0, .int .i64 0]) 3 24 Try.underlying28 hiw hw0 hw1 hw2 rfl (by decide) (.slice (some ⟨g2, 0, none⟩) 0 0) 0 [] rfl hF.a wa wn wk (b.wn.flatMap wdC) rfl (by rw [HL.out.1, fm_length wdC_len]) (fun e => HL.out.2.2.2.2.1 _ _ (by rw [e])) (newsK wdC_len (by decide) (HRD.out.wn.below hF.bl)) (ones_of wdC_one _) (by unfold maxLen; omega) (by omega) hF.bl.size ?_
        intro v25 y25 hown hgrow
        simp only [Act.put, List.setIfInBounds_toArray, List.set_cons_zero, List.set_cons_succ]
        have hF := C3.apA hF HL.out.1 hown hgrow
        obtain ⟨g25, c25, hv25⟩ := OG.fm hF.a
        rw [← HL.out.1] at hv25
        subst hv25
        clear hown hgrow
        refine ⟨KS.of hF.bl, ?_⟩
        refine wpAnyH_all (rs := [6, 11]) (by kernel_rfl) (by simp) ?_
        intro i hi
        rcases (by simpa using hi : i = 6 ∨ i = 11) with rfl | rfl
        · clear hi
          refine op_val (d := 12) (v := .slice (some ⟨(y25).heap.size, 0, none⟩) 0 0) (w' := (y25).alloc (.cells #[] 2)) rfl rfl rfl (by go_simp; try rfl) ?_
          simp only [Act.put, List.setIfInBounds_toArray, List.set_cons_zero, List.set_cons_succ]
          have hF := hF.mkB
          refine ⟨KS.of hF.bl, ?_⟩
          obtain ⟨g256, hg256⟩ : ∃ x, x = (y25).heap.size := ⟨_, rfl⟩
          rw [← hg256] at hF ⊢
          generalize (y25).alloc (.cells #[] 2) = y256 at hF ⊢
          clear hg256
          refine wpAnyH_all (rs := [9, 11]) (by kernel_rfl) (by simp) ?_
          intro i hi
          rcases (by simpa using hi : i = 9 ∨ i = 11) with rfl | rfl
          · clear hi
            refine op_appA (dd := 15) rfl rfl rfl _ _ 24 rfl V.heap.size 2 i0 (.int .i64 0) 1 8 Try.underlying24 hi0 hz0 hz1 hz2 rfl (by decide) (.slice (some ⟨g256, 0, none⟩) 0 0) 0 [] rfl hF.b xa xn xc (b.sc.map (Value.int .i64)) rfl (by rw [HL.out.2.2.1]; simp) (fun e => HL.out.2.2.2.2.2 _ _ (by rw [e])) (newsI (HRD.out.sc.below hF.bl)) (ones_int _) (by unfold maxLen; omega) (by omega) hF.bl.size ?_
            intro v2569 y2569 hown hgrow
            simp only [Act.put, List.setIfInBounds_toArray, List.set_cons_zero, List.set_cons_succ]
            have hF := C3.apB hF HL.out.2.2.1 hown hgrow
            obtain ⟨g2569, c2569, hv2569⟩ := OG.fm (og_is.2 hF.b)
            rw [← HL.out.2.2.1] at hv2569
            subst hv2569
            clear hown hgrow
            refine ⟨KS.of hF.bl, ?_⟩
            refine fl_take (i := 10) (d := 16) (v := .agg #[.int .i64 st, .slice g25 wn c25, .slice none 0 0, .slice g2569 xn c2569]) rfl rfl rfl (by kernel_rfl) (by kernel_rfl) (by kernel_rfl) (KS.of hF.bl) ?_ ?_
            · intro w' hk; go_simp
            simp only [Act.put, List.setIfInBounds_toArray, List.set_cons_zero, List.set_cons_succ]
            refine wpAnyH_all (rs := [11]) (by kernel_rfl) (by simp) ?_
            intro i hi
            obtain rfl : i = 11 := by simpa using hi
            clear hi
            refine op_val (d := 3) (v := .pointer (some ⟨(y2569).heap.size, 0, none⟩)) (w' := (y2569).alloc (.cells #[.int .i64 0, .slice none 0 0, .slice none 0 0, .slice none 0 0] 31)) rfl rfl rfl (by go_simp; try rfl) ?_
            simp only [Act.put, List.setIfInBounds_toArray, List.set_cons_zero, List.set_cons_succ]
            have hF := hF.mkO
            refine ⟨KS.of hF.bl, ?_⟩
            obtain ⟨g256911, hg256911⟩ : ∃ x, x = (y2569).heap.size := ⟨_, rfl⟩
            rw [← hg256911] at hF ⊢
            generalize (y2569).alloc (.cells #[.int .i64 0, .slice none 0 0, .slice none 0 0, .slice none 0 0] 31) = y256911 at hF ⊢
            clear hg256911
            refine wpAnyH_all (rs := [12]) (by kernel_rfl) (by simp) ?_
            intro i hi
            obtain rfl : i = 12 := by simpa using hi
            clear hi
            refine op_store rfl rfl rfl _ _ _ rfl g256911 #[.int .i64 st, .slice g25 wn c25, .slice none 0 0, .slice g2569 xn c2569] rfl rfl (there_nQ (hF.o g256911 rfl).1 rfl) (by kernel_rfl) (by simp [Value.oneCell']) ?_
            have hG : CB V ((y256911).setCells g256911 0 [.int .i64 st, .slice g25 wn c25, .slice none 0 0, .slice g2569 xn c2569]) g256911 st (.slice g25 wn c25) (.slice none 0 0) (.slice g2569 xn c2569) ⟨st, b.wn, [], b.sc⟩ [] := CB.of hF
            refine ⟨KS.of hG.bl, wpAnyH_done (by kernel_rfl) (NoPanic.normal ?_) _⟩
            go_wp2_with (fail)
            go_meet
            exact ⟨_, _, _, _, _, rfl, hG⟩
          · clear hi
            refine op_val (d := 3) (v := .pointer (some ⟨(y256).heap.size, 0, none⟩)) (w' := (y256).alloc (.cells #[.int .i64 0, .slice none 0 0, .slice none 0 0, .slice none 0 0] 31)) rfl rfl rfl (by go_simp; try rfl) ?_
            simp only [Act.put, List.setIfInBounds_toArray, List.set_cons_zero, List.set_cons_succ]
            have hF := hF.mkO
            refine ⟨KS.of hF.bl, ?_⟩
            obtain ⟨g25611, hg25611⟩ : ∃ x, x = (y256).heap.size := ⟨_, rfl⟩
            rw [← hg25611] at hF ⊢
            generalize (y256).alloc (.cells #[.int .i64 0, .slice none 0 0, .slice none 0 0, .slice none 0 0] 31) = y25611 at hF ⊢
            clear hg25611
            refine wpAnyH_all (rs := [9]) (by kernel_rfl) (by simp) ?_
            intro i hi
            obtain rfl : i = 9 := by simpa using hi
            clear hi
            refine op_appA (dd := 15) rfl rfl rfl _ _ 24 rfl V.heap.size 2 i0 (.int .i64 0) 1 8 Try.underlying24 hi0 hz0 hz1 hz2 rfl (by decide) (.slice (some ⟨g256, 0, none⟩) 0 0) 0 [] rfl hF.b xa xn xc (b.sc.map (Value.int .i64)) rfl (by rw [HL.out.2.2.1]; simp) (fun e => HL.out.2.2.2.2.2 _ _ (by rw [e])) (newsI (HRD.out.sc.below hF.bl)) (ones_int _) (by unfold maxLen; omega) (by omega) hF.bl.size ?_
            intro v256119 y256119 hown hgrow
            simp only [Act.put, List.setIfInBounds_toArray, List.set_cons_zero, List.set_cons_succ]
            have hF := C3.apB hF HL.out.2.2.1 hown hgrow
            obtain ⟨g256119, c256119, hv256119⟩ := OG.fm (og_is.2 hF.b)
            rw [← HL.out.2.2.1] at hv256119
            subst hv256119
            clear hown hgrow
            refine ⟨KS.of hF.bl, ?_⟩
            refine fl_take (i := 10) (d := 16) (v := .agg #[.int .i64 st, .slice g25 wn c25, .slice none 0 0, .slice g256119 xn c256119]) rfl rfl rfl (by kernel_rfl) (by kernel_rfl) (by kernel_rfl) (KS.of hF.bl) ?_ ?_
            · intro w' hk; go_simp
            simp only [Act.put, List.setIfInBounds_toArray, List.set_cons_zero, List.set_cons_succ]
            refine wpAnyH_all (rs := [12]) (by kernel_rfl) (by simp) ?_
            intro i hi
            obtain rfl : i = 12 := by simpa using hi
            clear hi
            refine op_store rfl rfl rfl _ _ _ rfl g25611 #[.int .i64 st, .slice g25 wn c25, .slice none 0 0, .slice g256119 xn c256119] rfl rfl (there_nQ (hF.o g25611 rfl).1 rfl) (by kernel_rfl) (by simp [Value.oneCell']) ?_
            have hG : CB V ((y256119).setCells g25611 0 [.int .i64 st, .slice g25 wn c25, .slice none 0 0, .slice g256119 xn c256119]) g25611 st (.slice g25 wn c25) (.slice none 0 0) (.slice g256119 xn c256119) ⟨st, b.wn, [], b.sc⟩ [] := CB.of hF
            refine ⟨KS.of hG.bl, wpAnyH_done (by kernel_rfl) (NoPanic.normal ?_) _⟩
            go_wp2_with (fail)
            go_meet
            exact ⟨_, _, _, _, _, rfl, hG⟩
        · clear hi
          refine op_val (d := 3) (v := .pointer (some ⟨(y25).heap.size, 0, none⟩)) (w' := (y25).alloc (.cells #[.int .i64 0, .slice none 0 0, .slice none 0 0, .slice none 0 0] 31)) rfl rfl rfl (by go_simp; try rfl) ?_
          simp only [Act.put, List.setIfInBounds_toArray, List.set_cons_zero, List.set_cons_succ]
          have hF := hF.mkO
          refine ⟨KS.of hF.bl, ?_⟩
          obtain ⟨g2511, hg2511⟩ : ∃ x, x = (y25).heap.size := ⟨_, rfl⟩
          rw [← hg2511] at hF ⊢
          generalize (y25).alloc (.cells #[.int .i64 0, .slice none 0 0, .slice none 0 0, .slice none 0 0] 31) = y2511 at hF ⊢
          clear hg2511
          refine wpAnyH_all (rs := [6]) (by kernel_rfl) (by simp) ?_
          intro i hi
          obtain rfl : i = 6 := by simpa using hi
          clear hi
          refine op_val (d := 12) (v := .slice (some ⟨(y2511).heap.size, 0, none⟩) 0 0) (w' := (y2511).alloc (.cells #[] 2)) rfl rfl rfl (by go_simp; try rfl) ?_
          simp only [Act.put, List.setIfInBounds_toArray, List.set_cons_zero, List.set_cons_succ]
          have hF := hF.mkB
          refine ⟨KS.of hF.bl, ?_⟩
          obtain ⟨g25116, hg25116⟩ : ∃ x, x = (y2511).heap.size := ⟨_, rfl⟩
          rw [← hg25116] at hF ⊢
          generalize (y2511).alloc (.cells #[] 2) = y25116 at hF ⊢
          clear hg25116
          refine wpAnyH_all (rs := [9]) (by kernel_rfl) (by simp) ?_
          intro i hi
          obtain rfl : i = 9 := by simpa using hi
          clear hi
          refine op_appA (dd := 15) rfl rfl rfl _ _ 24 rfl V.heap.size 2 i0 (.int .i64 0) 1 8 Try.underlying24 hi0 hz0 hz1 hz2 rfl (by decide) (.slice (some ⟨g25116, 0, none⟩) 0 0) 0 [] rfl hF.b xa xn xc (b.sc.map (Value.int .i64)) rfl (by rw [HL.out.2.2.1]; simp) (fun e => HL.out.2.2.2.2.2 _ _ (by rw [e])) (newsI (HRD.out.sc.below hF.bl)) (ones_int _) (by unfold maxLen; omega) (by omega) hF.bl.size ?_
          intro v251169 y251169 hown hgrow
          simp only [Act.put, List.setIfInBounds_toArray, List.set_cons_zero, List.set_cons_succ]
          have hF := C3.apB hF HL.out.2.2.1 hown hgrow
          obtain ⟨g251169, c251169, hv251169⟩ := OG.fm (og_is.2 hF.b)
          rw [← HL.out.2.2.1] at hv251169
          subst hv251169
          clear hown hgrow
          refine ⟨KS.of hF.bl, ?_⟩
          refine fl_take (i := 10) (d := 16) (v := .agg #[.int .i64 st, .slice g25 wn c25, .slice none 0 0, .slice g251169 xn c251169]) rfl rfl rfl (by kernel_rfl) (by kernel_rfl) (by kernel_rfl) (KS.of hF.bl) ?_ ?_
          · intro w' hk; go_simp
          simp only [Act.put, List.setIfInBounds_toArray, List.set_cons_zero, List.set_cons_succ]
          refine wpAnyH_all (rs := [12]) (by kernel_rfl) (by simp) ?_
          intro i hi
          obtain rfl : i = 12 := by simpa using hi
          clear hi
          refine op_store rfl rfl rfl _ _ _ rfl g2511 #[.int .i64 st, .slice g25 wn c25, .slice none 0 0, .slice g251169 xn c251169] rfl rfl (there_nQ (hF.o g2511 rfl).1 rfl) (by kernel_rfl) (by simp [Value.oneCell']) ?_
          have hG : CB V ((y251169).setCells g2511 0 [.int .i64 st, .slice g25 wn c25, .slice none 0 0, .slice g251169 xn c251169]) g2511 st (.slice g25 wn c25) (.slice none 0 0) (.slice g251169 xn c251169) ⟨st, b.wn, [], b.sc⟩ [] := CB.of hF
          refine ⟨KS.of hG.bl, wpAnyH_done (by kernel_rfl) (NoPanic.normal ?_) _⟩
          go_wp2_with (fail)
          go_meet
          exact ⟨_, _, _, _, _, rfl, hG⟩
      · clear hi
        refine op_val (d := 12) (v := .slice (some ⟨(y2).heap.size, 0, none⟩) 0 0) (w' := (y2).alloc (.cells #[] 2)) rfl rfl rfl (by go_simp; try rfl) ?_
        simp only [Act.put, List.setIfInBounds_toArray, List.set_cons_zero, List.set_cons_succ]
        have hF := hF.mkB
        refine ⟨KS.of hF.bl, ?_⟩
        obtain ⟨g26, hg26⟩ : ∃ x, x = (y2).heap.size := ⟨_, rfl⟩
        rw [← hg26] at hF ⊢
        generalize (y2).alloc (.cells #[] 2) = y26 at hF ⊢
        clear hg26
        refine wpAnyH_all (rs := [5, 11]) (by kernel_rfl) (by simp) ?_
        intro i hi
        rcases (by simpa using hi : i = 5 ∨ i = 11) with rfl | rfl
        · clear hi
          refine op_appA (dd := 11) rfl rfl rfl _ _ 28 rfl V.heap.size 99 iw (.agg #[.int .i64 0, .int .i64 0, .int .i64 0]) 3 24 Try.underlying28 hiw hw0 hw1 hw2 rfl (by decide) (.slice (some ⟨g2, 0, none⟩) 0 0) 0 [] rfl hF.a wa wn wk (b.wn.flatMap wdC) rfl (by rw [HL.out.1, fm_length wdC_len]) (fun e => HL.out.2.2.2.2.1 _ _ (by rw [e])) (newsK wdC_len (by decide) (HRD.out.wn.below hF.bl)) (ones_of wdC_one _) (by unfold maxLen; omega) (by omega) hF.bl.size ?_
          intro v265 y265 hown hgrow
          simp only [Act.put, List.setIfInBounds_toArray, List.set_cons_zero, List.set_cons_succ]
          have hF := C3.apA hF HL.out.1 hown hgrow
          obtain ⟨g265, c265, hv265⟩ := OG.fm hF.a
          rw [← HL.out.1] at hv265
          subst hv265
          clear hown hgrow
          refine ⟨KS.of hF.bl, ?_⟩
          refine wpAnyH_all (rs := [9, 11]) (by kernel_rfl) (by simp) ?_
          intro i hi
          rcases (by simpa using hi : i = 9 ∨ i = 11) with rfl | rfl
          · clear hi
            refine op_appA (dd := 15) rfl rfl rfl _ _ 24 rfl V.heap.size 2 i0 (.int .i64 0) 1 8 Try.underlying24 hi0 hz0 hz1 hz2 rfl (by decide) (.slice (some ⟨g26, 0, none⟩) 0 0) 0 [] rfl hF.b xa xn xc (b.sc.map (Value.int .i64)) rfl (by rw [HL.out.2.2.1]; simp) (fun e => HL.out.2.2.2.2.2 _ _ (by rw [e])) (newsI (HRD.out.sc.below hF.bl)) (ones_int _) (by unfold maxLen; omega) (by omega) hF.bl.size ?_
            intro v2659 y2659 hown hgrow
            simp only [Act.put, List.setIfInBounds_toArray, List.set_cons_zero, List.set_cons_succ]
            have hF := C3.apB hF HL.out.2.2.1 hown hgrow
            obtain ⟨g2659, c2659, hv2659⟩ := OG.fm (og_is.2 hF.b)
            rw [← HL.out.2.2.1] at hv2659
            subst hv2659
            clear hown hgrow
            refine ⟨KS.of hF.bl, ?_⟩
            refine fl_take (i := 10) (d := 16) (v := .agg #[.int .i64 st, .slice g265 wn c265, .slice none 0 0, .slice g2659 xn c2659]) rfl rfl rfl (by kernel_rfl) (by kernel_rfl) (by kernel_rfl) (KS.of hF.bl) ?_ ?_
            · intro w' hk; go_simp
            simp only [Act.put, List.setIfInBounds_toArray, List.set_cons_zero, List.set_cons_succ]
            refine wpAnyH_all (rs := [11]) (by kernel_rfl) (by simp) ?_
            intro i hi
            obtain rfl : i = 11 := by simpa using hi
            clear hi
            refine op_val (d := 3) (v := .pointer (some ⟨(y2659).heap.size, 0, none⟩)) (w' := (y2659).alloc (.cells #[.int .i64 0, .slice none 0 0, .slice none 0 0, .slice none 0 0] 31)) rfl rfl rfl (by go_simp; try rfl) ?_
            simp only [Act.put, List.setIfInBounds_toArray, List.set_cons_zero, List.set_cons_succ]
            have hF := hF.mkO
            refine ⟨KS.of hF.bl, ?_⟩
            obtain ⟨g265911, hg265911⟩ : ∃ x, x = (y2659).heap.size := ⟨_, rfl⟩
            rw [← hg265911] at hF ⊢
            generalize (y2659).alloc (.cells #[.int .i64 0, .slice none 0 0, .slice none 0 0, .slice none 0 0] 31) = y265911 at hF ⊢
            clear hg265911
            refine wpAnyH_all (rs := [12]) (by kernel_rfl) (by simp) ?_
            intro i hi
            obtain rfl : i = 12 := by simpa using hi
            clear hi
            refine op_store rfl rfl rfl _ _ _ rfl g265911 #[.int .i64 st, .slice g265 wn c265, .slice none 0 0, .slice g2659 xn c2659] rfl rfl (there_nQ (hF.o g265911 rfl).1 rfl) (by kernel_rfl) (by simp [Value.oneCell']) ?_
            have hG : CB V ((y265911).setCells g265911 0 [.int .i64 st, .slice g265 wn c265, .slice none 0 0, .slice g2659 xn c2659]) g265911 st (.slice g265 wn c265) (.slice none 0 0) (.slice g2659 xn c2659) ⟨st, b.wn, [], b.sc⟩ [] := CB.of hF
            refine ⟨KS.of hG.bl, wpAnyH_done (by kernel_rfl) (NoPanic.normal ?_) _⟩
            go_wp2_with (fail)
            go_meet
            exact ⟨_, _, _, _, _, rfl, hG⟩
          · clear hi
            refine op_val (d := 3) (v := .pointer (some ⟨(y265).heap.size, 0, none⟩)) (w' := (y265).alloc (.cells #[.int .i64 0, .slice none 0 0, .slice none 0 0, .slice none 0 0] 31)) rfl rfl rfl (by go_simp; try rfl) ?_
            simp only [Act.put, List.setIfInBounds_toArray, List.set_cons_zero, List.set_cons_succ]
            have hF := hF.mkO
            refine ⟨KS.of hF.bl, ?_⟩
            obtain ⟨g26511, hg26511⟩ : ∃ x, x = (y265).heap.size := ⟨_, rfl⟩
            rw [← hg26511] at hF ⊢
            generalize (y265).alloc (.cells #[.int .i64 0, .slice none 0 0, .slice none 0 0, .slice none 0 0] 31) = y26511 at hF ⊢
            clear hg26511
            refine wpAnyH_all (rs := [9]) (by kernel_rfl) (by simp) ?_
            intro i hi
            obtain rfl : i = 9 := by simpa using hi
            clear hi
            refine op_appA (dd := 15) rfl rfl rfl _ _ 24 rfl V.heap.size 2 i0 (.int .i64 0) 1 8 Try.underlying24 hi0 hz0 hz1 hz2 rfl (by decide) (.slice (some ⟨g26, 0, none⟩) 0 0) 0 [] rfl hF.b xa xn xc (b.sc.map (Value.int .i64)) rfl (by rw [HL.out.2.2.1]; simp) (fun e => HL.out.2.2.2.2.2 _ _ (by rw [e])) (newsI (HRD.out.sc.below hF.bl)) (ones_int _) (by unfold maxLen; omega) (by omega) hF.bl.size ?_
            intro v265119 y265119 hown hgrow
            simp only [Act.put, List.setIfInBounds_toArray, List.set_cons_zero, List.set_cons_succ]
            have hF := C3.apB hF HL.out.2.2.1 hown hgrow
            obtain ⟨g265119, c265119, hv265119⟩ := OG.fm (og_is.2 hF.b)
            rw [← HL.out.2.2.1] at hv265119
            subst hv265119
            clear hown hgrow
            refine ⟨KS.of hF.bl, ?_⟩
            refine fl_take (i := 10) (d := 16) (v := .agg #[.int .i64 st, .slice g265 wn c265, .slice none 0 0, .slice g265119 xn c265119]) rfl rfl rfl (by kernel_rfl) (by kernel_rfl) (by kernel_rfl) (KS.of hF.bl) ?_ ?_
            · intro w' hk; go_simp
            simp only [Act.put, List.setIfInBounds_toArray, List.set_cons_zero, List.set_cons_succ]
            refine wpAnyH_all (rs := [12]) (by kernel_rfl) (by simp) ?_
            intro i hi
            obtain rfl : i = 12 := by simpa using hi
            clear hi
            refine op_store rfl rfl rfl _ _ _ rfl g26511 #[.int .i64 st, .slice g265 wn c265, .slice none 0 0, .slice g265119 xn c265119] rfl rfl (there_nQ (hF.o g26511 rfl).1 rfl) (by kernel_rfl) (by simp [Value.oneCell']) ?_
            have hG : CB V ((y265119).setCells g26511 0 [.int .i64 st, .slice g265 wn c265, .slice none 0 0, .slice g265119 xn c265119]) g26511 st (.slice g265 wn c265) (.slice none 0 0) (.slice g265119 xn c265119) ⟨st, b.wn, [], b.sc⟩ [] := CB.of hF
            refine ⟨KS.of hG.bl, wpAnyH_done (by kernel_rfl) (NoPanic.normal ?_) _⟩
            go_wp2_with (fail)
            go_meet
            exact ⟨_, _, _, _, _, rfl, hG⟩
        · clear hi
          refine op_val (d := 3) (v := .pointer (some ⟨(y26).heap.size, 0, none⟩)) (w' := (y26).alloc (.cells #[.int .i64 0, .slice none 0 0, .slice none 0 0, .slice none 0 0] 31)) rfl rfl rfl (by go_simp; try rfl) ?_
          simp only [Act.put, List.setIfInBounds_toArray, List.set_cons_zero, List.set_cons_succ]
          have hF := hF.mkO
          refine ⟨KS.of hF.bl, ?_⟩
          obtain ⟨g2611, hg2611⟩ : ∃ x, x = (y26).heap.size := ⟨_, rfl⟩
          rw [← hg2611] at hF ⊢
          generalize (y26).alloc (.cells #[.int .i64 0, .slice none 0 0, .slice none 0 0, .slice none 0 0] 31) = y2611 at hF ⊢
          clear hg2611
          refine wpAnyH_all (rs := [5]) (by kernel_rfl) (by simp) ?_
          intro i hi
          obtain rfl : i = 5 := by simpa using hi
          clear hi
          refine op_appA (dd := 11) rfl rfl rfl _ _ 28 rfl V.heap.size 99 iw (.agg #[.int .i64 0, .int .i64 0, .int .i64 0]) 3 24 Try.underlying28 hiw hw0 hw1 hw2 rfl (by decide) (.slice (some ⟨g2, 0, none⟩) 0 0) 0 [] rfl hF.a wa wn wk (b.wn.flatMap wdC) rfl (by rw [HL.out.1, fm_length wdC_len]) (fun e => HL.out.2.2.2.2.1 _ _ (by rw [e])) (newsK wdC_len (by decide) (HRD.out.wn.below hF.bl)) (ones_of wdC_one _) (by unfold maxLen; omega) (by omega) hF.bl.size ?_
          intro v26115 y26115 hown hgrow
          simp only [Act.put, List.setIfInBounds_toArray, List.set_cons_zero, List.set_cons_succ]
          have hF := C3.apA hF HL.out.1 hown hgrow
          obtain ⟨g26115, c26115, hv26115⟩ := OG.fm hF.a
          rw [← HL.out.1] at hv26115
          subst hv26115
          clear hown hgrow
          refine ⟨KS.of hF.bl, ?_⟩
          refine wpAnyH_all (rs := [9]) (by kernel_rfl) (by simp) ?_
          intro i hi
          obtain rfl : i = 9 := by simpa using hi
          clear hi
          refine op_appA (dd := 15) rfl rfl rfl _ _ 24 rfl V.heap.size 2 i0 (.int .i64 0) 1 8 Try.underlying24 hi0 hz0 hz1 hz2 rfl (by decide) (.slice (some ⟨g26, 0, none⟩) 0 0) 0 [] rfl hF.b xa xn xc (b.sc.map (Value.int .i64)) rfl (by rw [HL.out.2.2.1]; simp) (fun e => HL.out.2.2.2.2.2 _ _ (by rw [e])) (newsI (HRD.out.sc.below hF.bl)) (ones_int _) (by unfold maxLen; omega) (by omega) hF.bl.size ?_
          intro v261159 y261159 hown hgrow
          simp only [Act.put, List.setIfInBounds_toArray, List.set_cons_zero, List.set_cons_succ]
          have hF := C3.apB hF HL.out.2.2.1 hown hgrow
          obtain ⟨g261159, c261159, hv261159⟩ := OG.fm (og_is.2 hF.b)
          rw [← HL.out.2.2.1] at hv261159
          subst hv261159
          clear hown hgrow
          refine ⟨KS.of hF.bl, ?_⟩
          refine fl_take (i := 10) (d := 16) (v := .agg #[.int .i64 st, .slice g26115 wn c26115, .slice none 0 0, .slice g261159 xn c261159]) rfl rfl rfl (by kernel_rfl) (by kernel_rfl) (by kernel_rfl) (KS.of hF.bl) ?_ ?_
          · intro w' hk; go_simp
          simp only [Act.put, List.setIfInBounds_toArray, List.set_cons_zero, List.set_cons_succ]
          refine wpAnyH_all (rs := [12]) (by kernel_rfl) (by simp) ?_
          intro i hi
          obtain rfl : i = 12 := by simpa using hi
          clear hi
          refine op_store rfl rfl rfl _ _ _ rfl g2611 #[.int .i64 st, .slice g26115 wn c26115, .slice none 0 0, .slice g261159 xn c261159] rfl rfl (there_nQ (hF.o g2611 rfl).1 rfl) (by kernel_rfl) (by simp [Value.oneCell']) ?_
          have hG : CB V ((y261159).setCells g2611 0 [.int .i64 st, .slice g26115 wn c26115, .slice none 0 0, .slice g261159 xn c261159]) g2611 st (.slice g26115 wn c26115) (.slice none 0 0) (.slice g261159 xn c261159) ⟨st, b.wn, [], b.sc⟩ [] := CB.of hF
          refine ⟨KS.of hG.bl, wpAnyH_done (by kernel_rfl) (NoPanic.normal ?_) _⟩
          go_wp2_with (fail)
          go_meet
          exact ⟨_, _, _, _, _, rfl, hG⟩
      · clear hi
        refine op_val (d := 3) (v := .pointer (some ⟨(y2).heap.size, 0, none⟩)) (w' := (y2).alloc (.cells #[.int .i64 0, .slice none 0 0, .slice none 0 0, .slice none 0 0] 31)) rfl rfl rfl (by go_simp; try rfl) ?_
        simp only [Act.put, List.setIfInBounds_toArray, List.set_cons_zero, List.set_cons_succ]
        have hF := hF.mkO
        refine ⟨KS.of hF.bl, ?_⟩
        obtain ⟨g211, hg211⟩ : ∃ x, x = (y2).heap.size := ⟨_, rfl⟩
        rw [← hg211] at hF ⊢
        generalize (y2).alloc (.cells #[.int .i64 0, .slice none 0 0, .slice none 0 0, .slice none 0 0] 31) = y211 at hF ⊢
        clear hg211
        refine wpAnyH_all (rs := [5, 6]) (by kernel_rfl) (by simp) ?_
        intro i hi
        rcases (by simpa using hi : i = 5 ∨ i = 6) with rfl | rfl
        · clear hi
          refine op_appA (dd := 11) rfl rfl rfl _ _ 28 rfl V.heap.size 99 iw (.agg #[.int .i64 0, .int .i64 0, .int .i64 0]) 3 24 Try.underlying28 hiw hw0 hw1 hw2 rfl (by decide) (.slice (some ⟨g2, 0, none⟩) 0 0) 0 [] rfl hF.a wa wn wk (b.wn.flatMap wdC) rfl (by rw [HL.out.1, fm_length wdC_len]) (fun e => HL.out.2.2.2.2.1 _ _ (by rw [e])) (newsK wdC_len (by decide) (HRD.out.wn.below hF.bl)) (ones_of wdC_one _) (by unfold maxLen; omega) (by omega) hF.bl.size ?_
          intro v2115 y2115 hown hgrow
          simp only [Act.put, List.setIfInBounds_toArray, List.set_cons_zero, List.set_cons_succ]
          have hF := C3.apA hF HL.out.1 hown hgrow
          obtain ⟨g2115, c2115, hv2115⟩ := OG.fm hF.a
          rw [← HL.out.1] at hv2115
          subst hv2115
          clear hown hgrow
          refine ⟨KS.of hF.bl, ?_⟩
          refine wpAnyH_all (rs := [6]) (by kernel_rfl) (by simp) ?_
          intro i hi
          obtain rfl : i = 6 := by simpa using hi
          clear hi
          refine op_val (d := 12) (v := .slice (some ⟨(y2115).heap.size, 0, none⟩) 0 0) (w' := (y2115).alloc (.cells #[] 2)) rfl rfl rfl (by go_simp; try rfl) ?_
          simp only [Act.put, List.setIfInBounds_toArray, List.set_cons_zero, List.set_cons_succ]
          have hF := hF.mkB
          refine ⟨KS.of hF.bl, ?_⟩
          obtain ⟨g21156, hg21156⟩ : ∃ x, x = (y2115).heap.size := ⟨_, rfl⟩
          rw [← hg21156] at hF ⊢
          generalize (y2115).alloc (.cells #[] 2) = y21156 at hF ⊢
          clear hg21156
          refine wpAnyH_all (rs := [9]) (by kernel_rfl) (by simp) ?_
          intro i hi
          obtain rfl : i = 9 := by simpa using hi
          clear hi
          refine op_appA (dd := 15) rfl rfl rfl _ _ 24 rfl V.heap.size 2 i0 (.int .i64 0) 1 8 Try.underlying24 hi0 hz0 hz1 hz2 rfl (by decide) (.slice (some ⟨g21156, 0, none⟩) 0 0) 0 [] rfl hF.b xa xn xc (b.sc.map (Value.int .i64)) rfl (by rw [HL.out.2.2.1]; simp) (fun e => HL.out.2.2.2.2.2 _ _ (by rw [e])) (newsI (HRD.out.sc.below hF.bl)) (ones_int _) (by unfold maxLen; omega) (by omega) hF.bl.size ?_
          intro v211569 y211569 hown hgrow
          simp only [Act.put, List.setIfInBounds_toArray, List.set_cons_zero, List.set_cons_succ]
          have hF := C3.apB hF HL.out.2.2.1 hown hgrow
          obtain ⟨g211569, c211569, hv211569⟩ := OG.fm (og_is.2 hF.b)
          rw [← HL.out.2.2.1] at hv211569
          subst hv211569
          clear hown hgrow
          refine ⟨KS.of hF.bl, ?_⟩
          refine fl_take (i := 10) (d := 16) (v := .agg #[.int .i64 st, .slice g2115 wn c2115, .slice none 0 0, .slice g211569 xn c211569]) rfl rfl rfl (by kernel_rfl) (by kernel_rfl) (by kernel_rfl) (KS.of hF.bl) ?_ ?_
          · intro w' hk; go_simp
          simp only [Act.put, List.setIfInBounds_toArray, List.set_cons_zero, List.set_cons_succ]
          refine wpAnyH_all (rs := [12]) (by kernel_rfl) (by simp) ?_
          intro i hi
          obtain rfl : i = 12 := by simpa using hi
          clear hi
          refine op_store rfl rfl rfl _ _ _ rfl g211 #[.int .i64 st, .slice g2115 wn c2115, .slice none 0 0, .slice g211569 xn c211569] rfl rfl (there_nQ (hF.o g211 rfl).1 rfl) (by kernel_rfl) (by simp [Value.oneCell']) ?_
          have hG : CB V ((y211569).setCells g211 0 [.int .i64 st, .slice g2115 wn c2115, .slice none 0 0, .slice g211569 xn c211569]) g211 st (.slice g2115 wn c2115) (.slice none 0 0) (.slice g211569 xn c211569) ⟨st, b.wn, [], b.sc⟩ [] := CB.of hF
          refine ⟨KS.of hG.bl, wpAnyH_done (by kernel_rfl) (NoPanic.normal ?_) _⟩
          go_wp2_with (fail)
          go_meet
          exact ⟨_, _, _, _, _, rfl, hG⟩
        · clear hi
          refine op_val (d := 12) (v := .slice (some ⟨(y211).heap.size, 0, none⟩) 0 0) (w' := (y211).alloc (.cells #[] 2)) rfl rfl rfl (by go_simp; try rfl) ?_
          simp only [Act.put, List.setIfInBounds_toArray, List.set_cons_zero, List.set_cons_succ]
          have hF := hF.mkB
          refine ⟨KS.of hF.bl, ?_⟩
          obtain ⟨g2116, hg2116⟩ : ∃ x, x = (y211).heap.size := ⟨_, rfl⟩
          rw [← hg2116] at hF ⊢
          generalize (y211).alloc (.cells #[] 2) = y2116 at hF ⊢
          clear hg2116
          refine wpAnyH_all (rs := [5]) (by kernel_rfl) (by simp) ?_
          intro i hi
          obtain rfl : i = 5 := by simpa using hi
          clear hi
          refine op_appA (dd := 11) rfl rfl rfl _ _ 28 rfl V.heap.size 99 iw (.agg #[.int .i64 0, .int .i64 0, .int .i64 0]) 3 24 Try.underlying28 hiw hw0 hw1 hw2 rfl (by decide) (.slice (some ⟨g2, 0, none⟩) 0 0) 0 [] rfl hF.a wa wn wk (b.wn.flatMap wdC) rfl (by rw [HL.out.1, fm_length wdC_len]) (fun e => HL.out.2.2.2.2.1 _ _ (by rw [e])) (newsK wdC_len (by decide) (HRD.out.wn.below hF.bl)) (ones_of wdC_one _) (by unfold maxLen; omega) (by omega) hF.bl.size ?_
          intro v21165 y21165 hown hgrow
          simp only [Act.put, List.setIfInBounds_toArray, List.set_cons_zero, List.set_cons_succ]
          have hF := C3.apA hF HL.out.1 hown hgrow
          obtain ⟨g21165, c21165, hv21165⟩ := OG.fm hF.a
          rw [← HL.out.1] at hv21165
          subst hv21165
          clear hown hgrow
          refine ⟨KS.of hF.bl, ?_⟩
          refine wpAnyH_all (rs := [9]) (by kernel_rfl) (by simp) ?_
          intro i hi
          obtain rfl : i = 9 := by simpa using hi
          clear hi
          refine op_appA (dd := 15) rfl rfl rfl _ _ 24 rfl V.heap.size 2 i0 (.int .i64 0) 1 8 Try.underlying24 hi0 hz0 hz1 hz2 rfl (by decide) (.slice (some ⟨g2116, 0, none⟩) 0 0) 0 [] rfl hF.b xa xn xc (b.sc.map (Value.int .i64)) rfl (by rw [HL.out.2.2.1]; simp) (fun e => HL.out.2.2.2.2.2 _ _ (by rw [e])) (newsI (HRD.out.sc.below hF.bl)) (ones_int _) (by unfold maxLen; omega) (by omega) hF.bl.size ?_
          intro v211659 y211659 hown hgrow
          simp only [Act.put, List.setIfInBounds_toArray, List.set_cons_zero, List.set_cons_succ]
          have hF := C3.apB hF HL.out.2.2.1 hown hgrow
          obtain ⟨g211659, c211659, hv211659⟩ := OG.fm (og_is.2 hF.b)
          rw [← HL.out.2.2.1] at hv211659
          subst hv211659
          clear hown hgrow
          refine ⟨KS.of hF.bl, ?_⟩
          refine fl_take (i := 10) (d := 16) (v := .agg #[.int .i64 st, .slice g21165 wn c21165, .slice none 0 0, .slice g211659 xn c211659]) rfl rfl rfl (by kernel_rfl) (by kernel_rfl) (by kernel_rfl) (KS.of hF.bl) ?_ ?_
          · intro w' hk; go_simp
          simp only [Act.put, List.setIfInBounds_toArray, List.set_cons_zero, List.set_cons_succ]
          refine wpAnyH_all (rs := [12]) (by kernel_rfl) (by simp) ?_
          intro i hi
          obtain rfl : i = 12 := by simpa using hi
          clear hi
          refine op_store rfl rfl rfl _ _ _ rfl g211 #[.int .i64 st, .slice g21165 wn c21165, .slice none 0 0, .slice g211659 xn c211659] rfl rfl (there_nQ (hF.o g211 rfl).1 rfl) (by kernel_rfl) (by simp [Value.oneCell']) ?_
          have hG : CB V ((y211659).setCells g211 0 [.int .i64 st, .slice g21165 wn c21165, .slice none 0 0, .slice g211659 xn c211659]) g211 st (.slice g21165 wn c21165) (.slice none 0 0) (.slice g211659 xn c211659) ⟨st, b.wn, [], b.sc⟩ [] := CB.of hF
          refine ⟨KS.of hG.bl, wpAnyH_done (by kernel_rfl) (NoPanic.normal ?_) _⟩
          go_wp2_with (fail)
          go_meet
          exact ⟨_, _, _, _, _, rfl, hG⟩
    · clear hi
      refine op_val (d := 12) (v := .slice (some ⟨(V.drew).heap.size, 0, none⟩) 0 0) (w' := (V.drew).alloc (.cells #[] 2)) rfl rfl rfl (by go_simp; try rfl) ?_
      simp only [Act.put, List.setIfInBounds_toArray, List.set_cons_zero, List.set_cons_succ]
      have hF := hF.mkB
      refine ⟨KS.of hF.bl, ?_⟩
      obtain ⟨g6, hg6⟩ : ∃ x, x = (V.drew).heap.size := ⟨_, rfl⟩
      rw [← hg6] at hF ⊢
      generalize (V.drew).alloc (.cells #[] 2) = y6 at hF ⊢
      clear hg6
      refine wpAnyH_all (rs := [2, 11]) (by kernel_rfl) (by simp) ?_
      intro i hi
      rcases (by simpa using hi : i = 2 ∨ i = 11) with rfl | rfl
      · clear hi
        refine op_val (d := 8) (v := .slice (some ⟨(y6).heap.size, 0, none⟩) 0 0) (w' := (y6).alloc (.cells #[] 99)) rfl rfl rfl (by go_simp; try rfl) ?_
        simp only [Act.put, List.setIfInBounds_toArray, List.set_cons_zero, List.set_cons_succ]
        have hF := hF.mkA
        refine ⟨KS.of hF.bl, ?_⟩
        obtain ⟨g62, hg62⟩ : ∃ x, x = (y6).heap.size := ⟨_, rfl⟩
        rw [← hg62] at hF ⊢
        generalize (y6).alloc (.cells #[] 99) = y62 at hF ⊢
        clear hg62
        refine wpAnyH_all (rs := [5, 11]) (by kernel_rfl) (by simp) ?_
        intro i hi
        rcases (by simpa using hi : i = 5 ∨ i = 11) with rfl | rfl
        · clear hi
          refine op_appA (dd := 11) rfl rfl rfl _ _ 28 rfl V.heap.size 99 iw (.agg #[.int .i64 0, .int .i64 0, .int .i64 0]) 3 24 Try.underlying28 hiw hw0 hw1 hw2 rfl (by decide) (.slice (some ⟨g62, 0, none⟩) 0 0) 0 [] rfl hF.a wa wn wk (b.wn.flatMap wdC) rfl (by rw [HL.out.1, fm_length wdC_len]) (fun e => HL.out.2.2.2.2.1 _ _ (by rw [e])) (newsK wdC_len (by decide) (HRD.out.wn.below hF.bl)) (ones_of wdC_one _) (by unfold maxLen; omega) (by omega) hF.bl.size ?_
          intro v625 y625 hown hgrow
          simp only [Act.put, List.setIfInBounds_toArray, List.set_cons_zero, List.set_cons_succ]
          have hF := C3.apA hF HL.out.1 hown hgrow
          obtain ⟨g625, c625, hv625⟩ := OG.fm hF.a
          rw [← HL.out.1] at hv625
          subst hv625
          clear hown hgrow
          refine ⟨KS.of hF.bl, ?_⟩
          refine wpAnyH_all (rs := [9, 11]) (by kernel_rfl) (by simp) ?_
          intro i hi
          rcases (by simpa using hi : i = 9 ∨ i = 11) with rfl | rfl
          · clear hi
            refine op_appA (dd := 15) rfl rfl rfl _ _ 24 rfl V.heap.size 2 i0 (.int .i64 0) 1 8 Try.underlying24 hi0 hz0 hz1 hz2 rfl (by decide) (.slice (some ⟨g6, 0, none⟩) 0 0) 0 [] rfl hF.b xa xn xc (b.sc.map (Value.int .i64)) rfl (by rw [HL.out.2.2.1]; simp) (fun e => HL.out.2.2.2.2.2 _ _ (by rw [e])) (newsI (HRD.out.sc.below hF.bl)) (ones_int _) (by unfold maxLen; omega) (by omega) hF.bl.size ?_
            intro v6259 y6259 hown hgrow
            simp only [Act.put, List.setIfInBounds_toArray, List.set_cons_zero, List.set_cons_succ]
            have hF := C3.apB hF HL.out.2.2.1 hown hgrow
            obtain ⟨g6259, c6259, hv6259⟩ := OG.fm (og_is.2 hF.b)
            rw [← HL.out.2.2.1] at hv6259
            subst hv6259
            clear hown hgrow
            refine ⟨KS.of hF.bl, ?_⟩
            refine fl_take (i := 10) (d := 16) (v := .agg #[.int .i64 st, .slice g625 wn c625, .slice none 0 0, .slice g6259 xn c6259]) rfl rfl rfl (by kernel_rfl) (by kernel_rfl) (by kernel_rfl) (KS.of hF.bl) ?_ ?_
            · intro w' hk; go_simp
            simp only [Act.put, List.setIfInBounds_toArray, List.set_cons_zero, List.set_cons_succ]
            refine wpAnyH_all (rs := [11]) (by kernel_rfl) (by simp) ?_
            intro i hi
            obtain rfl : i = 11 := by simpa using hi
            clear hi
            refine op_val (d := 3) (v := .pointer (some ⟨(y6259).heap.size, 0, none⟩)) (w' := (y6259).alloc (.cells #[.int .i64 0, .slice none 0 0, .slice none 0 0, .slice none 0 0] 31)) rfl rfl rfl (by go_simp; try rfl) ?_
            simp only [Act.put, List.setIfInBounds_toArray, List.set_cons_zero, List.set_cons_succ]
            have hF := hF.mkO
            refine ⟨KS.of hF.bl, ?_⟩
            obtain ⟨g625911, hg625911⟩ : ∃ x, x = (y6259).heap.size := ⟨_, rfl⟩
            rw [← hg625911] at hF ⊢
            generalize (y6259).alloc (.cells #[.int .i64 0, .slice none 0 0, .slice none 0 0, .slice none 0 0] 31) = y625911 at hF ⊢
            clear hg625911
            refine wpAnyH_all (rs := [12]) (by kernel_rfl) (by simp) ?_
            intro i hi
            obtain rfl : i = 12 := by simpa using hi
            clear hi
            refine op_store rfl rfl rfl _ _ _ rfl g625911 #[.int .i64 st, .slice g625 wn c625, .slice none 0 0, .slice g6259 xn c6259] rfl rfl (there_nQ (hF.o g625911 rfl).1 rfl) (by kernel_rfl) (by simp [Value.oneCell']) ?_
            have hG : CB V ((y625911).setCells g625911 0 [.int .i64 st, .slice g625 wn c625, .slice none 0 0, .slice g6259 xn c6259]) g625911 st (.slice g625 wn c625) (.slice none 0 0) (.slice g6259 xn c6259) ⟨st, b.wn, [], b.sc⟩ [] := CB.of hF
            refine ⟨KS.of hG.bl, wpAnyH_done (by kernel_rfl) (NoPanic.normal ?_) _⟩
            go_wp2_with (fail)
            go_meet
            exact ⟨_, _, _, _, _, rfl, hG⟩
          · clear hi
            refine op_val (d := 3) (v := .pointer (some ⟨(y625).heap.size, 0, none⟩)) (w' := (y625).alloc (.cells #[.int .i64 0, .slice none 0 0, .slice none 0 0, .slice none 0 0] 31)) rfl rfl rfl (by go_simp; try rfl) ?_
            simp only [Act.put, List.setIfInBounds_toArray, List.set_cons_zero, List.set_cons_succ]
            have hF := hF.mkO
            refine ⟨KS.of hF.bl, ?_⟩
            obtain ⟨g62511, hg62511⟩ : ∃ x, x = (y625).heap.size := ⟨_, rfl⟩
            rw [← hg62511] at hF ⊢
            generalize (y625).alloc (.cells #[.int .i64 0, .slice none 0 0, .slice none 0 0, .slice none 0 0] 31) = y62511 at hF ⊢
            clear hg62511
            refine wpAnyH_all (rs := [9]) (by kernel_rfl) (by simp) ?_
            intro i hi
            obtain rfl : i = 9 := by simpa using hi
            clear hi
            refine op_appA (dd := 15) rfl rfl rfl _ _ 24 rfl V.heap.size 2 i0 (.int .i64 0) 1 8 Try.underlying24 hi0 hz0 hz1 hz2 rfl (by decide) (.slice (some ⟨g6, 0, none⟩) 0 0) 0 [] rfl hF.b xa xn xc (b.sc.map (Value.int .i64)) rfl (by rw [HL.out.2.2.1]; simp) (fun e => HL.out.2.2.2.2.2 _ _ (by rw [e])) (newsI (HRD.out.sc.below hF.bl)) (ones_int _) (by unfold maxLen; omega) (by omega) hF.bl.size ?_
            intro v625119 y625119 hown hgrow
            simp only [Act.put, List.setIfInBounds_toArray, List.set_cons_zero, List.set_cons_succ]
            have hF := C3.apB hF HL.out.2.2.1 hown hgrow
            obtain ⟨g625119, c625119, hv625119⟩ := OG.fm (og_is.2 hF.b)
            rw [← HL.out.2.2.1] at hv625119
            subst hv625119
            clear hown hgrow
            refine ⟨KS.of hF.bl, ?_⟩
            refine fl_take (i := 10) (d := 16) (v := .agg #[.int .i64 st, .slice g625 wn c625, .slice none 0 0, .slice g625119 xn c625119]) rfl rfl rfl (by kernel_rfl) (by kernel_rfl) (by kernel_rfl) (KS.of hF.bl) ?_ ?_
            · intro w' hk; go_simp
            simp only [Act.put, List.setIfInBounds_toArray, List.set_cons_zero, List.set_cons_succ]
            refine wpAnyH_all (rs := [12]) (by kernel_rfl) (by simp) ?_
            intro i hi
            obtain rfl : i = 12 := by simpa using hi
            clear hi
            refine op_store rfl rfl rfl _ _ _ rfl g62511 #[.int .i64 st, .slice g625 wn c625, .slice none 0 0, .slice g625119 xn c625119] rfl rfl (there_nQ (hF.o g62511 rfl).1 rfl) (by kernel_rfl) (by simp [Value.oneCell']) ?_
            have hG : CB V ((y625119).setCells g62511 0 [.int .i64 st, .slice g625 wn c625, .slice none 0 0, .slice g625119 xn c625119]) g62511 st (.slice g625 wn c625) (.slice none 0 0) (.slice g625119 xn c625119) ⟨st, b.wn, [], b.sc⟩ [] := CB.of hF
            refine ⟨KS.of hG.bl, wpAnyH_done (by kernel_rfl) (NoPanic.normal ?_) _⟩
            go_wp2_with (fail)
            go_meet
            exact ⟨_, _, _, _, _, rfl, hG⟩
        · clear hi
          refine op_val (d := 3) (v := .pointer (some ⟨(y62).heap.size, 0, none⟩)) (w' := (y62).alloc (.cells #[.int .i64 0, .slice none 0 0, .slice none 0 0, .slice none 0 0] 31)) rfl rfl rfl (by go_simp; try rfl) ?_
          simp only [Act.put, List.setIfInBounds_toArray, List.set_cons_zero, List.set_cons_succ]
          have hF := hF.mkO
          refine ⟨KS.of hF.bl, ?_⟩
          obtain ⟨g6211, hg6211⟩ : ∃ x, x = (y62).heap.size := ⟨_, rfl⟩
          rw [← hg6211] at hF ⊢
          generalize (y62).alloc (.cells #[.int .i64 0, .slice none 0 0, .slice none 0 0, .slice none 0 0] 31) = y6211 at hF ⊢
          clear hg6211
          refine wpAnyH_all (rs := [5]) (by kernel_rfl) (by simp) ?_
          intro i hi
          obtain rfl : i = 5 := by simpa using hi
          clear hi
          refine op_appA (dd := 11) rfl rfl rfl _ _ 28 rfl V.heap.size 99 iw (.agg #[.int .i64 0, .int .i64 0, .int .i64 0]) 3 24 Try.underlying28 hiw hw0 hw1 hw2 rfl (by decide) (.slice (some ⟨g62, 0, none⟩) 0 0) 0 [] rfl hF.a wa wn wk (b.wn.flatMap wdC) rfl (by rw [HL.out.1, fm_length wdC_len]) (fun e => HL.out.2.2.2.2.1 _ _ (by rw [e])) (newsK wdC_len (by decide) (HRD.out.wn.below hF.bl)) (ones_of wdC_one _) (by unfold maxLen; omega) (by omega) hF.bl.size ?_
          intro v62115 y62115 hown hgrow
          simp only [Act.put, List.setIfInBounds_toArray, List.set_cons_zero, List.set_cons_succ]
          have hF := C3.apA hF HL.out.1 hown hgrow
          obtain ⟨g62115, c62115, hv62115⟩ := OG.fm hF.a
          rw [← HL.out.1] at hv62115
          subst hv62115
          clear hown hgrow
          refine ⟨KS.of hF.bl, ?_⟩
          refine wpAnyH_all (rs := [9]) (by kernel_rfl) (by simp) ?_
          intro i hi
          obtain rfl : i = 9 := by simpa using hi
          clear hi
          refine op_appA (dd := 15) rfl rfl rfl _ _ 24 rfl V.heap.size 2 i0 (.int .i64 0) 1 8 Try.underlying24 hi0 hz0 hz1 hz2 rfl (by decide) (.slice (some ⟨g6, 0, none⟩) 0 0) 0 [] rfl hF.b xa xn xc (b.sc.map (Value.int .i64)) rfl (by rw [HL.out.2.2.1]; simp) (fun e => HL.out.2.2.2.2.2 _ _ (by rw [e])) (newsI (HRD.out.sc.below hF.bl)) (ones_int _) (by unfold maxLen; omega) (by omega) hF.bl.size ?_
          intro v621159 y621159 hown hgrow
          simp only [Act.put, List.setIfInBounds_toArray, List.set_cons_zero, List.set_cons_succ]
          have hF := C3.apB hF HL.out.2.2.1 hown hgrow
          obtain ⟨g621159, c621159, hv621159⟩ := OG.fm (og_is.2 hF.b)
          rw [← HL.out.2.2.1] at hv621159
          subst hv621159
          clear hown hgrow
          refine ⟨KS.of hF.bl, ?_⟩
          refine fl_take (i := 10) (d := 16) (v := .agg #[.int .i64 st, .slice g62115 wn c62115, .slice none 0 0, .slice g621159 xn c621159]) rfl rfl rfl (by kernel_rfl) (by kernel_rfl) (by kernel_rfl) (KS.of hF.bl) ?_ ?_
          · intro w' hk; go_simp
          simp only [Act.put, List.setIfInBounds_toArray, List.set_cons_zero, List.set_cons_succ]
          refine wpAnyH_all (rs := [12]) (by kernel_rfl) (by simp) ?_
          intro i hi
          obtain rfl : i = 12 := by simpa using hi
          clear hi
          refine op_store rfl rfl rfl _ _ _ rfl g6211 #[.int .i64 st, .slice g62115 wn c62115, .slice none 0 0, .slice g621159 xn c621159] rfl rfl (there_nQ (hF.o g6211 rfl).1 rfl) (by kernel_rfl) (by simp [Value.oneCell']) ?_
          have hG : CB V ((y621159).setCells g6211 0 [.int .i64 st, .slice g62115 wn c62115, .slice none 0 0, .slice g621159 xn c621159]) g6211 st (.slice g62115 wn c62115) (.slice none 0 0) (.slice g621159 xn c621159) ⟨st, b.wn, [], b.sc⟩ [] := CB.of hF
          refine ⟨KS.of hG.bl, wpAnyH_done (by kernel_rfl) (NoPanic.normal ?_) _⟩
          go_wp2_with (fail)
          go_meet
          exact ⟨_, _, _, _, _, rfl, hG⟩
      · clear hi
        refine op_val (d := 3) (v := .pointer (some ⟨(y6).heap.size, 0, none⟩)) (w' := (y6).alloc (.cells #[.int .i64 0, .slice none 0 0, .slice none 0 0, .slice none 0 0] 31)) rfl rfl rfl (by go_simp; try rfl) ?_
        simp only [Act.put, List.setIfInBounds_toArray, List.set_cons_zero, List.set_cons_succ]
        have hF := hF.mkO
        refine ⟨KS.of hF.bl, ?_⟩
        obtain ⟨g611, hg611⟩ : ∃ x, x = (y6).heap.size := ⟨_, rfl⟩
        rw [← hg611] at hF ⊢
        generalize (y6).alloc (.cells #[.int .i64 0, .slice none 0 0, .slice none 0 0, .slice none 0 0] 31) = y611 at hF ⊢
        clear hg611
        refine wpAnyH_all (rs := [2]) (by kernel_rfl) (by simp) ?_
        intro i hi
        obtain rfl : i = 2 := by simpa using hi
        clear hi
        refine op_val (d := 8) (v := .slice (some ⟨(y611).heap.size, 0, none⟩) 0 0) (w' := (y611).alloc (.cells #[] 99)) rfl rfl rfl (by go_simp; try rfl) ?_
        simp only [Act.put, List.setIfInBounds_toArray, List.set_cons_zero, List.set_cons_succ]
        have hF := hF.mkA
        refine ⟨KS.of hF.bl, ?_⟩
        obtain ⟨g6112, hg6112⟩ : ∃ x, x = (y611).heap.size := ⟨_, rfl⟩
        rw [← hg6112] at hF ⊢
        generalize (y611).alloc (.cells #[] 99) = y6112 at hF ⊢
        clear hg6112
        refine wpAnyH_all (rs := [5]) (by kernel_rfl) (by simp) ?_
        intro i hi
        obtain rfl : i = 5 := by simpa using hi
        clear hi
        refine op_appA (dd := 11) rfl rfl rfl _ _ 28 rfl V.heap.size 99 iw (.agg #[.int .i64 0, .int .i64 0, .int .i64 0]) 3 24 Try.underlying28 hiw hw0 hw1 hw2 rfl (by decide) (.slice (some ⟨g6112, 0, none⟩) 0 0) 0 [] rfl hF.a wa wn wk (b.wn.flatMap wdC) rfl (by rw [HL.out.1, fm_length wdC_len]) (fun e => HL.out.2.2.2.2.1 _ _ (by rw [e])) (newsK wdC_len (by decide) (HRD.out.wn.below hF.bl)) (ones_of wdC_one _) (by unfold maxLen; omega) (by omega) hF.bl.size ?_
        intro v61125 y61125 hown hgrow
        simp only [Act.put, List.setIfInBounds_toArray, List.set_cons_zero, List.set_cons_succ]
        have hF := C3.apA hF HL.out.1 hown hgrow
        obtain ⟨g61125, c61125, hv61125⟩ := OG.fm hF.a
        rw [← HL.out.1] at hv61125
        subst hv61125
        clear hown hgrow
        refine ⟨KS.of hF.bl, ?_⟩
        refine wpAnyH_all (rs := [9]) (by kernel_rfl) (by simp) ?_
        intro i hi
        obtain rfl : i = 9 := by simpa using hi
        clear hi
        refine op_appA (dd := 15) rfl rfl rfl _ _ 24 rfl V.heap.size 2 i0 (.int .i64 0) 1 8 Try.underlying24 hi0 hz0 hz1 hz2 rfl (by decide) (.slice (some ⟨g6, 0, none⟩) 0 0) 0 [] rfl hF.b xa xn xc (b.sc.map (Value.int .i64)) rfl (by rw [HL.out.2.2.1]; simp) (fun e => HL.out.2.2.2.2.2 _ _ (by rw [e])) (newsI (HRD.out.sc.below hF.bl)) (ones_int _) (by unfold maxLen; omega) (by omega) hF.bl.size ?_
        intro v611259 y611259 hown hgrow
        simp only [Act.put, List.setIfInBounds_toArray, List.set_cons_zero, List.set_cons_succ]
        have hF := C3.apB hF HL.out.2.2.1 hown hgrow
        obtain ⟨g611259, c611259, hv611259⟩ := OG.fm (og_is.2 hF.b)
        rw [← HL.out.2.2.1] at hv611259
        subst hv611259
        clear hown hgrow
        refine ⟨KS.of hF.bl, ?_⟩
        refine fl_take (i := 10) (d := 16) (v := .agg #[.int .i64 st, .slice g61125 wn c61125, .slice none 0 0, .slice g611259 xn c611259]) rfl rfl rfl (by kernel_rfl) (by kernel_rfl) (by kernel_rfl) (KS.of hF.bl) ?_ ?_
        · intro w' hk; go_simp
        simp only [Act.put, List.setIfInBounds_toArray, List.set_cons_zero, List.set_cons_succ]
        refine wpAnyH_all (rs := [12]) (by kernel_rfl) (by simp) ?_
        intro i hi
        obtain rfl : i = 12 := by simpa using hi
        clear hi
        refine op_store rfl rfl rfl _ _ _ rfl g611 #[.int .i64 st, .slice g61125 wn c61125, .slice none 0 0, .slice g611259 xn c611259] rfl rfl (there_nQ (hF.o g611 rfl).1 rfl) (by kernel_rfl) (by simp [Value.oneCell']) ?_
        have hG : CB V ((y611259).setCells g611 0 [.int .i64 st, .slice g61125 wn c61125, .slice none 0 0, .slice g611259 xn c611259]) g611 st (.slice g61125 wn c61125) (.slice none 0 0) (.slice g611259 xn c611259) ⟨st, b.wn, [], b.sc⟩ [] := CB.of hF
        refine ⟨KS.of hG.bl, wpAnyH_done (by kernel_rfl) (NoPanic.normal ?_) _⟩
        go_wp2_with (fail)
        go_meet
        exact ⟨_, _, _, _, _, rfl, hG⟩
    · clear hi
      refine op_val (d := 3) (v := .pointer (some ⟨(V.drew).heap.size, 0, none⟩)) (w' := (V.drew).alloc (.cells #[.int .i64 0, .slice none 0 0, .slice none 0 0, .slice none 0 0] 31)) rfl rfl rfl (by go_simp; try rfl) ?_
      simp only [Act.put, List.setIfInBounds_toArray, List.set_cons_zero, List.set_cons_succ]
      have hF := hF.mkO
      refine ⟨KS.of hF.bl, ?_⟩
      obtain ⟨g11, hg11⟩ : ∃ x, x = (V.drew).heap.size := ⟨_, rfl⟩
      rw [← hg11] at hF ⊢
      generalize (V.drew).alloc (.cells #[.int .i64 0, .slice none 0 0, .slice none 0 0, .slice none 0 0] 31) = y11 at hF ⊢
      clear hg11
      refine wpAnyH_all (rs := [2, 6]) (by kernel_rfl) (by simp) ?_
      intro i hi
      rcases (by simpa using hi : i = 2 ∨ i = 6) with rfl | rfl
      · clear hi
        refine op_val (d := 8) (v := .slice (some ⟨(y11).heap.size, 0, none⟩) 0 0) (w' := (y11).alloc (.cells #[] 99)) rfl rfl rfl (by go_simp; try rfl) ?_
        simp only [Act.put, List.setIfInBounds_toArray, List.set_cons_zero, List.set_cons_succ]
        have hF := hF.mkA
        refine ⟨KS.of hF.bl, ?_⟩
        obtain ⟨g112, hg112⟩ : ∃ x, x = (y11).heap.size := ⟨_, rfl⟩
        rw [← hg112] at hF ⊢
        generalize (y11).alloc (.cells #[] 99) = y112 at hF ⊢
        clear hg112
        refine wpAnyH_all (rs := [5, 6]) (by kernel_rfl) (by simp) ?_
        intro i hi
        rcases (by simpa using hi : i = 5 ∨ i = 6) with rfl | rfl
        · clear hi
          refine op_appA (dd := 11) rfl rfl rfl _ _ 28 rfl V.heap.size 99 iw (.agg #[.int .i64 0, .int .i64 0, .int .i64 0]) 3 24 Try.underlying28 hiw hw0 hw1 hw2 rfl (by decide) (.slice (some ⟨g112, 0, none⟩) 0 0) 0 [] rfl hF.a wa wn wk (b.wn.flatMap wdC) rfl (by rw [HL.out.1, fm_length wdC_len]) (fun e => HL.out.2.2.2.2.1 _ _ (by rw [e])) (newsK wdC_len (by decide) (HRD.out.wn.below hF.bl)) (ones_of wdC_one _) (by unfold maxLen; omega) (by omega) hF.bl.size ?_
          intro v1125 y1125 hown hgrow
          simp only [Act.put, List.setIfInBounds_toArray, List.set_cons_zero, List.set_cons_succ]
          have hF := C3.apA hF HL.out.1 hown hgrow
          obtain ⟨g1125, c1125, hv1125⟩ := OG.fm hF.a
          rw [← HL.out.1] at hv1125
          subst hv1125
          clear hown hgrow
          refine ⟨KS.of hF.bl, ?_⟩
          refine wpAnyH_all (rs := [6]) (by kernel_rfl) (by simp) ?_
          intro i hi
          obtain rfl : i = 6 := by simpa using hi
          clear hi
          refine op_val (d := 12) (v := .slice (some ⟨(y1125).heap.size, 0, none⟩) 0 0) (w' := (y1125).alloc (.cells #[] 2)) rfl rfl rfl (by go_simp; try rfl) ?_
          simp only [Act.put, List.setIfInBounds_toArray, List.set_cons_zero, List.set_cons_succ]
          have hF := hF.mkB
          refine ⟨KS.of hF.bl, ?_⟩
          obtain ⟨g11256, hg11256⟩ : ∃ x, x = (y1125).heap.size := ⟨_, rfl⟩
          rw [← hg11256] at hF ⊢
          generalize (y1125).alloc (.cells #[] 2) = y11256 at hF ⊢
          clear hg11256
          refine wpAnyH_all (rs := [9]) (by kernel_rfl) (by simp) ?_
          intro i hi
          obtain rfl : i = 9 := by simpa using hi
          clear hi
          refine op_appA (dd := 15) rfl rfl rfl _ _ 24 rfl V.heap.size 2 i0 (.int .i64 0) 1 8 Try.underlying24 hi0 hz0 hz1 hz2 rfl (by decide) (.slice (some ⟨g11256, 0, none⟩) 0 0) 0 [] rfl hF.b xa xn xc (b.sc.map (Value.int .i64)) rfl (by rw [HL.out.2.2.1]; simp) (fun e => HL.out.2.2.2.2.2 _ _ (by rw [e])) (newsI (HRD.out.sc.below hF.bl)) (ones_int _) (by unfold maxLen; omega) (by omega) hF.bl.size ?_
          intro v112569 y112569 hown hgrow
          simp only [Act.put, List.setIfInBounds_toArray, List.set_cons_zero, List.set_cons_succ]
          have hF := C3.apB hF HL.out.2.2.1 hown hgrow
          obtain ⟨g112569, c112569, hv112569⟩ := OG.fm (og_is.2 hF.b)
          rw [← HL.out.2.2.1] at hv112569
          subst hv112569
          clear hown hgrow
          refine ⟨KS.of hF.bl, ?_⟩
          refine fl_take (i := 10) (d := 16) (v := .agg #[.int .i64 st, .slice g1125 wn c1125, .slice none 0 0, .slice g112569 xn c112569]) rfl rfl rfl (by kernel_rfl) (by kernel_rfl) (by kernel_rfl) (KS.of hF.bl) ?_ ?_
          · intro w' hk; go_simp
          simp only [Act.put, List.setIfInBounds_toArray, List.set_cons_zero, List.set_cons_succ]
          refine wpAnyH_all (rs := [12]) (by kernel_rfl) (by simp) ?_
          intro i hi
          obtain rfl : i = 12 := by simpa using hi
          clear hi
          refine op_store rfl rfl rfl _ _ _ rfl g11 #[.int .i64 st, .slice g1125 wn c1125, .slice none 0 0, .slice g112569 xn c112569] rfl rfl (there_nQ (hF.o g11 rfl).1 rfl) (by kernel_rfl) (by simp [Value.oneCell']) ?_
          have hG : CB V ((y112569).setCells g11 0 [.int .i64 st, .slice g1125 wn c1125, .slice none 0 0, .slice g112569 xn c112569]) g11 st (.slice g1125 wn c1125) (.slice none 0 0) (.slice g112569 xn c112569) ⟨st, b.wn, [], b.sc⟩ [] := CB.of hF
          refine ⟨KS.of hG.bl, wpAnyH_done (by kernel_rfl) (NoPanic.normal ?_) _⟩
          go_wp2_with (fail)
          go_meet
          exact ⟨_, _, _, _, _, rfl, hG⟩
        · clear hi
          refine op_val (d := 12) (v := .slice (some ⟨(y112).heap.size, 0, none⟩) 0 0) (w' := (y112).alloc (.cells #[] 2)) rfl rfl rfl (by go_simp; try rfl) ?_
          simp only [Act.put, List.setIfInBounds_toArray, List.set_cons_zero, List.set_cons_succ]
          have hF := hF.mkB
          refine ⟨KS.of hF.bl, ?_⟩
          obtain ⟨g1126, hg1126⟩ : ∃ x, x = (y112).heap.size := ⟨_, rfl⟩
          rw [← hg1126] at hF ⊢
          generalize (y112).alloc (.cells #[] 2) = y1126 at hF ⊢
          clear hg1126
          refine wpAnyH_all (rs := [5]) (by kernel_rfl) (by simp) ?_
          intro i hi
          obtain rfl : i = 5 := by simpa using hi
          clear hi
          refine op_appA (dd := 11) rfl rfl rfl _ _ 28 rfl V.heap.size 99 iw (.agg #[.int .i64 0, .int .i64 0, .int .i64 0]) 3 24 Try.underlying28 hiw hw0 hw1 hw2 rfl (by decide) (.slice (some ⟨g112, 0, none⟩) 0 0) 0 [] rfl hF.a wa wn wk (b.wn.flatMap wdC) rfl (by rw [HL.out.1, fm_length wdC_len]) (fun e => HL.out.2.2.2.2.1 _ _ (by rw [e])) (newsK wdC_len (by decide) (HRD.out.wn.below hF.bl)) (ones_of wdC_one _) (by unfold maxLen; omega) (by omega) hF.bl.size ?_
          intro v11265 y11265 hown hgrow
          simp only [Act.put, List.setIfInBounds_toArray, List.set_cons_zero, List.set_cons_succ]
          have hF := C3.apA hF HL.out.1 hown hgrow
          obtain ⟨g11265, c11265, hv11265⟩ := OG.fm hF.a
          rw [← HL.out.1] at hv11265
          subst hv11265
          clear hown hgrow
          refine ⟨KS.of hF.bl, ?_⟩
          refine wpAnyH_all (rs := [9]) (by kernel_rfl) (by simp) ?_
          intro i hi
          obtain rfl : i = 9 := by simpa using hi
          clear hi
          refine op_appA (dd := 15) rfl rfl rfl _ _ 24 rfl V.heap.size 2 i0 (.int .i64 0) 1 8 Try.underlying24 hi0 hz0 hz1 hz2 rfl (by decide) (.slice (some ⟨g1126, 0, none⟩) 0 0) 0 [] rfl hF.b xa xn xc (b.sc.map (Value.int .i64)) rfl (by rw [HL.out.2.2.1]; simp) (fun e => HL.out.2.2.2.2.2 _ _ (by rw [e])) (newsI (HRD.out.sc.below hF.bl)) (ones_int _) (by unfold maxLen; omega) (by omega) hF.bl.size ?_
          intro v112659 y112659 hown hgrow
          simp only [Act.put, List.setIfInBounds_toArray, List.set_cons_zero, List.set_cons_succ]
          have hF := C3.apB hF HL.out.2.2.1 hown hgrow
          obtain ⟨g112659, c112659, hv112659⟩ := OG.fm (og_is.2 hF.b)
          rw [← HL.out.2.2.1] at hv112659
          subst hv112659
          clear hown hgrow
          refine ⟨KS.of hF.bl, ?_⟩
          refine fl_take (i := 10) (d := 16) (v := .agg #[.int .i64 st, .slice g11265 wn c11265, .slice none 0 0, .slice g112659 xn c112659]) rfl rfl rfl (by kernel_rfl) (by kernel_rfl) (by kernel_rfl) (KS.of hF.bl) ?_ ?_
          · intro w' hk; go_simp
          simp only [Act.put, List.setIfInBounds_toArray, List.set_cons_zero, List.set_cons_succ]
          refine wpAnyH_all (rs := [12]) (by kernel_rfl) (by simp) ?_
          intro i hi
          obtain rfl : i = 12 := by simpa using hi
          clear hi
          refine op_store rfl rfl rfl _ _ _ rfl g11 #[.int .i64 st, .slice g11265 wn c11265, .slice none 0 0, .slice g112659 xn c112659] rfl rfl (there_nQ (hF.o g11 rfl).1 rfl) (by kernel_rfl) (by simp [Value.oneCell']) ?_
          have hG : CB V ((y112659).setCells g11 0 [.int .i64 st, .slice g11265 wn c11265, .slice none 0 0, .slice g112659 xn c112659]) g11 st (.slice g11265 wn c11265) (.slice none 0 0) (.slice g112659 xn c112659) ⟨st, b.wn, [], b.sc⟩ [] := CB.of hF
          refine ⟨KS.of hG.bl, wpAnyH_done (by kernel_rfl) (NoPanic.normal ?_) _⟩
          go_wp2_with (fail)
          go_meet
          exact ⟨_, _, _, _, _, rfl, hG⟩
      · clear hi
        refine op_val (d := 12) (v := .slice (some ⟨(y11).heap.size, 0, none⟩) 0 0) (w' := (y11).alloc (.cells #[] 2)) rfl rfl rfl (by go_simp; try rfl) ?_
        simp only [Act.put, List.setIfInBounds_toArray, List.set_cons_zero, List.set_cons_succ]
        have hF := hF.mkB
        refine ⟨KS.of hF.bl, ?_⟩
        obtain ⟨g116, hg116⟩ : ∃ x, x = (y11).heap.size := ⟨_, rfl⟩
        rw [← hg116] at hF ⊢
        generalize (y11).alloc (.cells #[] 2) = y116 at hF ⊢
        clear hg116
        refine wpAnyH_all (rs := [2]) (by kernel_rfl) (by simp) ?_
        intro i hi
        obtain rfl : i = 2 := by simpa using hi
        clear hi
        refine op_val (d := 8) (v := .slice (some ⟨(y116).heap.size, 0, none⟩) 0 0) (w' := (y116).alloc (.cells #[] 99)) rfl rfl rfl (by go_simp; try rfl) ?_
        simp only [Act.put, List.setIfInBounds_toArray, List.set_cons_zero, List.set_cons_succ]
        have hF := hF.mkA
        refine ⟨KS.of hF.bl, ?_⟩
        obtain ⟨g1162, hg1162⟩ : ∃ x, x = (y116).heap.size := ⟨_, rfl⟩
        rw [← hg1162] at hF ⊢
        generalize (y116).alloc (.cells #[] 99) = y1162 at hF ⊢
        clear hg1162
        refine wpAnyH_all (rs := [5]) (by kernel_rfl) (by simp) ?_
        intro i hi
        obtain rfl : i = 5 := by simpa using hi
        clear hi
        refine op_appA (dd := 11) rfl rfl rfl _ _ 28 rfl V.heap.size 99 iw (.agg #[.int .i64 0, .int .i64 0, .int .i64 0]) 3 24 Try.underlying28 hiw hw0 hw1 hw2 rfl (by decide) (.slice (some ⟨g1162, 0, none⟩) 0 0) 0 [] rfl hF.a wa wn wk (b.wn.flatMap wdC) rfl (by rw [HL.out.1, fm_length wdC_len]) (fun e => HL.out.2.2.2.2.1 _ _ (by rw [e])) (newsK wdC_len (by decide) (HRD.out.wn.below hF.bl)) (ones_of wdC_one _) (by unfold maxLen; omega) (by omega) hF.bl.size ?_
        intro v11625 y11625 hown hgrow
        simp only [Act.put, List.setIfInBounds_toArray, List.set_cons_zero, List.set_cons_succ]
        have hF := C3.apA hF HL.out.1 hown hgrow
        obtain ⟨g11625, c11625, hv11625⟩ := OG.fm hF.a
        rw [← HL.out.1] at hv11625
        subst hv11625
        clear hown hgrow
        refine ⟨KS.of hF.bl, ?_⟩
        refine wpAnyH_all (rs := [9]) (by kernel_rfl) (by simp) ?_
        intro i hi
        obtain rfl : i = 9 := by simpa using hi
        clear hi
        refine op_appA (dd := 15) rfl rfl rfl _ _ 24 rfl V.heap.size 2 i0 (.int .i64 0) 1 8 Try.underlying24 hi0 hz0 hz1 hz2 rfl (by decide) (.slice (some ⟨g116, 0, none⟩) 0 0) 0 [] rfl hF.b xa xn xc (b.sc.map (Value.int .i64)) rfl (by rw [HL.out.2.2.1]; simp) (fun e => HL.out.2.2.2.2.2 _ _ (by rw [e])) (newsI (HRD.out.sc.below hF.bl)) (ones_int _) (by unfold maxLen; omega) (by omega) hF.bl.size ?_
        intro v116259 y116259 hown hgrow
        simp only [Act.put, List.setIfInBounds_toArray, List.set_cons_zero, List.set_cons_succ]
        have hF := C3.apB hF HL.out.2.2.1 hown hgrow
        obtain ⟨g116259, c116259, hv116259⟩ := OG.fm (og_is.2 hF.b)
        rw [← HL.out.2.2.1] at hv116259
        subst hv116259
        clear hown hgrow
        refine ⟨KS.of hF.bl, ?_⟩
        refine fl_take (i := 10) (d := 16) (v := .agg #[.int .i64 st, .slice g11625 wn c11625, .slice none 0 0, .slice g116259 xn c116259]) rfl rfl rfl (by kernel_rfl) (by kernel_rfl) (by kernel_rfl) (KS.of hF.bl) ?_ ?_
        · intro w' hk; go_simp
        simp only [Act.put, List.setIfInBounds_toArray, List.set_cons_zero, List.set_cons_succ]
        refine wpAnyH_all (rs := [12]) (by kernel_rfl) (by simp) ?_
        intro i hi
        obtain rfl : i = 12 := by simpa using hi
        clear hi
        refine op_store rfl rfl rfl _ _ _ rfl g11 #[.int .i64 st, .slice g11625 wn c11625, .slice none 0 0, .slice g116259 xn c116259] rfl rfl (there_nQ (hF.o g11 rfl).1 rfl) (by kernel_rfl) (by simp [Value.oneCell']) ?_
        have hG : CB V ((y116259).setCells g11 0 [.int .i64 st, .slice g11625 wn c11625, .slice none 0 0, .slice g116259 xn c116259]) g11 st (.slice g11625 wn c11625) (.slice none 0 0) (.slice g116259 xn c116259) ⟨st, b.wn, [], b.sc⟩ [] := CB.of hF
        refine ⟨KS.of hG.bl, wpAnyH_done (by kernel_rfl) (NoPanic.normal ?_) _⟩
        go_wp2_with (fail)
        go_meet
        exact ⟨_, _, _, _, _, rfl, hG⟩
  case rest =>
  obtain ⟨K, na, nc, sa, sd, rfl, hR0⟩ := hcut
  have HR0 : Hid (CB V wc K st (.slice na wn nc) (.slice none 0 0) (.slice sa xn sd) ⟨st, b.wn, b.ls.take 0, b.sc⟩ []) := hR0.out
  clear hR0 p0 p1 p2 p3 pl
  go_wp2
  go_loopw [4] (fun i wr => ∃ (k : Nat) (rs : List Lr) (ka : Option Addr) (kc : Nat), k ≤ ln ∧ i = .int .i64 k ∧ Hid (CB V wr K st (.slice na wn nc) (.slice ka k kc) (.slice sa xn sd) ⟨st, b.wn, b.ls.take k, b.sc⟩ rs)) (fun i _ => ln - (intOf i).toNat)
  case atStart => exact ⟨0, [], none, 0, Nat.zero_le _, by go_num, HR0.out⟩
  case round =>
    clear HR0
    obtain ⟨k, rs, ka, kc, hk, rfl, hR⟩ := hrel
    have hbx := (hR.out.bl.block _ (ltOfQ HV.out.2.1)).trans HV.out.2.1
    have p2 : wr.cell? ⟨w.heap.size, 2, none⟩ = some (.slice la ln lc) := cellOfQ hbx 2 rfl
    have pl := ltOfQ hbx
    clear hbx
    by_cases hkl : k < ln
    · have hkb : k < b.ls.length := by rw [← HL.out.2.1]; exact hkl
      obtain ⟨g, o, c0, hv, hg, r, hr1, hnc, q0, q1, q2, q3, q4⟩ := (HRD.out.ls.below hR.out.bl).at hkb
      rw [← HL.out.2.1] at hv
      injection hv with hv1 hv2 hv3
      subst hv1
      obtain ⟨l, hl⟩ : ∃ l, l = b.ls[k] := ⟨_, rfl⟩
      have hsl := HSM.out k hkb
      rw [← hl] at hr1 hsl
      have htk : b.ls.take (k + 1) = b.ls.take k ++ [l] := by rw [hl]; exact List.take_succ_eq_append_getElem hkb
      have hlw : r.wn = l.ws.length := hr1.ws.len
      have hld : r.dn = l.dn.length := hr1.dn.len
      have hw6 : (r.wn : Int) ≤ 1048576 := by rw [hlw]; exact hsl.1
      have hd6 : (r.dn : Int) ≤ 1048576 := by rw [hld]; exact hsl.2.1
      have HT : Hid (Lr1 wr r l ∧ NC (.slice r.wa r.wn r.wc) ∧ NC (.slice r.da r.dn r.dc) ∧ r.wn = l.ws.length ∧ r.dn = l.dn.length ∧ b.ls.take (k + 1) = b.ls.take k ++ [l]) := ⟨hr1, hnc.1, hnc.2, hlw, hld, htk⟩
      have b0 : (0 : Int) ≤ (k : Int) := by omega
      have b1 : (k : Int) < (ln : Int) := by omega
      clear hv2 hv3 hl hsl htk hlw hld hr1 hnc hkb
      obtain ⟨t5, ht5⟩ : ∃ x, x = wr.heap.size := ⟨_, rfl⟩
      obtain ⟨X1, hX1⟩ : ∃ X, X = wr.alloc (.cells #[.int .i64 r.id, .int .i64 r.pa, .slice r.wa r.wn r.wc, .bool r.hd, .slice r.da r.dn r.dc] 61) := ⟨_, rfl⟩
      have HX1 : Hid (Below t5 wr X1 ∧ X1.heap[t5]? = some (.cells #[.int .i64 r.id, .int .i64 r.pa, .slice r.wa r.wn r.wc, .bool r.hd, .slice r.da r.dn r.dc] 61) ∧ t5 = wr.heap.size) := by
        rw [hX1, ht5]; exact ⟨by (repeat' (first | (with_reducible exact Below.refl _ _) | (with_reducible assumption) | (with_reducible refine Below.setCell ?_ ?_ _) | (with_reducible refine Below.alloc ?_ ?_ _) | (with_reducible refine below_drewN ?_ _) | (with_reducible refine Below.drew ?_) | (with_reducible exact Nat.le_refl _) | omega | (simp; done) | (simp; omega))), heap_alloc_new _ _, rfl⟩
      go_upto_region 6 with fail
      rw [← hX1, ← ht5]
      clear hX1 ht5 q0 q1 q2 q3 q4 p2 pl hg
      obtain ⟨s0, s1, s2, s3, s4, sl⟩ := five_atQ HX1.out.2.1
      have HRW : Hid (RdI (X1.alloc (.cells #[] 2)) (.slice r.wa r.wn r.wc) l.ws) := (HT.out.1.ws.below (by have := HX1.out.1; rw [HX1.out.2.2] at this; exact this)).below ((Below.refl _ _).alloc (Nat.le_refl _) _)
      go_upto_region 7 with (at_builtin; refine appAny rfl _ _ 24 rfl X1.heap.size 2 i0 (.int .i64 0) 1 8 Try.underlying24 hi0 hz0 hz1 hz2 rfl (by decide) (.slice (some ⟨X1.heap.size, 0, none⟩) 0 0) 0 [] rfl (World.ownsRow_lit X1 #[] 0 (Nat.le_refl _) (by decide) (by simp)) r.wa r.wn r.wc (l.ws.map (Value.int .i64)) rfl (by rw [HT.out.2.2.2.1]; simp) (fun e => HT.out.2.1 _ _ (by rw [e])) (newsI HRW.out) (ones_int _) (by unfold maxLen; omega) (by omega) (by simp) ?_; intro v2 w2 hown2 hgrow2 _; obtain ⟨a1, c1, rfl, hi2, hb2⟩ := apI HT.out.2.2.2.1 hown2 hgrow2; clear hown2 hgrow2 s0 s1 s2 s3 s4; have k2 := (hb2.block _ sl).trans HX1.out.2.1; obtain ⟨s0, s1, s2, s3, s4, sm⟩ := five_atQ k2; have f2 := frozOfQ k2 2)
      clear HRW
      obtain ⟨X2, hX2⟩ : ∃ X, X = w2.setCell ⟨t5, 2, none⟩ (.slice a1 r.wn c1) := ⟨_, rfl⟩
      have HX2 : Hid (Below t5 wr X2 ∧ X2.heap[t5]? = some (.cells #[.int .i64 r.id, .int .i64 r.pa, .slice a1 r.wn c1, .bool r.hd, .slice r.da r.dn r.dc] 61) ∧ t5 = wr.heap.size ∧ IS X2 (t5 + 1) (.slice a1 r.wn c1) l.ws) := by
        have hsz : t5 + 1 ≤ X1.heap.size := sl
        rw [hX2]
        refine ⟨(HX1.out.1.trans (hb2.mono (by omega))).setCell (Nat.le_refl _) _, ?_, HX1.out.2.2, ?_⟩
        · have := heap_setCell_same w2 t5 2 _ _ (.slice a1 r.wn c1) k2
          simpa using this
        · refine (hi2.low hsz).kept fun q hq => heap_setCell_other _ ⟨t5, 2, none⟩ _ _ ?_
          have := (IS.lt hi2 q hq).1
          show q ≠ t5
          omega
      clear k2 hi2 hb2 HX1 sl
      rw [← hX2]
      clear hX2 s0 s1 s2 s3 s4 sm f2
      obtain ⟨s0, s1, s2, s3, s4, sl⟩ := five_atQ HX2.out.2.1
      have HRD2 : Hid (RdI (X2.alloc (.cells #[] 2)) (.slice r.da r.dn r.dc) l.dn) := (HT.out.1.dn.below (by have := HX2.out.1; rw [HX2.out.2.2.1] at this; exact this)).below ((Below.refl _ _).alloc (Nat.le_refl _) _)
      go_upto_region 8 with (at_builtin; refine appAny rfl _ _ 24 rfl X2.heap.size 2 i0 (.int .i64 0) 1 8 Try.underlying24 hi0 hz0 hz1 hz2 rfl (by decide) (.slice (some ⟨X2.heap.size, 0, none⟩) 0 0) 0 [] rfl (World.ownsRow_lit X2 #[] 0 (Nat.le_refl _) (by decide) (by simp)) r.da r.dn r.dc (l.dn.map (Value.int .i64)) rfl (by rw [HT.out.2.2.2.2.1]; simp) (fun e => HT.out.2.2.1 _ _ (by rw [e])) (newsI HRD2.out) (ones_int _) (by unfold maxLen; omega) (by omega) (by simp) ?_; intro v3 w3 hown3 hgrow3 _; obtain ⟨a2, c2, rfl, hi3, hb3⟩ := apI HT.out.2.2.2.2.1 hown3 hgrow3; clear hown3 hgrow3 s0 s1 s2 s3 s4; have k3 := (hb3.block _ sl).trans HX2.out.2.1; obtain ⟨s0, s1, s2, s3, s4, sm⟩ := five_atQ k3; have f4 := frozOfQ k3 4)
      clear HRD2
      obtain ⟨X3, hX3⟩ : ∃ X, X = w3.setCell ⟨t5, 4, none⟩ (.slice a2 r.dn c2) := ⟨_, rfl⟩
      obtain ⟨r', hr'⟩ : ∃ r' : Lr, r' = ⟨r.id, r.pa, a1, r.wn, c1, r.hd, a2, r.dn, c2⟩ := ⟨_, rfl⟩
      have HX3 : Hid (Below wr.heap.size wr X3 ∧ X3.heap[t5]? = some (.cells #[.int .i64 r.id, .int .i64 r.pa, .slice a1 r.wn c1, .bool r.hd, .slice a2 r.dn c2] 61) ∧ IS X3 wr.heap.size r'.wv l.ws ∧ IS X3 wr.heap.size r'.dv l.dn ∧ (∀ g, r'.wv.ownBlock = some g → r'.dv.ownBlock ≠ some g) ∧ r' = ⟨r.id, r.pa, a1, r.wn, c1, r.hd, a2, r.dn, c2⟩ ∧ (r'.id = l.id ∧ r'.pa = l.pa ∧ r'.hd = l.hd)) := by
        have hsz : t5 + 1 ≤ X2.heap.size := sl
        have e5 := HX2.out.2.2.1
        have ew : r'.wv = .slice a1 r.wn c1 := by rw [hr']; rfl
        have ed : r'.dv = .slice a2 r.dn c2 := by rw [hr']; rfl
        rw [ew, ed, hX3, ← e5]
        refine ⟨(HX2.out.1.trans (hb3.mono (by omega))).setCell (Nat.le_refl _) _, ?_, ?_, ?_, ?_, hr', by rw [hr']; exact ⟨HT.out.1.id, HT.out.1.pa, HT.out.1.hd⟩⟩
        · have := heap_setCell_same w3 t5 4 _ _ (.slice a2 r.dn c2) k3
          simpa using this
        · refine ((HX2.out.2.2.2.bel hb3).kept fun q hq => heap_setCell_other _ ⟨t5, 4, none⟩ _ _ ?_).low (by omega)
          have := (IS.lt HX2.out.2.2.2 q hq).1
          show q ≠ t5
          omega
        · refine (hi3.kept fun q hq => heap_setCell_other _ ⟨t5, 4, none⟩ _ _ ?_).low (by omega)
          have := (IS.lt hi3 q hq).1
          show q ≠ t5
          omega
        · intro g h1 h2
          have h3 := (IS.lt HX2.out.2.2.2 g h1).2
          have h4 := (IS.lt hi3 g h2).1
          omega
      clear k3 hi3 hb3 HX2 hr' sl
      rw [← hX3]
      clear hX3 s0 s1 s2 s3 s4 sm f4
      have HRL : Hid (rs.length = k) := by
        unfold Hid
        have := hR.out.pb.len
        rw [this]
        show (b.ls.take k).length = k
        rw [List.length_take, ← HL.out.2.1]; omega
      have HC3 := hR.out.next HX3.out.1
      obtain ⟨s0, s1, s2, s3, s4, sl⟩ := five_atQ HX3.out.2.1
      have z2 : X3.cell? ⟨K, 2, none⟩ = some (.slice ka k kc) := cellOfQ HC3.bx 2 rfl
      have zl := ltOfQ HC3.bx
      have hrow : (X3.alloc (.cells #[.int .i64 r.id, .int .i64 r.pa, .slice a1 r.wn c1, .bool r.hd, .slice a2 r.dn c2] 61)).ownsRow V.heap.size 61 5 (.slice ka k kc) k (rs.flatMap lrC) := by
        have h9 := OG.below HC3.pb.row ((Below.refl _ _).alloc (Nat.le_refl _) (.cells #[.int .i64 r.id, .int .i64 r.pa, .slice a1 r.wn c1, .bool r.hd, .slice a2 r.dn c2] 61))
        unfold OG at h9
        rw [HRL.out] at h9
        exact h9
      have hVX : V.heap.size ≤ X3.heap.size := HC3.bl.size
      clear HC3
      go_upto_region 4 with (at_builtin; refine appAny rfl _ _ 29 rfl V.heap.size 61 il (.agg #[.int .i64 0, .int .i64 0, .slice none 0 0, .bool false, .slice none 0 0]) 5 72 Try.underlying29 hil hl0 hl1 hl2 rfl (by decide) (.slice ka k kc) k (rs.flatMap lrC) rfl hrow (some ⟨X3.heap.size, 0, none⟩) 1 1 (lrC r') rfl rfl (fun h => by cases h) (fun ad h => by injection h with h; subst h; rw [HX3.out.2.2.2.2.2.1]; exact World.news_of_block (fr := (0, 0)) (heap_alloc_new X3 (.cells #[.int .i64 r.id, .int .i64 r.pa, .slice a1 r.wn c1, .bool r.hd, .slice a2 r.dn c2] 61))) (lrC_one r') (by unfold maxLen; omega) (by omega) (by simp; omega) ?_; intro v4 w4 hown4 hgrow4 _; rw [← HRL.out] at hown4; obtain ⟨a4, c4, e4, k4, hcb4⟩ := CB.push hR.out HX3.out.1 hown4 hgrow4 HX3.out.2.2.2.2.2.2 HX3.out.2.2.1 HX3.out.2.2.2.1 HX3.out.2.2.2.2.1; rw [HRL.out] at e4; subst e4; clear hown4 hgrow4 hrow; have z2 : w4.cell? ⟨K, 2, none⟩ = some (.slice ka k kc) := cellOfQ k4 2 rfl; have f2 := frozOfQ k4 2; have zl := ltOfQ k4; clear k4)
      have HN : Hid (CB V (w4.setCell ⟨K, 2, none⟩ (.slice a4 (k + 1) c4)) K st (.slice na wn nc) (.slice a4 (k + 1) c4) (.slice sa xn sd) ⟨st, b.wn, b.ls.take (k + 1), b.sc⟩ (rs ++ [r'])) := by rw [HT.out.2.2.2.2.2]; exact hcb4
      clear hcb4 hR HX3 HT HRL
      generalize w4.setCell ⟨K, 2, none⟩ (.slice a4 (k + 1) c4) = W4 at HN ⊢
      clear z2 f2 zl
      go_wp2
      go_roundw
      case rel => exact ⟨k + 1, _, a4, c4, by omega, by go_num, HN.out⟩
      case measure => simp [intOf]; omega
    · obtain rfl : k = ln := by omega
      have HE : Hid (CB V wr K st (.slice na wn nc) (.slice ka k kc) (.slice sa xn sd) b rs) := by
        have h9 := hR.out
        rw [List.take_of_length_le (by rw [HL.out.2.1]; exact Nat.le_refl _)] at h9
        have e : (⟨st, b.wn, b.ls, b.sc⟩ : Bk) = b := by rw [← HL.out.2.2.2.1]
        rw [e] at h9
        exact h9
      have hZ := (hR.out.bl.block _ (ltOfQ HV.out.2.2)).trans HV.out.2.2
      have z0 : wr.cell? ⟨w.heap.size + 1, 0, none⟩ = some (.int .i64 0) := cellOfQ hZ 0 rfl
      have z1 : wr.cell? ⟨w.heap.size + 1, 1, none⟩ = some (.slice none 0 0) := cellOfQ hZ 1 rfl
      have z2 : wr.cell? ⟨w.heap.size + 1, 2, none⟩ = some (.slice none 0 0) := cellOfQ hZ 2 rfl
      have z3 : wr.cell? ⟨w.heap.size + 1, 3, none⟩ = some (.slice none 0 0) := cellOfQ hZ 3 rfl
      have zl := ltOfQ hZ
      have f0 := frozOfQ hZ 0
      have f1 := frozOfQ hZ 1
      have f2 := frozOfQ hZ 2
      have f3 := frozOfQ hZ 3
      have y0 : wr.cell? ⟨K, 0, none⟩ = some (.int .i64 st) := cellOfQ HE.out.bx 0 rfl
      have y1 : wr.cell? ⟨K, 1, none⟩ = some (.slice na wn nc) := cellOfQ HE.out.bx 1 rfl
      have y2 : wr.cell? ⟨K, 2, none⟩ = some (.slice ka k kc) := cellOfQ HE.out.bx 2 rfl
      have y3 : wr.cell? ⟨K, 3, none⟩ = some (.slice sa xn sd) := cellOfQ HE.out.bx 3 rfl
      have yl := ltOfQ HE.out.bx
      have HBV : Hid (Below w.heap.size w wr ∧ w.heap.size + 1 < V.heap.size) := ⟨HV.out.1.trans (HE.out.bl.mono HV.out.1.size), ltOfQ HV.out.2.2⟩
      clear hZ hR HV HRD HL HSM
      go_wp2
      try simp only [Exit.inBlock, Exit.then]
      refine bodyPost_ret (by simp [results, Try.results39, go_sem, z0, z1, z2, z3, zl, f0, f1, f2, f3]; try rfl) rfl ⟨(.slice na wn nc, .slice ka k kc, .slice sa xn sd), rs, rfl, ?_, ?_⟩
      · refine PB.low (PB.keep HE.out.pb fun q hq => ?_) (by have := HBV.out.2; omega)
        have h1 := (HE.out.pb.blk hq).1
        have h2 := HBV.out.2
        have hoff : ∀ (u : World) o v, (u.setCell ⟨w.heap.size + 1, o, none⟩ v).heap[q]? = u.heap[q]? := fun u o v => heap_setCell_other _ _ _ _ (by simp; omega)
        rw [hoff, hoff, hoff, hoff]
      · have hb := HBV.out.1
        (repeat' (first | (with_reducible exact Below.refl _ _) | (with_reducible assumption) | (with_reducible refine Below.setCell ?_ ?_ _) | (with_reducible refine Below.alloc ?_ ?_ _) | (with_reducible refine below_drewN ?_ _) | (with_reducible refine Below.drew ?_) | (with_reducible exact Nat.le_refl _) | omega | (simp; done) | (simp; omega)))

end Go.Proofs.Ytcfjanignfbidaa
