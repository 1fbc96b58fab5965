/- Proved here: RunFleet of the model. -/
import Derived.Test.YtgbbigokbbllgaaChV
import Derived.Test.YtgbbigokbbllgaaLp20
import Derived.Test.YtgbbigokbbllgaaFzS
import Derived.Test.YtgbbigokbbllgaaInS
import Derived.Maps.AppendAt
import Derived.Deep.AppendLies
import Derived.Deep.Cut
namespace Go.Proofs.Ytgbbigokbbllgaa
open Go.RowKit Go.Maps
set_option linter.unusedVariables false
set_option linter.unusedSimpArgs false

set_option maxRecDepth 10000 in
set_option maxHeartbeats 25600000 in
theorem spec_rf (Z st : Int) {w : World} {ga oa gb ob c d : Nat} {s t : List Int} (hn : s.length ≤ 1048576 ∧ t.length ≤ 1048576) (hc : s.length ≤ c) (h : RdL w (.slice (some ⟨ga, oa, none⟩) s.length c) (.slice (some ⟨gb, ob, none⟩) t.length d) s t) :
    Calls Try.prog 36 #[.agg #[.int .i64 Z, .slice (some ⟨ga, oa, none⟩) s.length c, .slice (some ⟨gb, ob, none⟩) t.length d], .int .i64 st] w fun e w' => ∃ (vq : Value × Value × Value) (_ : Unit), e = .returned (.agg #[.int .i64 (rfC Z s t st), .int .i64 (rfZ Z s t st), vq.1, vq.2.1, vq.2.2]) ∧ OwF w' w.heap.size vq.1 vq.2.1 vq.2.2 (rfA Z s t st) (rfT Z s t st) (rfM Z s t st) ∧ Below w.heap.size w w' := by
  obtain ⟨i0, hi0, hz0, hz1, hz2⟩ := info_parts info_i64
  obtain ⟨n, hnn⟩ : ∃ n, n = s.length := ⟨_, rfl⟩
  obtain ⟨m, hmm⟩ : ∃ n, n = t.length := ⟨_, rfl⟩
  obtain ⟨x, hx⟩ : ∃ D, D = flF Z s t := ⟨_, rfl⟩
  obtain ⟨q, hq⟩ : ∃ q, q = decide (0 ≤ st ∧ st ≤ 200) := ⟨_, rfl⟩
  obtain ⟨CD, hCD⟩ : ∃ D, D = rfC Z s t st := ⟨_, rfl⟩
  obtain ⟨ZN, hZN⟩ : ∃ D, D = rfZ Z s t st := ⟨_, rfl⟩
  have HI : Hid (∀ W, Calls Try.prog 39 #[.int .i64 st, .int .i64 0, .int .i64 200] W fun e w' => e = .returned (.bool q) ∧ w' = W) := fun W => by rw [hq]; exact spec_in10 st 0 200 W
  have HF : Hid (∀ W, Below w.heap.size w W → Calls Try.prog 21 #[.agg #[.int .i64 Z, .slice (some ⟨ga, oa, none⟩) n c, .slice (some ⟨gb, ob, none⟩) m d]] W fun e w' => e = .returned (.int .i64 x) ∧ Below W.heap.size W w') := fun W hb => by
    rw [hx, hnn, hmm]; exact spec_ff Z hn (h.below hb)
  have HRD : Hid (RdL w (.slice (some ⟨ga, oa, none⟩) n c) (.slice (some ⟨gb, ob, none⟩) m d) s t) := by unfold Hid; rw [hnn, hmm]; exact h
  have HB : Hid ((x ≠ 0 → CD = x) ∧ (x = 0 → q = false → CD = 3) ∧ (x = 0 → q = true → CD = 0) ∧ (CD ≠ 0 → ZN = 0 ∧ rfA Z s t st = [] ∧ rfT Z s t st = [] ∧ rfM Z s t st = []) ∧ (CD = 0 → FlOk Z s t ∧ (0 ≤ st ∧ st ≤ 200) ∧ ZN = Z ∧ rfA Z s t st = ruA Z s t st.toNat ∧ rfT Z s t st = t ∧ rfM Z s t st = ruM Z s t st.toNat) ∧ n = s.length ∧ m = t.length) := by
    refine ⟨fun e => ?_, fun e1 e2 => ?_, fun e1 e2 => ?_, fun e => ?_, fun e => ?_, hnn, hmm⟩
    · rw [hx] at e; rw [hCD, hx]; unfold rfC; rw [if_pos e]
    · rw [hCD]; unfold rfC; rw [if_neg (by rw [← hx, e1]; simp), if_neg (by rw [hq] at e2; simpa using e2)]
    · rw [hCD]; unfold rfC; rw [if_neg (by rw [← hx, e1]; simp), if_pos (by rw [hq] at e2; simpa using e2)]
    · rw [hCD] at e; rw [hZN]; exact rf_none e
    · rw [hCD] at e; rw [hZN]; exact ⟨flF_ok (rfC_ok e).1, (rfC_ok e).2, rf_some e⟩
  rw [← hCD, ← hZN, ← hnn, ← hmm]
  have HS : Hid (S2 w (.cells #[.int .i64 Z, .slice (some ⟨ga, oa, none⟩) n c, .slice (some ⟨gb, ob, none⟩) m d] 45) (.cells #[.int .i64 0, .int .i64 0, .slice none 0 0, .slice none 0 0, .slice none 0 0] 56) ((w.alloc (.cells #[.int .i64 Z, .slice (some ⟨ga, oa, none⟩) n c, .slice (some ⟨gb, ob, none⟩) m d] 45)).alloc (.cells #[.int .i64 0, .int .i64 0, .slice none 0 0, .slice none 0 0, .slice none 0 0] 56))) := S2.new _ _ _
  clear h hnn hmm hx hn hc hZN hCD hq
  go_enter Try.func36, Try.ntmps36
  go_wp2_with (fail)
  obtain ⟨U, hU⟩ : ∃ X9, X9 = (w.alloc (.cells #[.int .i64 Z, .slice (some ⟨ga, oa, none⟩) n c, .slice (some ⟨gb, ob, none⟩) m d] 45)).alloc (.cells #[.int .i64 0, .int .i64 0, .slice none 0 0, .slice none 0 0, .slice none 0 0] 56) := ⟨_, rfl⟩
  rw [← hU] at HS ⊢
  clear hU
  refine (HF.out _ HS.out.bl).mono ?_
  rintro e w1 ⟨rfl, hb1⟩
  have HT : Hid (S2 w (.cells #[.int .i64 Z, .slice (some ⟨ga, oa, none⟩) n c, .slice (some ⟨gb, ob, none⟩) m d] 45) (.cells #[.int .i64 0, .int .i64 0, .slice none 0 0, .slice none 0 0, .slice none 0 0] 56) w1) := HS.out.next hb1
  clear hb1 HF HS
  obtain ⟨p0, p1, p2, pf, pl⟩ := tw_three HT.out.b0
  clear pf
  by_cases hx0 : x = 0
  case neg =>
    have HV : Hid (CD = x ∧ ZN = 0 ∧ rfA Z s t st = [] ∧ rfT Z s t st = [] ∧ rfM Z s t st = []) := ⟨HB.out.1 hx0, HB.out.2.2.2.1 (by rw [HB.out.1 hx0]; exact hx0)⟩
    have hA1 : (x != 0) = true := by simpa using hx0
    obtain ⟨q0, q1, q2, q3, q4, qf, ql⟩ := five_F HT.out.b1
    have qf0 := qf 0
    have qf1 := qf 1
    have qf2 := qf 2
    have qf3 := qf 3
    have qf4 := qf 4
    clear qf HB HI
    go_wp2
    try simp only [Exit.inBlock, Exit.then]
    refine bodyPost_ret (by simp [results, Try.results36, go_sem, q0, q1, q2, q3, q4]; try rfl) rfl ⟨(.slice none 0 0, .slice none 0 0, .slice none 0 0), (), by rw [HV.out.2.1, HV.out.1], by rw [HV.out.2.2.1, HV.out.2.2.2.1, HV.out.2.2.2.2]; exact owf_none _ _, ?_⟩
    have hB := HT.out.bl
    (repeat' (first | (with_reducible exact Below.refl _ _) | (with_reducible assumption) | (with_reducible refine Below.setCell ?_ ?_ _) | (with_reducible refine Below.alloc ?_ ?_ _) | (with_reducible refine below_drewN ?_ _) | (with_reducible refine Below.drew ?_) | (with_reducible exact Nat.le_refl _) | omega | (simp; done) | (simp; omega)))
  subst hx0
  have hA0 : ((0 : Int) != 0) = false := by simp
  go_wp2_with (fail)
  refine (HI.out _).mono ?_
  rintro e w2 ⟨rfl, hw2⟩
  obtain rfl : w1 = w2 := hw2.symm
  clear hw2 HI hA0
  cases q with
  | false =>
    have HV : Hid (CD = 3 ∧ ZN = 0 ∧ rfA Z s t st = [] ∧ rfT Z s t st = [] ∧ rfM Z s t st = []) := by
      have h3 := HB.out.2.1 (by first | rfl | trivial) rfl
      exact ⟨h3, HB.out.2.2.2.1 (by rw [h3]; decide)⟩
    obtain ⟨q0, q1, q2, q3, q4, qf, ql⟩ := five_F HT.out.b1
    have qf0 := qf 0
    have qf1 := qf 1
    have qf2 := qf 2
    have qf3 := qf 3
    have qf4 := qf 4
    clear qf HB
    go_wp2
    try simp only [Exit.inBlock, Exit.then]
    refine bodyPost_ret (by simp [results, Try.results36, go_sem, q0, q1, q2, q3, q4]; try rfl) rfl ⟨(.slice none 0 0, .slice none 0 0, .slice none 0 0), (), by rw [HV.out.2.1, HV.out.1], by rw [HV.out.2.2.1, HV.out.2.2.2.1, HV.out.2.2.2.2]; exact owf_none _ _, ?_⟩
    have hB := HT.out.bl
    (repeat' (first | (with_reducible exact Below.refl _ _) | (with_reducible assumption) | (with_reducible refine Below.setCell ?_ ?_ _) | (with_reducible refine Below.alloc ?_ ?_ _) | (with_reducible refine below_drewN ?_ _) | (with_reducible refine Below.drew ?_) | (with_reducible exact Nat.le_refl _) | omega | (simp; done) | (simp; omega)))
  | true =>
  have hc0 : CD = 0 := HB.out.2.2.1 (by first | rfl | trivial) rfl
  have ho : FlOk Z s t := (HB.out.2.2.2.2.1 hc0).1
  obtain ⟨N, hN⟩ : ∃ N : Nat, Z = (N : Int) := ⟨Z.toNat, by have := ho.z; omega⟩
  subst hN
  have hst := (HB.out.2.2.2.2.1 hc0).2.1
  obtain ⟨r, hr⟩ : ∃ r : Nat, st = (r : Int) := ⟨st.toNat, by omega⟩
  subst hr
  have HV : Hid (CD = 0 ∧ FlOk (N : Int) s t ∧ ZN = (N : Int) ∧ rfA (N : Int) s t (r : Int) = ruA (N : Int) s t r ∧ rfT (N : Int) s t (r : Int) = t ∧ rfM (N : Int) s t (r : Int) = ruM (N : Int) s t r) := ⟨hc0, ho, (HB.out.2.2.2.2.1 hc0).2.2⟩
  have hr200 : r ≤ 200 := by omega
  have hl1 : w.heap.size + 1 < w1.heap.size := ltOf HT.out.b1
  have hmn : n = m := by rw [HB.out.2.2.2.2.2.2, HB.out.2.2.2.2.2.1]; exact ho.l.symm
  subst hmn
  have HNN : Hid (n = s.length) := HB.out.2.2.2.2.2.1
  have hm30 : n ≤ 30 := by have h1 := ho.m; have h2 := ho.z; have h3 := HNN.out; omega
  clear ho HB hst hc0
  have HRV : Hid (RdL w1 (.slice (some ⟨ga, oa, none⟩) n c) (.slice (some ⟨gb, ob, none⟩) n d) s t) := HRD.out.below HT.out.bl
  have HL : Hid (n = s.length ∧ n = t.length) := ⟨HNN.out, by rw [HV.out.2.1.l]; exact HNN.out⟩
  clear HRD
  have HRD : Hid (RdL w1 (.slice (some ⟨ga, oa, none⟩) n c) (.slice (some ⟨gb, ob, none⟩) n d) s t) := HRV.out
  clear HRV
  obtain ⟨V, hV⟩ : ∃ V, V = w1 := ⟨_, rfl⟩
  subst hV
  go_upto_region 6 with fail
  go_cut [6] from 19 (fun r6 wx => ∃ (K g1 c1 g2 c2 : Nat), r6 = .pointer (some ⟨K, 0, none⟩) ∧ Hid (FO V wx K (N : Int) (.slice (some ⟨g1, 0, none⟩) n c1) (.slice (some ⟨g2, 0, none⟩) n c2) (.slice none 0 0) s t []))
  case first =>
    refine wp_region_float (by kernel_rfl) (fun hS => ?_)
    refine fl_take (i := 0) (d := 19) (v := .pointer (some ⟨w.heap.size, 0, none⟩)) rfl rfl rfl (by kernel_rfl) (by kernel_rfl) (by kernel_rfl) hS ?_ ?_
    · intro w' hk; go_simp
    simp only [Act.put, List.setIfInBounds_toArray, List.set_cons_zero, List.set_cons_succ]
    refine fl_take (i := 1) (d := 20) (v := .int .i64 (N : Int)) rfl rfl rfl (by kernel_rfl) (by kernel_rfl) (by kernel_rfl) hS ?_ ?_
    · intro w' hk; go_simp
    simp only [Act.put, List.setIfInBounds_toArray, List.set_cons_zero, List.set_cons_succ]
    refine fl_take (i := 3) (d := 22) (v := .pointer (some ⟨w.heap.size, 1, none⟩)) rfl rfl rfl (by kernel_rfl) (by kernel_rfl) (by kernel_rfl) hS ?_ ?_
    · intro w' hk; go_simp
    simp only [Act.put, List.setIfInBounds_toArray, List.set_cons_zero, List.set_cons_succ]
    refine fl_take (i := 4) (d := 23) (v := .slice (some ⟨ga, oa, none⟩) n c) rfl rfl rfl (by kernel_rfl) (by kernel_rfl) (by kernel_rfl) hS ?_ ?_
    · intro w' hk; go_simp
    simp only [Act.put, List.setIfInBounds_toArray, List.set_cons_zero, List.set_cons_succ]
    refine fl_take (i := 7) (d := 26) (v := .pointer (some ⟨w.heap.size, 2, none⟩)) rfl rfl rfl (by kernel_rfl) (by kernel_rfl) (by kernel_rfl) hS ?_ ?_
    · intro w' hk; go_simp
    simp only [Act.put, List.setIfInBounds_toArray, List.set_cons_zero, List.set_cons_succ]
    refine fl_take (i := 8) (d := 27) (v := .slice (some ⟨gb, ob, none⟩) n d) rfl rfl rfl (by kernel_rfl) (by kernel_rfl) (by kernel_rfl) hS ?_ ?_
    · intro w' hk; go_simp
    simp only [Act.put, List.setIfInBounds_toArray, List.set_cons_zero, List.set_cons_succ]
    have hF : F3 V V.drew (.slice none 0 0) (.slice none 0 0) [] [] none := F3.start V
    refine wpAnyH_all (rs := [2, 6, 12]) (by kernel_rfl) (by simp) ?_
    intro i hi
    rcases (by simpa using hi : i = 2 ∨ i = 6 ∨ i = 12) with rfl | rfl | rfl
    · clear hi
      refine op_val (d := 21) (v := .slice (some ⟨(V.drew).heap.size, 0, none⟩) 0 0) (w' := (V.drew).alloc (.cells #[] 2)) rfl rfl rfl (by go_simp; try rfl) ?_
      simp only [Act.put, List.setIfInBounds_toArray, List.set_cons_zero, List.set_cons_succ]
      have hF := hF.mkA
      refine ⟨KS.of hF.bl, ?_⟩
      obtain ⟨g2, hg2⟩ : ∃ x, x = (V.drew).heap.size := ⟨_, rfl⟩
      rw [← hg2] at hF ⊢
      generalize (V.drew).alloc (.cells #[] 2) = y2 at hF ⊢
      clear hg2
      refine wpAnyH_all (rs := [5, 6, 12]) (by kernel_rfl) (by simp) ?_
      intro i hi
      rcases (by simpa using hi : i = 5 ∨ i = 6 ∨ i = 12) with rfl | rfl | rfl
      · clear hi
        refine op_appF rfl rfl rfl _ _ 22 rfl V.heap.size 2 i0 (.int .i64 0) 1 8 Try.underlying22 hi0 hz0 hz1 hz2 rfl (by decide) (.slice (some ⟨g2, 0, none⟩) 0 0) 0 [] rfl hF.a ⟨ga, oa, none⟩ n c (s.map (Value.int .i64)) rfl (by rw [HL.out.1]; simp) (row_news (HRD.out.1.below hF.bl)) (ones_int _) (by unfold maxLen; omega) (by omega) hF.bl.size ?_
        intro v25 y25 hown hgrow hat
        simp only [Act.put, List.setIfInBounds_toArray, List.set_cons_zero, List.set_cons_succ]
        have hF := hF.apA HL.out.1 hown hgrow hat
        obtain ⟨g25, c25, hv25⟩ := someF hF.a (by rcases hat with e | e <;> rw [e] <;> simp [Value.ownBlock])
        rw [← HL.out.1] at hv25
        subst hv25
        clear hown hgrow hat
        refine ⟨KS.of hF.bl, ?_⟩
        refine wpAnyH_all (rs := [6, 12]) (by kernel_rfl) (by simp) ?_
        intro i hi
        rcases (by simpa using hi : i = 6 ∨ i = 12) with rfl | rfl
        · clear hi
          refine op_val (d := 25) (v := .slice (some ⟨(y25).heap.size, 0, none⟩) 0 0) (w' := (y25).alloc (.cells #[] 2)) rfl rfl rfl (by go_simp; try rfl) ?_
          simp only [Act.put, List.setIfInBounds_toArray, List.set_cons_zero, List.set_cons_succ]
          have hF := hF.swap.mkA.swap
          refine ⟨KS.of hF.bl, ?_⟩
          obtain ⟨g256, hg256⟩ : ∃ x, x = (y25).heap.size := ⟨_, rfl⟩
          rw [← hg256] at hF ⊢
          generalize (y25).alloc (.cells #[] 2) = y256 at hF ⊢
          clear hg256
          refine wpAnyH_all (rs := [9, 12]) (by kernel_rfl) (by simp) ?_
          intro i hi
          rcases (by simpa using hi : i = 9 ∨ i = 12) with rfl | rfl
          · clear hi
            refine op_appF rfl rfl rfl _ _ 22 rfl V.heap.size 2 i0 (.int .i64 0) 1 8 Try.underlying22 hi0 hz0 hz1 hz2 rfl (by decide) (.slice (some ⟨g256, 0, none⟩) 0 0) 0 [] rfl hF.b ⟨gb, ob, none⟩ n d (t.map (Value.int .i64)) rfl (by rw [HL.out.2]; simp) (row_news (HRD.out.2.below hF.bl)) (ones_int _) (by unfold maxLen; omega) (by omega) hF.bl.size ?_
            intro v2569 y2569 hown hgrow hat
            simp only [Act.put, List.setIfInBounds_toArray, List.set_cons_zero, List.set_cons_succ]
            have hF := (hF.swap.apA HL.out.2 hown hgrow hat).swap
            obtain ⟨g2569, c2569, hv2569⟩ := someF hF.b (by rcases hat with e | e <;> rw [e] <;> simp [Value.ownBlock])
            rw [← HL.out.2] at hv2569
            subst hv2569
            clear hown hgrow hat
            refine ⟨KS.of hF.bl, ?_⟩
            refine fl_take (i := 10) (d := 29) (v := .agg #[.int .i64 (N : Int), .slice (some ⟨g25, 0, none⟩) n c25, .slice (some ⟨g2569, 0, none⟩) n c2569]) rfl rfl rfl (by kernel_rfl) (by kernel_rfl) (by kernel_rfl) (KS.of hF.bl) ?_ ?_
            · intro w' hk; go_simp
            simp only [Act.put, List.setIfInBounds_toArray, List.set_cons_zero, List.set_cons_succ]
            refine fl_take (i := 11) (d := 30) (v := .agg #[.int .i64 0, .int .i64 (N : Int), .slice (some ⟨g25, 0, none⟩) n c25, .slice (some ⟨g2569, 0, none⟩) n c2569, .slice none 0 0]) rfl rfl rfl (by kernel_rfl) (by kernel_rfl) (by kernel_rfl) (KS.of hF.bl) ?_ ?_
            · intro w' hk; go_simp
            simp only [Act.put, List.setIfInBounds_toArray, List.set_cons_zero, List.set_cons_succ]
            refine wpAnyH_all (rs := [12]) (by kernel_rfl) (by simp) ?_
            intro i hi
            obtain rfl : i = 12 := by simpa using hi
            clear hi
            refine op_val (d := 6) (v := .pointer (some ⟨(y2569).heap.size, 0, none⟩)) (w' := (y2569).alloc (.cells #[.int .i64 0, .int .i64 0, .slice none 0 0, .slice none 0 0, .slice none 0 0] 56)) rfl rfl rfl (by go_simp; try rfl) ?_
            simp only [Act.put, List.setIfInBounds_toArray, List.set_cons_zero, List.set_cons_succ]
            have hF := hF.mkO
            refine ⟨KS.of hF.bl, ?_⟩
            obtain ⟨g256912, hg256912⟩ : ∃ x, x = (y2569).heap.size := ⟨_, rfl⟩
            rw [← hg256912] at hF ⊢
            generalize (y2569).alloc (.cells #[.int .i64 0, .int .i64 0, .slice none 0 0, .slice none 0 0, .slice none 0 0] 56) = y256912 at hF ⊢
            clear hg256912
            refine wpAnyH_all (rs := [13]) (by kernel_rfl) (by simp) ?_
            intro i hi
            obtain rfl : i = 13 := by simpa using hi
            clear hi
            refine op_store rfl rfl rfl _ _ _ rfl g256912 #[.int .i64 0, .int .i64 (N : Int), .slice (some ⟨g25, 0, none⟩) n c25, .slice (some ⟨g2569, 0, none⟩) n c2569, .slice none 0 0] rfl rfl (there_nF (hF.o g256912 rfl).1 rfl) (by kernel_rfl) (by simp [Value.oneCell']) ?_
            have hG : FO V ((y256912).setCells g256912 0 [.int .i64 0, .int .i64 (N : Int), .slice (some ⟨g25, 0, none⟩) n c25, .slice (some ⟨g2569, 0, none⟩) n c2569, .slice none 0 0]) g256912 (N : Int) (.slice (some ⟨g25, 0, none⟩) n c25) (.slice (some ⟨g2569, 0, none⟩) n c2569) (.slice none 0 0) s t [] := FO.of hF
            refine ⟨KS.of hG.bl, wpAnyH_done (by kernel_rfl) (NoPanic.normal ?_) _⟩
            go_wp2_with (fail)
            go_meet
            exact ⟨_, _, _, _, _, rfl, hG⟩
          · clear hi
            refine op_val (d := 6) (v := .pointer (some ⟨(y256).heap.size, 0, none⟩)) (w' := (y256).alloc (.cells #[.int .i64 0, .int .i64 0, .slice none 0 0, .slice none 0 0, .slice none 0 0] 56)) rfl rfl rfl (by go_simp; try rfl) ?_
            simp only [Act.put, List.setIfInBounds_toArray, List.set_cons_zero, List.set_cons_succ]
            have hF := hF.mkO
            refine ⟨KS.of hF.bl, ?_⟩
            obtain ⟨g25612, hg25612⟩ : ∃ x, x = (y256).heap.size := ⟨_, rfl⟩
            rw [← hg25612] at hF ⊢
            generalize (y256).alloc (.cells #[.int .i64 0, .int .i64 0, .slice none 0 0, .slice none 0 0, .slice none 0 0] 56) = y25612 at hF ⊢
            clear hg25612
            refine wpAnyH_all (rs := [9]) (by kernel_rfl) (by simp) ?_
            intro i hi
            obtain rfl : i = 9 := by simpa using hi
            clear hi
            refine op_appF rfl rfl rfl _ _ 22 rfl V.heap.size 2 i0 (.int .i64 0) 1 8 Try.underlying22 hi0 hz0 hz1 hz2 rfl (by decide) (.slice (some ⟨g256, 0, none⟩) 0 0) 0 [] rfl hF.b ⟨gb, ob, none⟩ n d (t.map (Value.int .i64)) rfl (by rw [HL.out.2]; simp) (row_news (HRD.out.2.below hF.bl)) (ones_int _) (by unfold maxLen; omega) (by omega) hF.bl.size ?_
            intro v256129 y256129 hown hgrow hat
            simp only [Act.put, List.setIfInBounds_toArray, List.set_cons_zero, List.set_cons_succ]
            have hF := (hF.swap.apA HL.out.2 hown hgrow hat).swap
            obtain ⟨g256129, c256129, hv256129⟩ := someF hF.b (by rcases hat with e | e <;> rw [e] <;> simp [Value.ownBlock])
            rw [← HL.out.2] at hv256129
            subst hv256129
            clear hown hgrow hat
            refine ⟨KS.of hF.bl, ?_⟩
            refine fl_take (i := 10) (d := 29) (v := .agg #[.int .i64 (N : Int), .slice (some ⟨g25, 0, none⟩) n c25, .slice (some ⟨g256129, 0, none⟩) n c256129]) rfl rfl rfl (by kernel_rfl) (by kernel_rfl) (by kernel_rfl) (KS.of hF.bl) ?_ ?_
            · intro w' hk; go_simp
            simp only [Act.put, List.setIfInBounds_toArray, List.set_cons_zero, List.set_cons_succ]
            refine fl_take (i := 11) (d := 30) (v := .agg #[.int .i64 0, .int .i64 (N : Int), .slice (some ⟨g25, 0, none⟩) n c25, .slice (some ⟨g256129, 0, none⟩) n c256129, .slice none 0 0]) rfl rfl rfl (by kernel_rfl) (by kernel_rfl) (by kernel_rfl) (KS.of hF.bl) ?_ ?_
            · intro w' hk; go_simp
            simp only [Act.put, List.setIfInBounds_toArray, List.set_cons_zero, List.set_cons_succ]
            refine wpAnyH_all (rs := [13]) (by kernel_rfl) (by simp) ?_
            intro i hi
            obtain rfl : i = 13 := by simpa using hi
            clear hi
            refine op_store rfl rfl rfl _ _ _ rfl g25612 #[.int .i64 0, .int .i64 (N : Int), .slice (some ⟨g25, 0, none⟩) n c25, .slice (some ⟨g256129, 0, none⟩) n c256129, .slice none 0 0] rfl rfl (there_nF (hF.o g25612 rfl).1 rfl) (by kernel_rfl) (by simp [Value.oneCell']) ?_
            have hG : FO V ((y256129).setCells g25612 0 [.int .i64 0, .int .i64 (N : Int), .slice (some ⟨g25, 0, none⟩) n c25, .slice (some ⟨g256129, 0, none⟩) n c256129, .slice none 0 0]) g25612 (N : Int) (.slice (some ⟨g25, 0, none⟩) n c25) (.slice (some ⟨g256129, 0, none⟩) n c256129) (.slice none 0 0) s t [] := FO.of hF
            refine ⟨KS.of hG.bl, wpAnyH_done (by kernel_rfl) (NoPanic.normal ?_) _⟩
            go_wp2_with (fail)
            go_meet
            exact ⟨_, _, _, _, _, rfl, hG⟩
        · clear hi
          refine op_val (d := 6) (v := .pointer (some ⟨(y25).heap.size, 0, none⟩)) (w' := (y25).alloc (.cells #[.int .i64 0, .int .i64 0, .slice none 0 0, .slice none 0 0, .slice none 0 0] 56)) rfl rfl rfl (by go_simp; try rfl) ?_
          simp only [Act.put, List.setIfInBounds_toArray, List.set_cons_zero, List.set_cons_succ]
          have hF := hF.mkO
          refine ⟨KS.of hF.bl, ?_⟩
          obtain ⟨g2512, hg2512⟩ : ∃ x, x = (y25).heap.size := ⟨_, rfl⟩
          rw [← hg2512] at hF ⊢
          generalize (y25).alloc (.cells #[.int .i64 0, .int .i64 0, .slice none 0 0, .slice none 0 0, .slice none 0 0] 56) = y2512 at hF ⊢
          clear hg2512
          refine wpAnyH_all (rs := [6]) (by kernel_rfl) (by simp) ?_
          intro i hi
          obtain rfl : i = 6 := by simpa using hi
          clear hi
          refine op_val (d := 25) (v := .slice (some ⟨(y2512).heap.size, 0, none⟩) 0 0) (w' := (y2512).alloc (.cells #[] 2)) rfl rfl rfl (by go_simp; try rfl) ?_
          simp only [Act.put, List.setIfInBounds_toArray, List.set_cons_zero, List.set_cons_succ]
          have hF := hF.swap.mkA.swap
          refine ⟨KS.of hF.bl, ?_⟩
          obtain ⟨g25126, hg25126⟩ : ∃ x, x = (y2512).heap.size := ⟨_, rfl⟩
          rw [← hg25126] at hF ⊢
          generalize (y2512).alloc (.cells #[] 2) = y25126 at hF ⊢
          clear hg25126
          refine wpAnyH_all (rs := [9]) (by kernel_rfl) (by simp) ?_
          intro i hi
          obtain rfl : i = 9 := by simpa using hi
          clear hi
          refine op_appF rfl rfl rfl _ _ 22 rfl V.heap.size 2 i0 (.int .i64 0) 1 8 Try.underlying22 hi0 hz0 hz1 hz2 rfl (by decide) (.slice (some ⟨g25126, 0, none⟩) 0 0) 0 [] rfl hF.b ⟨gb, ob, none⟩ n d (t.map (Value.int .i64)) rfl (by rw [HL.out.2]; simp) (row_news (HRD.out.2.below hF.bl)) (ones_int _) (by unfold maxLen; omega) (by omega) hF.bl.size ?_
          intro v251269 y251269 hown hgrow hat
          simp only [Act.put, List.setIfInBounds_toArray, List.set_cons_zero, List.set_cons_succ]
          have hF := (hF.swap.apA HL.out.2 hown hgrow hat).swap
          obtain ⟨g251269, c251269, hv251269⟩ := someF hF.b (by rcases hat with e | e <;> rw [e] <;> simp [Value.ownBlock])
          rw [← HL.out.2] at hv251269
          subst hv251269
          clear hown hgrow hat
          refine ⟨KS.of hF.bl, ?_⟩
          refine fl_take (i := 10) (d := 29) (v := .agg #[.int .i64 (N : Int), .slice (some ⟨g25, 0, none⟩) n c25, .slice (some ⟨g251269, 0, none⟩) n c251269]) rfl rfl rfl (by kernel_rfl) (by kernel_rfl) (by kernel_rfl) (KS.of hF.bl) ?_ ?_
          · intro w' hk; go_simp
          simp only [Act.put, List.setIfInBounds_toArray, List.set_cons_zero, List.set_cons_succ]
          refine fl_take (i := 11) (d := 30) (v := .agg #[.int .i64 0, .int .i64 (N : Int), .slice (some ⟨g25, 0, none⟩) n c25, .slice (some ⟨g251269, 0, none⟩) n c251269, .slice none 0 0]) rfl rfl rfl (by kernel_rfl) (by kernel_rfl) (by kernel_rfl) (KS.of hF.bl) ?_ ?_
          · intro w' hk; go_simp
          simp only [Act.put, List.setIfInBounds_toArray, List.set_cons_zero, List.set_cons_succ]
          refine wpAnyH_all (rs := [13]) (by kernel_rfl) (by simp) ?_
          intro i hi
          obtain rfl : i = 13 := by simpa using hi
          clear hi
          refine op_store rfl rfl rfl _ _ _ rfl g2512 #[.int .i64 0, .int .i64 (N : Int), .slice (some ⟨g25, 0, none⟩) n c25, .slice (some ⟨g251269, 0, none⟩) n c251269, .slice none 0 0] rfl rfl (there_nF (hF.o g2512 rfl).1 rfl) (by kernel_rfl) (by simp [Value.oneCell']) ?_
          have hG : FO V ((y251269).setCells g2512 0 [.int .i64 0, .int .i64 (N : Int), .slice (some ⟨g25, 0, none⟩) n c25, .slice (some ⟨g251269, 0, none⟩) n c251269, .slice none 0 0]) g2512 (N : Int) (.slice (some ⟨g25, 0, none⟩) n c25) (.slice (some ⟨g251269, 0, none⟩) n c251269) (.slice none 0 0) s t [] := FO.of hF
          refine ⟨KS.of hG.bl, wpAnyH_done (by kernel_rfl) (NoPanic.normal ?_) _⟩
          go_wp2_with (fail)
          go_meet
          exact ⟨_, _, _, _, _, rfl, hG⟩
      · clear hi
        refine op_val (d := 25) (v := .slice (some ⟨(y2).heap.size, 0, none⟩) 0 0) (w' := (y2).alloc (.cells #[] 2)) rfl rfl rfl (by go_simp; try rfl) ?_
        simp only [Act.put, List.setIfInBounds_toArray, List.set_cons_zero, List.set_cons_succ]
        have hF := hF.swap.mkA.swap
        refine ⟨KS.of hF.bl, ?_⟩
        obtain ⟨g26, hg26⟩ : ∃ x, x = (y2).heap.size := ⟨_, rfl⟩
        rw [← hg26] at hF ⊢
        generalize (y2).alloc (.cells #[] 2) = y26 at hF ⊢
        clear hg26
        refine wpAnyH_all (rs := [5, 12]) (by kernel_rfl) (by simp) ?_
        intro i hi
        rcases (by simpa using hi : i = 5 ∨ i = 12) with rfl | rfl
        · clear hi
          refine op_appF rfl rfl rfl _ _ 22 rfl V.heap.size 2 i0 (.int .i64 0) 1 8 Try.underlying22 hi0 hz0 hz1 hz2 rfl (by decide) (.slice (some ⟨g2, 0, none⟩) 0 0) 0 [] rfl hF.a ⟨ga, oa, none⟩ n c (s.map (Value.int .i64)) rfl (by rw [HL.out.1]; simp) (row_news (HRD.out.1.below hF.bl)) (ones_int _) (by unfold maxLen; omega) (by omega) hF.bl.size ?_
          intro v265 y265 hown hgrow hat
          simp only [Act.put, List.setIfInBounds_toArray, List.set_cons_zero, List.set_cons_succ]
          have hF := hF.apA HL.out.1 hown hgrow hat
          obtain ⟨g265, c265, hv265⟩ := someF hF.a (by rcases hat with e | e <;> rw [e] <;> simp [Value.ownBlock])
          rw [← HL.out.1] at hv265
          subst hv265
          clear hown hgrow hat
          refine ⟨KS.of hF.bl, ?_⟩
          refine wpAnyH_all (rs := [9, 12]) (by kernel_rfl) (by simp) ?_
          intro i hi
          rcases (by simpa using hi : i = 9 ∨ i = 12) with rfl | rfl
          · clear hi
            refine op_appF rfl rfl rfl _ _ 22 rfl V.heap.size 2 i0 (.int .i64 0) 1 8 Try.underlying22 hi0 hz0 hz1 hz2 rfl (by decide) (.slice (some ⟨g26, 0, none⟩) 0 0) 0 [] rfl hF.b ⟨gb, ob, none⟩ n d (t.map (Value.int .i64)) rfl (by rw [HL.out.2]; simp) (row_news (HRD.out.2.below hF.bl)) (ones_int _) (by unfold maxLen; omega) (by omega) hF.bl.size ?_
            intro v2659 y2659 hown hgrow hat
            simp only [Act.put, List.setIfInBounds_toArray, List.set_cons_zero, List.set_cons_succ]
            have hF := (hF.swap.apA HL.out.2 hown hgrow hat).swap
            obtain ⟨g2659, c2659, hv2659⟩ := someF hF.b (by rcases hat with e | e <;> rw [e] <;> simp [Value.ownBlock])
            rw [← HL.out.2] at hv2659
            subst hv2659
            clear hown hgrow hat
            refine ⟨KS.of hF.bl, ?_⟩
            refine fl_take (i := 10) (d := 29) (v := .agg #[.int .i64 (N : Int), .slice (some ⟨g265, 0, none⟩) n c265, .slice (some ⟨g2659, 0, none⟩) n c2659]) rfl rfl rfl (by kernel_rfl) (by kernel_rfl) (by kernel_rfl) (KS.of hF.bl) ?_ ?_
            · intro w' hk; go_simp
            simp only [Act.put, List.setIfInBounds_toArray, List.set_cons_zero, List.set_cons_succ]
            refine fl_take (i := 11) (d := 30) (v := .agg #[.int .i64 0, .int .i64 (N : Int), .slice (some ⟨g265, 0, none⟩) n c265, .slice (some ⟨g2659, 0, none⟩) n c2659, .slice none 0 0]) rfl rfl rfl (by kernel_rfl) (by kernel_rfl) (by kernel_rfl) (KS.of hF.bl) ?_ ?_
            · intro w' hk; go_simp
            simp only [Act.put, List.setIfInBounds_toArray, List.set_cons_zero, List.set_cons_succ]
            refine wpAnyH_all (rs := [12]) (by kernel_rfl) (by simp) ?_
            intro i hi
            obtain rfl : i = 12 := by simpa using hi
            clear hi
            refine op_val (d := 6) (v := .pointer (some ⟨(y2659).heap.size, 0, none⟩)) (w' := (y2659).alloc (.cells #[.int .i64 0, .int .i64 0, .slice none 0 0, .slice none 0 0, .slice none 0 0] 56)) rfl rfl rfl (by go_simp; try rfl) ?_
            simp only [Act.put, List.setIfInBounds_toArray, List.set_cons_zero, List.set_cons_succ]
            have hF := hF.mkO
            refine ⟨KS.of hF.bl, ?_⟩
            obtain ⟨g265912, hg265912⟩ : ∃ x, x = (y2659).heap.size := ⟨_, rfl⟩
            rw [← hg265912] at hF ⊢
            generalize (y2659).alloc (.cells #[.int .i64 0, .int .i64 0, .slice none 0 0, .slice none 0 0, .slice none 0 0] 56) = y265912 at hF ⊢
            clear hg265912
            refine wpAnyH_all (rs := [13]) (by kernel_rfl) (by simp) ?_
            intro i hi
            obtain rfl : i = 13 := by simpa using hi
            clear hi
            refine op_store rfl rfl rfl _ _ _ rfl g265912 #[.int .i64 0, .int .i64 (N : Int), .slice (some ⟨g265, 0, none⟩) n c265, .slice (some ⟨g2659, 0, none⟩) n c2659, .slice none 0 0] rfl rfl (there_nF (hF.o g265912 rfl).1 rfl) (by kernel_rfl) (by simp [Value.oneCell']) ?_
            have hG : FO V ((y265912).setCells g265912 0 [.int .i64 0, .int .i64 (N : Int), .slice (some ⟨g265, 0, none⟩) n c265, .slice (some ⟨g2659, 0, none⟩) n c2659, .slice none 0 0]) g265912 (N : Int) (.slice (some ⟨g265, 0, none⟩) n c265) (.slice (some ⟨g2659, 0, none⟩) n c2659) (.slice none 0 0) s t [] := FO.of hF
            refine ⟨KS.of hG.bl, wpAnyH_done (by kernel_rfl) (NoPanic.normal ?_) _⟩
            go_wp2_with (fail)
            go_meet
            exact ⟨_, _, _, _, _, rfl, hG⟩
          · clear hi
            refine op_val (d := 6) (v := .pointer (some ⟨(y265).heap.size, 0, none⟩)) (w' := (y265).alloc (.cells #[.int .i64 0, .int .i64 0, .slice none 0 0, .slice none 0 0, .slice none 0 0] 56)) rfl rfl rfl (by go_simp; try rfl) ?_
            simp only [Act.put, List.setIfInBounds_toArray, List.set_cons_zero, List.set_cons_succ]
            have hF := hF.mkO
            refine ⟨KS.of hF.bl, ?_⟩
            obtain ⟨g26512, hg26512⟩ : ∃ x, x = (y265).heap.size := ⟨_, rfl⟩
            rw [← hg26512] at hF ⊢
            generalize (y265).alloc (.cells #[.int .i64 0, .int .i64 0, .slice none 0 0, .slice none 0 0, .slice none 0 0] 56) = y26512 at hF ⊢
            clear hg26512
            refine wpAnyH_all (rs := [9]) (by kernel_rfl) (by simp) ?_
            intro i hi
            obtain rfl : i = 9 := by simpa using hi
            clear hi
            refine op_appF rfl rfl rfl _ _ 22 rfl V.heap.size 2 i0 (.int .i64 0) 1 8 Try.underlying22 hi0 hz0 hz1 hz2 rfl (by decide) (.slice (some ⟨g26, 0, none⟩) 0 0) 0 [] rfl hF.b ⟨gb, ob, none⟩ n d (t.map (Value.int .i64)) rfl (by rw [HL.out.2]; simp) (row_news (HRD.out.2.below hF.bl)) (ones_int _) (by unfold maxLen; omega) (by omega) hF.bl.size ?_
            intro v265129 y265129 hown hgrow hat
            simp only [Act.put, List.setIfInBounds_toArray, List.set_cons_zero, List.set_cons_succ]
            have hF := (hF.swap.apA HL.out.2 hown hgrow hat).swap
            obtain ⟨g265129, c265129, hv265129⟩ := someF hF.b (by rcases hat with e | e <;> rw [e] <;> simp [Value.ownBlock])
            rw [← HL.out.2] at hv265129
            subst hv265129
            clear hown hgrow hat
            refine ⟨KS.of hF.bl, ?_⟩
            refine fl_take (i := 10) (d := 29) (v := .agg #[.int .i64 (N : Int), .slice (some ⟨g265, 0, none⟩) n c265, .slice (some ⟨g265129, 0, none⟩) n c265129]) rfl rfl rfl (by kernel_rfl) (by kernel_rfl) (by kernel_rfl) (KS.of hF.bl) ?_ ?_
            · intro w' hk; go_simp
            simp only [Act.put, List.setIfInBounds_toArray, List.set_cons_zero, List.set_cons_succ]
            refine fl_take (i := 11) (d := 30) (v := .agg #[.int .i64 0, .int .i64 (N : Int), .slice (some ⟨g265, 0, none⟩) n c265, .slice (some ⟨g265129, 0, none⟩) n c265129, .slice none 0 0]) rfl rfl rfl (by kernel_rfl) (by kernel_rfl) (by kernel_rfl) (KS.of hF.bl) ?_ ?_
            · intro w' hk; go_simp
            simp only [Act.put, List.setIfInBounds_toArray, List.set_cons_zero, List.set_cons_succ]
            refine wpAnyH_all (rs := [13]) (by kernel_rfl) (by simp) ?_
            intro i hi
            obtain rfl : i = 13 := by simpa using hi
            clear hi
            refine op_store rfl rfl rfl _ _ _ rfl g26512 #[.int .i64 0, .int .i64 (N : Int), .slice (some ⟨g265, 0, none⟩) n c265, .slice (some ⟨g265129, 0, none⟩) n c265129, .slice none 0 0] rfl rfl (there_nF (hF.o g26512 rfl).1 rfl) (by kernel_rfl) (by simp [Value.oneCell']) ?_
            have hG : FO V ((y265129).setCells g26512 0 [.int .i64 0, .int .i64 (N : Int), .slice (some ⟨g265, 0, none⟩) n c265, .slice (some ⟨g265129, 0, none⟩) n c265129, .slice none 0 0]) g26512 (N : Int) (.slice (some ⟨g265, 0, none⟩) n c265) (.slice (some ⟨g265129, 0, none⟩) n c265129) (.slice none 0 0) s t [] := FO.of hF
            refine ⟨KS.of hG.bl, wpAnyH_done (by kernel_rfl) (NoPanic.normal ?_) _⟩
            go_wp2_with (fail)
            go_meet
            exact ⟨_, _, _, _, _, rfl, hG⟩
        · clear hi
          refine op_val (d := 6) (v := .pointer (some ⟨(y26).heap.size, 0, none⟩)) (w' := (y26).alloc (.cells #[.int .i64 0, .int .i64 0, .slice none 0 0, .slice none 0 0, .slice none 0 0] 56)) rfl rfl rfl (by go_simp; try rfl) ?_
          simp only [Act.put, List.setIfInBounds_toArray, List.set_cons_zero, List.set_cons_succ]
          have hF := hF.mkO
          refine ⟨KS.of hF.bl, ?_⟩
          obtain ⟨g2612, hg2612⟩ : ∃ x, x = (y26).heap.size := ⟨_, rfl⟩
          rw [← hg2612] at hF ⊢
          generalize (y26).alloc (.cells #[.int .i64 0, .int .i64 0, .slice none 0 0, .slice none 0 0, .slice none 0 0] 56) = y2612 at hF ⊢
          clear hg2612
          refine wpAnyH_all (rs := [5]) (by kernel_rfl) (by simp) ?_
          intro i hi
          obtain rfl : i = 5 := by simpa using hi
          clear hi
          refine op_appF rfl rfl rfl _ _ 22 rfl V.heap.size 2 i0 (.int .i64 0) 1 8 Try.underlying22 hi0 hz0 hz1 hz2 rfl (by decide) (.slice (some ⟨g2, 0, none⟩) 0 0) 0 [] rfl hF.a ⟨ga, oa, none⟩ n c (s.map (Value.int .i64)) rfl (by rw [HL.out.1]; simp) (row_news (HRD.out.1.below hF.bl)) (ones_int _) (by unfold maxLen; omega) (by omega) hF.bl.size ?_
          intro v26125 y26125 hown hgrow hat
          simp only [Act.put, List.setIfInBounds_toArray, List.set_cons_zero, List.set_cons_succ]
          have hF := hF.apA HL.out.1 hown hgrow hat
          obtain ⟨g26125, c26125, hv26125⟩ := someF hF.a (by rcases hat with e | e <;> rw [e] <;> simp [Value.ownBlock])
          rw [← HL.out.1] at hv26125
          subst hv26125
          clear hown hgrow hat
          refine ⟨KS.of hF.bl, ?_⟩
          refine wpAnyH_all (rs := [9]) (by kernel_rfl) (by simp) ?_
          intro i hi
          obtain rfl : i = 9 := by simpa using hi
          clear hi
          refine op_appF rfl rfl rfl _ _ 22 rfl V.heap.size 2 i0 (.int .i64 0) 1 8 Try.underlying22 hi0 hz0 hz1 hz2 rfl (by decide) (.slice (some ⟨g26, 0, none⟩) 0 0) 0 [] rfl hF.b ⟨gb, ob, none⟩ n d (t.map (Value.int .i64)) rfl (by rw [HL.out.2]; simp) (row_news (HRD.out.2.below hF.bl)) (ones_int _) (by unfold maxLen; omega) (by omega) hF.bl.size ?_
          intro v261259 y261259 hown hgrow hat
          simp only [Act.put, List.setIfInBounds_toArray, List.set_cons_zero, List.set_cons_succ]
          have hF := (hF.swap.apA HL.out.2 hown hgrow hat).swap
          obtain ⟨g261259, c261259, hv261259⟩ := someF hF.b (by rcases hat with e | e <;> rw [e] <;> simp [Value.ownBlock])
          rw [← HL.out.2] at hv261259
          subst hv261259
          clear hown hgrow hat
          refine ⟨KS.of hF.bl, ?_⟩
          refine fl_take (i := 10) (d := 29) (v := .agg #[.int .i64 (N : Int), .slice (some ⟨g26125, 0, none⟩) n c26125, .slice (some ⟨g261259, 0, none⟩) n c261259]) rfl rfl rfl (by kernel_rfl) (by kernel_rfl) (by kernel_rfl) (KS.of hF.bl) ?_ ?_
          · intro w' hk; go_simp
          simp only [Act.put, List.setIfInBounds_toArray, List.set_cons_zero, List.set_cons_succ]
          refine fl_take (i := 11) (d := 30) (v := .agg #[.int .i64 0, .int .i64 (N : Int), .slice (some ⟨g26125, 0, none⟩) n c26125, .slice (some ⟨g261259, 0, none⟩) n c261259, .slice none 0 0]) rfl rfl rfl (by kernel_rfl) (by kernel_rfl) (by kernel_rfl) (KS.of hF.bl) ?_ ?_
          · intro w' hk; go_simp
          simp only [Act.put, List.setIfInBounds_toArray, List.set_cons_zero, List.set_cons_succ]
          refine wpAnyH_all (rs := [13]) (by kernel_rfl) (by simp) ?_
          intro i hi
          obtain rfl : i = 13 := by simpa using hi
          clear hi
          refine op_store rfl rfl rfl _ _ _ rfl g2612 #[.int .i64 0, .int .i64 (N : Int), .slice (some ⟨g26125, 0, none⟩) n c26125, .slice (some ⟨g261259, 0, none⟩) n c261259, .slice none 0 0] rfl rfl (there_nF (hF.o g2612 rfl).1 rfl) (by kernel_rfl) (by simp [Value.oneCell']) ?_
          have hG : FO V ((y261259).setCells g2612 0 [.int .i64 0, .int .i64 (N : Int), .slice (some ⟨g26125, 0, none⟩) n c26125, .slice (some ⟨g261259, 0, none⟩) n c261259, .slice none 0 0]) g2612 (N : Int) (.slice (some ⟨g26125, 0, none⟩) n c26125) (.slice (some ⟨g261259, 0, none⟩) n c261259) (.slice none 0 0) s t [] := FO.of hF
          refine ⟨KS.of hG.bl, wpAnyH_done (by kernel_rfl) (NoPanic.normal ?_) _⟩
          go_wp2_with (fail)
          go_meet
          exact ⟨_, _, _, _, _, rfl, hG⟩
      · clear hi
        refine op_val (d := 6) (v := .pointer (some ⟨(y2).heap.size, 0, none⟩)) (w' := (y2).alloc (.cells #[.int .i64 0, .int .i64 0, .slice none 0 0, .slice none 0 0, .slice none 0 0] 56)) rfl rfl rfl (by go_simp; try rfl) ?_
        simp only [Act.put, List.setIfInBounds_toArray, List.set_cons_zero, List.set_cons_succ]
        have hF := hF.mkO
        refine ⟨KS.of hF.bl, ?_⟩
        obtain ⟨g212, hg212⟩ : ∃ x, x = (y2).heap.size := ⟨_, rfl⟩
        rw [← hg212] at hF ⊢
        generalize (y2).alloc (.cells #[.int .i64 0, .int .i64 0, .slice none 0 0, .slice none 0 0, .slice none 0 0] 56) = y212 at hF ⊢
        clear hg212
        refine wpAnyH_all (rs := [5, 6]) (by kernel_rfl) (by simp) ?_
        intro i hi
        rcases (by simpa using hi : i = 5 ∨ i = 6) with rfl | rfl
        · clear hi
          refine op_appF rfl rfl rfl _ _ 22 rfl V.heap.size 2 i0 (.int .i64 0) 1 8 Try.underlying22 hi0 hz0 hz1 hz2 rfl (by decide) (.slice (some ⟨g2, 0, none⟩) 0 0) 0 [] rfl hF.a ⟨ga, oa, none⟩ n c (s.map (Value.int .i64)) rfl (by rw [HL.out.1]; simp) (row_news (HRD.out.1.below hF.bl)) (ones_int _) (by unfold maxLen; omega) (by omega) hF.bl.size ?_
          intro v2125 y2125 hown hgrow hat
          simp only [Act.put, List.setIfInBounds_toArray, List.set_cons_zero, List.set_cons_succ]
          have hF := hF.apA HL.out.1 hown hgrow hat
          obtain ⟨g2125, c2125, hv2125⟩ := someF hF.a (by rcases hat with e | e <;> rw [e] <;> simp [Value.ownBlock])
          rw [← HL.out.1] at hv2125
          subst hv2125
          clear hown hgrow hat
          refine ⟨KS.of hF.bl, ?_⟩
          refine wpAnyH_all (rs := [6]) (by kernel_rfl) (by simp) ?_
          intro i hi
          obtain rfl : i = 6 := by simpa using hi
          clear hi
          refine op_val (d := 25) (v := .slice (some ⟨(y2125).heap.size, 0, none⟩) 0 0) (w' := (y2125).alloc (.cells #[] 2)) rfl rfl rfl (by go_simp; try rfl) ?_
          simp only [Act.put, List.setIfInBounds_toArray, List.set_cons_zero, List.set_cons_succ]
          have hF := hF.swap.mkA.swap
          refine ⟨KS.of hF.bl, ?_⟩
          obtain ⟨g21256, hg21256⟩ : ∃ x, x = (y2125).heap.size := ⟨_, rfl⟩
          rw [← hg21256] at hF ⊢
          generalize (y2125).alloc (.cells #[] 2) = y21256 at hF ⊢
          clear hg21256
          refine wpAnyH_all (rs := [9]) (by kernel_rfl) (by simp) ?_
          intro i hi
          obtain rfl : i = 9 := by simpa using hi
          clear hi
          refine op_appF rfl rfl rfl _ _ 22 rfl V.heap.size 2 i0 (.int .i64 0) 1 8 Try.underlying22 hi0 hz0 hz1 hz2 rfl (by decide) (.slice (some ⟨g21256, 0, none⟩) 0 0) 0 [] rfl hF.b ⟨gb, ob, none⟩ n d (t.map (Value.int .i64)) rfl (by rw [HL.out.2]; simp) (row_news (HRD.out.2.below hF.bl)) (ones_int _) (by unfold maxLen; omega) (by omega) hF.bl.size ?_
          intro v212569 y212569 hown hgrow hat
          simp only [Act.put, List.setIfInBounds_toArray, List.set_cons_zero, List.set_cons_succ]
          have hF := (hF.swap.apA HL.out.2 hown hgrow hat).swap
          obtain ⟨g212569, c212569, hv212569⟩ := someF hF.b (by rcases hat with e | e <;> rw [e] <;> simp [Value.ownBlock])
          rw [← HL.out.2] at hv212569
          subst hv212569
          clear hown hgrow hat
          refine ⟨KS.of hF.bl, ?_⟩
          refine fl_take (i := 10) (d := 29) (v := .agg #[.int .i64 (N : Int), .slice (some ⟨g2125, 0, none⟩) n c2125, .slice (some ⟨g212569, 0, none⟩) n c212569]) rfl rfl rfl (by kernel_rfl) (by kernel_rfl) (by kernel_rfl) (KS.of hF.bl) ?_ ?_
          · intro w' hk; go_simp
          simp only [Act.put, List.setIfInBounds_toArray, List.set_cons_zero, List.set_cons_succ]
          refine fl_take (i := 11) (d := 30) (v := .agg #[.int .i64 0, .int .i64 (N : Int), .slice (some ⟨g2125, 0, none⟩) n c2125, .slice (some ⟨g212569, 0, none⟩) n c212569, .slice none 0 0]) rfl rfl rfl (by kernel_rfl) (by kernel_rfl) (by kernel_rfl) (KS.of hF.bl) ?_ ?_
          · intro w' hk; go_simp
          simp only [Act.put, List.setIfInBounds_toArray, List.set_cons_zero, List.set_cons_succ]
          refine wpAnyH_all (rs := [13]) (by kernel_rfl) (by simp) ?_
          intro i hi
          obtain rfl : i = 13 := by simpa using hi
          clear hi
          refine op_store rfl rfl rfl _ _ _ rfl g212 #[.int .i64 0, .int .i64 (N : Int), .slice (some ⟨g2125, 0, none⟩) n c2125, .slice (some ⟨g212569, 0, none⟩) n c212569, .slice none 0 0] rfl rfl (there_nF (hF.o g212 rfl).1 rfl) (by kernel_rfl) (by simp [Value.oneCell']) ?_
          have hG : FO V ((y212569).setCells g212 0 [.int .i64 0, .int .i64 (N : Int), .slice (some ⟨g2125, 0, none⟩) n c2125, .slice (some ⟨g212569, 0, none⟩) n c212569, .slice none 0 0]) g212 (N : Int) (.slice (some ⟨g2125, 0, none⟩) n c2125) (.slice (some ⟨g212569, 0, none⟩) n c212569) (.slice none 0 0) s t [] := FO.of hF
          refine ⟨KS.of hG.bl, wpAnyH_done (by kernel_rfl) (NoPanic.normal ?_) _⟩
          go_wp2_with (fail)
          go_meet
          exact ⟨_, _, _, _, _, rfl, hG⟩
        · clear hi
          refine op_val (d := 25) (v := .slice (some ⟨(y212).heap.size, 0, none⟩) 0 0) (w' := (y212).alloc (.cells #[] 2)) rfl rfl rfl (by go_simp; try rfl) ?_
          simp only [Act.put, List.setIfInBounds_toArray, List.set_cons_zero, List.set_cons_succ]
          have hF := hF.swap.mkA.swap
          refine ⟨KS.of hF.bl, ?_⟩
          obtain ⟨g2126, hg2126⟩ : ∃ x, x = (y212).heap.size := ⟨_, rfl⟩
          rw [← hg2126] at hF ⊢
          generalize (y212).alloc (.cells #[] 2) = y2126 at hF ⊢
          clear hg2126
          refine wpAnyH_all (rs := [5]) (by kernel_rfl) (by simp) ?_
          intro i hi
          obtain rfl : i = 5 := by simpa using hi
          clear hi
          refine op_appF rfl rfl rfl _ _ 22 rfl V.heap.size 2 i0 (.int .i64 0) 1 8 Try.underlying22 hi0 hz0 hz1 hz2 rfl (by decide) (.slice (some ⟨g2, 0, none⟩) 0 0) 0 [] rfl hF.a ⟨ga, oa, none⟩ n c (s.map (Value.int .i64)) rfl (by rw [HL.out.1]; simp) (row_news (HRD.out.1.below hF.bl)) (ones_int _) (by unfold maxLen; omega) (by omega) hF.bl.size ?_
          intro v21265 y21265 hown hgrow hat
          simp only [Act.put, List.setIfInBounds_toArray, List.set_cons_zero, List.set_cons_succ]
          have hF := hF.apA HL.out.1 hown hgrow hat
          obtain ⟨g21265, c21265, hv21265⟩ := someF hF.a (by rcases hat with e | e <;> rw [e] <;> simp [Value.ownBlock])
          rw [← HL.out.1] at hv21265
          subst hv21265
          clear hown hgrow hat
          refine ⟨KS.of hF.bl, ?_⟩
          refine wpAnyH_all (rs := [9]) (by kernel_rfl) (by simp) ?_
          intro i hi
          obtain rfl : i = 9 := by simpa using hi
          clear hi
          refine op_appF rfl rfl rfl _ _ 22 rfl V.heap.size 2 i0 (.int .i64 0) 1 8 Try.underlying22 hi0 hz0 hz1 hz2 rfl (by decide) (.slice (some ⟨g2126, 0, none⟩) 0 0) 0 [] rfl hF.b ⟨gb, ob, none⟩ n d (t.map (Value.int .i64)) rfl (by rw [HL.out.2]; simp) (row_news (HRD.out.2.below hF.bl)) (ones_int _) (by unfold maxLen; omega) (by omega) hF.bl.size ?_
          intro v212659 y212659 hown hgrow hat
          simp only [Act.put, List.setIfInBounds_toArray, List.set_cons_zero, List.set_cons_succ]
          have hF := (hF.swap.apA HL.out.2 hown hgrow hat).swap
          obtain ⟨g212659, c212659, hv212659⟩ := someF hF.b (by rcases hat with e | e <;> rw [e] <;> simp [Value.ownBlock])
          rw [← HL.out.2] at hv212659
          subst hv212659
          clear hown hgrow hat
          refine ⟨KS.of hF.bl, ?_⟩
          refine fl_take (i := 10) (d := 29) (v := .agg #[.int .i64 (N : Int), .slice (some ⟨g21265, 0, none⟩) n c21265, .slice (some ⟨g212659, 0, none⟩) n c212659]) rfl rfl rfl (by kernel_rfl) (by kernel_rfl) (by kernel_rfl) (KS.of hF.bl) ?_ ?_
          · intro w' hk; go_simp
          simp only [Act.put, List.setIfInBounds_toArray, List.set_cons_zero, List.set_cons_succ]
          refine fl_take (i := 11) (d := 30) (v := .agg #[.int .i64 0, .int .i64 (N : Int), .slice (some ⟨g21265, 0, none⟩) n c21265, .slice (some ⟨g212659, 0, none⟩) n c212659, .slice none 0 0]) rfl rfl rfl (by kernel_rfl) (by kernel_rfl) (by kernel_rfl) (KS.of hF.bl) ?_ ?_
          · intro w' hk; go_simp
          simp only [Act.put, List.setIfInBounds_toArray, List.set_cons_zero, List.set_cons_succ]
          refine wpAnyH_all (rs := [13]) (by kernel_rfl) (by simp) ?_
          intro i hi
          obtain rfl : i = 13 := by simpa using hi
          clear hi
          refine op_store rfl rfl rfl _ _ _ rfl g212 #[.int .i64 0, .int .i64 (N : Int), .slice (some ⟨g21265, 0, none⟩) n c21265, .slice (some ⟨g212659, 0, none⟩) n c212659, .slice none 0 0] rfl rfl (there_nF (hF.o g212 rfl).1 rfl) (by kernel_rfl) (by simp [Value.oneCell']) ?_
          have hG : FO V ((y212659).setCells g212 0 [.int .i64 0, .int .i64 (N : Int), .slice (some ⟨g21265, 0, none⟩) n c21265, .slice (some ⟨g212659, 0, none⟩) n c212659, .slice none 0 0]) g212 (N : Int) (.slice (some ⟨g21265, 0, none⟩) n c21265) (.slice (some ⟨g212659, 0, none⟩) n c212659) (.slice none 0 0) s t [] := FO.of hF
          refine ⟨KS.of hG.bl, wpAnyH_done (by kernel_rfl) (NoPanic.normal ?_) _⟩
          go_wp2_with (fail)
          go_meet
          exact ⟨_, _, _, _, _, rfl, hG⟩
    · clear hi
      refine op_val (d := 25) (v := .slice (some ⟨(V.drew).heap.size, 0, none⟩) 0 0) (w' := (V.drew).alloc (.cells #[] 2)) rfl rfl rfl (by go_simp; try rfl) ?_
      simp only [Act.put, List.setIfInBounds_toArray, List.set_cons_zero, List.set_cons_succ]
      have hF := hF.swap.mkA.swap
      refine ⟨KS.of hF.bl, ?_⟩
      obtain ⟨g6, hg6⟩ : ∃ x, x = (V.drew).heap.size := ⟨_, rfl⟩
      rw [← hg6] at hF ⊢
      generalize (V.drew).alloc (.cells #[] 2) = y6 at hF ⊢
      clear hg6
      refine wpAnyH_all (rs := [2, 12]) (by kernel_rfl) (by simp) ?_
      intro i hi
      rcases (by simpa using hi : i = 2 ∨ i = 12) with rfl | rfl
      · clear hi
        refine op_val (d := 21) (v := .slice (some ⟨(y6).heap.size, 0, none⟩) 0 0) (w' := (y6).alloc (.cells #[] 2)) rfl rfl rfl (by go_simp; try rfl) ?_
        simp only [Act.put, List.setIfInBounds_toArray, List.set_cons_zero, List.set_cons_succ]
        have hF := hF.mkA
        refine ⟨KS.of hF.bl, ?_⟩
        obtain ⟨g62, hg62⟩ : ∃ x, x = (y6).heap.size := ⟨_, rfl⟩
        rw [← hg62] at hF ⊢
        generalize (y6).alloc (.cells #[] 2) = y62 at hF ⊢
        clear hg62
        refine wpAnyH_all (rs := [5, 12]) (by kernel_rfl) (by simp) ?_
        intro i hi
        rcases (by simpa using hi : i = 5 ∨ i = 12) with rfl | rfl
        · clear hi
          refine op_appF rfl rfl rfl _ _ 22 rfl V.heap.size 2 i0 (.int .i64 0) 1 8 Try.underlying22 hi0 hz0 hz1 hz2 rfl (by decide) (.slice (some ⟨g62, 0, none⟩) 0 0) 0 [] rfl hF.a ⟨ga, oa, none⟩ n c (s.map (Value.int .i64)) rfl (by rw [HL.out.1]; simp) (row_news (HRD.out.1.below hF.bl)) (ones_int _) (by unfold maxLen; omega) (by omega) hF.bl.size ?_
          intro v625 y625 hown hgrow hat
          simp only [Act.put, List.setIfInBounds_toArray, List.set_cons_zero, List.set_cons_succ]
          have hF := hF.apA HL.out.1 hown hgrow hat
          obtain ⟨g625, c625, hv625⟩ := someF hF.a (by rcases hat with e | e <;> rw [e] <;> simp [Value.ownBlock])
          rw [← HL.out.1] at hv625
          subst hv625
          clear hown hgrow hat
          refine ⟨KS.of hF.bl, ?_⟩
          refine wpAnyH_all (rs := [9, 12]) (by kernel_rfl) (by simp) ?_
          intro i hi
          rcases (by simpa using hi : i = 9 ∨ i = 12) with rfl | rfl
          · clear hi
            refine op_appF rfl rfl rfl _ _ 22 rfl V.heap.size 2 i0 (.int .i64 0) 1 8 Try.underlying22 hi0 hz0 hz1 hz2 rfl (by decide) (.slice (some ⟨g6, 0, none⟩) 0 0) 0 [] rfl hF.b ⟨gb, ob, none⟩ n d (t.map (Value.int .i64)) rfl (by rw [HL.out.2]; simp) (row_news (HRD.out.2.below hF.bl)) (ones_int _) (by unfold maxLen; omega) (by omega) hF.bl.size ?_
            intro v6259 y6259 hown hgrow hat
            simp only [Act.put, List.setIfInBounds_toArray, List.set_cons_zero, List.set_cons_succ]
            have hF := (hF.swap.apA HL.out.2 hown hgrow hat).swap
            obtain ⟨g6259, c6259, hv6259⟩ := someF hF.b (by rcases hat with e | e <;> rw [e] <;> simp [Value.ownBlock])
            rw [← HL.out.2] at hv6259
            subst hv6259
            clear hown hgrow hat
            refine ⟨KS.of hF.bl, ?_⟩
            refine fl_take (i := 10) (d := 29) (v := .agg #[.int .i64 (N : Int), .slice (some ⟨g625, 0, none⟩) n c625, .slice (some ⟨g6259, 0, none⟩) n c6259]) rfl rfl rfl (by kernel_rfl) (by kernel_rfl) (by kernel_rfl) (KS.of hF.bl) ?_ ?_
            · intro w' hk; go_simp
            simp only [Act.put, List.setIfInBounds_toArray, List.set_cons_zero, List.set_cons_succ]
            refine fl_take (i := 11) (d := 30) (v := .agg #[.int .i64 0, .int .i64 (N : Int), .slice (some ⟨g625, 0, none⟩) n c625, .slice (some ⟨g6259, 0, none⟩) n c6259, .slice none 0 0]) rfl rfl rfl (by kernel_rfl) (by kernel_rfl) (by kernel_rfl) (KS.of hF.bl) ?_ ?_
            · intro w' hk; go_simp
            simp only [Act.put, List.setIfInBounds_toArray, List.set_cons_zero, List.set_cons_succ]
            refine wpAnyH_all (rs := [12]) (by kernel_rfl) (by simp) ?_
            intro i hi
            obtain rfl : i = 12 := by simpa using hi
            clear hi
            refine op_val (d := 6) (v := .pointer (some ⟨(y6259).heap.size, 0, none⟩)) (w' := (y6259).alloc (.cells #[.int .i64 0, .int .i64 0, .slice none 0 0, .slice none 0 0, .slice none 0 0] 56)) rfl rfl rfl (by go_simp; try rfl) ?_
            simp only [Act.put, List.setIfInBounds_toArray, List.set_cons_zero, List.set_cons_succ]
            have hF := hF.mkO
            refine ⟨KS.of hF.bl, ?_⟩
            obtain ⟨g625912, hg625912⟩ : ∃ x, x = (y6259).heap.size := ⟨_, rfl⟩
            rw [← hg625912] at hF ⊢
            generalize (y6259).alloc (.cells #[.int .i64 0, .int .i64 0, .slice none 0 0, .slice none 0 0, .slice none 0 0] 56) = y625912 at hF ⊢
            clear hg625912
            refine wpAnyH_all (rs := [13]) (by kernel_rfl) (by simp) ?_
            intro i hi
            obtain rfl : i = 13 := by simpa using hi
            clear hi
            refine op_store rfl rfl rfl _ _ _ rfl g625912 #[.int .i64 0, .int .i64 (N : Int), .slice (some ⟨g625, 0, none⟩) n c625, .slice (some ⟨g6259, 0, none⟩) n c6259, .slice none 0 0] rfl rfl (there_nF (hF.o g625912 rfl).1 rfl) (by kernel_rfl) (by simp [Value.oneCell']) ?_
            have hG : FO V ((y625912).setCells g625912 0 [.int .i64 0, .int .i64 (N : Int), .slice (some ⟨g625, 0, none⟩) n c625, .slice (some ⟨g6259, 0, none⟩) n c6259, .slice none 0 0]) g625912 (N : Int) (.slice (some ⟨g625, 0, none⟩) n c625) (.slice (some ⟨g6259, 0, none⟩) n c6259) (.slice none 0 0) s t [] := FO.of hF
            refine ⟨KS.of hG.bl, wpAnyH_done (by kernel_rfl) (NoPanic.normal ?_) _⟩
            go_wp2_with (fail)
            go_meet
            exact ⟨_, _, _, _, _, rfl, hG⟩
          · clear hi
            refine op_val (d := 6) (v := .pointer (some ⟨(y625).heap.size, 0, none⟩)) (w' := (y625).alloc (.cells #[.int .i64 0, .int .i64 0, .slice none 0 0, .slice none 0 0, .slice none 0 0] 56)) rfl rfl rfl (by go_simp; try rfl) ?_
            simp only [Act.put, List.setIfInBounds_toArray, List.set_cons_zero, List.set_cons_succ]
            have hF := hF.mkO
            refine ⟨KS.of hF.bl, ?_⟩
            obtain ⟨g62512, hg62512⟩ : ∃ x, x = (y625).heap.size := ⟨_, rfl⟩
            rw [← hg62512] at hF ⊢
            generalize (y625).alloc (.cells #[.int .i64 0, .int .i64 0, .slice none 0 0, .slice none 0 0, .slice none 0 0] 56) = y62512 at hF ⊢
            clear hg62512
            refine wpAnyH_all (rs := [9]) (by kernel_rfl) (by simp) ?_
            intro i hi
            obtain rfl : i = 9 := by simpa using hi
            clear hi
            refine op_appF rfl rfl rfl _ _ 22 rfl V.heap.size 2 i0 (.int .i64 0) 1 8 Try.underlying22 hi0 hz0 hz1 hz2 rfl (by decide) (.slice (some ⟨g6, 0, none⟩) 0 0) 0 [] rfl hF.b ⟨gb, ob, none⟩ n d (t.map (Value.int .i64)) rfl (by rw [HL.out.2]; simp) (row_news (HRD.out.2.below hF.bl)) (ones_int _) (by unfold maxLen; omega) (by omega) hF.bl.size ?_
            intro v625129 y625129 hown hgrow hat
            simp only [Act.put, List.setIfInBounds_toArray, List.set_cons_zero, List.set_cons_succ]
            have hF := (hF.swap.apA HL.out.2 hown hgrow hat).swap
            obtain ⟨g625129, c625129, hv625129⟩ := someF hF.b (by rcases hat with e | e <;> rw [e] <;> simp [Value.ownBlock])
            rw [← HL.out.2] at hv625129
            subst hv625129
            clear hown hgrow hat
            refine ⟨KS.of hF.bl, ?_⟩
            refine fl_take (i := 10) (d := 29) (v := .agg #[.int .i64 (N : Int), .slice (some ⟨g625, 0, none⟩) n c625, .slice (some ⟨g625129, 0, none⟩) n c625129]) rfl rfl rfl (by kernel_rfl) (by kernel_rfl) (by kernel_rfl) (KS.of hF.bl) ?_ ?_
            · intro w' hk; go_simp
            simp only [Act.put, List.setIfInBounds_toArray, List.set_cons_zero, List.set_cons_succ]
            refine fl_take (i := 11) (d := 30) (v := .agg #[.int .i64 0, .int .i64 (N : Int), .slice (some ⟨g625, 0, none⟩) n c625, .slice (some ⟨g625129, 0, none⟩) n c625129, .slice none 0 0]) rfl rfl rfl (by kernel_rfl) (by kernel_rfl) (by kernel_rfl) (KS.of hF.bl) ?_ ?_
            · intro w' hk; go_simp
            simp only [Act.put, List.setIfInBounds_toArray, List.set_cons_zero, List.set_cons_succ]
            refine wpAnyH_all (rs := [13]) (by kernel_rfl) (by simp) ?_
            intro i hi
            obtain rfl : i = 13 := by simpa using hi
            clear hi
            refine op_store rfl rfl rfl _ _ _ rfl g62512 #[.int .i64 0, .int .i64 (N : Int), .slice (some ⟨g625, 0, none⟩) n c625, .slice (some ⟨g625129, 0, none⟩) n c625129, .slice none 0 0] rfl rfl (there_nF (hF.o g62512 rfl).1 rfl) (by kernel_rfl) (by simp [Value.oneCell']) ?_
            have hG : FO V ((y625129).setCells g62512 0 [.int .i64 0, .int .i64 (N : Int), .slice (some ⟨g625, 0, none⟩) n c625, .slice (some ⟨g625129, 0, none⟩) n c625129, .slice none 0 0]) g62512 (N : Int) (.slice (some ⟨g625, 0, none⟩) n c625) (.slice (some ⟨g625129, 0, none⟩) n c625129) (.slice none 0 0) s t [] := FO.of hF
            refine ⟨KS.of hG.bl, wpAnyH_done (by kernel_rfl) (NoPanic.normal ?_) _⟩
            go_wp2_with (fail)
            go_meet
            exact ⟨_, _, _, _, _, rfl, hG⟩
        · clear hi
          refine op_val (d := 6) (v := .pointer (some ⟨(y62).heap.size, 0, none⟩)) (w' := (y62).alloc (.cells #[.int .i64 0, .int .i64 0, .slice none 0 0, .slice none 0 0, .slice none 0 0] 56)) rfl rfl rfl (by go_simp; try rfl) ?_
          simp only [Act.put, List.setIfInBounds_toArray, List.set_cons_zero, List.set_cons_succ]
          have hF := hF.mkO
          refine ⟨KS.of hF.bl, ?_⟩
          obtain ⟨g6212, hg6212⟩ : ∃ x, x = (y62).heap.size := ⟨_, rfl⟩
          rw [← hg6212] at hF ⊢
          generalize (y62).alloc (.cells #[.int .i64 0, .int .i64 0, .slice none 0 0, .slice none 0 0, .slice none 0 0] 56) = y6212 at hF ⊢
          clear hg6212
          refine wpAnyH_all (rs := [5]) (by kernel_rfl) (by simp) ?_
          intro i hi
          obtain rfl : i = 5 := by simpa using hi
          clear hi
          refine op_appF rfl rfl rfl _ _ 22 rfl V.heap.size 2 i0 (.int .i64 0) 1 8 Try.underlying22 hi0 hz0 hz1 hz2 rfl (by decide) (.slice (some ⟨g62, 0, none⟩) 0 0) 0 [] rfl hF.a ⟨ga, oa, none⟩ n c (s.map (Value.int .i64)) rfl (by rw [HL.out.1]; simp) (row_news (HRD.out.1.below hF.bl)) (ones_int _) (by unfold maxLen; omega) (by omega) hF.bl.size ?_
          intro v62125 y62125 hown hgrow hat
          simp only [Act.put, List.setIfInBounds_toArray, List.set_cons_zero, List.set_cons_succ]
          have hF := hF.apA HL.out.1 hown hgrow hat
          obtain ⟨g62125, c62125, hv62125⟩ := someF hF.a (by rcases hat with e | e <;> rw [e] <;> simp [Value.ownBlock])
          rw [← HL.out.1] at hv62125
          subst hv62125
          clear hown hgrow hat
          refine ⟨KS.of hF.bl, ?_⟩
          refine wpAnyH_all (rs := [9]) (by kernel_rfl) (by simp) ?_
          intro i hi
          obtain rfl : i = 9 := by simpa using hi
          clear hi
          refine op_appF rfl rfl rfl _ _ 22 rfl V.heap.size 2 i0 (.int .i64 0) 1 8 Try.underlying22 hi0 hz0 hz1 hz2 rfl (by decide) (.slice (some ⟨g6, 0, none⟩) 0 0) 0 [] rfl hF.b ⟨gb, ob, none⟩ n d (t.map (Value.int .i64)) rfl (by rw [HL.out.2]; simp) (row_news (HRD.out.2.below hF.bl)) (ones_int _) (by unfold maxLen; omega) (by omega) hF.bl.size ?_
          intro v621259 y621259 hown hgrow hat
          simp only [Act.put, List.setIfInBounds_toArray, List.set_cons_zero, List.set_cons_succ]
          have hF := (hF.swap.apA HL.out.2 hown hgrow hat).swap
          obtain ⟨g621259, c621259, hv621259⟩ := someF hF.b (by rcases hat with e | e <;> rw [e] <;> simp [Value.ownBlock])
          rw [← HL.out.2] at hv621259
          subst hv621259
          clear hown hgrow hat
          refine ⟨KS.of hF.bl, ?_⟩
          refine fl_take (i := 10) (d := 29) (v := .agg #[.int .i64 (N : Int), .slice (some ⟨g62125, 0, none⟩) n c62125, .slice (some ⟨g621259, 0, none⟩) n c621259]) rfl rfl rfl (by kernel_rfl) (by kernel_rfl) (by kernel_rfl) (KS.of hF.bl) ?_ ?_
          · intro w' hk; go_simp
          simp only [Act.put, List.setIfInBounds_toArray, List.set_cons_zero, List.set_cons_succ]
          refine fl_take (i := 11) (d := 30) (v := .agg #[.int .i64 0, .int .i64 (N : Int), .slice (some ⟨g62125, 0, none⟩) n c62125, .slice (some ⟨g621259, 0, none⟩) n c621259, .slice none 0 0]) rfl rfl rfl (by kernel_rfl) (by kernel_rfl) (by kernel_rfl) (KS.of hF.bl) ?_ ?_
          · intro w' hk; go_simp
          simp only [Act.put, List.setIfInBounds_toArray, List.set_cons_zero, List.set_cons_succ]
          refine wpAnyH_all (rs := [13]) (by kernel_rfl) (by simp) ?_
          intro i hi
          obtain rfl : i = 13 := by simpa using hi
          clear hi
          refine op_store rfl rfl rfl _ _ _ rfl g6212 #[.int .i64 0, .int .i64 (N : Int), .slice (some ⟨g62125, 0, none⟩) n c62125, .slice (some ⟨g621259, 0, none⟩) n c621259, .slice none 0 0] rfl rfl (there_nF (hF.o g6212 rfl).1 rfl) (by kernel_rfl) (by simp [Value.oneCell']) ?_
          have hG : FO V ((y621259).setCells g6212 0 [.int .i64 0, .int .i64 (N : Int), .slice (some ⟨g62125, 0, none⟩) n c62125, .slice (some ⟨g621259, 0, none⟩) n c621259, .slice none 0 0]) g6212 (N : Int) (.slice (some ⟨g62125, 0, none⟩) n c62125) (.slice (some ⟨g621259, 0, none⟩) n c621259) (.slice none 0 0) s t [] := FO.of hF
          refine ⟨KS.of hG.bl, wpAnyH_done (by kernel_rfl) (NoPanic.normal ?_) _⟩
          go_wp2_with (fail)
          go_meet
          exact ⟨_, _, _, _, _, rfl, hG⟩
      · clear hi
        refine op_val (d := 6) (v := .pointer (some ⟨(y6).heap.size, 0, none⟩)) (w' := (y6).alloc (.cells #[.int .i64 0, .int .i64 0, .slice none 0 0, .slice none 0 0, .slice none 0 0] 56)) rfl rfl rfl (by go_simp; try rfl) ?_
        simp only [Act.put, List.setIfInBounds_toArray, List.set_cons_zero, List.set_cons_succ]
        have hF := hF.mkO
        refine ⟨KS.of hF.bl, ?_⟩
        obtain ⟨g612, hg612⟩ : ∃ x, x = (y6).heap.size := ⟨_, rfl⟩
        rw [← hg612] at hF ⊢
        generalize (y6).alloc (.cells #[.int .i64 0, .int .i64 0, .slice none 0 0, .slice none 0 0, .slice none 0 0] 56) = y612 at hF ⊢
        clear hg612
        refine wpAnyH_all (rs := [2]) (by kernel_rfl) (by simp) ?_
        intro i hi
        obtain rfl : i = 2 := by simpa using hi
        clear hi
        refine op_val (d := 21) (v := .slice (some ⟨(y612).heap.size, 0, none⟩) 0 0) (w' := (y612).alloc (.cells #[] 2)) rfl rfl rfl (by go_simp; try rfl) ?_
        simp only [Act.put, List.setIfInBounds_toArray, List.set_cons_zero, List.set_cons_succ]
        have hF := hF.mkA
        refine ⟨KS.of hF.bl, ?_⟩
        obtain ⟨g6122, hg6122⟩ : ∃ x, x = (y612).heap.size := ⟨_, rfl⟩
        rw [← hg6122] at hF ⊢
        generalize (y612).alloc (.cells #[] 2) = y6122 at hF ⊢
        clear hg6122
        refine wpAnyH_all (rs := [5]) (by kernel_rfl) (by simp) ?_
        intro i hi
        obtain rfl : i = 5 := by simpa using hi
        clear hi
        refine op_appF rfl rfl rfl _ _ 22 rfl V.heap.size 2 i0 (.int .i64 0) 1 8 Try.underlying22 hi0 hz0 hz1 hz2 rfl (by decide) (.slice (some ⟨g6122, 0, none⟩) 0 0) 0 [] rfl hF.a ⟨ga, oa, none⟩ n c (s.map (Value.int .i64)) rfl (by rw [HL.out.1]; simp) (row_news (HRD.out.1.below hF.bl)) (ones_int _) (by unfold maxLen; omega) (by omega) hF.bl.size ?_
        intro v61225 y61225 hown hgrow hat
        simp only [Act.put, List.setIfInBounds_toArray, List.set_cons_zero, List.set_cons_succ]
        have hF := hF.apA HL.out.1 hown hgrow hat
        obtain ⟨g61225, c61225, hv61225⟩ := someF hF.a (by rcases hat with e | e <;> rw [e] <;> simp [Value.ownBlock])
        rw [← HL.out.1] at hv61225
        subst hv61225
        clear hown hgrow hat
        refine ⟨KS.of hF.bl, ?_⟩
        refine wpAnyH_all (rs := [9]) (by kernel_rfl) (by simp) ?_
        intro i hi
        obtain rfl : i = 9 := by simpa using hi
        clear hi
        refine op_appF rfl rfl rfl _ _ 22 rfl V.heap.size 2 i0 (.int .i64 0) 1 8 Try.underlying22 hi0 hz0 hz1 hz2 rfl (by decide) (.slice (some ⟨g6, 0, none⟩) 0 0) 0 [] rfl hF.b ⟨gb, ob, none⟩ n d (t.map (Value.int .i64)) rfl (by rw [HL.out.2]; simp) (row_news (HRD.out.2.below hF.bl)) (ones_int _) (by unfold maxLen; omega) (by omega) hF.bl.size ?_
        intro v612259 y612259 hown hgrow hat
        simp only [Act.put, List.setIfInBounds_toArray, List.set_cons_zero, List.set_cons_succ]
        have hF := (hF.swap.apA HL.out.2 hown hgrow hat).swap
        obtain ⟨g612259, c612259, hv612259⟩ := someF hF.b (by rcases hat with e | e <;> rw [e] <;> simp [Value.ownBlock])
        rw [← HL.out.2] at hv612259
        subst hv612259
        clear hown hgrow hat
        refine ⟨KS.of hF.bl, ?_⟩
        refine fl_take (i := 10) (d := 29) (v := .agg #[.int .i64 (N : Int), .slice (some ⟨g61225, 0, none⟩) n c61225, .slice (some ⟨g612259, 0, none⟩) n c612259]) rfl rfl rfl (by kernel_rfl) (by kernel_rfl) (by kernel_rfl) (KS.of hF.bl) ?_ ?_
        · intro w' hk; go_simp
        simp only [Act.put, List.setIfInBounds_toArray, List.set_cons_zero, List.set_cons_succ]
        refine fl_take (i := 11) (d := 30) (v := .agg #[.int .i64 0, .int .i64 (N : Int), .slice (some ⟨g61225, 0, none⟩) n c61225, .slice (some ⟨g612259, 0, none⟩) n c612259, .slice none 0 0]) rfl rfl rfl (by kernel_rfl) (by kernel_rfl) (by kernel_rfl) (KS.of hF.bl) ?_ ?_
        · intro w' hk; go_simp
        simp only [Act.put, List.setIfInBounds_toArray, List.set_cons_zero, List.set_cons_succ]
        refine wpAnyH_all (rs := [13]) (by kernel_rfl) (by simp) ?_
        intro i hi
        obtain rfl : i = 13 := by simpa using hi
        clear hi
        refine op_store rfl rfl rfl _ _ _ rfl g612 #[.int .i64 0, .int .i64 (N : Int), .slice (some ⟨g61225, 0, none⟩) n c61225, .slice (some ⟨g612259, 0, none⟩) n c612259, .slice none 0 0] rfl rfl (there_nF (hF.o g612 rfl).1 rfl) (by kernel_rfl) (by simp [Value.oneCell']) ?_
        have hG : FO V ((y612259).setCells g612 0 [.int .i64 0, .int .i64 (N : Int), .slice (some ⟨g61225, 0, none⟩) n c61225, .slice (some ⟨g612259, 0, none⟩) n c612259, .slice none 0 0]) g612 (N : Int) (.slice (some ⟨g61225, 0, none⟩) n c61225) (.slice (some ⟨g612259, 0, none⟩) n c612259) (.slice none 0 0) s t [] := FO.of hF
        refine ⟨KS.of hG.bl, wpAnyH_done (by kernel_rfl) (NoPanic.normal ?_) _⟩
        go_wp2_with (fail)
        go_meet
        exact ⟨_, _, _, _, _, rfl, hG⟩
    · clear hi
      refine op_val (d := 6) (v := .pointer (some ⟨(V.drew).heap.size, 0, none⟩)) (w' := (V.drew).alloc (.cells #[.int .i64 0, .int .i64 0, .slice none 0 0, .slice none 0 0, .slice none 0 0] 56)) rfl rfl rfl (by go_simp; try rfl) ?_
      simp only [Act.put, List.setIfInBounds_toArray, List.set_cons_zero, List.set_cons_succ]
      have hF := hF.mkO
      refine ⟨KS.of hF.bl, ?_⟩
      obtain ⟨g12, hg12⟩ : ∃ x, x = (V.drew).heap.size := ⟨_, rfl⟩
      rw [← hg12] at hF ⊢
      generalize (V.drew).alloc (.cells #[.int .i64 0, .int .i64 0, .slice none 0 0, .slice none 0 0, .slice none 0 0] 56) = y12 at hF ⊢
      clear hg12
      refine wpAnyH_all (rs := [2, 6]) (by kernel_rfl) (by simp) ?_
      intro i hi
      rcases (by simpa using hi : i = 2 ∨ i = 6) with rfl | rfl
      · clear hi
        refine op_val (d := 21) (v := .slice (some ⟨(y12).heap.size, 0, none⟩) 0 0) (w' := (y12).alloc (.cells #[] 2)) rfl rfl rfl (by go_simp; try rfl) ?_
        simp only [Act.put, List.setIfInBounds_toArray, List.set_cons_zero, List.set_cons_succ]
        have hF := hF.mkA
        refine ⟨KS.of hF.bl, ?_⟩
        obtain ⟨g122, hg122⟩ : ∃ x, x = (y12).heap.size := ⟨_, rfl⟩
        rw [← hg122] at hF ⊢
        generalize (y12).alloc (.cells #[] 2) = y122 at hF ⊢
        clear hg122
        refine wpAnyH_all (rs := [5, 6]) (by kernel_rfl) (by simp) ?_
        intro i hi
        rcases (by simpa using hi : i = 5 ∨ i = 6) with rfl | rfl
        · clear hi
          refine op_appF rfl rfl rfl _ _ 22 rfl V.heap.size 2 i0 (.int .i64 0) 1 8 Try.underlying22 hi0 hz0 hz1 hz2 rfl (by decide) (.slice (some ⟨g122, 0, none⟩) 0 0) 0 [] rfl hF.a ⟨ga, oa, none⟩ n c (s.map (Value.int .i64)) rfl (by rw [HL.out.1]; simp) (row_news (HRD.out.1.below hF.bl)) (ones_int _) (by unfold maxLen; omega) (by omega) hF.bl.size ?_
          intro v1225 y1225 hown hgrow hat
          simp only [Act.put, List.setIfInBounds_toArray, List.set_cons_zero, List.set_cons_succ]
          have hF := hF.apA HL.out.1 hown hgrow hat
          obtain ⟨g1225, c1225, hv1225⟩ := someF hF.a (by rcases hat with e | e <;> rw [e] <;> simp [Value.ownBlock])
          rw [← HL.out.1] at hv1225
          subst hv1225
          clear hown hgrow hat
          refine ⟨KS.of hF.bl, ?_⟩
          refine wpAnyH_all (rs := [6]) (by kernel_rfl) (by simp) ?_
          intro i hi
          obtain rfl : i = 6 := by simpa using hi
          clear hi
          refine op_val (d := 25) (v := .slice (some ⟨(y1225).heap.size, 0, none⟩) 0 0) (w' := (y1225).alloc (.cells #[] 2)) rfl rfl rfl (by go_simp; try rfl) ?_
          simp only [Act.put, List.setIfInBounds_toArray, List.set_cons_zero, List.set_cons_succ]
          have hF := hF.swap.mkA.swap
          refine ⟨KS.of hF.bl, ?_⟩
          obtain ⟨g12256, hg12256⟩ : ∃ x, x = (y1225).heap.size := ⟨_, rfl⟩
          rw [← hg12256] at hF ⊢
          generalize (y1225).alloc (.cells #[] 2) = y12256 at hF ⊢
          clear hg12256
          refine wpAnyH_all (rs := [9]) (by kernel_rfl) (by simp) ?_
          intro i hi
          obtain rfl : i = 9 := by simpa using hi
          clear hi
          refine op_appF rfl rfl rfl _ _ 22 rfl V.heap.size 2 i0 (.int .i64 0) 1 8 Try.underlying22 hi0 hz0 hz1 hz2 rfl (by decide) (.slice (some ⟨g12256, 0, none⟩) 0 0) 0 [] rfl hF.b ⟨gb, ob, none⟩ n d (t.map (Value.int .i64)) rfl (by rw [HL.out.2]; simp) (row_news (HRD.out.2.below hF.bl)) (ones_int _) (by unfold maxLen; omega) (by omega) hF.bl.size ?_
          intro v122569 y122569 hown hgrow hat
          simp only [Act.put, List.setIfInBounds_toArray, List.set_cons_zero, List.set_cons_succ]
          have hF := (hF.swap.apA HL.out.2 hown hgrow hat).swap
          obtain ⟨g122569, c122569, hv122569⟩ := someF hF.b (by rcases hat with e | e <;> rw [e] <;> simp [Value.ownBlock])
          rw [← HL.out.2] at hv122569
          subst hv122569
          clear hown hgrow hat
          refine ⟨KS.of hF.bl, ?_⟩
          refine fl_take (i := 10) (d := 29) (v := .agg #[.int .i64 (N : Int), .slice (some ⟨g1225, 0, none⟩) n c1225, .slice (some ⟨g122569, 0, none⟩) n c122569]) rfl rfl rfl (by kernel_rfl) (by kernel_rfl) (by kernel_rfl) (KS.of hF.bl) ?_ ?_
          · intro w' hk; go_simp
          simp only [Act.put, List.setIfInBounds_toArray, List.set_cons_zero, List.set_cons_succ]
          refine fl_take (i := 11) (d := 30) (v := .agg #[.int .i64 0, .int .i64 (N : Int), .slice (some ⟨g1225, 0, none⟩) n c1225, .slice (some ⟨g122569, 0, none⟩) n c122569, .slice none 0 0]) rfl rfl rfl (by kernel_rfl) (by kernel_rfl) (by kernel_rfl) (KS.of hF.bl) ?_ ?_
          · intro w' hk; go_simp
          simp only [Act.put, List.setIfInBounds_toArray, List.set_cons_zero, List.set_cons_succ]
          refine wpAnyH_all (rs := [13]) (by kernel_rfl) (by simp) ?_
          intro i hi
          obtain rfl : i = 13 := by simpa using hi
          clear hi
          refine op_store rfl rfl rfl _ _ _ rfl g12 #[.int .i64 0, .int .i64 (N : Int), .slice (some ⟨g1225, 0, none⟩) n c1225, .slice (some ⟨g122569, 0, none⟩) n c122569, .slice none 0 0] rfl rfl (there_nF (hF.o g12 rfl).1 rfl) (by kernel_rfl) (by simp [Value.oneCell']) ?_
          have hG : FO V ((y122569).setCells g12 0 [.int .i64 0, .int .i64 (N : Int), .slice (some ⟨g1225, 0, none⟩) n c1225, .slice (some ⟨g122569, 0, none⟩) n c122569, .slice none 0 0]) g12 (N : Int) (.slice (some ⟨g1225, 0, none⟩) n c1225) (.slice (some ⟨g122569, 0, none⟩) n c122569) (.slice none 0 0) s t [] := FO.of hF
          refine ⟨KS.of hG.bl, wpAnyH_done (by kernel_rfl) (NoPanic.normal ?_) _⟩
          go_wp2_with (fail)
          go_meet
          exact ⟨_, _, _, _, _, rfl, hG⟩
        · clear hi
          refine op_val (d := 25) (v := .slice (some ⟨(y122).heap.size, 0, none⟩) 0 0) (w' := (y122).alloc (.cells #[] 2)) rfl rfl rfl (by go_simp; try rfl) ?_
          simp only [Act.put, List.setIfInBounds_toArray, List.set_cons_zero, List.set_cons_succ]
          have hF := hF.swap.mkA.swap
          refine ⟨KS.of hF.bl, ?_⟩
          obtain ⟨g1226, hg1226⟩ : ∃ x, x = (y122).heap.size := ⟨_, rfl⟩
          rw [← hg1226] at hF ⊢
          generalize (y122).alloc (.cells #[] 2) = y1226 at hF ⊢
          clear hg1226
          refine wpAnyH_all (rs := [5]) (by kernel_rfl) (by simp) ?_
          intro i hi
          obtain rfl : i = 5 := by simpa using hi
          clear hi
          refine op_appF rfl rfl rfl _ _ 22 rfl V.heap.size 2 i0 (.int .i64 0) 1 8 Try.underlying22 hi0 hz0 hz1 hz2 rfl (by decide) (.slice (some ⟨g122, 0, none⟩) 0 0) 0 [] rfl hF.a ⟨ga, oa, none⟩ n c (s.map (Value.int .i64)) rfl (by rw [HL.out.1]; simp) (row_news (HRD.out.1.below hF.bl)) (ones_int _) (by unfold maxLen; omega) (by omega) hF.bl.size ?_
          intro v12265 y12265 hown hgrow hat
          simp only [Act.put, List.setIfInBounds_toArray, List.set_cons_zero, List.set_cons_succ]
          have hF := hF.apA HL.out.1 hown hgrow hat
          obtain ⟨g12265, c12265, hv12265⟩ := someF hF.a (by rcases hat with e | e <;> rw [e] <;> simp [Value.ownBlock])
          rw [← HL.out.1] at hv12265
          subst hv12265
          clear hown hgrow hat
          refine ⟨KS.of hF.bl, ?_⟩
          refine wpAnyH_all (rs := [9]) (by kernel_rfl) (by simp) ?_
          intro i hi
          obtain rfl : i = 9 := by simpa using hi
          clear hi
          refine op_appF rfl rfl rfl _ _ 22 rfl V.heap.size 2 i0 (.int .i64 0) 1 8 Try.underlying22 hi0 hz0 hz1 hz2 rfl (by decide) (.slice (some ⟨g1226, 0, none⟩) 0 0) 0 [] rfl hF.b ⟨gb, ob, none⟩ n d (t.map (Value.int .i64)) rfl (by rw [HL.out.2]; simp) (row_news (HRD.out.2.below hF.bl)) (ones_int _) (by unfold maxLen; omega) (by omega) hF.bl.size ?_
          intro v122659 y122659 hown hgrow hat
          simp only [Act.put, List.setIfInBounds_toArray, List.set_cons_zero, List.set_cons_succ]
          have hF := (hF.swap.apA HL.out.2 hown hgrow hat).swap
          obtain ⟨g122659, c122659, hv122659⟩ := someF hF.b (by rcases hat with e | e <;> rw [e] <;> simp [Value.ownBlock])
          rw [← HL.out.2] at hv122659
          subst hv122659
          clear hown hgrow hat
          refine ⟨KS.of hF.bl, ?_⟩
          refine fl_take (i := 10) (d := 29) (v := .agg #[.int .i64 (N : Int), .slice (some ⟨g12265, 0, none⟩) n c12265, .slice (some ⟨g122659, 0, none⟩) n c122659]) rfl rfl rfl (by kernel_rfl) (by kernel_rfl) (by kernel_rfl) (KS.of hF.bl) ?_ ?_
          · intro w' hk; go_simp
          simp only [Act.put, List.setIfInBounds_toArray, List.set_cons_zero, List.set_cons_succ]
          refine fl_take (i := 11) (d := 30) (v := .agg #[.int .i64 0, .int .i64 (N : Int), .slice (some ⟨g12265, 0, none⟩) n c12265, .slice (some ⟨g122659, 0, none⟩) n c122659, .slice none 0 0]) rfl rfl rfl (by kernel_rfl) (by kernel_rfl) (by kernel_rfl) (KS.of hF.bl) ?_ ?_
          · intro w' hk; go_simp
          simp only [Act.put, List.setIfInBounds_toArray, List.set_cons_zero, List.set_cons_succ]
          refine wpAnyH_all (rs := [13]) (by kernel_rfl) (by simp) ?_
          intro i hi
          obtain rfl : i = 13 := by simpa using hi
          clear hi
          refine op_store rfl rfl rfl _ _ _ rfl g12 #[.int .i64 0, .int .i64 (N : Int), .slice (some ⟨g12265, 0, none⟩) n c12265, .slice (some ⟨g122659, 0, none⟩) n c122659, .slice none 0 0] rfl rfl (there_nF (hF.o g12 rfl).1 rfl) (by kernel_rfl) (by simp [Value.oneCell']) ?_
          have hG : FO V ((y122659).setCells g12 0 [.int .i64 0, .int .i64 (N : Int), .slice (some ⟨g12265, 0, none⟩) n c12265, .slice (some ⟨g122659, 0, none⟩) n c122659, .slice none 0 0]) g12 (N : Int) (.slice (some ⟨g12265, 0, none⟩) n c12265) (.slice (some ⟨g122659, 0, none⟩) n c122659) (.slice none 0 0) s t [] := FO.of hF
          refine ⟨KS.of hG.bl, wpAnyH_done (by kernel_rfl) (NoPanic.normal ?_) _⟩
          go_wp2_with (fail)
          go_meet
          exact ⟨_, _, _, _, _, rfl, hG⟩
      · clear hi
        refine op_val (d := 25) (v := .slice (some ⟨(y12).heap.size, 0, none⟩) 0 0) (w' := (y12).alloc (.cells #[] 2)) rfl rfl rfl (by go_simp; try rfl) ?_
        simp only [Act.put, List.setIfInBounds_toArray, List.set_cons_zero, List.set_cons_succ]
        have hF := hF.swap.mkA.swap
        refine ⟨KS.of hF.bl, ?_⟩
        obtain ⟨g126, hg126⟩ : ∃ x, x = (y12).heap.size := ⟨_, rfl⟩
        rw [← hg126] at hF ⊢
        generalize (y12).alloc (.cells #[] 2) = y126 at hF ⊢
        clear hg126
        refine wpAnyH_all (rs := [2]) (by kernel_rfl) (by simp) ?_
        intro i hi
        obtain rfl : i = 2 := by simpa using hi
        clear hi
        refine op_val (d := 21) (v := .slice (some ⟨(y126).heap.size, 0, none⟩) 0 0) (w' := (y126).alloc (.cells #[] 2)) rfl rfl rfl (by go_simp; try rfl) ?_
        simp only [Act.put, List.setIfInBounds_toArray, List.set_cons_zero, List.set_cons_succ]
        have hF := hF.mkA
        refine ⟨KS.of hF.bl, ?_⟩
        obtain ⟨g1262, hg1262⟩ : ∃ x, x = (y126).heap.size := ⟨_, rfl⟩
        rw [← hg1262] at hF ⊢
        generalize (y126).alloc (.cells #[] 2) = y1262 at hF ⊢
        clear hg1262
        refine wpAnyH_all (rs := [5]) (by kernel_rfl) (by simp) ?_
        intro i hi
        obtain rfl : i = 5 := by simpa using hi
        clear hi
        refine op_appF rfl rfl rfl _ _ 22 rfl V.heap.size 2 i0 (.int .i64 0) 1 8 Try.underlying22 hi0 hz0 hz1 hz2 rfl (by decide) (.slice (some ⟨g1262, 0, none⟩) 0 0) 0 [] rfl hF.a ⟨ga, oa, none⟩ n c (s.map (Value.int .i64)) rfl (by rw [HL.out.1]; simp) (row_news (HRD.out.1.below hF.bl)) (ones_int _) (by unfold maxLen; omega) (by omega) hF.bl.size ?_
        intro v12625 y12625 hown hgrow hat
        simp only [Act.put, List.setIfInBounds_toArray, List.set_cons_zero, List.set_cons_succ]
        have hF := hF.apA HL.out.1 hown hgrow hat
        obtain ⟨g12625, c12625, hv12625⟩ := someF hF.a (by rcases hat with e | e <;> rw [e] <;> simp [Value.ownBlock])
        rw [← HL.out.1] at hv12625
        subst hv12625
        clear hown hgrow hat
        refine ⟨KS.of hF.bl, ?_⟩
        refine wpAnyH_all (rs := [9]) (by kernel_rfl) (by simp) ?_
        intro i hi
        obtain rfl : i = 9 := by simpa using hi
        clear hi
        refine op_appF rfl rfl rfl _ _ 22 rfl V.heap.size 2 i0 (.int .i64 0) 1 8 Try.underlying22 hi0 hz0 hz1 hz2 rfl (by decide) (.slice (some ⟨g126, 0, none⟩) 0 0) 0 [] rfl hF.b ⟨gb, ob, none⟩ n d (t.map (Value.int .i64)) rfl (by rw [HL.out.2]; simp) (row_news (HRD.out.2.below hF.bl)) (ones_int _) (by unfold maxLen; omega) (by omega) hF.bl.size ?_
        intro v126259 y126259 hown hgrow hat
        simp only [Act.put, List.setIfInBounds_toArray, List.set_cons_zero, List.set_cons_succ]
        have hF := (hF.swap.apA HL.out.2 hown hgrow hat).swap
        obtain ⟨g126259, c126259, hv126259⟩ := someF hF.b (by rcases hat with e | e <;> rw [e] <;> simp [Value.ownBlock])
        rw [← HL.out.2] at hv126259
        subst hv126259
        clear hown hgrow hat
        refine ⟨KS.of hF.bl, ?_⟩
        refine fl_take (i := 10) (d := 29) (v := .agg #[.int .i64 (N : Int), .slice (some ⟨g12625, 0, none⟩) n c12625, .slice (some ⟨g126259, 0, none⟩) n c126259]) rfl rfl rfl (by kernel_rfl) (by kernel_rfl) (by kernel_rfl) (KS.of hF.bl) ?_ ?_
        · intro w' hk; go_simp
        simp only [Act.put, List.setIfInBounds_toArray, List.set_cons_zero, List.set_cons_succ]
        refine fl_take (i := 11) (d := 30) (v := .agg #[.int .i64 0, .int .i64 (N : Int), .slice (some ⟨g12625, 0, none⟩) n c12625, .slice (some ⟨g126259, 0, none⟩) n c126259, .slice none 0 0]) rfl rfl rfl (by kernel_rfl) (by kernel_rfl) (by kernel_rfl) (KS.of hF.bl) ?_ ?_
        · intro w' hk; go_simp
        simp only [Act.put, List.setIfInBounds_toArray, List.set_cons_zero, List.set_cons_succ]
        refine wpAnyH_all (rs := [13]) (by kernel_rfl) (by simp) ?_
        intro i hi
        obtain rfl : i = 13 := by simpa using hi
        clear hi
        refine op_store rfl rfl rfl _ _ _ rfl g12 #[.int .i64 0, .int .i64 (N : Int), .slice (some ⟨g12625, 0, none⟩) n c12625, .slice (some ⟨g126259, 0, none⟩) n c126259, .slice none 0 0] rfl rfl (there_nF (hF.o g12 rfl).1 rfl) (by kernel_rfl) (by simp [Value.oneCell']) ?_
        have hG : FO V ((y126259).setCells g12 0 [.int .i64 0, .int .i64 (N : Int), .slice (some ⟨g12625, 0, none⟩) n c12625, .slice (some ⟨g126259, 0, none⟩) n c126259, .slice none 0 0]) g12 (N : Int) (.slice (some ⟨g12625, 0, none⟩) n c12625) (.slice (some ⟨g126259, 0, none⟩) n c126259) (.slice none 0 0) s t [] := FO.of hF
        refine ⟨KS.of hG.bl, wpAnyH_done (by kernel_rfl) (NoPanic.normal ?_) _⟩
        go_wp2_with (fail)
        go_meet
        exact ⟨_, _, _, _, _, rfl, hG⟩
  case rest =>
  obtain ⟨K, g1, c1, g2, c2, rfl, hR0⟩ := hcut
  have HR0 : Hid (FO V wc K (N : Int) (.slice (some ⟨g1, 0, none⟩) n c1) (.slice (some ⟨g2, 0, none⟩) n c2) (.slice none 0 0) s t []) := hR0.out
  have hlow : w.heap.size + 1 < V.heap.size := hl1
  clear hR0 p0 p1 p2 pl hl1 HRD
  go_wp2
  go_loopw [7, 8] (fun i _ wr => ∃ (k g1 c1 g2 c2 : Nat) (vm : Value), k ≤ r ∧ i = .int .i64 k ∧ Hid (FO V wr K (N : Int) (.slice (some ⟨g1, 0, none⟩) n c1) (.slice (some ⟨g2, 0, none⟩) n c2) (vm) (ruA (N : Int) s t k) t (ruM (N : Int) s t k))) (fun i _ _ => r - (intOf i).toNat)
  case atStart => exact ⟨0, g1, c1, g2, c2, _, Nat.zero_le _, rfl, HR0.out⟩
  case round =>
    clear HR0
    obtain ⟨k, g1, c1, g2, c2, vm, hk, rfl, hR⟩ := hrel
    obtain ⟨cur, hcur⟩ : ∃ x, x = ruM (N : Int) s t k := ⟨_, rfl⟩
    obtain ⟨ml, hml⟩ : ∃ x, x = cur.length := ⟨_, rfl⟩
    rw [← hcur] at hR
    obtain ⟨ma, mc, hvf⟩ := hR.out.m.form
    rw [← hml] at hvf
    subst hvf
    have hmlb : ml ≤ 200 := by rw [hml, hcur, ruM_len]; omega
    have HC0 : Hid (ml = cur.length ∧ cur = ruM (N : Int) s t k) := ⟨hml, hcur⟩
    clear hml hcur
    by_cases hlt : k < r
    · have hok := ruA_ok HV.out.2.1 k
      have HST : Hid (Calls Try.prog 53 #[.agg #[.int .i64 (N : Int), .slice (some ⟨g1, 0, none⟩) n c1, .slice (some ⟨g2, 0, none⟩) n c2]] wr fun e w' => ∃ (h1 e1 h2 e2 : Nat) (vm : Value), e = .returned (.agg #[.int .i64 0, .int .i64 (N : Int), .slice (some ⟨h1, 0, none⟩) n e1, .slice (some ⟨h2, 0, none⟩) n e2, vm]) ∧ OwF w' wr.heap.size (.slice (some ⟨h1, 0, none⟩) n e1) (.slice (some ⟨h2, 0, none⟩) n e2) vm (mvA (N : Int) (ruA (N : Int) s t k) t) t (mvM (N : Int) (ruA (N : Int) s t k) t n) ∧ Below wr.heap.size wr w') := spec_stp N (by rw [ruA_len]; exact HNN.out) hok ⟨hR.out.a.rg, hR.out.b.rg⟩
      obtain ⟨q0, q1, q2, q3, q4, qf, ql⟩ := five_F hR.out.o
      have HR : Hid (FO V wr K (N : Int) (.slice (some ⟨g1, 0, none⟩) n c1) (.slice (some ⟨g2, 0, none⟩) n c2) (.slice ma ml mc) (ruA (N : Int) s t k) t cur) := hR.out
      clear hR hok qf
      go_wp2_with (fail)
      refine HST.out.mono ?_
      rintro e w4 ⟨h1, e1, h2, e2, vx, rfl, hO4, hb4⟩
      obtain ⟨xa, xc, hv3⟩ := hO4.2.1.form
      obtain ⟨xl, hxl⟩ : ∃ l, l = (mvM (N : Int) (ruA (N : Int) s t k) t n).length := ⟨_, rfl⟩
      rw [← hxl] at hv3
      subst hv3
      have HNX : Hid (ruM (N : Int) s t (k + 1) = cur ++ [(xl : Int)]) := by unfold Hid; rw [ruM_next, ← HNN.out, ← hxl, HC0.out.2]
      obtain ⟨V2, hV2⟩ : ∃ X9, X9 = w4.alloc (.cells #[.int .i64 0, .int .i64 (N : Int), .slice (some ⟨h1, 0, none⟩) n e1, .slice (some ⟨h2, 0, none⟩) n e2, .slice xa xl xc] 56) := ⟨_, rfl⟩
      obtain ⟨K2, hK2⟩ : ∃ X9, X9 = w4.heap.size := ⟨_, rfl⟩
      have hb2 : Below w4.heap.size w4 V2 := by rw [hV2]; (repeat' (first | (with_reducible exact Below.refl _ _) | (with_reducible assumption) | (with_reducible refine Below.setCell ?_ ?_ _) | (with_reducible refine Below.alloc ?_ ?_ _) | (with_reducible refine below_drewN ?_ _) | (with_reducible refine Below.drew ?_) | (with_reducible exact Nat.le_refl _) | omega | (simp; done) | (simp; omega)))
      have kV2 : V2.heap[K2]? = some (.cells #[.int .i64 0, .int .i64 (N : Int), .slice (some ⟨h1, 0, none⟩) n e1, .slice (some ⟨h2, 0, none⟩) n e2, .slice xa xl xc] 56) := by rw [hV2, hK2]; exact heap_alloc_new _ _
      have hKK : K2 ≠ K := by have h3 := ltOf HR.out.o; have h4 := hb4.size; omega
      have HX : Hid (FO V V2 K (N : Int) (.slice (some ⟨g1, 0, none⟩) n c1) (.slice (some ⟨g2, 0, none⟩) n c2) (.slice ma ml mc) (ruA (N : Int) s t k) t cur ∧ V2.heap[K2]? = some (.cells #[.int .i64 0, .int .i64 (N : Int), .slice (some ⟨h1, 0, none⟩) n e1, .slice (some ⟨h2, 0, none⟩) n e2, .slice xa xl xc] 56) ∧ OwF V2 wr.heap.size (.slice (some ⟨h1, 0, none⟩) n e1) (.slice (some ⟨h2, 0, none⟩) n e2) (.slice xa xl xc) (ruA (N : Int) s t (k + 1)) t (mvM (N : Int) (ruA (N : Int) s t k) t n) ∧ K < wr.heap.size ∧ (∀ q, (Value.slice ma ml mc).ownBlock = some q → q < wr.heap.size) ∧ V.heap.size ≤ wr.heap.size ∧ K2 ≠ K) := ⟨(HR.out.bel hb4).bel hb2, kV2, hO4.keep fun q hq => hb2.block q (hO4.blk hq).2, ltOf HR.out.o, fun q hq => (IS.lt HR.out.m q hq).2, HR.out.bl.size, hKK⟩
      clear hO4 hb4 hb2 kV2 hxl q0 q1 q2 q3 q4 ql HST HR
      go_upto_region 11 with fail
      rw [← hV2, ← hK2]
      clear hV2 hK2
      obtain ⟨q0, q1, q2, q3, q4, qf, ql⟩ := five_F HX.out.1.o
      have qf1 := qf 1
      have qf2 := qf 2
      have qf3 := qf 3
      obtain ⟨y0, y1, y2, y3, y4, yf, yl⟩ := five_F HX.out.2.1
      clear qf yf
      go_upto_region 12 with fail
      obtain ⟨w5, hw5⟩ : ∃ X9, X9 = ((V2.setCell ⟨K, 1, none⟩ (.int .i64 (N : Int))).setCell ⟨K, 2, none⟩ (.slice (some ⟨h1, 0, none⟩) n e1)).setCell ⟨K, 3, none⟩ (.slice (some ⟨h2, 0, none⟩) n e2) := ⟨_, rfl⟩
      have H5 : Hid (FO V w5 K (N : Int) (.slice (some ⟨h1, 0, none⟩) n e1) (.slice (some ⟨h2, 0, none⟩) n e2) (.slice ma ml mc) (ruA (N : Int) s t (k + 1)) t cur ∧ w5.heap[K2]? = some (.cells #[.int .i64 0, .int .i64 (N : Int), .slice (some ⟨h1, 0, none⟩) n e1, .slice (some ⟨h2, 0, none⟩) n e2, .slice xa xl xc] 56)) := by
        rw [hw5]
        refine ⟨HX.out.1.fleet (HX.out.2.2.1.1.1.low HX.out.2.2.2.2.2.1) (HX.out.2.2.1.1.2.1.low HX.out.2.2.2.2.2.1) HX.out.2.2.1.1.2.2 (fun q hq => ?_), ?_⟩
        · have h3 := (HX.out.2.2.1.1.blk hq).1
          refine ⟨fun e => ?_, fun e => ?_⟩
          · have h4 := HX.out.2.2.2.1; omega
          · have h4 := HX.out.2.2.2.2.1 q e; omega
        · have hKK := HX.out.2.2.2.2.2.2
          rw [heap_setCell_other _ _ _ _ (by simpa using hKK), heap_setCell_other _ _ _ _ (by simpa using hKK), heap_setCell_other _ _ _ _ (by simpa using hKK)]
          exact HX.out.2.1
      rw [← hw5]
      clear hw5 q0 q1 q2 q3 q4 ql qf1 qf2 qf3 y0 y1 y2 y3 y4 yl HX hKK
      obtain ⟨q0, q1, q2, q3, q4, qf, ql⟩ := five_F H5.out.1.o
      have qf4 := qf 4
      obtain ⟨y0, y1, y2, y3, y4, yf, yl⟩ := five_F H5.out.2
      clear qf yf
      obtain ⟨W1, hW1⟩ : ∃ X9, X9 = w5.alloc (.cells #[.int .i64 (xl : Int)] 2) := ⟨_, rfl⟩
      have HOW : Hid (W1.ownsRow V.heap.size 2 1 (.slice ma ml mc) ml (cur.map (Value.int .i64)) ∧ FO V W1 K (N : Int) (.slice (some ⟨h1, 0, none⟩) n e1) (.slice (some ⟨h2, 0, none⟩) n e2) (.slice ma ml mc) (ruA (N : Int) s t (k + 1)) t cur ∧ V.heap.size ≤ W1.heap.size ∧ W1 = w5.alloc (.cells #[.int .i64 (xl : Int)] 2)) := by
        have h8 : FO V W1 K (N : Int) (.slice (some ⟨h1, 0, none⟩) n e1) (.slice (some ⟨h2, 0, none⟩) n e2) (.slice ma ml mc) (ruA (N : Int) s t (k + 1)) t cur := H5.out.1.bel (by rw [hW1]; (repeat' (first | (with_reducible exact Below.refl _ _) | (with_reducible assumption) | (with_reducible refine Below.setCell ?_ ?_ _) | (with_reducible refine Below.alloc ?_ ?_ _) | (with_reducible refine below_drewN ?_ _) | (with_reducible refine Below.drew ?_) | (with_reducible exact Nat.le_refl _) | omega | (simp; done) | (simp; omega))))
        have h9 := h8.m
        unfold IS at h9
        rw [← HC0.out.1] at h9
        exact ⟨h9, h8, h8.bl.size, hW1⟩
      clear H5
      go_upto_region 9 with (at_builtin; go_loud (rw [← hW1]; refine wpList_append_own_at _ rfl _ _ 22 rfl V.heap.size 2 i0 (.int .i64 0) 1 8 Try.underlying22 hi0 hz0 hz1 hz2 rfl (by decide) (.slice ma ml mc) ml _ rfl HOW.out.1 ⟨w5.heap.size, 0, none⟩ 1 1 [.int .i64 (xl : Int)] rfl rfl (World.news_of_block (cs := #[.int .i64 (xl : Int)]) (t := 2) (fr := (0, 0)) (by rw [HOW.out.2.2.2]; exact heap_alloc_new w5 _)) (by simp [Value.oneCell']) (by unfold maxLen; omega) (by omega) HOW.out.2.2.1 ?_); intro v6 w6 hown6 hgrow6 _ hloc6; go_loud (obtain ⟨va6, vc6, rfl⟩ := own_formL hown6; have hx6 := (hgrow6.block K (ltOf HOW.out.2.1.o) (fun e => HOW.out.2.1.ko.2.2 e.symm)).trans HOW.out.2.1.o; have q49 := cellOf hx6 4 rfl; have qf49 := frozOf hx6 4; have ql9 := ltOf hx6; have HR9 : Hid (FO V (w6.setCell ⟨K, 4, none⟩ (.slice va6 (ml + 1) vc6)) K (N : Int) (.slice (some ⟨h1, 0, none⟩) n e1) (.slice (some ⟨h2, 0, none⟩) n e2) (.slice va6 (ml + 1) vc6) (ruA (N : Int) s t (k + 1)) t (ruM (N : Int) s t (k + 1))) := HOW.out.2.1.app2 HC0.out.1 HNX.out hown6 hgrow6 hloc6; clear hown6 hgrow6 hloc6 hx6 HOW))
      clear hW1
      go_wp2
      go_roundw
      case rel => exact ⟨k + 1, h1, e1, h2, e2, _, by omega, by go_num, HR9.out⟩
      case measure => simp [intOf]; omega
    · obtain rfl : k = r := by omega
      have hbx1 := (hR.out.bl.block _ hlow).trans HT.out.b1
      obtain ⟨r0, r1, r2, r3, r4, rf, rl⟩ := five_F hbx1
      have rf0 := rf 0
      have rf1 := rf 1
      have rf2 := rf 2
      have rf3 := rf 3
      have rf4 := rf 4
      have hF := hR.out.o
      obtain ⟨q0, q1, q2, q3, q4, qf, ql⟩ := five_F hF
      have HE : Hid (OwF (((((wr.setCell ⟨w.heap.size + 1, 0, none⟩ (.int .i64 0)).setCell ⟨w.heap.size + 1, 1, none⟩ (.int .i64 (N : Int))).setCell ⟨w.heap.size + 1, 2, none⟩ (.slice (some ⟨g1, 0, none⟩) n c1)).setCell ⟨w.heap.size + 1, 3, none⟩ (.slice (some ⟨g2, 0, none⟩) n c2)).setCell ⟨w.heap.size + 1, 4, none⟩ (.slice ma ml mc)) w.heap.size (.slice (some ⟨g1, 0, none⟩) n c1) (.slice (some ⟨g2, 0, none⟩) n c2) (.slice ma ml mc) (ruA (N : Int) s t k) t (ruM (N : Int) s t k) ∧ Below w.heap.size w (((((wr.setCell ⟨w.heap.size + 1, 0, none⟩ (.int .i64 0)).setCell ⟨w.heap.size + 1, 1, none⟩ (.int .i64 (N : Int))).setCell ⟨w.heap.size + 1, 2, none⟩ (.slice (some ⟨g1, 0, none⟩) n c1)).setCell ⟨w.heap.size + 1, 3, none⟩ (.slice (some ⟨g2, 0, none⟩) n c2)).setCell ⟨w.heap.size + 1, 4, none⟩ (.slice ma ml mc))) := by
        have h9 := hR.out
        rw [HC0.out.2] at h9
        have hwV : w.heap.size ≤ V.heap.size := by omega
        have hoff : ∀ q, V.heap.size ≤ q → (((((wr.setCell ⟨w.heap.size + 1, 0, none⟩ (.int .i64 0)).setCell ⟨w.heap.size + 1, 1, none⟩ (.int .i64 (N : Int))).setCell ⟨w.heap.size + 1, 2, none⟩ (.slice (some ⟨g1, 0, none⟩) n c1)).setCell ⟨w.heap.size + 1, 3, none⟩ (.slice (some ⟨g2, 0, none⟩) n c2)).setCell ⟨w.heap.size + 1, 4, none⟩ (.slice ma ml mc)).heap[q]? = wr.heap[q]? := fun q hq => by
          rw [heap_setCell_other _ _ _ _ (by simp; omega), heap_setCell_other _ _ _ _ (by simp; omega), heap_setCell_other _ _ _ _ (by simp; omega), heap_setCell_other _ _ _ _ (by simp; omega), heap_setCell_other _ _ _ _ (by simp; omega)]
        have hO : OwF wr V.heap.size (.slice (some ⟨g1, 0, none⟩) n c1) (.slice (some ⟨g2, 0, none⟩) n c2) (.slice ma ml mc) (ruA (N : Int) s t k) t (ruM (N : Int) s t k) := ⟨⟨h9.a, h9.b, h9.ab⟩, h9.m, fun g hg hb => by
          rcases hb with hb | hb
          · exact (h9.am g hg).1 hb
          · exact (h9.am g hg).2 hb⟩
        refine ⟨(hO.keep fun q hq => hoff q (hO.blk hq).1).low hwV, ?_⟩
        have hB4 : Below w.heap.size w wr := HT.out.bl.trans (h9.bl.mono hwV)
        (repeat' (first | (with_reducible exact Below.refl _ _) | (with_reducible assumption) | (with_reducible refine Below.setCell ?_ ?_ _) | (with_reducible refine Below.alloc ?_ ?_ _) | (with_reducible refine below_drewN ?_ _) | (with_reducible refine Below.drew ?_) | (with_reducible exact Nat.le_refl _) | omega | (simp; done) | (simp; omega)))
      clear hR qf hF rf hbx1
      go_wp2
      try simp only [Exit.inBlock, Exit.then]
      refine bodyPost_ret (by simp [results, Try.results36, go_sem, r0, r1, r2, r3, r4]; try rfl) rfl ⟨(.slice (some ⟨g1, 0, none⟩) n c1, .slice (some ⟨g2, 0, none⟩) n c2, .slice ma ml mc), (), by rw [HV.out.2.2.1, HV.out.1], by rw [HV.out.2.2.2.1, HV.out.2.2.2.2.1, HV.out.2.2.2.2.2]; exact HE.out.1, HE.out.2⟩

end Go.Proofs.Ytgbbigokbbllgaa
