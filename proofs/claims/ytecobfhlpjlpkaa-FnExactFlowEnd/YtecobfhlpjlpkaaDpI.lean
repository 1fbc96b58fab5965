/- Proved here: jobsInOrder of the program: joC, joL. -/
import Derived.Test.YtecobfhlpjlpkaaDpM
import Derived.Test.YtecobfhlpjlpkaaDjI
import Derived.Test.YtecobfhlpjlpkaaJmM
import Derived.Test.YtecobfhlpjlpkaaOgS
import Derived.Test.YtecobfhlpjlpkaaNlJ
import Derived.Deep.AppendLies
import Derived.StillTail
import Derived.Deep.Cut
namespace Go.Proofs.Ytecobfhlpjlpkaa
open Go.RowKit Go.Maps
set_option linter.unusedVariables false
set_option linter.unusedSimpArgs false


theorem jm_make (w : World) : (Instr.makeMap 76 none).run Try.prog w = .ok (.map (some w.heap.size)) (w.alloc (.map #[] 0)) := by
  have h := run_underlying (w := w) jm_ty
  simp [Instr.makeMap, h]
set_option maxRecDepth 10000 in
set_option maxHeartbeats 12800000 in
theorem impl_jio {W : World} {a : Option Addr} {c : Nat} {vi : Value} {s : List Jb} {is : List Int} (hn : s.length ≤ 1048576) (hc : s.length ≤ c) (hi : is.length ≤ 1048576) (hwf : ∀ i (h : i < s.length), (Lit.int .i64 s[i].id).wf = true) (hwi : ∀ i, i < is.length → (Lit.int .i64 (is.getD i 0)).wf = true) (hs : RG 7 jbC W (.slice a s.length c) s) (hv : RdI W vi is) :
    Calls Try.prog 38 #[.slice a s.length c, vi] W fun e w' => ∃ v, e = .returned (.tuple #[v, .int .i64 (joC s is)]) ∧ OG 48 7 jbC w' W.heap.size v (joL s is) ∧ Below W.heap.size W w' := by
  obtain ⟨b, d, rfl⟩ := hv.form
  obtain ⟨n, hnn⟩ : ∃ n, n = s.length := ⟨_, rfl⟩
  obtain ⟨m, hmm⟩ : ∃ n, n = is.length := ⟨_, rfl⟩
  obtain ⟨C, hC⟩ : ∃ C, C = joC s is := ⟨_, rfl⟩
  obtain ⟨L, hL⟩ : ∃ L, L = joL s is := ⟨_, rfl⟩
  obtain ⟨J, hJ⟩ : ∃ J, J = jbF s := ⟨_, rfl⟩
  obtain ⟨i0, hi0, hz0, hz1, hz2⟩ := info_parts info_Job
  have HJF : Hid (Calls Try.prog 12 #[.slice a s.length c] W fun e w' => e = .returned (.int .i64 J) ∧ Below W.heap.size W w') := by rw [hJ]; exact impl_jf hn hc hs
  rw [← hnn] at hs hn hc HJF ⊢
  rw [← hmm] at hi hv
  rw [← hC, ← hL, ← hmm]
  have H : Hid (RG 7 jbC W (.slice a n c) s ∧ RdI W (.slice b m d) is ∧ n = s.length ∧ m = is.length ∧ (∀ i (h : i < s.length), (Lit.int .i64 s[i].id).wf = true) ∧ ∀ i, i < is.length → (Lit.int .i64 (is.getD i 0)).wf = true) := ⟨hs, hv, hnn, hmm, hwf, hwi⟩
  have HC : Hid (C = joC s is ∧ L = joL s is ∧ J = jbF s) := ⟨hC, hL, hJ⟩
  clear hs hv hnn hmm hwf hwi hC hL hJ
  go_enter Try.func38, Try.ntmps38
  go_wp2_with (fail)
  refine HJF.out.mono ?_
  rintro e w1 ⟨rfl, hb1⟩
  have HW1 : Hid (Below W.heap.size W w1) := hb1
  clear hb1 HJF
  by_cases hJ0 : J = 0
  case neg =>
    have HR : Hid (C = J ∧ L = []) := by
      have := joC_bad (s := s) (is := is) (by rw [← HC.out.2.2]; exact hJ0)
      exact ⟨by rw [HC.out.1, this.1, HC.out.2.2], by rw [HC.out.2.1]; exact this.2⟩
    have h1 : (J != 0) = true := by simpa using hJ0
    clear HC
    go_wp2
    go_returns
    exact ⟨_, by rw [HR.out.1]; rfl, by rw [HR.out.2]; exact OG.nl _ _ _ _ _, HW1.out⟩
  subst hJ0
  have HOK : Hid (OkJ s) := jbF_ok HC.out.2.2.symm
  have hn30 : n ≤ 30 := by rw [H.out.2.2.1]; exact HOK.out.len
  by_cases hmn : m = n
  case neg =>
    have HR : Hid (C = 1 ∧ L = []) := by
      have := joC_no (s := s) (is := is) HC.out.2.2.symm (ordB_len (by rw [← H.out.2.2.1, ← H.out.2.2.2.1]; exact hmn))
      exact ⟨by rw [HC.out.1]; exact this.1, by rw [HC.out.2.1]; exact this.2⟩
    have h1 : ¬ (m : Int) = (n : Int) := by omega
    have h2 : ((m : Int) != (n : Int)) = true := by simpa using h1
    clear HC hmn
    go_wp2
    go_returns
    exact ⟨_, by rw [HR.out.1]; rfl, by rw [HR.out.2]; exact OG.nl _ _ _ _ _, HW1.out⟩
  subst hmn
  obtain ⟨bm, hbm⟩ : ∃ x, x = w1.heap.size := ⟨_, rfl⟩
  obtain ⟨w2, hw2⟩ : ∃ x, x = w1.alloc (.map #[] 0) := ⟨_, rfl⟩
  have HM0 : Hid (JM w2 bm 0 (jmF s 0) ∧ Below W.heap.size W w2 ∧ W.heap.size ≤ bm) := by
    rw [hw2, hbm]
    exact ⟨(JM.made w1).conv (fun x => (jmF_zero s x).symm), Below.alloc HW1.out HW1.out.size _, HW1.out.size⟩
  have hmk := jm_make w1
  rw [← hw2, ← hbm] at hmk
  clear hw2 hbm HW1
  go_wp2
  clear hmk
  go_loopw [28] (fun i wr => ∃ k : Nat, k ≤ m ∧ i = .int .i64 k ∧ Hid (JM wr bm k (jmF s k) ∧ Below W.heap.size W wr)) (fun i _ => m - (intOf i).toNat)
  case atStart => exact ⟨0, Nat.zero_le _, rfl, HM0.out.1, HM0.out.2.1⟩
  case round =>
    obtain ⟨k, hk, rfl, hR⟩ := hrel
    by_cases hlt : k < m
    · have hkl : k < s.length := by rw [← H.out.2.2.1]; exact hlt
      obtain ⟨g, o, c2, he, hg, hj⟩ := (H.out.1.below hR.out.2).pos (by omega)
      simp only [Value.slice.injEq] at he
      obtain ⟨rfl, hx1, hx2⟩ := he
      clear hx1 hx2
      obtain ⟨c0, c1, c2, c3, c4, c5, c6⟩ := jbC_at (hj k hkl)
      obtain ⟨j, hj2⟩ : ∃ j, j = s[k] := ⟨_, rfl⟩
      rw [← hj2] at c0 c1 c2 c3 c4 c5 c6
      have hjw : (Lit.int .i64 j.id).wf = true := by rw [hj2]; exact H.out.2.2.2.2.1 k hkl
      obtain ⟨w3, hu, hI3, hg3⟩ := ((hR.out.1).below (Below.alloc (Below.refl _ wr) (Nat.le_refl _) (.cells #[.int .i64 j.id, .int .i64 j.co, .int .i64 j.ti, .int .i64 j.se, .int .i64 j.du, .int .i64 j.we, .int .i64 j.ki] 48))).put (by omega) (j := j) hjw
      have HN : Hid (JM w3 bm (k + 1) (jmF s (k + 1)) ∧ Below W.heap.size W w3) := by
        refine ⟨hI3.conv fun q => ?_, (Below.alloc hR.out.2 hR.out.2.size _).grown hg3 (by have := hR.out.2.size; simp; omega) (fun q hq => by injection hq with hq; have := HM0.out.2.2; omega)⟩
        rw [hj2]; exact jmF_step HOK.out hkl q
      have b0 : (0 : Int) ≤ (k : Int) := by omega
      have b1 : (k : Int) < (m : Int) := by omega
      clear hj hj2 hI3 hg3 hR hjw
      go_wp2
      go_roundw
      case rel => exact ⟨k + 1, by omega, by go_num, HN.out⟩
      case measure => simp [intOf]; omega
    · obtain rfl : k = m := by omega
      have HM : Hid (JM wr bm k (f2J s is 0) ∧ Below W.heap.size W wr ∧ W.heap.size ≤ bm ∧ bm < wr.heap.size) := ⟨hR.out.1.conv (fun q => by rw [f2J_zero, ← H.out.2.2.1]), hR.out.2, HM0.out.2.2, hR.out.1.lt⟩
      clear HM0 hR
      go_wp2_with (at_make; refine wpList_make_own _ rfl _ _ 25 rfl wr.heap.size 48 i0 (.agg #[.int .i64 0, .int .i64 0, .int .i64 0, .int .i64 0, .int .i64 0, .int .i64 0, .int .i64 0]) 7 Try.underlying25 hi0 hz0 hz1 _ _ _ k rfl rfl rfl (by rw [hz2]; omega) (by unfold maxLen; omega) (by omega) ?_; intro w4 hown4 hgrow4)
      obtain ⟨lo, hlo⟩ : ∃ x, x = wr.heap.size := ⟨_, rfl⟩
      have HM2 : Hid (JM w4 bm k (f2J s is 0) ∧ OG 48 7 jbC w4 lo (.slice (some ⟨wr.heap.size, 0, none⟩) 0 k) (pkL s (is.take 0)) ∧ Below W.heap.size W w4 ∧ lo ≤ w4.heap.size ∧ bm < lo ∧ W.heap.size ≤ bm) := by
        refine ⟨HM.out.1.block (hgrow4.block _ HM.out.2.2.2 (by simp)), ?_, HM.out.2.1.grown hgrow4 HM.out.2.1.size (fun q hq => by cases hq), by rw [hlo]; exact hgrow4.size, by rw [hlo]; exact HM.out.2.2.2, HM.out.2.2.1⟩
        rw [hlo]; exact hown4
      rw [← hlo] at HM2 ⊢
      clear hown4 hgrow4 HM hlo
      go_loopw [10, 42] (fun v i wr => ∃ t : Nat, t ≤ k ∧ i = .int .i64 t ∧ Hid (JM wr bm k (f2J s is t) ∧ OG 48 7 jbC wr lo v (pkL s (is.take t)) ∧ Below W.heap.size W wr ∧ lo ≤ wr.heap.size ∧ ∀ i, i < t → inO s is i = true)) (fun _ i _ => k - (intOf i).toNat)
      case atStart => exact ⟨0, Nat.zero_le _, rfl, HM2.out.1, HM2.out.2.1, HM2.out.2.2.1, HM2.out.2.2.2.1, fun i hi => by omega⟩
      case round =>
        have HLO : Hid (bm < lo ∧ W.heap.size ≤ bm) := ⟨HM2.out.2.2.2.2.1, HM2.out.2.2.2.2.2⟩
        clear HM2
        obtain ⟨t, ht, rfl, hR⟩ := hrel
        by_cases hlt2 : t < k
        · obtain ⟨gi, oi, rfl, hgi, hci⟩ := rd_at (H.out.2.1.below hR.out.2.2.1) hlt2
          have hti : t < is.length := by rw [← H.out.2.2.2.1]; exact hlt2
          obtain ⟨u, hu⟩ : ∃ u, u = is.getD t 0 := ⟨_, rfl⟩
          have hwu : (Lit.int .i64 u).wf = true := by rw [hu]; exact H.out.2.2.2.2.2 t hti
          obtain ⟨y, hy⟩ : ∃ y, y = (f2J s is t u).getD default := ⟨_, rfl⟩
          obtain ⟨q, hq⟩ : ∃ q, q = (f2J s is t u).isSome := ⟨_, rfl⟩
          have hlk := hR.out.1.look_ok hwu hy
          rw [← hq] at hlk
          have HQ : Hid (q = inO s is t ∧ (q = true → y = pkJ s u)) := by
            have e : q = inO s is t := by rw [hq, hu]; exact f2J_some s is t
            exact ⟨e, fun h => by rw [hy, hu]; exact f2J_get (e.symm.trans h)⟩
          rw [← hu] at hci
          have b0 : (0 : Int) ≤ (t : Int) := by omega
          have b1 : (t : Int) < (k : Int) := by omega
          have HU : Hid (u = is.getD t 0) := hu
          clear hy hq hu
          cases q
          · have HR : Hid (C = 1 ∧ L = []) := by
              have := joC_no (s := s) (is := is) HC.out.2.2.symm (ordB_no hti HQ.out.1.symm)
              exact ⟨by rw [HC.out.1]; exact this.1, by rw [HC.out.2.1]; exact this.2⟩
            have HB : Hid (Below W.heap.size W (wr.alloc (.cells #[.int .i64 y.id, .int .i64 y.co, .int .i64 y.ti, .int .i64 y.se, .int .i64 y.du, .int .i64 y.we, .int .i64 y.ki] 48))) := by unfold Hid; exact Below.alloc hR.out.2.2.1 hR.out.2.2.1.size _
            clear HQ HC
            go_wp2
            go_returns
            exact ⟨_, by rw [HR.out.1]; rfl, by rw [HR.out.2]; exact OG.nl _ _ _ _ _, HB.out⟩
          · obtain ⟨X, hX⟩ : ∃ X, X = wr.alloc (.cells #[.int .i64 y.id, .int .i64 y.co, .int .i64 y.ti, .int .i64 y.se, .int .i64 y.du, .int .i64 y.we, .int .i64 y.ki] 48) := ⟨_, rfl⟩
            have hlen : (pkL s (is.take t)).length = t := by rw [pkL_len, List.length_take]; omega
            obtain ⟨va, vc, hvv⟩ := hR.out.2.1.fm
            rw [hlen] at hvv
            subst hvv
            have HX : Hid (JM X bm k (f2J s is t) ∧ OG 48 7 jbC X lo (.slice va t vc) (pkL s (is.take t)) ∧ Below W.heap.size W X ∧ lo ≤ X.heap.size ∧ X.heap[wr.heap.size]? = some (.cells #[.int .i64 y.id, .int .i64 y.co, .int .i64 y.ti, .int .i64 y.se, .int .i64 y.du, .int .i64 y.we, .int .i64 y.ki] 48) ∧ wr.heap.size ≠ bm ∧ X.heap.size = wr.heap.size + 1) := by
              rw [hX]
              refine ⟨hR.out.1.below (Below.alloc (Below.refl _ wr) (Nat.le_refl _) _), hR.out.2.1.al _, Below.alloc hR.out.2.2.1 hR.out.2.2.1.size _, by have := hR.out.2.2.2.1; simp; omega, heap_alloc_new _ _, by have := hR.out.2.2.2.1; have := HLO.out.1; omega, by simp⟩
            have HD : Hid (∀ w7, JM w7 bm k (fun q => if u = q then none else f2J s is t q) → X.grownBy w7 (some bm) → w7.heap.size = X.heap.size → JM w7 bm k (f2J s is (t + 1)) ∧ OG 48 7 jbC w7 lo (.slice va t vc) (pkL s (is.take t)) ∧ Below W.heap.size W w7 ∧ lo ≤ w7.heap.size ∧ w7.heap[wr.heap.size]? = some (.cells #[.int .i64 y.id, .int .i64 y.co, .int .i64 y.ti, .int .i64 y.se, .int .i64 y.du, .int .i64 y.we, .int .i64 y.ki] 48)) := by
              intro w7 hT hg hs7
              refine ⟨hT.conv fun q => by rw [HU.out]; exact f2J_step hti q, HX.out.2.1.kp hg ?_, HX.out.2.2.1.grown hg HX.out.2.2.1.size (fun q hq => by injection hq with hq; have := HLO.out.2; omega), by have := HX.out.2.2.2.1; omega, (hg.block _ (by have := HX.out.2.2.2.2.2.2; omega) (fun e => by injection e with e; exact HX.out.2.2.2.2.2.1 e)).trans HX.out.2.2.2.2.1⟩
              cases hv : (Value.slice va t vc).ownBlock with
              | none => exact Or.inl rfl
              | some g9 => exact Or.inr (fun e => by injection e with e; have := (OG.lt HX.out.2.1 g9 hv).1; have := HLO.out.1; omega)
            have HXJ : Hid (JM X bm k (f2J s is t)) := HX.out.1
            have HIN : Hid (∀ i, i < t + 1 → inO s is i = true) := fun i hi => by
              rcases (by omega : i < t ∨ i = t) with e | e
              · exact hR.out.2.2.2.2 i e
              · rw [e]; exact HQ.out.1.symm
            have HST : Hid (pkL s (is.take (t + 1)) = pkL s (is.take t) ++ [y]) := by
              unfold Hid; rw [pkL_step hti, HQ.out.2 rfl, HU.out]
            obtain ⟨OL, hOL⟩ : ∃ l, l = pkL s (is.take t) := ⟨_, rfl⟩
            have HLN : Hid (OL.length = t) := by rw [hOL]; exact hlen
            rw [← hOL] at HD HST
            clear hOL hlen hR HX HQ
            clear hgi
            go_upto_region 19 with (fail)
            rw [← hX]
            clear hX hci hlk
            have b30 : t < 30 := by omega
            go_wp2_with (first
              | (at_delete; refine wpList_del_jm rfl _ _ rfl bm k _ rfl HXJ.out u rfl hwu ?_; intro w7 hT7 hg7 hs7; have HN7 := HD.out w7 hT7 hg7 hs7; clear hT7 hg7 hs7 HD HXJ; have HN8 : Hid (JM w7 bm k (f2J s is (t + 1)) ∧ OG 48 7 jbC w7 lo (.slice va t vc) OL ∧ Below W.heap.size W w7 ∧ lo ≤ w7.heap.size ∧ w7.heap[wr.heap.size]? = some (.cells #[.int .i64 y.id, .int .i64 y.co, .int .i64 y.ti, .int .i64 y.se, .int .i64 y.du, .int .i64 y.we, .int .i64 y.ki] 48)) := HN7; clear HN7; obtain ⟨p0, p1, p2, p3, p4, p5, p6, pl⟩ := jb_cells HN8.out.2.2.2.2)
              | (at_builtin; refine wpList_append_own _ rfl _ _ 25 rfl lo 48 i0 (.agg #[.int .i64 0, .int .i64 0, .int .i64 0, .int .i64 0, .int .i64 0, .int .i64 0, .int .i64 0]) 7 56 Try.underlying25 hi0 hz0 hz1 hz2 rfl (by decide) _ _ _ rfl (HN8.out.2.1.al _) ⟨w7.heap.size, 0, none⟩ 1 1 (jbC y) rfl rfl (World.news_of_block (cs := #[.int .i64 y.id, .int .i64 y.co, .int .i64 y.ti, .int .i64 y.se, .int .i64 y.du, .int .i64 y.we, .int .i64 y.ki]) (t := 48) (fr := (0, 0)) (heap_alloc_new w7 _)) (by simp [jbC, Value.oneCell']) (by have := HLN.out; unfold maxLen; omega) (by have := HLN.out; omega) (by have := HN8.out.2.2.2.1; simp; omega) ?_; intro v9 w9 hown9 hgrow9 _)
              | go_in)
            have HP : Hid (JM w9 bm k (f2J s is (t + 1)) ∧ OG 48 7 jbC w9 lo v9 (pkL s (is.take (t + 1))) ∧ Below W.heap.size W w9 ∧ lo ≤ w9.heap.size ∧ ∀ i, i < t + 1 → inO s is i = true) := by
              have hbl : bm < w7.heap.size := HN8.out.1.lt
              refine ⟨HN8.out.1.block ((hgrow9.block bm (by simp; omega) (fun e => ?_)).trans (heap_alloc_old _ _ hbl)), by rw [HST.out]; exact OG.s1 y hown9, (Below.alloc HN8.out.2.2.1 HN8.out.2.2.1.size _).grown hgrow9 (by have := HN8.out.2.2.1.size; simp; omega) (fun q hq => by have := (OG.lt HN8.out.2.1 q hq).1; have := HLO.out; omega), by have := hgrow9.size; have := HN8.out.2.2.2.1; simp at *; omega, HIN.out⟩
              have := (OG.lt HN8.out.2.1 bm e.symm).1
              have := HLO.out.1
              omega
            clear hown9 hgrow9 HN8 HIN HST HLN p0 p1 p2 p3 p4 p5 p6 pl
            go_wp2
            go_roundw
            case rel => exact ⟨t + 1, by omega, by go_num, HP.out⟩
            case measure => simp [intOf]; omega
        · obtain rfl : t = k := by omega
          have HR : Hid (C = 0 ∧ L = pkL s (is.take t)) := by
            have := joC_ok (s := s) (is := is) HC.out.2.2.symm (ordB_of (by rw [← H.out.2.2.1, ← H.out.2.2.2.1]) (fun i hi => hR.out.2.2.2.2 i (by rw [H.out.2.2.2.1]; exact hi)))
            refine ⟨by rw [HC.out.1]; exact this.1, ?_⟩
            rw [HC.out.2.1, this.2, H.out.2.2.2.1, List.take_length]
          have HF : Hid (OG 48 7 jbC wr W.heap.size u10 L ∧ Below W.heap.size W wr) := by
            rw [HR.out.2]
            exact ⟨hR.out.2.1.low (by have := HLO.out; omega), hR.out.2.2.1⟩
          clear hR
          go_wp2
          go_returns
          exact ⟨_, by rw [HR.out.1]; rfl, HF.out⟩

end Go.Proofs.Ytecobfhlpjlpkaa
