/- Proved here: RunRule of the program. -/
import Derived.Test.YtjbghflphngnkaaRrN
import Derived.Test.YtjbghflphngnkaaFoI
import Derived.Test.YtjbghflphngnkaaFoJ
import Derived.Test.YtjbghflphngnkaaRwG
import Derived.Test.YtjbghflphngnkaaSoH
import Derived.Deep.Cut
namespace Go.Proofs.Ytjbghflphngnkaa
open Go.RowKit
set_option linter.unusedVariables false
set_option linter.unusedSimpArgs false


set_option maxRecDepth 10000 in
set_option maxHeartbeats 12800000 in
theorem impl_rr (rule : Int) {W : World} {a : Option Addr} {c : Nat} {s : List Jb} (hn : s.length ≤ 1048576) (hc : s.length ≤ c) (hnc : NCj a s.length c) (hs : RG 7 jbC W (.slice a s.length c) s) :
    Calls Try.prog 11 #[.slice a s.length c, .int .i64 rule] W fun e w' => ∃ (v : Value) (_ : Unit), e = .returned (.agg #[.int .i64 (rrC s rule), v, .int .i64 (rrQ s rule)]) ∧ IS w' W.heap.size v (rrI s rule) ∧ Below W.heap.size W w' := by
  obtain ⟨i0, hi0, hz0, hz1, hz2⟩ := info_parts info_Job
  obtain ⟨n, hnn⟩ : ∃ n, n = s.length := ⟨_, rfl⟩
  obtain ⟨J, hJ⟩ : ∃ J, J = rrC s rule := ⟨_, rfl⟩
  obtain ⟨IDS, hIDS⟩ : ∃ J, J = rrI s rule := ⟨_, rfl⟩
  obtain ⟨QQ, hQQ⟩ : ∃ J, J = rrQ s rule := ⟨_, rfl⟩
  obtain ⟨Z, hZ⟩ : ∃ Z, Z = W.alloc (.cells #[.int .i64 0, .slice none 0 0, .int .i64 0] 26) := ⟨_, rfl⟩
  have HZ : Hid (Below W.heap.size W Z ∧ Z.heap[W.heap.size]? = some (.cells #[.int .i64 0, .slice none 0 0, .int .i64 0] 26)) := by rw [hZ]; exact ⟨by (repeat' (first | (with_reducible exact Below.refl _ _) | (with_reducible assumption) | (with_reducible refine Below.setCell ?_ ?_ _) | (with_reducible refine Below.alloc ?_ ?_ _) | (with_reducible refine below_drewN ?_ _) | (with_reducible refine Below.drew ?_) | (with_reducible exact Nat.le_refl _) | omega | (simp; done) | (simp; omega))), heap_alloc_new _ _⟩
  have HJ : Hid (Calls Try.prog 36 #[.slice a n c, .int .i64 rule, .int .i64 0] Z fun e w' => e = .returned (.int .i64 J) ∧ Below Z.heap.size Z w') := by rw [hJ, hnn]; exact impl_pkf rule 0 hn hc (hs.below HZ.out.1)
  have H : Hid (RG 7 jbC W (.slice a n c) s ∧ n = s.length ∧ J = rrC s rule ∧ IDS = rrI s rule ∧ QQ = rrQ s rule ∧ NCj a n c) := ⟨by rw [hnn]; exact hs, hnn, hJ, hIDS, hQQ, by rw [hnn]; exact hnc⟩
  rw [← hJ, ← hnn, ← hIDS, ← hQQ]
  clear hs hn hc hnn hJ hIDS hQQ hnc
  go_enter Try.func11, Try.ntmps11
  go_wp2_with (fail)
  rw [← hZ]
  clear hZ
  refine HJ.out.mono ?_
  rintro e w1 ⟨rfl, hb1⟩
  have HW : Hid (Below W.heap.size W w1 ∧ w1.heap[W.heap.size]? = some (.cells #[.int .i64 0, .slice none 0 0, .int .i64 0] 26)) := ⟨HZ.out.1.trans (hb1.mono HZ.out.1.size), (hb1.block _ (ltOfQ HZ.out.2)).trans HZ.out.2⟩
  clear hb1 HZ HJ
  by_cases hJ0 : J = 0
  case neg =>
    have HE : Hid (IDS = [] ∧ QQ = 0) := by
      have h9 : ¬ rrC s rule = 0 := by rw [← H.out.2.2.1]; exact hJ0
      exact ⟨by rw [H.out.2.2.2.1, rrI, if_neg h9], by rw [H.out.2.2.2.2.1, rrQ, if_neg h9]⟩
    have h1 : (J != 0) = true := by simpa using hJ0
    have z0 : w1.cell? ⟨W.heap.size, 0, none⟩ = some (.int .i64 0) := cellOfQ HW.out.2 0 rfl
    have z1 : w1.cell? ⟨W.heap.size, 1, none⟩ = some (.slice none 0 0) := cellOfQ HW.out.2 1 rfl
    have z2 : w1.cell? ⟨W.heap.size, 2, none⟩ = some (.int .i64 0) := cellOfQ HW.out.2 2 rfl
    have zl := ltOfQ HW.out.2
    have f0 := frozOfQ HW.out.2 0
    have f1 := frozOfQ HW.out.2 1
    have f2 := frozOfQ HW.out.2 2
    have HB : Hid (Below W.heap.size W w1) := HW.out.1
    clear HW H
    go_wp2
    try simp only [Exit.inBlock, Exit.then]
    refine bodyPost_ret (by simp [results, Try.results11, go_sem, z0, z1, z2, zl, f0, f1, f2]; try rfl) rfl ⟨_, (), by rw [HE.out.2], by rw [HE.out.1]; exact World.ownsRow_nil _ _ _ _, ?_⟩
    have hb := HB.out
    (repeat' (first | (with_reducible exact Below.refl _ _) | (with_reducible assumption) | (with_reducible refine Below.setCell ?_ ?_ _) | (with_reducible refine Below.alloc ?_ ?_ _) | (with_reducible refine below_drewN ?_ _) | (with_reducible refine Below.drew ?_) | (with_reducible exact Nat.le_refl _) | omega | (simp; done) | (simp; omega)))
  subst hJ0
  obtain ⟨hok, hru⟩ := pfC_ok (show pfC s rule 0 = 0 from H.out.2.2.1.symm)
  have hn30 : n ≤ 30 := by rw [H.out.2.1]; exact hok.len
  have HOK : Hid (OkJ s ∧ 1 ≤ rule ∧ rule ≤ 4) := ⟨hok, hru⟩
  clear hok hru
  obtain ⟨lo, hlo⟩ : ∃ x, x = w1.heap.size := ⟨_, rfl⟩
  obtain ⟨X, hX⟩ : ∃ X, X = w1.alloc (.cells #[] 51) := ⟨_, rfl⟩
  have HX : Hid (Below lo w1 X ∧ OG 51 7 jbC X lo (.slice (some ⟨lo, 0, none⟩) 0 0) [] ∧ lo < X.heap.size ∧ lo = w1.heap.size ∧ W.heap.size < lo) := by
    rw [hX, hlo]; exact ⟨by (repeat' (first | (with_reducible exact Below.refl _ _) | (with_reducible assumption) | (with_reducible refine Below.setCell ?_ ?_ _) | (with_reducible refine Below.alloc ?_ ?_ _) | (with_reducible refine below_drewN ?_ _) | (with_reducible refine Below.drew ?_) | (with_reducible exact Nat.le_refl _) | omega | (simp; done) | (simp; omega))), World.ownsRow_lit w1 #[] 0 (Nat.le_refl _) (by decide) (by simp), by simp, rfl, ltOfQ HW.out.2⟩
  have HCL : Hid (Calls Try.prog 37 #[.slice a n c] X fun e w' => ∃ v', e = .returned v' ∧ OG 51 7 jbC w' X.heap.size v' s ∧ (a ≠ none → ∃ g cc, v' = .slice (some ⟨g, 0, none⟩) n cc) ∧ Below X.heap.size X w') := by
    have h9 : Below W.heap.size W X := HW.out.1.trans (HX.out.1.mono (by have := HX.out; omega))
    rw [H.out.2.1]
    exact cl_jb (by have := HOK.out.1.len; omega) (by rw [← H.out.2.1]; exact H.out.2.2.2.2.2) (by rw [← H.out.2.1]; exact H.out.1.below h9)
  go_wp2_with (fail)
  rw [← hX, ← hlo]
  clear hX hlo
  refine HCL.out.mono ?_
  rintro e w2 ⟨v2, rfl, ho2, _, hb2⟩
  have HS : Hid (RS rule s 0 s 0 [] ∧ OG 51 7 jbC w2 lo (.slice (some ⟨lo, 0, none⟩) 0 0) [] ∧ OG 51 7 jbC w2 lo v2 s ∧ Apt (.slice (some ⟨lo, 0, none⟩) 0 0) v2 ∧ Below lo w1 w2) := by
    refine ⟨RS.zero HOK.out.1, OG.below HX.out.2.1 hb2, OG.low ho2 (by have := HX.out; omega), ?_, HX.out.1.trans (hb2.mono (by have := HX.out; omega))⟩
    refine Or.inr (Or.inr fun e => ?_)
    have h1 : (Value.slice (some ⟨lo, 0, none⟩) 0 0).ownBlock = some lo := rfl
    rw [h1] at e
    have := (OG.lt ho2 lo e.symm).1
    have := HX.out.2.2.1
    omega
  obtain ⟨a2, c2, hv2⟩ := OG.fm ho2
  rw [← H.out.2.1] at hv2
  subst hv2
  clear ho2 hb2 HCL
  go_wp2
  go_loopw [6, 7, 8, 22] (fun vo vl nw i wr => ∃ (t : Nat) (l od : List Jb) (now : Int) (oa : Option Addr) (oc m : Nat) (la : Option Addr) (lc : Nat), t ≤ n ∧ m = n - t ∧ vo = .slice oa t oc ∧ vl = .slice la m lc ∧ i = .int .i64 (t : Nat) ∧ nw = .int .i64 now ∧ Hid (RS rule s t l now od ∧ OG 51 7 jbC wr lo (.slice oa t oc) od ∧ OG 51 7 jbC wr lo (.slice la m lc) l ∧ Apt (.slice oa t oc) (.slice la m lc) ∧ Below lo w1 wr)) (fun _ _ _ i _ => n - (intOf i).toNat)
  case atStart => exact ⟨0, s, [], 0, some ⟨lo, 0, none⟩, 0, n, a2, c2, Nat.zero_le _, by omega, rfl, rfl, by go_num, by go_num, HS.out⟩
  case round =>
    clear HS
    obtain ⟨t, l, od, now, oa, oc, m, la, lc, ht, hmt, rfl, rfl, rfl, rfl, hR⟩ := hrel
    by_cases htn : t < n
    · have hln : l.length + t = n := by rw [hR.out.1.len]; exact H.out.2.1.symm
      have hlp : 0 < l.length := by omega
      have hm : m = l.length := by omega
      obtain ⟨g, hvl⟩ : ∃ g, la = some ⟨g, 0, none⟩ := by
        rcases hR.out.2.2.1.2 with ⟨_, e⟩ | ⟨g, cap, cur, e, _⟩
        · omega
        · injection e with e _ _; exact ⟨g, e⟩
      subst hvl
      obtain ⟨cap, rfl⟩ : ∃ x, x = lc := ⟨_, rfl⟩
      obtain ⟨b, hb, hbs, hpk⟩ := pk_some (rule := rule) (now := now) hlp
      have hnb := hR.out.1.nwb hlp
      obtain ⟨N, hN⟩ : ∃ N, N = nwR l now := ⟨_, rfl⟩
      obtain ⟨x, hx⟩ : ∃ x, x = jA l b := ⟨_, rfl⟩
      have hstp := hR.out.1.step hlp
      have hxr : rgJ x := by rw [hx, jA_at hb]; exact hR.out.1.ok.rg b hb
      have hxti := hxr.2.1
      have hb31 := hR.out.1.ok.len
      rw [hpk, ← hN, ← hx] at hstp
      rw [← hN] at hnb hbs
      have HF : Hid (OkJ l ∧ RS rule s (t + 1) (l.eraseIdx b) (N + x.ti) (od ++ [x]) ∧ bst (orC rule N) N l l.length = some b ∧ x = jA l b ∧ N = nwR l now ∧ b < m ∧ m = l.length ∧ l.length = m) := ⟨hR.out.1.ok, hstp, hbs, hx, hN, by omega, hm, hm.symm⟩
      have HMI : Hid (Calls Try.prog 38 #[.slice (some ⟨g, 0, none⟩) m cap, .func (Fn.func 39) #[] #[]] wr fun e w' => ∃ j : Jb, e = .returned (.agg #[.int .i64 j.id, .int .i64 j.co, .int .i64 j.ti, .int .i64 j.se, .int .i64 j.du, .int .i64 j.we, .int .i64 j.ki]) ∧ j.co = mnC l (l.length - 1) ∧ Below wr.heap.size wr w') := min_run (by omega) hlp (OG.rg jbC_len hR.out.2.2.1)
      have b1 : (t : Int) < (n : Int) := by omega
      have HMT : Hid (m = n - t) := hmt
      clear hln hstp hbs hx hN hpk hb hxr hm hmt ht
      go_wp2_with (fail)
      refine HMI.out.mono ?_
      rintro e w3 ⟨j, rfl, hj, hb3⟩
      have HJC : Hid (j.co = mnC l (l.length - 1)) := hj
      clear hj HMI
      have hfd : ∀ w : World, (Instr.field 51 (.agg #[.int .i64 j.id, .int .i64 j.co, .int .i64 j.ti, .int .i64 j.se, .int .i64 j.du, .int .i64 j.we, .int .i64 j.ki]) 1).run Try.prog w = .ok (.int .i64 j.co) w := fun _ => by kernel_rfl
      by_cases hmx : now < j.co
      · have HEN : Hid (j.co = N) := by
          have h1 := HF.out.2.2.2.2.1
          have h2 := HJC.out
          unfold Hid; rw [h1]; unfold nwR; rw [← h2]; omega
        have HR3 : Hid (OG 51 7 jbC w3 lo (.slice oa t oc) od ∧ OG 51 7 jbC w3 lo (.slice (some ⟨g, 0, none⟩) m cap) l ∧ Apt (.slice oa t oc) (.slice (some ⟨g, 0, none⟩) m cap) ∧ Below lo w1 w3) := ⟨OG.below hR.out.2.1 hb3, OG.below hR.out.2.2.1 hb3, hR.out.2.2.2.1, hR.out.2.2.2.2.trans (hb3.mono (by have h1 := hR.out.2.2.2.2.size; have h2 := HX.out.2.2.2.1; omega))⟩
        have HCA : Hid (Calls Try.prog 41 #[.slice (some ⟨g, 0, none⟩) m cap, .int .i64 j.co] w3 fun e w' => ∃ v', e = .returned v' ∧ OG 51 7 jbC w' w3.heap.size v' (comF N l) ∧ Below w3.heap.size w3 w') := by rw [HEN.out]; exact impl_ca N HF.out.1.len (OG.rg jbC_len HR3.out.2.1)
        clear hb3 hR
        go_wp2_with (fail)
        refine HCA.out.mono ?_
        rintro e w4 ⟨v4, rfl, ho4, hb4⟩
        obtain ⟨a4, c4, hv4⟩ := OG.fm ho4
        obtain ⟨k4, hk4⟩ : ∃ k, k = (comF N l).length := ⟨_, rfl⟩
        rw [← hk4] at hv4
        subst hv4
        have HPK : Hid (Calls Try.prog 40 #[.slice a4 k4 c4, .int .i64 rule, .int .i64 j.co] w4 fun e w' => e = .returned (.agg #[.int .i64 x.id, .int .i64 x.co, .int .i64 x.ti, .int .i64 x.se, .int .i64 x.du, .int .i64 x.we, .int .i64 x.ki]) ∧ Below w4.heap.size w4 w') := by
          obtain ⟨h1, h2⟩ := first_is (rule := rule) (now := N) HF.out.1 (by omega) HF.out.2.2.1
          rw [HEN.out, hk4]
          have hle : (comF N l).length ≤ l.length := List.length_filter_le _ _
          refine (impl_pk rule N HOK.out.2 (by have := HF.out.1.len; omega) h2 (by rw [← hk4]; exact OG.ncj ho4) (by rw [← hk4]; exact OG.rg jbC_len ho4)).mono ?_
          rintro e w9 ⟨j9, hj9, rfl, hb9⟩
          have e9 : j9 = x := by rw [hj9, h1]; exact HF.out.2.2.2.1.symm
          subst e9
          exact ⟨rfl, hb9⟩
        have HR4 : Hid (OG 51 7 jbC w4 lo (.slice oa t oc) od ∧ OG 51 7 jbC w4 lo (.slice (some ⟨g, 0, none⟩) m cap) l ∧ Apt (.slice oa t oc) (.slice (some ⟨g, 0, none⟩) m cap) ∧ Below lo w1 w4) := ⟨OG.below HR3.out.1 hb4, OG.below HR3.out.2.1 hb4, HR3.out.2.2.1, HR3.out.2.2.2.trans (hb4.mono (by have h1 := HR3.out.2.2.2.size; have h2 := HX.out.2.2.2.1; omega))⟩
        clear ho4 hb4 HCA HR3 hk4
        go_wp2_with (fail)
        refine HPK.out.mono ?_
        rintro e w5 ⟨rfl, hb5⟩
        obtain ⟨X5, hX5⟩ : ∃ X, X = w5.alloc (.cells #[.int .i64 x.id, .int .i64 x.co, .int .i64 x.ti, .int .i64 x.se, .int .i64 x.du, .int .i64 x.we, .int .i64 x.ki] 51) := ⟨_, rfl⟩
        have HX5 : Hid (OG 51 7 jbC X5 lo (.slice oa t oc) od ∧ OG 51 7 jbC X5 lo (.slice (some ⟨g, 0, none⟩) m cap) l ∧ Apt (.slice oa t oc) (.slice (some ⟨g, 0, none⟩) m cap) ∧ Below lo w1 X5 ∧ X5.heap[w5.heap.size]? = some (.cells #[.int .i64 x.id, .int .i64 x.co, .int .i64 x.ti, .int .i64 x.se, .int .i64 x.du, .int .i64 x.we, .int .i64 x.ki] 51) ∧ lo ≤ X5.heap.size ∧ od.length = t ∧ t < 30 ∧ ∀ q, (Value.slice oa t oc).ownBlock = some q → q < w5.heap.size) := by
          have h1 := HR4.out.2.2.2.size
          have h2 := HX.out.2.2.2.1
          have h3 := hb5.size
          have hol : od.length = t := by
            have := HF.out.2.1.ol
            rw [List.length_append, List.length_singleton] at this; omega
          rw [hX5]
          exact ⟨(OG.below HR4.out.1 hb5).al _, (OG.below HR4.out.2.1 hb5).al _, HR4.out.2.2.1, Below.alloc (HR4.out.2.2.2.trans (hb5.mono (by omega))) (by omega) _, heap_alloc_new _ _, by simp; omega, hol, by omega, fun q hq => (OG.lt (OG.below HR4.out.1 hb5) q hq).2⟩
        have hE0 : 0 ≤ j.co ∧ j.co ≤ 31000000 := by rw [HEN.out]; omega
        clear HR4 HPK hb5
        go_upto_region 9 with fail
        rw [← hX5]
        clear hX5
        obtain ⟨p0, p1, p2, p3, p4, p5, p6, pl⟩ := jb_cells HX5.out.2.2.2.2.1
        go_upto_region 11 with (at_builtin; refine wpList_append_own_at _ rfl _ _ 28 rfl lo 51 i0 (.agg #[.int .i64 0, .int .i64 0, .int .i64 0, .int .i64 0, .int .i64 0, .int .i64 0, .int .i64 0]) 7 56 Try.underlying28 hi0 hz0 hz1 hz2 rfl (by decide) _ _ _ rfl (HX5.out.1.al _) ⟨X5.heap.size, 0, none⟩ 1 1 (jbC x) rfl rfl (World.news_of_block (cs := #[.int .i64 x.id, .int .i64 x.co, .int .i64 x.ti, .int .i64 x.se, .int .i64 x.du, .int .i64 x.we, .int .i64 x.ki]) (t := 51) (fr := (0, 0)) (heap_alloc_new X5 _)) (by simp [jbC, Value.oneCell']) (by have := HX5.out; unfold maxLen; omega) (by have := HX5.out; omega) (by have := HX5.out.2.2.2.2.2.1; simp; omega) ?_; intro v9 w9 hown9 hgrow9 _ hat9)
        have ho9 := OG.s1 x hown9
        obtain ⟨a9, c9, hv9⟩ := OG.fm ho9
        rw [List.length_append, List.length_singleton, HX5.out.2.2.2.2.2.2.1] at hv9
        subst hv9
        have HP9 : Hid (OG 51 7 jbC w9 lo (.slice a9 (t + 1) c9) (od ++ [x]) ∧ OJ w9 lo g m cap l ∧ Apt (.slice a9 (t + 1) c9) (.slice (some ⟨g, 0, none⟩) m cap) ∧ Below lo w1 w9 ∧ w9.heap[w5.heap.size]? = some (.cells #[.int .i64 x.id, .int .i64 x.co, .int .i64 x.ti, .int .i64 x.se, .int .i64 x.du, .int .i64 x.we, .int .i64 x.ki] 51)) := by
          refine ⟨ho9, OG.kp (HX5.out.2.1.al _) hgrow9 HX5.out.2.2.1.kp, HX5.out.2.2.1.l hat9 (fun q hq => ?_), (Below.alloc HX5.out.2.2.2.1 HX5.out.2.2.2.2.2.1 _).grown hgrow9 (by have := HX5.out.2.2.2.2.2.1; simp; omega) (fun q hq => (OG.lt HX5.out.1 q hq).1), ?_⟩
          · have := (OG.lt HX5.out.2.1 q hq).2
            simp; omega
          · have hne := HX5.out.2.2.2.2.2.2.2.2
            rw [hgrow9.block _ (by simp; omega) (fun e => by have := hne _ e.symm; omega), Below.heap_alloc _ _ _ pl]
            exact HX5.out.2.2.2.2.1
        have HDF : Hid (Calls Try.prog 42 #[.slice (some ⟨g, 0, none⟩) m cap, .func (Fn.func 43) #[.agg #[.int .i64 x.id, .int .i64 x.co, .int .i64 x.ti, .int .i64 x.se, .int .i64 x.du, .int .i64 x.we, .int .i64 x.ki]] #[]] w9 fun e w' => e = .returned (.slice (some ⟨g, 0, none⟩) (m - 1) cap) ∧ OJ w' lo g (m - 1) cap (l.eraseIdx b) ∧ Below lo w1 w' ∧ Oth w9 g w') := by
          have hbm := HF.out.2.2.2.2.2.1
          have hml := HF.out.2.2.2.2.2.2.1
          have hxe := HF.out.2.2.2.1
          have hl30 := HF.out.1.len
          exact df_run (by omega) hbm (by rw [hxe]) (fun q hq e => HF.out.1.uniq q b hq (by omega) (by rw [← jA_at hq, e, hxe, jA_at (by omega)])) HP9.out.2.1 HP9.out.2.2.2.1
        clear ho9 hown9 hgrow9 hat9 HX5 p0 p1 p2 p3 p4 p5 p6 pl
        obtain ⟨p0, p1, p2, p3, p4, p5, p6, pl⟩ := jb_cells HP9.out.2.2.2.2
        go_wp2_with (fail)
        refine HDF.out.mono ?_
        rintro e w6 ⟨rfl, ho6, hb6, hoth⟩
        have HR6 : Hid (RS rule s (t + 1) (l.eraseIdx b) (N + x.ti) (od ++ [x]) ∧ OG 51 7 jbC w6 lo (.slice a9 (t + 1) c9) (od ++ [x]) ∧ OG 51 7 jbC w6 lo (.slice (some ⟨g, 0, none⟩) (m - 1) cap) (l.eraseIdx b) ∧ Apt (.slice a9 (t + 1) c9) (.slice (some ⟨g, 0, none⟩) (m - 1) cap) ∧ Below lo w1 w6) := by
          refine ⟨HF.out.2.1, rowKept HP9.out.1 (fun q hq => hoth.2 q (OG.lt HP9.out.1 q hq).2 (fun e => ?_)), ho6, HP9.out.2.2.1, hb6⟩
          subst e
          rcases HP9.out.2.2.1 with h1 | h1 | h1
          · rw [h1] at hq; cases hq
          · cases h1
          · exact h1 (by rw [hq]; rfl)
        have HNW : Hid (j.co + x.ti = N + x.ti ∧ m - 1 = n - (t + 1)) := ⟨by rw [HEN.out], by have := HMT.out; omega⟩
        clear HP9 HDF ho6 hb6 hoth p0 p1 p2 p3 p4 p5 p6 pl HF HEN hE0
        go_wp2
        go_roundw
        case rel => exact ⟨t + 1, l.eraseIdx b, od ++ [x], N + x.ti, a9, c9, m - 1, some ⟨g, 0, none⟩, cap, by omega, HNW.out.2, rfl, rfl, by go_num, by rw [← HNW.out.1], HR6.out⟩
        case measure => simp [intOf]; omega
      · have HEN : Hid (now = N) := by
          have h1 := HF.out.2.2.2.2.1
          have h2 := HJC.out
          unfold Hid; rw [h1]; unfold nwR; rw [← h2]; omega
        have HR3 : Hid (OG 51 7 jbC w3 lo (.slice oa t oc) od ∧ OG 51 7 jbC w3 lo (.slice (some ⟨g, 0, none⟩) m cap) l ∧ Apt (.slice oa t oc) (.slice (some ⟨g, 0, none⟩) m cap) ∧ Below lo w1 w3) := ⟨OG.below hR.out.2.1 hb3, OG.below hR.out.2.2.1 hb3, hR.out.2.2.2.1, hR.out.2.2.2.2.trans (hb3.mono (by have h1 := hR.out.2.2.2.2.size; have h2 := HX.out.2.2.2.1; omega))⟩
        have HCA : Hid (Calls Try.prog 41 #[.slice (some ⟨g, 0, none⟩) m cap, .int .i64 now] w3 fun e w' => ∃ v', e = .returned v' ∧ OG 51 7 jbC w' w3.heap.size v' (comF N l) ∧ Below w3.heap.size w3 w') := by rw [HEN.out]; exact impl_ca N HF.out.1.len (OG.rg jbC_len HR3.out.2.1)
        clear hb3 hR
        go_wp2_with (fail)
        refine HCA.out.mono ?_
        rintro e w4 ⟨v4, rfl, ho4, hb4⟩
        obtain ⟨a4, c4, hv4⟩ := OG.fm ho4
        obtain ⟨k4, hk4⟩ : ∃ k, k = (comF N l).length := ⟨_, rfl⟩
        rw [← hk4] at hv4
        subst hv4
        have HPK : Hid (Calls Try.prog 40 #[.slice a4 k4 c4, .int .i64 rule, .int .i64 now] w4 fun e w' => e = .returned (.agg #[.int .i64 x.id, .int .i64 x.co, .int .i64 x.ti, .int .i64 x.se, .int .i64 x.du, .int .i64 x.we, .int .i64 x.ki]) ∧ Below w4.heap.size w4 w') := by
          obtain ⟨h1, h2⟩ := first_is (rule := rule) (now := N) HF.out.1 (by omega) HF.out.2.2.1
          rw [HEN.out, hk4]
          have hle : (comF N l).length ≤ l.length := List.length_filter_le _ _
          refine (impl_pk rule N HOK.out.2 (by have := HF.out.1.len; omega) h2 (by rw [← hk4]; exact OG.ncj ho4) (by rw [← hk4]; exact OG.rg jbC_len ho4)).mono ?_
          rintro e w9 ⟨j9, hj9, rfl, hb9⟩
          have e9 : j9 = x := by rw [hj9, h1]; exact HF.out.2.2.2.1.symm
          subst e9
          exact ⟨rfl, hb9⟩
        have HR4 : Hid (OG 51 7 jbC w4 lo (.slice oa t oc) od ∧ OG 51 7 jbC w4 lo (.slice (some ⟨g, 0, none⟩) m cap) l ∧ Apt (.slice oa t oc) (.slice (some ⟨g, 0, none⟩) m cap) ∧ Below lo w1 w4) := ⟨OG.below HR3.out.1 hb4, OG.below HR3.out.2.1 hb4, HR3.out.2.2.1, HR3.out.2.2.2.trans (hb4.mono (by have h1 := HR3.out.2.2.2.size; have h2 := HX.out.2.2.2.1; omega))⟩
        clear ho4 hb4 HCA HR3 hk4
        go_wp2_with (fail)
        refine HPK.out.mono ?_
        rintro e w5 ⟨rfl, hb5⟩
        obtain ⟨X5, hX5⟩ : ∃ X, X = w5.alloc (.cells #[.int .i64 x.id, .int .i64 x.co, .int .i64 x.ti, .int .i64 x.se, .int .i64 x.du, .int .i64 x.we, .int .i64 x.ki] 51) := ⟨_, rfl⟩
        have HX5 : Hid (OG 51 7 jbC X5 lo (.slice oa t oc) od ∧ OG 51 7 jbC X5 lo (.slice (some ⟨g, 0, none⟩) m cap) l ∧ Apt (.slice oa t oc) (.slice (some ⟨g, 0, none⟩) m cap) ∧ Below lo w1 X5 ∧ X5.heap[w5.heap.size]? = some (.cells #[.int .i64 x.id, .int .i64 x.co, .int .i64 x.ti, .int .i64 x.se, .int .i64 x.du, .int .i64 x.we, .int .i64 x.ki] 51) ∧ lo ≤ X5.heap.size ∧ od.length = t ∧ t < 30 ∧ ∀ q, (Value.slice oa t oc).ownBlock = some q → q < w5.heap.size) := by
          have h1 := HR4.out.2.2.2.size
          have h2 := HX.out.2.2.2.1
          have h3 := hb5.size
          have hol : od.length = t := by
            have := HF.out.2.1.ol
            rw [List.length_append, List.length_singleton] at this; omega
          rw [hX5]
          exact ⟨(OG.below HR4.out.1 hb5).al _, (OG.below HR4.out.2.1 hb5).al _, HR4.out.2.2.1, Below.alloc (HR4.out.2.2.2.trans (hb5.mono (by omega))) (by omega) _, heap_alloc_new _ _, by simp; omega, hol, by omega, fun q hq => (OG.lt (OG.below HR4.out.1 hb5) q hq).2⟩
        have hE0 : 0 ≤ now ∧ now ≤ 31000000 := by rw [HEN.out]; omega
        clear HR4 HPK hb5
        go_upto_region 9 with fail
        rw [← hX5]
        clear hX5
        obtain ⟨p0, p1, p2, p3, p4, p5, p6, pl⟩ := jb_cells HX5.out.2.2.2.2.1
        go_upto_region 11 with (at_builtin; refine wpList_append_own_at _ rfl _ _ 28 rfl lo 51 i0 (.agg #[.int .i64 0, .int .i64 0, .int .i64 0, .int .i64 0, .int .i64 0, .int .i64 0, .int .i64 0]) 7 56 Try.underlying28 hi0 hz0 hz1 hz2 rfl (by decide) _ _ _ rfl (HX5.out.1.al _) ⟨X5.heap.size, 0, none⟩ 1 1 (jbC x) rfl rfl (World.news_of_block (cs := #[.int .i64 x.id, .int .i64 x.co, .int .i64 x.ti, .int .i64 x.se, .int .i64 x.du, .int .i64 x.we, .int .i64 x.ki]) (t := 51) (fr := (0, 0)) (heap_alloc_new X5 _)) (by simp [jbC, Value.oneCell']) (by have := HX5.out; unfold maxLen; omega) (by have := HX5.out; omega) (by have := HX5.out.2.2.2.2.2.1; simp; omega) ?_; intro v9 w9 hown9 hgrow9 _ hat9)
        have ho9 := OG.s1 x hown9
        obtain ⟨a9, c9, hv9⟩ := OG.fm ho9
        rw [List.length_append, List.length_singleton, HX5.out.2.2.2.2.2.2.1] at hv9
        subst hv9
        have HP9 : Hid (OG 51 7 jbC w9 lo (.slice a9 (t + 1) c9) (od ++ [x]) ∧ OJ w9 lo g m cap l ∧ Apt (.slice a9 (t + 1) c9) (.slice (some ⟨g, 0, none⟩) m cap) ∧ Below lo w1 w9 ∧ w9.heap[w5.heap.size]? = some (.cells #[.int .i64 x.id, .int .i64 x.co, .int .i64 x.ti, .int .i64 x.se, .int .i64 x.du, .int .i64 x.we, .int .i64 x.ki] 51)) := by
          refine ⟨ho9, OG.kp (HX5.out.2.1.al _) hgrow9 HX5.out.2.2.1.kp, HX5.out.2.2.1.l hat9 (fun q hq => ?_), (Below.alloc HX5.out.2.2.2.1 HX5.out.2.2.2.2.2.1 _).grown hgrow9 (by have := HX5.out.2.2.2.2.2.1; simp; omega) (fun q hq => (OG.lt HX5.out.1 q hq).1), ?_⟩
          · have := (OG.lt HX5.out.2.1 q hq).2
            simp; omega
          · have hne := HX5.out.2.2.2.2.2.2.2.2
            rw [hgrow9.block _ (by simp; omega) (fun e => by have := hne _ e.symm; omega), Below.heap_alloc _ _ _ pl]
            exact HX5.out.2.2.2.2.1
        have HDF : Hid (Calls Try.prog 42 #[.slice (some ⟨g, 0, none⟩) m cap, .func (Fn.func 43) #[.agg #[.int .i64 x.id, .int .i64 x.co, .int .i64 x.ti, .int .i64 x.se, .int .i64 x.du, .int .i64 x.we, .int .i64 x.ki]] #[]] w9 fun e w' => e = .returned (.slice (some ⟨g, 0, none⟩) (m - 1) cap) ∧ OJ w' lo g (m - 1) cap (l.eraseIdx b) ∧ Below lo w1 w' ∧ Oth w9 g w') := by
          have hbm := HF.out.2.2.2.2.2.1
          have hml := HF.out.2.2.2.2.2.2.1
          have hxe := HF.out.2.2.2.1
          have hl30 := HF.out.1.len
          exact df_run (by omega) hbm (by rw [hxe]) (fun q hq e => HF.out.1.uniq q b hq (by omega) (by rw [← jA_at hq, e, hxe, jA_at (by omega)])) HP9.out.2.1 HP9.out.2.2.2.1
        clear ho9 hown9 hgrow9 hat9 HX5 p0 p1 p2 p3 p4 p5 p6 pl
        obtain ⟨p0, p1, p2, p3, p4, p5, p6, pl⟩ := jb_cells HP9.out.2.2.2.2
        go_wp2_with (fail)
        refine HDF.out.mono ?_
        rintro e w6 ⟨rfl, ho6, hb6, hoth⟩
        have HR6 : Hid (RS rule s (t + 1) (l.eraseIdx b) (N + x.ti) (od ++ [x]) ∧ OG 51 7 jbC w6 lo (.slice a9 (t + 1) c9) (od ++ [x]) ∧ OG 51 7 jbC w6 lo (.slice (some ⟨g, 0, none⟩) (m - 1) cap) (l.eraseIdx b) ∧ Apt (.slice a9 (t + 1) c9) (.slice (some ⟨g, 0, none⟩) (m - 1) cap) ∧ Below lo w1 w6) := by
          refine ⟨HF.out.2.1, rowKept HP9.out.1 (fun q hq => hoth.2 q (OG.lt HP9.out.1 q hq).2 (fun e => ?_)), ho6, HP9.out.2.2.1, hb6⟩
          subst e
          rcases HP9.out.2.2.1 with h1 | h1 | h1
          · rw [h1] at hq; cases hq
          · cases h1
          · exact h1 (by rw [hq]; rfl)
        have HNW : Hid (now + x.ti = N + x.ti ∧ m - 1 = n - (t + 1)) := ⟨by rw [HEN.out], by have := HMT.out; omega⟩
        clear HP9 HDF ho6 hb6 hoth p0 p1 p2 p3 p4 p5 p6 pl HF HEN hE0
        go_wp2
        go_roundw
        case rel => exact ⟨t + 1, l.eraseIdx b, od ++ [x], N + x.ti, a9, c9, m - 1, some ⟨g, 0, none⟩, cap, by omega, HNW.out.2, rfl, rfl, by go_num, by rw [← HNW.out.1], HR6.out⟩
        case measure => simp [intOf]; omega
    · have htn2 : t = n := by omega
      subst htn2
      have hl0 : l = [] := by
        have := hR.out.1.len
        rw [← H.out.2.1] at this
        exact List.eq_nil_of_length_eq_zero (by omega)
      have HOD : Hid (od = rrL s rule ∧ IDS = od.map Jb.id ∧ QQ = lateV od ∧ ∀ i (hi : i < od.length), rgJ od[i]) := by
        have h1 : rrL s rule = od := by
          have := hR.out.1.run
          rw [hl0] at this
          rw [rrL, this]
          exact List.append_nil od
        refine ⟨h1.symm, ?_, ?_, fun i hi => ?_⟩
        · rw [H.out.2.2.2.1, rrI, if_pos H.out.2.2.1.symm, h1]
        · rw [H.out.2.2.2.2.1, rrQ, if_pos H.out.2.2.1.symm, h1]
        · obtain ⟨q, hq, e⟩ := List.getElem_of_mem (hR.out.1.osub _ (List.getElem_mem hi))
          rw [← e]; exact HOK.out.1.rg q hq
      have hol := hR.out.1.ol
      have HID : Hid (Calls Try.prog 44 #[.slice oa t oc] wr fun e w' => ∃ v', e = .returned v' ∧ IS w' wr.heap.size v' IDS ∧ Below wr.heap.size wr w') := by
        rw [HOD.out.2.1]; exact impl_ids (by omega) (OG.rg jbC_len hR.out.2.1)
      have HR1 : Hid (OG 51 7 jbC wr lo (.slice oa t oc) od ∧ Below lo w1 wr ∧ od.length = t) := ⟨hR.out.2.1, hR.out.2.2.2.2, hol⟩
      clear hR hl0 hol hmt
      go_wp2_with (fail)
      refine HID.out.mono ?_
      rintro e w5 ⟨v5, rfl, ho5, hb5⟩
      obtain ⟨ia, ic, hii⟩ := ho5.form
      obtain ⟨ni, hni⟩ : ∃ m, m = IDS.length := ⟨_, rfl⟩
      rw [← hni] at hii
      subst hii
      have HLT : Hid (Calls Try.prog 45 #[.slice oa t oc] w5 fun e w' => e = .returned (.int .i64 QQ) ∧ Below w5.heap.size w5 w') := by
        rw [HOD.out.2.2.1]
        exact impl_late (by have := HR1.out.2.2; omega) HOD.out.2.2.2 (OG.rg jbC_len (OG.below HR1.out.1 hb5))
      have HW5 : Hid (IS w5 wr.heap.size (.slice ia ni ic) IDS ∧ Below lo w1 w5 ∧ W.heap.size < wr.heap.size) := ⟨ho5, HR1.out.2.1.trans (hb5.mono (by have h1 := HR1.out.2.1.size; have h2 := HX.out.2.2.2.1; omega)), by have h1 := HR1.out.2.1.size; have h2 := HX.out; omega⟩
      clear ho5 hb5 HID hni HR1
      go_wp2_with (fail)
      refine HLT.out.mono ?_
      rintro e w6 ⟨rfl, hb6⟩
      have HW6 : Hid (Below W.heap.size W w6 ∧ w6.heap[W.heap.size]? = some (.cells #[.int .i64 0, .slice none 0 0, .int .i64 0] 26) ∧ IS w6 wr.heap.size (.slice ia ni ic) IDS ∧ W.heap.size < wr.heap.size) := by
        have hb := HW5.out.2.1.trans (hb6.mono (by have h1 := HW5.out.2.1.size; have h2 := HX.out.2.2.2.1; omega))
        have h3 := HX.out
        refine ⟨HW.out.1.trans (hb.mono (by omega)), (hb.block _ (by omega)).trans HW.out.2, HW5.out.1.bel hb6, HW5.out.2.2⟩
      clear HW5 HLT hb6 HW HX HOK HOD H
      have z0 : w6.cell? ⟨W.heap.size, 0, none⟩ = some (.int .i64 0) := cellOfQ HW6.out.2.1 0 rfl
      have z1 : w6.cell? ⟨W.heap.size, 1, none⟩ = some (.slice none 0 0) := cellOfQ HW6.out.2.1 1 rfl
      have z2 : w6.cell? ⟨W.heap.size, 2, none⟩ = some (.int .i64 0) := cellOfQ HW6.out.2.1 2 rfl
      have zl := ltOfQ HW6.out.2.1
      have f0 := frozOfQ HW6.out.2.1 0
      have f1 := frozOfQ HW6.out.2.1 1
      have f2 := frozOfQ HW6.out.2.1 2
      go_wp2
      try simp only [Exit.inBlock, Exit.then]
      refine bodyPost_ret (by simp [results, Try.results11, go_sem, z0, z1, z2, zl, f0, f1, f2]; try rfl) rfl ⟨_, (), by rfl, ?_, ?_⟩
      · have h8 := HW6.out.2.2.2
        refine (IS.low HW6.out.2.2.1 (by omega)).kept fun q hq => ?_
        have h9 := (IS.lt HW6.out.2.2.1 q hq).1
        repeat rw [heap_setCell_other _ _ _ _ (by show q ≠ W.heap.size; omega)]
      · have hb := HW6.out.1
        (repeat' (first | (with_reducible exact Below.refl _ _) | (with_reducible assumption) | (with_reducible refine Below.setCell ?_ ?_ _) | (with_reducible refine Below.alloc ?_ ?_ _) | (with_reducible refine below_drewN ?_ _) | (with_reducible refine Below.drew ?_) | (with_reducible exact Nat.le_refl _) | omega | (simp; done) | (simp; omega)))

end Go.Proofs.Ytjbghflphngnkaa
