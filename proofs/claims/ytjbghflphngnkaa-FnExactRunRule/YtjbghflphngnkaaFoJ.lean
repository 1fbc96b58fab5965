/- Proved here: FlowOrder of the program. -/
import Derived.Test.YtjbghflphngnkaaOpN
import Derived.Test.YtjbghflphngnkaaFoI
import Derived.Test.YtjbghflphngnkaaDkI
import Derived.Test.YtjbghflphngnkaaPjI
import Derived.Maps.AppendAt
import Derived.Deep.Cut
namespace Go.Proofs.Ytjbghflphngnkaa
open Go.RowKit
set_option linter.unusedVariables false
set_option linter.unusedSimpArgs false


def Apt (v u : Value) : Prop := v.ownBlock = none ∨ u.ownBlock = none ∨ v.ownBlock ≠ u.ownBlock
theorem Apt.l {v u v' : Value} {n : Nat} (h : Apt v u) (hv : v'.ownBlock = v.ownBlock ∨ v'.ownBlock = some n) (hu : ∀ g, u.ownBlock = some g → g < n) : Apt v' u := by
  rcases hv with e | e
  · unfold Apt; rw [e]; exact h
  · cases hu2 : u.ownBlock with
    | none => exact Or.inr (Or.inl hu2)
    | some g => exact Or.inr (Or.inr (by rw [e, hu2]; intro e2; injection e2 with e2; have := hu g hu2; omega))
theorem Apt.sym {v u : Value} (h : Apt v u) : Apt u v := by
  rcases h with e | e | e
  · exact Or.inr (Or.inl e)
  · exact Or.inl e
  · exact Or.inr (Or.inr (fun h => e h.symm))
theorem Apt.kp {v u : Value} (h : Apt v u) : u.ownBlock = none ∨ u.ownBlock ≠ v.ownBlock := by
  rcases h with e | e | e
  · cases hu : u.ownBlock with
    | none => exact Or.inl rfl
    | some g => exact Or.inr (by rw [e]; intro h; cases h)
  · exact Or.inl e
  · exact Or.inr (fun h => e h.symm)
/-- sortedBy with an order and then the numbers. -/
theorem sort_run {Y : World} {a : Option Addr} {cc q : Nat} {c : Jb → Jb → Int} {fv : Value} {l : List Jb} (hn : l.length ≤ 39) (hnc : NCj a l.length cc) (h : RG 7 jbC Y (.slice a l.length cc) l) (hq : q < Y.heap.size)
    (h0 : Y.cell? ⟨q, 0, none⟩ = some fv) (h1 : Y.cell? ⟨q, 1, none⟩ = some (.func (Fn.func 57) #[] #[]))
    (hK : ∀ (X : World) (p lo : Nat), X.cell? ⟨p, 0, none⟩ = some (.slice (some ⟨q, 0, none⟩) 2 2) → p < lo → q < lo → X.cell? ⟨q, 0, none⟩ = some fv → X.cell? ⟨q, 1, none⟩ = some (.func (Fn.func 57) #[] #[]) → lo ≤ X.heap.size → Cmp X lo p c) :
    Calls Try.prog 55 #[.slice a l.length cc, .slice (some ⟨q, 0, none⟩) 2 2] Y fun e w' => ∃ v, e = .returned v ∧ OG 51 7 jbC w' Y.heap.size v (stbF c l.length l) ∧ Below Y.heap.size Y w' :=
  sb_run hn hnc h (fun X p lo g1 g2 g3 g4 g5 => hK X p lo g1 g2 (Nat.lt_of_lt_of_le hq g4) ((g3.cell (p := ⟨q, 0, none⟩) hq).trans h0) ((g3.cell (p := ⟨q, 1, none⟩) hq).trans h1) g5)
set_option maxRecDepth 10000 in
set_option maxHeartbeats 12800000 in
theorem impl_fo {W : World} {a : Option Addr} {c : Nat} {s : List Jb} (hn : s.length ≤ 1048576) (hc : s.length ≤ c) (hs : RG 7 jbC W (.slice a s.length c) s) :
    Calls Try.prog 18 #[.slice a s.length c] W fun e w' => ∃ (v : Value) (_ : Unit), e = .returned (.agg #[.int .i64 (jbF s), v, .int .i64 (foQ s)]) ∧ IS w' W.heap.size v (foI s) ∧ Below W.heap.size W w' := by
  obtain ⟨i0, hi0, hz0, hz1, hz2⟩ := info_parts info_Job
  obtain ⟨n, hnn⟩ : ∃ n, n = s.length := ⟨_, rfl⟩
  obtain ⟨J, hJ⟩ : ∃ J, J = jbF s := ⟨_, rfl⟩
  obtain ⟨IDS, hIDS⟩ : ∃ J, J = foI s := ⟨_, rfl⟩
  obtain ⟨QQ, hQQ⟩ : ∃ J, J = foQ s := ⟨_, rfl⟩
  obtain ⟨Z, hZ⟩ : ∃ Z, Z = W.alloc (.cells #[.int .i64 0, .slice none 0 0, .int .i64 0] 26) := ⟨_, rfl⟩
  have HZ : Hid (Below W.heap.size W Z ∧ Z.heap[W.heap.size]? = some (.cells #[.int .i64 0, .slice none 0 0, .int .i64 0] 26)) := by rw [hZ]; exact ⟨by (repeat' (first | (with_reducible exact Below.refl _ _) | (with_reducible assumption) | (with_reducible refine Below.setCell ?_ ?_ _) | (with_reducible refine Below.alloc ?_ ?_ _) | (with_reducible refine below_drewN ?_ _) | (with_reducible refine Below.drew ?_) | (with_reducible exact Nat.le_refl _) | omega | (simp; done) | (simp; omega))), heap_alloc_new _ _⟩
  have HJ : Hid (Calls Try.prog 53 #[.slice a n c] Z fun e w' => e = .returned (.int .i64 J) ∧ Below Z.heap.size Z w') := by rw [hJ, hnn]; exact impl_jf hn hc (hs.below HZ.out.1)
  have H : Hid (RG 7 jbC W (.slice a n c) s ∧ n = s.length ∧ J = jbF s ∧ IDS = foI s ∧ QQ = foQ s) := ⟨by rw [hnn]; exact hs, hnn, hJ, hIDS, hQQ⟩
  rw [← hJ, ← hnn, ← hIDS, ← hQQ]
  clear hs hn hc hnn hJ hIDS hQQ
  go_enter Try.func18, Try.ntmps18
  go_wp2_with (fail)
  rw [← hZ]
  clear hZ
  refine HJ.out.mono ?_
  rintro e w1 ⟨rfl, hb1⟩
  have HW : Hid (Below W.heap.size W w1 ∧ w1.heap[W.heap.size]? = some (.cells #[.int .i64 0, .slice none 0 0, .int .i64 0] 26)) := ⟨HZ.out.1.trans (hb1.mono HZ.out.1.size), (hb1.block _ (ltOfQ HZ.out.2)).trans HZ.out.2⟩
  clear hb1 HZ HJ
  by_cases hJ0 : J = 0
  case neg =>
    have HE : Hid (IDS = [] ∧ QQ = 0) := by
      have h9 : ¬ jbF s = 0 := by rw [← H.out.2.2.1]; exact hJ0
      exact ⟨by rw [H.out.2.2.2.1, foI, if_neg h9], by rw [H.out.2.2.2.2, foQ, if_neg h9]⟩
    have h1 : (J != 0) = true := by simpa using hJ0
    have z0 : w1.cell? ⟨W.heap.size, 0, none⟩ = some (.int .i64 0) := cellOfQ HW.out.2 0 rfl
    have z1 : w1.cell? ⟨W.heap.size, 1, none⟩ = some (.slice none 0 0) := cellOfQ HW.out.2 1 rfl
    have z2 : w1.cell? ⟨W.heap.size, 2, none⟩ = some (.int .i64 0) := cellOfQ HW.out.2 2 rfl
    have zl := ltOfQ HW.out.2
    have f0 := frozOfQ HW.out.2 0
    have f1 := frozOfQ HW.out.2 1
    have f2 := frozOfQ HW.out.2 2
    have HB : Hid (Below W.heap.size W w1) := HW.out.1
    clear HW H
    go_wp2
    try simp only [Exit.inBlock, Exit.then]
    refine bodyPost_ret (by simp [results, Try.results18, go_sem, z0, z1, z2, zl, f0, f1, f2]; try rfl) rfl ⟨_, (), by rw [HE.out.2], by rw [HE.out.1]; exact World.ownsRow_nil _ _ _ _, ?_⟩
    have hb := HB.out
    (repeat' (first | (with_reducible exact Below.refl _ _) | (with_reducible assumption) | (with_reducible refine Below.setCell ?_ ?_ _) | (with_reducible refine Below.alloc ?_ ?_ _) | (with_reducible refine below_drewN ?_ _) | (with_reducible refine Below.drew ?_) | (with_reducible exact Nat.le_refl _) | omega | (simp; done) | (simp; omega)))
  subst hJ0
  have hok := jbF_ok H.out.2.2.1.symm
  have hn30 : n ≤ 30 := by rw [H.out.2.1]; exact hok.len
  have HOK : Hid (OkJ s) := hok
  clear hok
  have H0 : Hid (OG 51 7 jbC w1 w1.heap.size (.slice none 0 0) (ahF (s.take 0)) ∧ OG 51 7 jbC w1 w1.heap.size (.slice none 0 0) (beF (s.take 0)) ∧ Apt (.slice none 0 0) (.slice none 0 0) ∧ Below w1.heap.size w1 w1) := ⟨OG.nl _ _ _ _ _, OG.nl _ _ _ _ _, Or.inl rfl, Below.refl _ _⟩
  go_wp2
  go_loopw [4, 5, 17] (fun v u i wr => ∃ k : Nat, k ≤ n ∧ i = .int .i64 k ∧ Hid (OG 51 7 jbC wr w1.heap.size v (ahF (s.take k)) ∧ OG 51 7 jbC wr w1.heap.size u (beF (s.take k)) ∧ Apt v u ∧ Below w1.heap.size w1 wr)) (fun _ _ i _ => n - (intOf i).toNat)
  case atStart => exact ⟨0, Nat.zero_le _, rfl, H0.out⟩
  case round =>
    clear H0
    obtain ⟨k, hk, rfl, hR⟩ := hrel
    by_cases hlt : k < n
    · have hkl : k < s.length := by rw [← H.out.2.1]; exact hlt
      obtain ⟨g, o, c2, he, hg, hj⟩ := (H.out.1.below (HW.out.1.trans (hR.out.2.2.2.mono HW.out.1.size))).pos (by omega)
      simp only [Value.slice.injEq] at he
      obtain ⟨rfl, hx1, hx2⟩ := he
      clear hx1 hx2
      obtain ⟨c0, c1, c2, c3, c4, c5, c6⟩ := jbC_at (hj k hkl)
      obtain ⟨j, hj2⟩ : ∃ j, j = s[k] := ⟨_, rfl⟩
      rw [← hj2] at c0 c1 c2 c3 c4 c5 c6
      have HS4 : Hid (ahF (s.take (k + 1)) = if j.ti ≤ j.se then ahF (s.take k) ++ [j] else ahF (s.take k)) := by unfold Hid; rw [hj2]; exact ahF_step hkl
      have HS5 : Hid (beF (s.take (k + 1)) = if j.ti ≤ j.se then beF (s.take k) else beF (s.take k) ++ [j]) := by unfold Hid; rw [hj2]; exact beF_step hkl
      have hl4 : (ahF (s.take k)).length ≤ 30 := by have := ahF_len (s.take k); rw [List.length_take] at this; omega
      have hl5 : (beF (s.take k)).length ≤ 30 := by have := beF_len (s.take k); rw [List.length_take] at this; omega
      obtain ⟨L4, hL4⟩ : ∃ l, l = ahF (s.take k) := ⟨_, rfl⟩
      obtain ⟨L5, hL5⟩ : ∃ l, l = beF (s.take k) := ⟨_, rfl⟩
      rw [← hL4] at hR HS4 hl4
      rw [← hL5] at hR HS5 hl5
      obtain ⟨va, vc, hvv⟩ := hR.out.1.fm
      obtain ⟨ua, uc, huu⟩ := hR.out.2.1.fm
      subst hvv huu
      have b0 : (0 : Int) ≤ (k : Int) := by omega
      have b1 : (k : Int) < (n : Int) := by omega
      obtain ⟨X, hX⟩ : ∃ X, X = wr.alloc (.cells #[.int .i64 j.id, .int .i64 j.co, .int .i64 j.ti, .int .i64 j.se, .int .i64 j.du, .int .i64 j.we, .int .i64 j.ki] 51) := ⟨_, rfl⟩
      have HX : Hid (OG 51 7 jbC X w1.heap.size (.slice va L4.length vc) L4 ∧ OG 51 7 jbC X w1.heap.size (.slice ua L5.length uc) L5 ∧ Apt (.slice va L4.length vc) (.slice ua L5.length uc) ∧ Below w1.heap.size w1 X ∧ X.heap[wr.heap.size]? = some (.cells #[.int .i64 j.id, .int .i64 j.co, .int .i64 j.ti, .int .i64 j.se, .int .i64 j.du, .int .i64 j.we, .int .i64 j.ki] 51) ∧ w1.heap.size ≤ X.heap.size) := by
        rw [hX]; exact ⟨hR.out.1.al _, hR.out.2.1.al _, hR.out.2.2.1, Below.alloc hR.out.2.2.2 hR.out.2.2.2.size _, heap_alloc_new _ _, by have := hR.out.2.2.2.size; simp; omega⟩
      have HLN : Hid (L4.length ≤ 30 ∧ L5.length ≤ 30) := ⟨hl4, hl5⟩
      clear hj hj2 hR hL4 hL5 hl4 hl5
      go_upto_region 8 with fail
      rw [← hX]
      clear hX c0 c1 c2 c3 c4 c5 c6 hg
      obtain ⟨p0, p1, p2, p3, p4, p5, p6, pl⟩ := jb_cells HX.out.2.2.2.2.1
      by_cases hts : j.ti ≤ j.se
      · have HQ4 : Hid (ahF (s.take (k + 1)) = L4 ++ [j]) := by unfold Hid; rw [HS4.out, if_pos hts]
        have HQ5 : Hid (beF (s.take (k + 1)) = L5) := by unfold Hid; rw [HS5.out, if_pos hts]
        clear HS4 HS5
        go_wp2_with (at_builtin; refine wpList_append_own_at _ rfl _ _ 28 rfl w1.heap.size 51 i0 (.agg #[.int .i64 0, .int .i64 0, .int .i64 0, .int .i64 0, .int .i64 0, .int .i64 0, .int .i64 0]) 7 56 Try.underlying28 hi0 hz0 hz1 hz2 rfl (by decide) _ _ _ rfl (HX.out.1.al _) ⟨X.heap.size, 0, none⟩ 1 1 (jbC j) rfl rfl (World.news_of_block (cs := #[.int .i64 j.id, .int .i64 j.co, .int .i64 j.ti, .int .i64 j.se, .int .i64 j.du, .int .i64 j.we, .int .i64 j.ki]) (t := 51) (fr := (0, 0)) (heap_alloc_new X _)) (by simp [jbC, Value.oneCell']) (by have := HLN.out; unfold maxLen; omega) (by have := HLN.out; omega) (by have := HX.out.2.2.2.2.2; simp; omega) ?_; intro v9 w9 hown9 hgrow9 _ hat9)
        have HP : Hid (OG 51 7 jbC w9 w1.heap.size v9 (ahF (s.take (k + 1))) ∧ OG 51 7 jbC w9 w1.heap.size (.slice ua L5.length uc) (beF (s.take (k + 1))) ∧ Apt v9 (.slice ua L5.length uc) ∧ Below w1.heap.size w1 w9) := by
          rw [HQ4.out, HQ5.out]
          refine ⟨OG.s1 j hown9, OG.kp (HX.out.2.1.al _) hgrow9 HX.out.2.2.1.kp, HX.out.2.2.1.l hat9 (fun g hg => ?_), (Below.alloc HX.out.2.2.2.1 HX.out.2.2.2.2.2 _).grown hgrow9 (by have := HX.out.2.2.2.2.2; simp; omega) (fun q hq => (OG.lt HX.out.1 q hq).1)⟩
          have := (OG.lt HX.out.2.1 g hg).2
          simp; omega
        clear hown9 hgrow9 hat9 HX HQ4 HQ5 HLN p0 p1 p2 p3 p4 p5 p6 pl
        go_wp2
        go_roundw
        case rel => exact ⟨k + 1, by omega, by go_num, HP.out⟩
        case measure => simp [intOf]; omega
      · have HQ4 : Hid (ahF (s.take (k + 1)) = L4) := by unfold Hid; rw [HS4.out, if_neg hts]
        have HQ5 : Hid (beF (s.take (k + 1)) = L5 ++ [j]) := by unfold Hid; rw [HS5.out, if_neg hts]
        clear HS4 HS5
        go_wp2_with (at_builtin; refine wpList_append_own_at _ rfl _ _ 28 rfl w1.heap.size 51 i0 (.agg #[.int .i64 0, .int .i64 0, .int .i64 0, .int .i64 0, .int .i64 0, .int .i64 0, .int .i64 0]) 7 56 Try.underlying28 hi0 hz0 hz1 hz2 rfl (by decide) _ _ _ rfl (HX.out.2.1.al _) ⟨X.heap.size, 0, none⟩ 1 1 (jbC j) rfl rfl (World.news_of_block (cs := #[.int .i64 j.id, .int .i64 j.co, .int .i64 j.ti, .int .i64 j.se, .int .i64 j.du, .int .i64 j.we, .int .i64 j.ki]) (t := 51) (fr := (0, 0)) (heap_alloc_new X _)) (by simp [jbC, Value.oneCell']) (by have := HLN.out; unfold maxLen; omega) (by have := HLN.out; omega) (by have := HX.out.2.2.2.2.2; simp; omega) ?_; intro v9 w9 hown9 hgrow9 _ hat9)
        have HP : Hid (OG 51 7 jbC w9 w1.heap.size (.slice va L4.length vc) (ahF (s.take (k + 1))) ∧ OG 51 7 jbC w9 w1.heap.size v9 (beF (s.take (k + 1))) ∧ Apt (.slice va L4.length vc) v9 ∧ Below w1.heap.size w1 w9) := by
          rw [HQ4.out, HQ5.out]
          refine ⟨OG.kp (HX.out.1.al _) hgrow9 HX.out.2.2.1.sym.kp, OG.s1 j hown9, (HX.out.2.2.1.sym.l hat9 (fun g hg => ?_)).sym, (Below.alloc HX.out.2.2.2.1 HX.out.2.2.2.2.2 _).grown hgrow9 (by have := HX.out.2.2.2.2.2; simp; omega) (fun q hq => (OG.lt HX.out.2.1 q hq).1)⟩
          have := (OG.lt HX.out.1 g hg).2
          simp; omega
        clear hown9 hgrow9 hat9 HX HQ4 HQ5 HLN p0 p1 p2 p3 p4 p5 p6 pl
        go_wp2
        go_roundw
        case rel => exact ⟨k + 1, by omega, by go_num, HP.out⟩
        case measure => simp [intOf]; omega
    · obtain rfl : k = n := by omega
      have HF : Hid (OG 51 7 jbC wr w1.heap.size u4 (ahF s) ∧ OG 51 7 jbC wr w1.heap.size u5 (beF s) ∧ Below w1.heap.size w1 wr) := by
        have h1 := hR.out
        rw [H.out.2.1, List.take_length] at h1
        exact ⟨h1.1, h1.2.1, h1.2.2.2⟩
      clear hR
      obtain ⟨va, vc, hvv⟩ := HF.out.1.fm
      obtain ⟨ua, uc, huu⟩ := HF.out.2.1.fm
      obtain ⟨n4, hn4⟩ : ∃ m, m = (ahF s).length := ⟨_, rfl⟩
      obtain ⟨n5, hn5⟩ : ∃ m, m = (beF s).length := ⟨_, rfl⟩
      rw [← hn4] at hvv
      rw [← hn5] at huu
      subst hvv huu
      have HN4 : Hid (n4 = (ahF s).length ∧ n5 = (beF s).length ∧ n4 ≤ 30 ∧ n5 ≤ 30) := ⟨hn4, hn5, by have := ahF_len s; have := H.out.2.1; omega, by have := beF_len s; have := H.out.2.1; omega⟩
      clear hn4 hn5
      -- the first part sorted
      obtain ⟨Y, hY⟩ : ∃ Y, Y = wr.alloc (.cells #[.func (Fn.func 56) #[] #[], .func (Fn.func 57) #[] #[]] 60) := ⟨_, rfl⟩
      have HY : Hid (Below w1.heap.size w1 Y ∧ RG 7 jbC Y (.slice va n4 vc) (ahF s) ∧ RG 7 jbC Y (.slice ua n5 uc) (beF s)) := by
        have hb : Below wr.heap.size wr Y := by rw [hY]; (repeat' (first | (with_reducible exact Below.refl _ _) | (with_reducible assumption) | (with_reducible refine Below.setCell ?_ ?_ _) | (with_reducible refine Below.alloc ?_ ?_ _) | (with_reducible refine below_drewN ?_ _) | (with_reducible refine Below.drew ?_) | (with_reducible exact Nat.le_refl _) | omega | (simp; done) | (simp; omega)))
        exact ⟨HF.out.2.2.trans (hb.mono HF.out.2.2.size), (OG.rg jbC_len HF.out.1).below hb, (OG.rg jbC_len HF.out.2.1).below hb⟩
      have HS1 : Hid (Calls Try.prog 55 #[.slice va n4 vc, .slice (some ⟨wr.heap.size, 0, none⟩) 2 2] Y fun e w' => ∃ v, e = .returned v ∧ OG 51 7 jbC w' Y.heap.size v (stbF (lexC tiC idC) (ahF s).length (ahF s)) ∧ Below Y.heap.size Y w') := by
        have := sort_run (Y := Y) (q := wr.heap.size) (c := lexC tiC idC) (l := ahF s) (a := va) (cc := vc) (by have := HN4.out; omega) (by rw [← HN4.out.1]; exact OG.ncj HF.out.1) (by rw [← HN4.out.1]; exact HY.out.2.1) (by rw [hY]; simp) (by rw [hY]; exact cellOfQ (heap_alloc_new _ _) 0 rfl) (by rw [hY]; exact cellOfQ (heap_alloc_new _ _) 1 rfl) (fun X p lo g1 g2 g3 g4 g5 g6 => clo_ti_id g1 g2 g3 g4 g5 g6)
        rw [← HN4.out.1] at this ⊢
        exact this
      go_wp2_with (fail)
      rw [← hY]
      clear hY
      refine HS1.out.mono ?_
      rintro e w2 ⟨v1, rfl, ho1, hb2⟩
      obtain ⟨R1, hR1⟩ : ∃ R, R = stbF (lexC tiC idC) (ahF s).length (ahF s) := ⟨_, rfl⟩
      rw [← hR1] at ho1
      obtain ⟨xa, xc, hxx⟩ := ho1.fm
      have hr1 : R1.length = n4 := by rw [hR1, HN4.out.1]; exact (stbF_ok (ord_C (ord_lex (ord_ti (fun _ => True)) (ord_id _))) (l := ahF s) (fun _ _ => trivial)).2.length_eq
      rw [hr1] at hxx
      subst hxx
      have HW2 : Hid (Below w1.heap.size w1 w2 ∧ RG 7 jbC w2 (.slice ua n5 uc) (beF s) ∧ OG 51 7 jbC w2 Y.heap.size (.slice xa n4 xc) R1 ∧ R1 = stbF (lexC tiC idC) (ahF s).length (ahF s)) := ⟨HY.out.1.trans (hb2.mono HY.out.1.size), HY.out.2.2.below hb2, ho1, hR1⟩
      have hnc5 := OG.ncj HF.out.2.1
      clear ho1 hb2 HY HS1 HF hR1 hr1
      -- the second part sorted
      obtain ⟨Y2, hY2⟩ : ∃ Y, Y = w2.alloc (.cells #[.func (Fn.func 58) #[] #[], .func (Fn.func 57) #[] #[]] 60) := ⟨_, rfl⟩
      have HY2 : Hid (Below w1.heap.size w1 Y2 ∧ RG 7 jbC Y2 (.slice ua n5 uc) (beF s) ∧ RG 7 jbC Y2 (.slice xa n4 xc) R1 ∧ NCj xa n4 xc) := by
        have hb : Below w2.heap.size w2 Y2 := by rw [hY2]; (repeat' (first | (with_reducible exact Below.refl _ _) | (with_reducible assumption) | (with_reducible refine Below.setCell ?_ ?_ _) | (with_reducible refine Below.alloc ?_ ?_ _) | (with_reducible refine below_drewN ?_ _) | (with_reducible refine Below.drew ?_) | (with_reducible exact Nat.le_refl _) | omega | (simp; done) | (simp; omega)))
        exact ⟨HW2.out.1.trans (hb.mono HW2.out.1.size), HW2.out.2.1.below hb, (OG.rg jbC_len HW2.out.2.2.1).below hb, OG.ncj HW2.out.2.2.1⟩
      have HS2 : Hid (Calls Try.prog 55 #[.slice ua n5 uc, .slice (some ⟨w2.heap.size, 0, none⟩) 2 2] Y2 fun e w' => ∃ v, e = .returned v ∧ OG 51 7 jbC w' Y2.heap.size v (stbF (lexC fsC idC) (beF s).length (beF s)) ∧ Below Y2.heap.size Y2 w') := by
        have := sort_run (Y := Y2) (q := w2.heap.size) (c := lexC fsC idC) (l := beF s) (a := ua) (cc := uc) (by have := HN4.out; omega) (by rw [← HN4.out.2.1]; exact hnc5) (by rw [← HN4.out.2.1]; exact HY2.out.2.1) (by rw [hY2]; simp) (by rw [hY2]; exact cellOfQ (heap_alloc_new _ _) 0 rfl) (by rw [hY2]; exact cellOfQ (heap_alloc_new _ _) 1 rfl) (fun X p lo g1 g2 g3 g4 g5 g6 => clo_fs_id g1 g2 g3 g4 g5 g6)
        rw [← HN4.out.2.1] at this ⊢
        exact this
      clear hnc5
      go_wp2_with (fail)
      rw [← hY2]
      clear hY2
      refine HS2.out.mono ?_
      rintro e w3 ⟨v2, rfl, ho2, hb3⟩
      obtain ⟨R2, hR2⟩ : ∃ R, R = stbF (lexC fsC idC) (beF s).length (beF s) := ⟨_, rfl⟩
      rw [← hR2] at ho2
      obtain ⟨ya, yc, hyy⟩ := ho2.fm
      have hr2 : R2.length = n5 := by rw [hR2, HN4.out.2.1]; exact (stbF_ok (ord_C (ord_lex (ord_fs (fun _ => True)) (ord_id _))) (l := beF s) (fun _ _ => trivial)).2.length_eq
      rw [hr2] at hyy
      subst hyy
      have HFL : Hid (R1 ++ R2 = flL s) := by unfold Hid; rw [HW2.out.2.2.2, hR2]; rfl
      have HW3 : Hid (Below w1.heap.size w1 w3 ∧ RG 7 jbC w3 (.slice xa n4 xc) R1 ∧ RG 7 jbC w3 (.slice ya n5 yc) R2 ∧ NCj xa n4 xc ∧ NCj ya n5 yc) := ⟨HY2.out.1.trans (hb3.mono HY2.out.1.size), HY2.out.2.2.1.below hb3, OG.rg jbC_len ho2, HY2.out.2.2.2, OG.ncj ho2⟩
      clear ho2 hb3 HY2 HS2 HW2 hR2 hr2
      -- one behind the other
      obtain ⟨Y3, hY3⟩ : ∃ Y, Y = w3.alloc (.cells #[.slice xa n4 xc, .slice ya n5 yc] 28) := ⟨_, rfl⟩
      have HY3 : Hid (Below w1.heap.size w1 Y3) := by
        have hb : Below w3.heap.size w3 Y3 := by rw [hY3]; (repeat' (first | (with_reducible exact Below.refl _ _) | (with_reducible assumption) | (with_reducible refine Below.setCell ?_ ?_ _) | (with_reducible refine Below.alloc ?_ ?_ _) | (with_reducible refine below_drewN ?_ _) | (with_reducible refine Below.drew ?_) | (with_reducible exact Nat.le_refl _) | omega | (simp; done) | (simp; omega)))
        exact HW3.out.1.trans (hb.mono HW3.out.1.size)
      have HCC : Hid (Calls Try.prog 54 #[.slice (some ⟨w3.heap.size, 0, none⟩) 2 2] Y3 fun e w' => ∃ r, e = .returned r ∧ OG 51 7 jbC w' Y3.heap.size r (flL s) ∧ Below Y3.heap.size Y3 w') := by
        have hb : Below w3.heap.size w3 Y3 := by rw [hY3]; (repeat' (first | (with_reducible exact Below.refl _ _) | (with_reducible assumption) | (with_reducible refine Below.setCell ?_ ?_ _) | (with_reducible refine Below.alloc ?_ ?_ _) | (with_reducible refine below_drewN ?_ _) | (with_reducible refine Below.drew ?_) | (with_reducible exact Nat.le_refl _) | omega | (simp; done) | (simp; omega)))
        rw [← HFL.out]
        exact cat_jb (by rw [hY3]; exact cellOfQ (heap_alloc_new _ _) 0 rfl) (by rw [hY3]; exact cellOfQ (heap_alloc_new _ _) 1 rfl) (by rw [hY3]; simp) (HW3.out.2.1.below hb) (HW3.out.2.2.1.below hb) HW3.out.2.2.2.1 HW3.out.2.2.2.2 (by have := HN4.out; omega) (by have := HN4.out; omega)
      clear HW3 HFL
      go_wp2_with (fail)
      rw [← hY3]
      clear hY3
      refine HCC.out.mono ?_
      rintro e w4 ⟨v4, rfl, ho4, hb4⟩
      obtain ⟨ra, rc, hrr⟩ := ho4.fm
      obtain ⟨m, hm⟩ : ∃ m, m = (flL s).length := ⟨_, rfl⟩
      rw [← hm] at hrr
      subst hrr
      have hfl := flL_ok s
      have HW4 : Hid (Below w1.heap.size w1 w4 ∧ RG 7 jbC w4 (.slice ra m rc) (flL s) ∧ (flL s).length ≤ 30 ∧ ∀ i (hi : i < (flL s).length), rgJ (flL s)[i]) := by
        refine ⟨HY3.out.trans (hb4.mono HY3.out.size), OG.rg jbC_len ho4, by rw [hfl.2.length_eq]; exact HOK.out.len, fun i hi => ?_⟩
        obtain ⟨j, hj, e⟩ := List.getElem_of_mem (hfl.2.mem_iff.1 (List.getElem_mem hi))
        rw [← e]; exact HOK.out.rg j hj
      clear ho4 hb4 HCC HY3 hm hfl
      have HID : Hid (Calls Try.prog 44 #[.slice ra m rc] w4 fun e w' => ∃ v', e = .returned v' ∧ IS w' w4.heap.size v' IDS ∧ Below w4.heap.size w4 w') := by
        have e : IDS = (flL s).map Jb.id := by rw [H.out.2.2.2.1, foI, if_pos H.out.2.2.1.symm]
        rw [e]; exact impl_ids (by have := HW4.out.2.2.1; omega) HW4.out.2.1
      go_wp2_with (fail)
      refine HID.out.mono ?_
      rintro e w5 ⟨v5, rfl, ho5, hb5⟩
      obtain ⟨ia, ic, hii⟩ := ho5.form
      subst hii
      have HW5 : Hid (Below w1.heap.size w1 w5 ∧ RG 7 jbC w5 (.slice ra m rc) (flL s) ∧ IS w5 w4.heap.size (.slice ia IDS.length ic) IDS ∧ w1.heap.size ≤ w4.heap.size) := ⟨HW4.out.1.trans (hb5.mono HW4.out.1.size), HW4.out.2.1.below hb5, ho5, HW4.out.1.size⟩
      have HFW : Hid (Calls Try.prog 59 #[.slice ra m rc] w5 fun e w' => e = .returned (.int .i64 QQ) ∧ Below w5.heap.size w5 w') := by
        have e : QQ = floV (flL s) := by rw [H.out.2.2.2.2, foQ, if_pos H.out.2.2.1.symm]
        rw [e]; exact impl_flow HW4.out.2.2.1 HW4.out.2.2.2 HW5.out.2.1
      clear ho5 hb5 HID HW4
      obtain ⟨ni, hni⟩ : ∃ m, m = IDS.length := ⟨_, rfl⟩
      rw [← hni] at HW5 ⊢
      clear hni
      go_wp2_with (fail)
      refine HFW.out.mono ?_
      rintro e w6 ⟨rfl, hb6⟩
      have HW6 : Hid (Below W.heap.size W w6 ∧ w6.heap[W.heap.size]? = some (.cells #[.int .i64 0, .slice none 0 0, .int .i64 0] 26) ∧ IS w6 W.heap.size (.slice ia ni ic) IDS ∧ ∀ q, (Value.slice ia ni ic).ownBlock = some q → W.heap.size < q) := by
        have hb := HW5.out.1.trans (hb6.mono HW5.out.1.size)
        have hws : W.heap.size < w1.heap.size := ltOfQ HW.out.2
        refine ⟨HW.out.1.trans (hb.mono HW.out.1.size), (hb.block _ hws).trans HW.out.2, IS.low (HW5.out.2.2.1.bel hb6) (by have := HW5.out.2.2.2; omega), fun q hq => by have := (IS.lt HW5.out.2.2.1 q hq).1; have := HW5.out.2.2.2; omega⟩
      clear HW5 HFW hb6 HW H HOK HN4
      have z0 : w6.cell? ⟨W.heap.size, 0, none⟩ = some (.int .i64 0) := cellOfQ HW6.out.2.1 0 rfl
      have z1 : w6.cell? ⟨W.heap.size, 1, none⟩ = some (.slice none 0 0) := cellOfQ HW6.out.2.1 1 rfl
      have z2 : w6.cell? ⟨W.heap.size, 2, none⟩ = some (.int .i64 0) := cellOfQ HW6.out.2.1 2 rfl
      have zl := ltOfQ HW6.out.2.1
      have f0 := frozOfQ HW6.out.2.1 0
      have f1 := frozOfQ HW6.out.2.1 1
      have f2 := frozOfQ HW6.out.2.1 2
      go_wp2
      try simp only [Exit.inBlock, Exit.then]
      refine bodyPost_ret (by simp [results, Try.results18, go_sem, z0, z1, z2, zl, f0, f1, f2]; try rfl) rfl ⟨_, (), by rfl, ?_, ?_⟩
      · refine HW6.out.2.2.1.kept fun q hq => ?_
        have h9 := HW6.out.2.2.2 q hq
        repeat rw [heap_setCell_other _ _ _ _ (by show q ≠ W.heap.size; omega)]
      · have hb := HW6.out.1
        (repeat' (first | (with_reducible exact Below.refl _ _) | (with_reducible assumption) | (with_reducible refine Below.setCell ?_ ?_ _) | (with_reducible refine Below.alloc ?_ ?_ _) | (with_reducible refine below_drewN ?_ _) | (with_reducible refine Below.drew ?_) | (with_reducible exact Nat.le_refl _) | omega | (simp; done) | (simp; omega)))

end Go.Proofs.Ytjbghflphngnkaa
