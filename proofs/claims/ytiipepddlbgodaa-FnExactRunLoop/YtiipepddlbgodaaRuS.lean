/- Proved here: RunLoop of the model: ruC, ruI, ruE. -/
import Derived.Test.YtiipepddlbgodaaRuT
import Derived.Test.YtiipepddlbgodaaLrB
import Derived.Test.YtiipepddlbgodaaLpS
import Derived.Test.YtiipepddlbgodaaChS
import Derived.Test.YtiipepddlbgodaaNqS
import Derived.Deep.DeepCutAuto
namespace Go.Proofs.Ytiipepddlbgodaa
open Go.RowKit Go.Maps
set_option linter.unusedVariables false
set_option linter.unusedSimpArgs false

set_option maxRecDepth 10000 in
set_option maxHeartbeats 12800000 in
theorem spec_ru (T N D S : Int) {w : World} {v : Value} {s : List Int} (hn : s.length ≤ 1048576) (h : RdI w v s) :
    Calls Try.prog 27 #[.agg #[.int .i64 T, .int .i64 N, .int .i64 D, .int .i64 S], v] w fun e w' => ∃ (vq : Value × Value) (_ : Unit), e = .returned (.agg #[.int .i64 (ruC T N D S s), vq.1, vq.2]) ∧ OwL w' w.heap.size vq.1 vq.2 (ruI T N D S s) (ruE T N D S s) ∧ Below w.heap.size w w' := by
  obtain ⟨i0, hi, hz0, hz1, hz2⟩ := info_parts info_i64
  obtain ⟨a, c, rfl⟩ := h.form
  obtain ⟨n, hnn⟩ : ∃ n, n = s.length := ⟨_, rfl⟩
  obtain ⟨C, hC⟩ : ∃ C, C = ruC T N D S s := ⟨_, rfl⟩
  obtain ⟨LI, hLI⟩ : ∃ L, L = ruI T N D S s := ⟨_, rfl⟩
  obtain ⟨LE, hLE⟩ : ∃ L, L = ruE T N D S s := ⟨_, rfl⟩
  obtain ⟨Fl, hFl⟩ : ∃ F, F = loF T N D S := ⟨_, rfl⟩
  obtain ⟨Fa, hFa⟩ : ∃ F, F = chF s := ⟨_, rfl⟩
  rw [← hnn] at hn h ⊢
  rw [← hC, ← hLI, ← hLE]
  have HC : Hid (C = (if Fl = 0 then Fa else Fl) ∧ LI = (if C = 0 then rgL (luE T N D S s) s.length else []) ∧ LE = if C = 0 then rgL (leE T N D S s) s.length else []) :=
    ⟨by rw [hC, ruC, hFl, hFa], by rw [hLI, hC]; rfl, by rw [hLE, hC]; rfl⟩
  have HFL : Hid (∀ W, Calls Try.prog 24 #[.agg #[.int .i64 T, .int .i64 N, .int .i64 D, .int .i64 S]] W fun e w' => e = .returned (.int .i64 Fl) ∧ Below W.heap.size W w') := fun W => by rw [hFl]; exact spec_lo T N D S W
  have HF : Hid (∀ W, Below w.heap.size w W → Calls Try.prog 9 #[.slice a n c] W fun e w' => e = .returned (.int .i64 Fa) ∧ w' = W) := fun W hW => by rw [hFa]; exact spec_ch (by omega) (h.below hW)
  have H : Hid (RdI w (.slice a n c) s ∧ n = s.length ∧ Fl = loF T N D S ∧ Fa = chF s) := ⟨h, hnn, hFl, hFa⟩
  clear h hnn hC hLI hLE hFl hFa
  obtain ⟨W0, hW0⟩ : ∃ W, W = (w.alloc (.cells #[.int .i64 T, .int .i64 N, .int .i64 D, .int .i64 S] 44)).alloc (.cells #[.int .i64 0, .slice none 0 0, .slice none 0 0] 48) := ⟨_, rfl⟩
  have HW0 : Hid (Below w.heap.size w W0 ∧ W0.heap[w.heap.size]? = some (.cells #[.int .i64 T, .int .i64 N, .int .i64 D, .int .i64 S] 44) ∧ W0.heap[w.heap.size + 1]? = some (.cells #[.int .i64 0, .slice none 0 0, .slice none 0 0] 48) ∧ W0.heap.size = w.heap.size + 2) := by
    rw [hW0]
    refine ⟨by (repeat' (first | (with_reducible exact Below.refl _ _) | (with_reducible assumption) | (with_reducible refine Below.setCell ?_ ?_ _) | (with_reducible refine Below.alloc ?_ ?_ _) | (with_reducible refine below_drewN ?_ _) | (with_reducible refine Below.drew ?_) | (with_reducible exact Nat.le_refl _) | omega | (simp; done) | (simp; omega))), (Below.heap_alloc _ _ _ (by simp)).trans (heap_alloc_new w _), ?_, by simp⟩
    have := heap_alloc_new (w.alloc (.cells #[.int .i64 T, .int .i64 N, .int .i64 D, .int .i64 S] 44)) (.cells #[.int .i64 0, .slice none 0 0, .slice none 0 0] 48)
    simpa using this
  obtain ⟨l0, l1, l2, l3, ll⟩ := run_four HW0.out.2.1
  go_enter Try.func27, Try.ntmps27
  go_upto_region 1 with fail
  rw [← hW0]
  clear hW0
  go_wp2_with (fail)
  refine (HFL.out _).mono ?_
  rintro e w1 ⟨rfl, hb1⟩
  have HW1 : Hid (Below w.heap.size w w1 ∧ w1.heap[w.heap.size]? = some (.cells #[.int .i64 T, .int .i64 N, .int .i64 D, .int .i64 S] 44) ∧ w1.heap[w.heap.size + 1]? = some (.cells #[.int .i64 0, .slice none 0 0, .slice none 0 0] 48) ∧ w.heap.size + 2 ≤ w1.heap.size) :=
    ⟨HW0.out.1.trans (hb1.mono HW0.out.1.size), (hb1.block _ (ltOf HW0.out.2.1)).trans HW0.out.2.1, (hb1.block _ (ltOf HW0.out.2.2.1)).trans HW0.out.2.2.1, by have := hb1.size; have := HW0.out.2.2.2; omega⟩
  clear hb1 HW0 HFL l0 l1 l2 l3 ll
  by_cases hF0 : Fl = 0
  case neg =>
    have HZ : Hid (C = Fl ∧ LI = [] ∧ LE = []) := by
      have h1 := HC.out; rw [if_neg hF0] at h1; exact ⟨h1.1, by rw [h1.2.1, h1.1, if_neg hF0], by rw [h1.2.2, h1.1, if_neg hF0]⟩
    have hA : (Fl != 0) = true := by simpa using hF0
    clear HC
    obtain ⟨p0, p1, p2, pf0, pf1, pf2, pl⟩ := run_three HW1.out.2.2.1
    clear H
    go_wp2
    try simp only [Exit.inBlock, Exit.then]
    refine bodyPost_ret (by simp [results, Try.results27, go_sem, p0, p1, p2, pl]; try rfl) rfl ⟨(.slice none 0 0, .slice none 0 0), (), by rw [HZ.out.1], by rw [HZ.out.2.1, HZ.out.2.2]; exact ⟨run_nil _ _, run_nil _ _, fun g hg => by cases hg⟩, ?_⟩
    have hb := HW1.out.1
    (repeat' (first | (with_reducible exact Below.refl _ _) | (with_reducible assumption) | (with_reducible refine Below.setCell ?_ ?_ _) | (with_reducible refine Below.alloc ?_ ?_ _) | (with_reducible refine below_drewN ?_ _) | (with_reducible refine Below.drew ?_) | (with_reducible exact Nat.le_refl _) | omega | (simp; done) | (simp; omega)))
  have hA : (Fl != 0) = false := by rw [hF0]; rfl
  have HL0 : Hid (Fl = 0) := hF0
  clear hF0
  go_wp2_with (fail)
  refine (HF.out _ HW1.out.1).mono ?_
  rintro e w2 ⟨rfl, hw⟩
  subst w2
  clear HF
  by_cases hF0 : Fa = 0
  case neg =>
    have HZ : Hid (C = Fa ∧ LI = [] ∧ LE = []) := by
      have h1 := HC.out; rw [if_pos HL0.out] at h1; exact ⟨h1.1, by rw [h1.2.1, h1.1, if_neg hF0], by rw [h1.2.2, h1.1, if_neg hF0]⟩
    have hB : (Fa != 0) = true := by simpa using hF0
    clear HC
    obtain ⟨p0, p1, p2, pf0, pf1, pf2, pl⟩ := run_three HW1.out.2.2.1
    clear H
    go_wp2
    try simp only [Exit.inBlock, Exit.then]
    refine bodyPost_ret (by simp [results, Try.results27, go_sem, p0, p1, p2, pl]; try rfl) rfl ⟨(.slice none 0 0, .slice none 0 0), (), by rw [HZ.out.1], by rw [HZ.out.2.1, HZ.out.2.2]; exact ⟨run_nil _ _, run_nil _ _, fun g hg => by cases hg⟩, ?_⟩
    have hb := HW1.out.1
    (repeat' (first | (with_reducible exact Below.refl _ _) | (with_reducible assumption) | (with_reducible refine Below.setCell ?_ ?_ _) | (with_reducible refine Below.alloc ?_ ?_ _) | (with_reducible refine below_drewN ?_ _) | (with_reducible refine Below.drew ?_) | (with_reducible exact Nat.le_refl _) | omega | (simp; done) | (simp; omega)))
  have hB : (Fa != 0) = false := by rw [hF0]; rfl
  have HZ : Hid (C = 0 ∧ LI = rgL (luE T N D S s) n ∧ LE = rgL (leE T N D S s) n) := by
    have h1 := HC.out; rw [if_pos HL0.out] at h1; exact ⟨h1.1.trans hF0, by rw [h1.2.1, h1.1, if_pos hF0, H.out.2.1], by rw [h1.2.2, h1.1, if_pos hF0, H.out.2.1]⟩
  have hlo := loF_good (H.out.2.2.1.symm.trans HL0.out)
  have hg := chL_good (H.out.2.2.2.symm.trans hF0)
  have hn200 : n ≤ 200 := by rw [H.out.2.1]; exact hg.1
  have HG : Hid ((∀ k, k < s.length → -1000000 ≤ s.getD k 0 ∧ s.getD k 0 ≤ 1000000) ∧ ∀ k, k ≤ s.length → -(1000000 + 4000000 * (k : Int)) ≤ luE T N D S s k ∧ luE T N D S s k ≤ 1000000 + 4000000 * (k : Int)) := ⟨hg.2, luE_bd (H.out.2.2.1.symm.trans HL0.out) hg.2⟩
  clear hF0 hg HC HL0
  obtain ⟨K, hK⟩ : ∃ K, K = w1.heap.size := ⟨_, rfl⟩
  obtain ⟨W2, hW2⟩ : ∃ W, W = w1.alloc (.cells #[.int .i64 0, .slice none 0 0, .slice none 0 0] 48) := ⟨_, rfl⟩
  have HS : Hid (RuT w W2 K (.cells #[.int .i64 T, .int .i64 N, .int .i64 D, .int .i64 S] 44) (.cells #[.int .i64 0, .slice none 0 0, .slice none 0 0] 48) (.slice none 0 0) (.slice none 0 0) [] []) := by
    have hs := HW1.out.2.2.2
    rw [hW2, hK]
    exact ⟨HW1.out.1.alloc HW1.out.1.size _, (Below.heap_alloc _ _ _ (by omega)).trans HW1.out.2.1, (Below.heap_alloc _ _ _ (by omega)).trans HW1.out.2.2.1, heap_alloc_new _ _, run_nil _ _, run_nil _ _, (fun g hg => by cases hg), by omega⟩
  go_upto_region 8 with fail
  rw [← hW2, ← hK]
  clear hW2 hK HW1
  obtain ⟨l0, l1, l2, l3, ll⟩ := run_four HS.out.b0
  go_wp2
  clear l0 l1 l2 l3 ll
  go_loopw [8, 9] (fun u i wr => ∃ (k : Nat) (vi ve : Value), k ≤ n ∧ u = .int .i64 (luE T N D S s k) ∧ i = .int .i64 k ∧ Hid (RuT w wr K (.cells #[.int .i64 T, .int .i64 N, .int .i64 D, .int .i64 S] 44) (.cells #[.int .i64 0, .slice none 0 0, .slice none 0 0] 48) vi ve (rgL (luE T N D S s) k) (rgL (leE T N D S s) k))) (fun _ i _ => n - (intOf i).toNat)
  case atStart => exact ⟨0, _, _, Nat.zero_le _, rfl, rfl, HS.out⟩
  case round =>
    clear HS
    obtain ⟨k, vi, ve, hk, rfl, rfl, hQ⟩ := hrel
    obtain ⟨U, hU⟩ : ∃ U, U = luE T N D S s k := ⟨_, rfl⟩
    obtain ⟨I, hI⟩ : ∃ c, c = rgL (luE T N D S s) k := ⟨_, rfl⟩
    obtain ⟨E, hE⟩ : ∃ c, c = rgL (leE T N D S s) k := ⟨_, rfl⟩
    obtain ⟨m, hm⟩ : ∃ m, m = I.length := ⟨_, rfl⟩
    obtain ⟨p, hp⟩ : ∃ m, m = E.length := ⟨_, rfl⟩
    rw [← hI, ← hE] at hQ
    rw [← hU]
    obtain ⟨va, vc, hvf⟩ := hQ.out.li.form
    obtain ⟨ua, uc, huf⟩ := hQ.out.le.form
    rw [← hm] at hvf
    rw [← hp] at huf
    subst hvf huf
    have hmb : m ≤ 200 ∧ p ≤ 200 := by rw [hm, hp, hI, hE, rgL_len, rgL_len]; omega
    have HC2 : Hid (m = I.length ∧ p = E.length ∧ I = rgL (luE T N D S s) k ∧ E = rgL (leE T N D S s) k ∧ U = luE T N D S s k) := ⟨hm, hp, hI, hE, hU⟩
    have HQ : Hid (RuT w wr K (.cells #[.int .i64 T, .int .i64 N, .int .i64 D, .int .i64 S] 44) (.cells #[.int .i64 0, .slice none 0 0, .slice none 0 0] 48) (.slice va m vc) (.slice ua p uc) I E) := hQ.out
    clear hm hp hI hE hQ
    by_cases hlt : k < n
    · have hkl : k < s.length := by rw [← H.out.2.1]; exact hlt
      obtain ⟨g, o, c2, he, hg, hj⟩ := (H.out.1.below HQ.out.bl).ri (by omega)
      simp only [Value.slice.injEq] at he
      obtain ⟨rfl, hx1, hx2⟩ := he
      clear hx1 hx2
      have c0 := hj k hkl
      obtain ⟨x, hx⟩ : ∃ x, x = s.getD k 0 := ⟨_, rfl⟩
      rw [← hx] at c0
      have hxb := HG.out.1 k hkl
      rw [← hx] at hxb
      have hUb := HG.out.2 k (by omega)
      have hVb := HG.out.2 (k + 1) (by omega)
      obtain ⟨U2, hU2⟩ : ∃ U, U = luE T N D S s (k + 1) := ⟨_, rfl⟩
      rw [← hU] at hUb
      rw [← hU2] at hVb
      obtain ⟨Y, hY⟩ : ∃ Y, Y = U + x - T := ⟨_, rfl⟩
      obtain ⟨M, hM⟩ : ∃ M, M = Y * N := ⟨_, rfl⟩
      obtain ⟨R, hR⟩ : ∃ R, R = nqV M D := ⟨_, rfl⟩
      have hU2R : U2 = U - R := by rw [hU2, luE, hR, hM, hY, ← hU, hx]
      have hYb : -1000000000 ≤ Y ∧ Y ≤ 1000000000 := by omega
      have hMb : -1000000000000000 ≤ M ∧ M ≤ 1000000000000000 := by
        rw [hM]
        rcases Int.le_total 0 Y with h9 | h9
        · have a1 := Int.mul_nonneg h9 (show 0 ≤ N by omega)
          have a2 := Int.mul_le_mul (show Y ≤ 1000000000 by omega) (show N ≤ 1000 by omega) (by omega) (by omega)
          omega
        · have a1 := Int.mul_nonneg (show 0 ≤ -Y by omega) (show 0 ≤ N by omega)
          have a2 := Int.mul_le_mul (show -Y ≤ 1000000000 by omega) (show N ≤ 1000 by omega) (by omega) (by omega)
          rw [Int.neg_mul] at a1 a2
          omega
      have HNQ : Hid (∀ W, Calls Try.prog 46 #[.int .i64 M, .int .i64 D] W fun e w' => e = .returned (.int .i64 R) ∧ w' = W) := fun W => by rw [hR]; exact spec_near M D hlo.1 hMb W
      have HST : Hid (rgL (luE T N D S s) (k + 1) = I ++ [U] ∧ rgL (leE T N D S s) (k + 1) = E ++ [Y] ∧ U2 = luE T N D S s (k + 1)) := by
        refine ⟨by rw [rgL_succ, HC2.out.2.2.1, HC2.out.2.2.2.2], ?_, hU2⟩
        rw [rgL_succ, HC2.out.2.2.2.1]
        congr 2
        rw [leE, hY, hU, hx]
      have e1 : IntKind.i64.wrap (U + x) = U + x := by rw [IntKind.wrap_i64]; omega
      have e2 : IntKind.i64.wrap (U + x - T) = Y := by rw [← hY, IntKind.wrap_i64]; omega
      have e3 : IntKind.i64.wrap (Y * N) = M := by rw [← hM, IntKind.wrap_i64]; omega
      have e4 : IntKind.i64.wrap (U - R) = U2 := by rw [← hU2R, IntKind.wrap_i64]; omega
      have b0 : (0 : Int) ≤ (k : Int) := by omega
      have b1 : (k : Int) < (n : Int) := by omega
      obtain ⟨l0, l1, l2, l3, ll⟩ := run_four HQ.out.b0
      clear hj hx hU hU2 hY hM hR hU2R
      go_upto_region 12 with fail
      go_quiet (fail)
      obtain ⟨wd, hwd⟩ : ∃ W, W = wr.drewN nq := ⟨_, rfl⟩
      have HQd : Hid (RuT w wd K (.cells #[.int .i64 T, .int .i64 N, .int .i64 D, .int .i64 S] 44) (.cells #[.int .i64 0, .slice none 0 0, .slice none 0 0] 48) (.slice va m vc) (.slice ua p uc) I E) := by rw [hwd]; exact HQ.out.next (below_drewN (Below.refl _ _) _)
      rw [← hwd]
      clear hwd HQ c0 l0 l1 l2 l3 ll hg
      have HQ : Hid (RuT w wd K (.cells #[.int .i64 T, .int .i64 N, .int .i64 D, .int .i64 S] 44) (.cells #[.int .i64 0, .slice none 0 0, .slice none 0 0] 48) (.slice va m vc) (.slice ua p uc) I E) := HQd.out
      clear HQd
      obtain ⟨r0, r1, r2, rf0, rf1, rf2, rl⟩ := run_three HQ.out.bk
      have HOW : Hid (wd.ownsRow (K + 1) 2 1 (.slice va m vc) m (I.map (Value.int .i64))) := run_own HQ.out.li HC2.out.1
      go_upto_region 14 with (at_builtin; go_loud (refine wpList_append_own_at _ rfl _ _ 22 rfl (K + 1) 2 i0 (.int .i64 0) 1 8 Try.underlying22 hi hz0 hz1 hz2 rfl (by decide) (.slice va m vc) m (I.map (Value.int .i64)) rfl (World.ownsRow.alloc HOW.out _) ⟨wd.heap.size, 0, none⟩ 1 1 [.int .i64 U] rfl rfl (World.news_of_block (cs := #[.int .i64 U]) (t := 2) (fr := (0, 0)) (heap_alloc_new wd _)) (by simp [Value.oneCell']) (by unfold maxLen; omega) (by omega) (by simp; omega) ?_); intro v6 w6 hown6 hgrow6 _ hloc6; go_loud (obtain ⟨va6, vc6, rfl⟩ := own_formL hown6; have HR6 : Hid (w6.heap[K]? = some (.cells #[.int .i64 0, .slice va m vc, .slice ua p uc] 48) ∧ RuT w (w6.setCell ⟨K, 1, none⟩ (.slice va6 (m + 1) vc6)) K (.cells #[.int .i64 T, .int .i64 N, .int .i64 D, .int .i64 S] 44) (.cells #[.int .i64 0, .slice none 0 0, .slice none 0 0] 48) (.slice va6 (m + 1) vc6) (.slice ua p uc) (I ++ [U]) E) := ⟨(HQ.out.grown (Or.inl rfl) hgrow6).2.2.2, HQ.out.pushI HC2.out.1 hown6 hgrow6 hloc6⟩; clear hown6 hgrow6 hloc6 r0 r1 r2 rf0 rf1 rf2 rl; obtain ⟨r0, r1, r2, rf0, rf1, rf2, rl⟩ := run_three HR6.out.1))
      clear r0 r1 r2 rf0 rf1 rf2 rl HOW
      obtain ⟨w7, hw7⟩ : ∃ W, W = w6.setCell ⟨K, 1, none⟩ (.slice va6 (m + 1) vc6) := ⟨_, rfl⟩
      have HR7 : Hid (RuT w w7 K (.cells #[.int .i64 T, .int .i64 N, .int .i64 D, .int .i64 S] 44) (.cells #[.int .i64 0, .slice none 0 0, .slice none 0 0] 48) (.slice va6 (m + 1) vc6) (.slice ua p uc) (I ++ [U]) E) := by rw [hw7]; exact HR6.out.2
      rw [← hw7]
      clear hw7 HR6 HQ
      obtain ⟨r0, r1, r2, rf0, rf1, rf2, rl⟩ := run_three HR7.out.bk
      have HOW : Hid (w7.ownsRow (K + 1) 2 1 (.slice ua p uc) p (E.map (Value.int .i64))) := run_own HR7.out.le HC2.out.2.1
      go_upto_region 15 with (at_builtin; go_loud (refine wpList_append_own_at _ rfl _ _ 22 rfl (K + 1) 2 i0 (.int .i64 0) 1 8 Try.underlying22 hi hz0 hz1 hz2 rfl (by decide) (.slice ua p uc) p (E.map (Value.int .i64)) rfl (World.ownsRow.alloc HOW.out _) ⟨w7.heap.size, 0, none⟩ 1 1 [.int .i64 Y] rfl rfl (World.news_of_block (cs := #[.int .i64 Y]) (t := 2) (fr := (0, 0)) (heap_alloc_new w7 _)) (by simp [Value.oneCell']) (by unfold maxLen; omega) (by omega) (by simp; omega) ?_); intro v8 w8 hown8 hgrow8 _ hloc8; obtain ⟨va8, vc8, rfl⟩ := own_formL hown8; have HR8 : Hid (w8.heap[K]? = some (.cells #[.int .i64 0, (.slice va6 (m + 1) vc6), .slice ua p uc] 48) ∧ RuT w (w8.setCell ⟨K, 2, none⟩ (.slice va8 (p + 1) vc8)) K (.cells #[.int .i64 T, .int .i64 N, .int .i64 D, .int .i64 S] 44) (.cells #[.int .i64 0, .slice none 0 0, .slice none 0 0] 48) (.slice va6 (m + 1) vc6) (.slice va8 (p + 1) vc8) (I ++ [U]) (E ++ [Y])) := ⟨(HR7.out.grown (Or.inr rfl) hgrow8).2.2.2, HR7.out.pushE HC2.out.2.1 hown8 hgrow8 hloc8⟩; clear hown8 hgrow8 hloc8 r0 r1 r2 rf0 rf1 rf2 rl; obtain ⟨r0, r1, r2, rf0, rf1, rf2, rl⟩ := run_three HR8.out.1)
      clear r0 r1 r2 rf0 rf1 rf2 rl HOW
      obtain ⟨w9, hw9⟩ : ∃ W, W = w8.setCell ⟨K, 2, none⟩ (.slice va8 (p + 1) vc8) := ⟨_, rfl⟩
      have HR9 : Hid (RuT w w9 K (.cells #[.int .i64 T, .int .i64 N, .int .i64 D, .int .i64 S] 44) (.cells #[.int .i64 0, .slice none 0 0, .slice none 0 0] 48) (.slice va6 (m + 1) vc6) (.slice va8 (p + 1) vc8) (rgL (luE T N D S s) (k + 1)) (rgL (leE T N D S s) (k + 1)) ∧ U2 = luE T N D S s (k + 1)) := by rw [hw9, HST.out.1, HST.out.2.1]; exact ⟨HR8.out.2, HST.out.2.2⟩
      rw [← hw9]
      clear hw9 HR8 HR7 HST
      obtain ⟨l0, l1, l2, l3, ll⟩ := run_four HR9.out.1.b0
      go_wp2_with (fail)
      refine (HNQ.out _).mono ?_
      rintro e wx ⟨rfl, hw⟩
      subst wx
      go_wp2
      go_roundw
      case rel => exact ⟨k + 1, _, _, by omega, by rw [← HR9.out.2], by go_num, HR9.out.1⟩
      case measure => simp [intOf]; omega
    · have HE : Hid (C = 0 ∧ LI = I ∧ LE = E) := ⟨HZ.out.1, by rw [HZ.out.2.1, HC2.out.2.2.1, show k = n by omega], by rw [HZ.out.2.2, HC2.out.2.2.2.1, show k = n by omega]⟩
      obtain ⟨r0, r1, r2, rf0, rf1, rf2, rl⟩ := run_three HQ.out.bk
      obtain ⟨q0, q1, q2, qf0, qf1, qf2, ql⟩ := run_three HQ.out.b1
      clear HC2 HZ hU
      go_wp2
      try simp only [Exit.inBlock, Exit.then]
      refine bodyPost_ret (by simp [results, Try.results27, go_sem, q0, q1, q2, ql]; try rfl) rfl ⟨(.slice va m vc, .slice ua p uc), (), by rw [HE.out.1], ?_, ?_⟩
      · rw [HE.out.2.1, HE.out.2.2]
        have hkk := HQ.out.kk
        refine OwL.low (B := K + 1) (OwL.keep ⟨HQ.out.li, HQ.out.le, HQ.out.ap⟩ fun q hq => ?_) (by omega)
        have h9 := (OwL.blk ⟨HQ.out.li, HQ.out.le, HQ.out.ap⟩ hq).1
        rw [heap_setCell_other _ _ _ _ (by simp; omega), heap_setCell_other _ _ _ _ (by simp; omega), heap_setCell_other _ _ _ _ (by simp; omega)]
      · have hb := HQ.out.bl
        (repeat' (first | (with_reducible exact Below.refl _ _) | (with_reducible assumption) | (with_reducible refine Below.setCell ?_ ?_ _) | (with_reducible refine Below.alloc ?_ ?_ _) | (with_reducible refine below_drewN ?_ _) | (with_reducible refine Below.drew ?_) | (with_reducible exact Nat.le_refl _) | omega | (simp; done) | (simp; omega)))

end Go.Proofs.Ytiipepddlbgodaa
