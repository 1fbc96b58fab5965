/- Proved here: FlowOrder of the model. -/
import Derived.Test.YtjbghflphngnkaaFoS
import Derived.Test.YtjbghflphngnkaaDkS
import Derived.Test.YtjbghflphngnkaaNwK
import Derived.Test.YtjbghflphngnkaaFoI
import Derived.Test.YtjbghflphngnkaaOpA
import Derived.Test.YtjbghflphngnkaaSoH
import Derived.Test.YtjbghflphngnkaaOpN
import Derived.Test.YtjbghflphngnkaaLwS
import Derived.Test.YtjbghflphngnkaaNlJ
import Derived.Test.YtjbghflphngnkaaRwG
import Derived.Deep.Cut
namespace Go.Proofs.Ytjbghflphngnkaa
open Go.RowKit
set_option linter.unusedVariables false
set_option linter.unusedSimpArgs false


theorem OJ.al {w : World} {lo g n cap : Nat} {l : List Jb} (h : OJ w lo g n cap l) (o : Obj) : OJ (w.alloc o) lo g n cap l := OG.al h o
theorem is_nl (w : World) (B : Nat) : IS w B (.slice none 0 0) [] := ⟨rfl, Or.inl ⟨rfl, rfl⟩⟩
set_option maxRecDepth 10000 in
set_option maxHeartbeats 12800000 in
theorem spec_fo {W : World} {a : Option Addr} {c : Nat} {s : List Jb} (hn : s.length ≤ 1048576) (hc : s.length ≤ c) (hnc : NCj a s.length c) (hs : RG 7 jbC W (.slice a s.length c) s) :
    Calls Try.prog 17 #[.slice a s.length c] W fun e w' => ∃ (v : Value) (_ : Unit), e = .returned (.agg #[.int .i64 (jbF s), v, .int .i64 (foQ s)]) ∧ IS w' W.heap.size v (foI s) ∧ Below W.heap.size W w' := by
  obtain ⟨i0, hi0, hz0, hz1, hz2⟩ := info_parts info_Job
  obtain ⟨i1, hi1, hy0, hy1, hy2⟩ := info_parts info_i64
  obtain ⟨n, hnn⟩ : ∃ n, n = s.length := ⟨_, rfl⟩
  obtain ⟨J, hJ⟩ : ∃ J, J = jbF s := ⟨_, rfl⟩
  obtain ⟨IDS, hIDS⟩ : ∃ J, J = foI s := ⟨_, rfl⟩
  obtain ⟨QQ, hQQ⟩ : ∃ J, J = foQ s := ⟨_, rfl⟩
  obtain ⟨Z, hZ⟩ : ∃ Z, Z = W.alloc (.cells #[.int .i64 0, .slice none 0 0, .int .i64 0] 26) := ⟨_, rfl⟩
  have HZ : Hid (Below W.heap.size W Z ∧ Z.heap[W.heap.size]? = some (.cells #[.int .i64 0, .slice none 0 0, .int .i64 0] 26)) := by rw [hZ]; exact ⟨by (repeat' (first | (with_reducible exact Below.refl _ _) | (with_reducible assumption) | (with_reducible refine Below.setCell ?_ ?_ _) | (with_reducible refine Below.alloc ?_ ?_ _) | (with_reducible refine below_drewN ?_ _) | (with_reducible refine Below.drew ?_) | (with_reducible exact Nat.le_refl _) | omega | (simp; done) | (simp; omega))), heap_alloc_new _ _⟩
  have HJ : Hid (Calls Try.prog 50 #[.slice a n c] Z fun e w' => e = .returned (.int .i64 J) ∧ Below Z.heap.size Z w') := by rw [hJ, hnn]; exact spec_jf hn hc (hs.below HZ.out.1)
  have H : Hid (RG 7 jbC W (.slice a n c) s ∧ n = s.length ∧ J = jbF s ∧ IDS = foI s ∧ QQ = foQ s ∧ NCj a n c) := ⟨by rw [hnn]; exact hs, hnn, hJ, hIDS, hQQ, by rw [hnn]; exact hnc⟩
  rw [← hJ, ← hnn, ← hIDS, ← hQQ]
  clear hs hn hc hnn hJ hIDS hQQ hnc
  go_enter Try.func17, Try.ntmps17
  go_wp2_with (fail)
  rw [← hZ]
  clear hZ
  refine HJ.out.mono ?_
  rintro e w1 ⟨rfl, hb1⟩
  have HW : Hid (Below W.heap.size W w1 ∧ w1.heap[W.heap.size]? = some (.cells #[.int .i64 0, .slice none 0 0, .int .i64 0] 26)) := ⟨HZ.out.1.trans (hb1.mono HZ.out.1.size), (hb1.block _ (ltOfQ HZ.out.2)).trans HZ.out.2⟩
  clear hb1 HZ HJ
  by_cases hJ0 : J = 0
  case neg =>
    have HE : Hid (IDS = [] ∧ QQ = 0) := by
      have h9 : ¬ jbF s = 0 := by rw [← H.out.2.2.1]; exact hJ0
      exact ⟨by rw [H.out.2.2.2.1, foI, if_neg h9], by rw [H.out.2.2.2.2.1, foQ, if_neg h9]⟩
    have h1 : (J != 0) = true := by simpa using hJ0
    have z0 : w1.cell? ⟨W.heap.size, 0, none⟩ = some (.int .i64 0) := cellOfQ HW.out.2 0 rfl
    have z1 : w1.cell? ⟨W.heap.size, 1, none⟩ = some (.slice none 0 0) := cellOfQ HW.out.2 1 rfl
    have z2 : w1.cell? ⟨W.heap.size, 2, none⟩ = some (.int .i64 0) := cellOfQ HW.out.2 2 rfl
    have zl := ltOfQ HW.out.2
    have f0 := frozOfQ HW.out.2 0
    have f1 := frozOfQ HW.out.2 1
    have f2 := frozOfQ HW.out.2 2
    have HB : Hid (Below W.heap.size W w1) := HW.out.1
    clear HW H
    go_wp2
    try simp only [Exit.inBlock, Exit.then]
    refine bodyPost_ret (by simp [results, Try.results17, go_sem, z0, z1, z2, zl, f0, f1, f2]; try rfl) rfl ⟨_, (), by rw [HE.out.2], by rw [HE.out.1]; exact World.ownsRow_nil _ _ _ _, ?_⟩
    have hb := HB.out
    (repeat' (first | (with_reducible exact Below.refl _ _) | (with_reducible assumption) | (with_reducible refine Below.setCell ?_ ?_ _) | (with_reducible refine Below.alloc ?_ ?_ _) | (with_reducible refine below_drewN ?_ _) | (with_reducible refine Below.drew ?_) | (with_reducible exact Nat.le_refl _) | omega | (simp; done) | (simp; omega)))
  subst hJ0
  have hok := jbF_ok H.out.2.2.1.symm
  have hn30 : n ≤ 30 := by rw [H.out.2.1]; exact hok.len
  have HOK : Hid (OkJ s) := hok
  clear hok
  obtain ⟨lo, hlo⟩ : ∃ x, x = w1.heap.size := ⟨_, rfl⟩
  have HN : Hid (RG 7 jbC (w1.alloc (.cells #[] 51)) (.slice a n c) s) := H.out.1.below (HW.out.1.trans ((show Below w1.heap.size w1 (w1.alloc (.cells #[] 51)) by (repeat' (first | (with_reducible exact Below.refl _ _) | (with_reducible assumption) | (with_reducible refine Below.setCell ?_ ?_ _) | (with_reducible refine Below.alloc ?_ ?_ _) | (with_reducible refine below_drewN ?_ _) | (with_reducible refine Below.drew ?_) | (with_reducible exact Nat.le_refl _) | omega | (simp; done) | (simp; omega)))).mono HW.out.1.size))
  have hWl : W.heap.size < lo := by rw [hlo]; exact ltOfQ HW.out.2
  have hlt : Hid (W.heap.size < lo ∧ lo = w1.heap.size) := ⟨hWl, hlo⟩
  clear hWl
  go_wp2_with (at_builtin; (refine appAny rfl _ _ 28 rfl w1.heap.size 51 i0 (.agg #[.int .i64 0, .int .i64 0, .int .i64 0, .int .i64 0, .int .i64 0, .int .i64 0, .int .i64 0]) 7 56 Try.underlying28 hi0 hz0 hz1 hz2 rfl (by decide) (.slice (some ⟨w1.heap.size, 0, none⟩) 0 0) 0 [] rfl (World.ownsRow_lit w1 #[] 0 (Nat.le_refl _) (by decide) (by simp)) a n c (s.flatMap jbC) rfl (by rw [H.out.2.1]; rw [fm_length jbC_len]) (fun h => H.out.2.2.2.2.2 h) (fun ad had => newsK jbC_len (by decide) HN.out ad had) (ones_of jbC_one _) (by unfold maxLen; omega) (by omega) (by simp) ?_; intro v2 w2 hown2 hgrow2 hnil2))
  have HO0 : Hid (∃ g cap, v2 = .slice (some ⟨g, 0, none⟩) n cap ∧ OJ w2 lo g n cap s ∧ Below lo w1 w2) := by
    have ho : OG 51 7 jbC w2 lo v2 s := by
      rw [H.out.2.1, ← hlo] at hown2
      unfold OG
      simpa using hown2
    have hb : Below lo w1 w2 := by rw [hlo]; exact ((Below.refl _ _).alloc (Nat.le_refl _) _).grown hgrow2 (by simp) (fun j hj => by cases hj; exact Nat.le_refl _)
    rcases ho.2 with ⟨h1, _⟩ | ⟨g, cap, cur, h1, _⟩
    · exact absurd h1 (hnil2 (by simp))
    · rw [← H.out.2.1] at h1
      exact ⟨g, cap, h1, by rw [h1] at ho; exact ho, hb⟩
  clear hown2 hgrow2 hnil2 HN
  obtain ⟨g, cap, rfl, ho0, hb0⟩ := HO0.out
  obtain ⟨M, hM⟩ : ∃ M, M = mdL s := ⟨_, rfl⟩
  have HL : Hid (lo ≤ g ∧ M = mdL s) := ⟨ho0.lt.1, hM⟩
  have HS : Hid (OJ w2 lo g n cap s ∧ Below lo w1 w2 ∧ insO foC 0 (n - 1) 1 s = M) := ⟨ho0, hb0, by rw [hM, mdL, H.out.2.1]⟩
  have HBF : Hid (∀ x y X, Calls Try.prog 51 #[.agg #[.int .i64 x.id, .int .i64 x.co, .int .i64 x.ti, .int .i64 x.se, .int .i64 x.du, .int .i64 x.we, .int .i64 x.ki], .agg #[.int .i64 y.id, .int .i64 y.co, .int .i64 y.ti, .int .i64 y.se, .int .i64 y.du, .int .i64 y.we, .int .i64 y.ki]] X fun e w' => e = .returned (.bool (decide (foC x y < 0))) ∧ Below X.heap.size X w') := spec_bef
  clear ho0 hb0 HO0 hM hlo
  go_wp2
  go_loopw [5] (fun i wr => ∃ k l2, 1 ≤ k ∧ (k ≤ n ∨ k = 1) ∧ i = .int .i64 (k : Nat) ∧ Hid (OJ wr lo g n cap l2 ∧ Below lo w1 wr ∧ insO foC 0 (n - k) k l2 = M)) (fun i _ => n - (intOf i).toNat)
  case atStart => exact ⟨1, s, Nat.le_refl _, Or.inr rfl, by go_num, HS.out⟩
  case round =>
    clear HS
    obtain ⟨k, l2, hk1, hk2, rfl, hR⟩ := hrel
    by_cases hlt1 : k < n
    · have b0 : (0 : Int) < (k : Int) := by omega
      have b1 : (k : Int) < (n : Int) := by omega
      have HR2 : Hid (OJ wr lo g n cap l2 ∧ Below lo w1 wr ∧ insO foC 0 (n - (k + 1)) (k + 1) (insJ foC 0 k l2) = M) := by
        refine ⟨hR.out.1, hR.out.2.1, ?_⟩
        have := hR.out.2.2
        rw [show n - k = (n - (k + 1)) + 1 by omega] at this
        exact this
      clear hR
      go_wp2
      go_loopw [6] (fun i wr => ∃ j l3, j ≤ k ∧ i = .int .i64 (j : Nat) ∧ Hid (OJ wr lo g n cap l3 ∧ Below lo w1 wr ∧ insO foC 0 (n - (k + 1)) (k + 1) (insJ foC 0 j l3) = M)) (fun i _ => (intOf i).toNat)
      case atStart => exact ⟨k, l2, Nat.le_refl _, by go_num, HR2.out⟩
      case round =>
        clear HR2
        obtain ⟨j, l3, hj2, rfl, hR3⟩ := hrel
        by_cases hja : 0 < j
        case neg =>
          obtain rfl : j = 0 := by omega
          have HE : Hid (OJ wr lo g n cap l3 ∧ Below lo w1 wr ∧ insO foC 0 (n - (k + 1)) (k + 1) l3 = M) := hR3.out
          clear hR3
          have h1 : decide (((0 : Nat) : Int) > 0) = false := by decide
          go_wp2_with (fail)
          (refine wp_region_und (by kernel_rfl) (by kernel_rfl) (fun hund => ?_); (repeat (go_big_quiet_step (fail))); with_reducible refine wpQuiet_nil ?_; clear hund; intro W1 hb1; obtain ⟨hc1, hf1⟩ := undcell hb1)
          have HE2 : Hid (OJ W1 lo g n cap l3 ∧ Below lo w1 W1 ∧ insO foC 0 (n - (k + 1)) (k + 1) l3 = M) := ⟨HE.out.1.below hb1, HE.out.2.1.trans (hb1.mono (by have := HE.out.1.lt; omega)), HE.out.2.2⟩
          clear HE hb1 hc1 hf1
          go_wp2
          go_roundw
          case rel => exact ⟨k + 1, l3, by omega, Or.inl (by omega), by go_num, HE2.out⟩
          case measure => simp [intOf]; omega
        obtain ⟨i, hij⟩ : ∃ i, j = i + 1 := ⟨j - 1, by omega⟩
        have h1 : (0 : Int) < (j : Int) := by omega
        have hin : j < n := by omega
        obtain ⟨p0, p1, p2, p3, p4, p5, p6⟩ := hR3.out.1.at (j := i) (by omega)
        obtain ⟨q0, q1, q2, q3, q4, q5, q6⟩ := hR3.out.1.at (j := j) hin
        obtain ⟨x, hx⟩ : ∃ x, x = jA l3 j := ⟨_, rfl⟩
        obtain ⟨y, hy⟩ : ∃ y, y = jA l3 i := ⟨_, rfl⟩
        rw [← hx] at q0 q1 q2 q3 q4 q5 q6
        rw [← hy] at p0 p1 p2 p3 p4 p5 p6
        obtain ⟨r, hr⟩ : ∃ r, r = decide (foC x y < 0) := ⟨_, rfl⟩
        have HX : Hid (x = jA l3 j ∧ y = jA l3 i ∧ r = decide (foC x y < 0)) := ⟨hx, hy, hr⟩
        have hgl := hR3.out.1.lt.2
        have b2 : (0 : Int) ≤ (i : Int) := by omega
        have b3 : (j : Int) < (n : Int) := by omega
        have b4 : (j : Int) - 1 = (i : Int) := by omega
        have b5 : (i : Int) < (n : Int) := by omega
        have HCU : Hid (∀ X : Und wr.heap.size wr, Calls Try.prog 51 #[.agg #[.int .i64 x.id, .int .i64 x.co, .int .i64 x.ti, .int .i64 x.se, .int .i64 x.du, .int .i64 x.we, .int .i64 x.ki], .agg #[.int .i64 y.id, .int .i64 y.co, .int .i64 y.ti, .int .i64 y.se, .int .i64 y.du, .int .i64 y.we, .int .i64 y.ki]] X.W fun e w' => e = .returned (.bool r) ∧ Below X.W.heap.size X.W w') := fun X => by rw [hr]; exact HBF.out x y X.W
        have HIJ : Hid (j = i + 1) := hij
        have b6 : (0 : Int) ≤ (j : Int) := by omega
        clear hx hy hr hij
        go_wp2_with (fail)
        (refine wp_region_und (by kernel_rfl) (by kernel_rfl) (fun hund => ?_); (repeat (go_big_quiet_step (first | (go_at_call 51; with_reducible refine und_call ?_ (HCU.out _); exact Nat.le_refl _)))); with_reducible refine wpQuiet_nil ?_; clear hund; intro W1 hb1; obtain ⟨hc1, hf1⟩ := undcell hb1)
        have HO : Hid (OJ W1 lo g n cap l3 ∧ Below lo w1 W1 ∧ insO foC 0 (n - (k + 1)) (k + 1) (insJ foC 0 j l3) = M) := ⟨hR3.out.1.below hb1, hR3.out.2.1.trans (hb1.mono (by have := hR3.out.1.lt; omega)), hR3.out.2.2⟩
        clear hb1 hc1 hf1 hR3 HCU p0 p1 p2 p3 p4 p5 p6 q0 q1 q2 q3 q4 q5 q6 hgl
        cases r
        case false =>
          have HE : Hid (OJ W1 lo g n cap l3 ∧ Below lo w1 W1 ∧ insO foC 0 (n - (k + 1)) (k + 1) l3 = M) := by
            refine ⟨HO.out.1, HO.out.2.1, ?_⟩
            have := HO.out.2.2
            rw [HIJ.out] at this
            unfold insJ at this
            have h9 := of_decide_eq_false HX.out.2.2.symm
            rw [if_neg (fun e => h9 (by rw [HX.out.1, HX.out.2.1, HIJ.out]; exact e.2))] at this
            exact this
          clear HO HX HIJ
          go_wp2
          go_roundw
          case rel => exact ⟨k + 1, l3, by omega, Or.inl (by omega), by go_num, HE.out⟩
          case measure => simp [intOf]; omega
        have HE : Hid (insO foC 0 (n - (k + 1)) (k + 1) (insJ foC 0 i (sw l3 j i)) = M) := by
          have := HO.out.2.2
          rw [HIJ.out] at this
          unfold insJ at this
          have h9 := of_decide_eq_true HX.out.2.2.symm
          rw [if_pos ⟨by omega, by rw [HX.out.1, HX.out.2.1, HIJ.out] at h9; exact h9⟩] at this
          rw [HIJ.out]; exact this
        obtain ⟨X, hX⟩ : ∃ X, X = W1.alloc (.cells #[.int .i64 x.id, .int .i64 x.co, .int .i64 x.ti, .int .i64 x.se, .int .i64 x.du, .int .i64 x.we, .int .i64 x.ki] 51) := ⟨_, rfl⟩
        have HXX : Hid (OJ X lo g n cap l3 ∧ Below lo w1 X ∧ X.heap[W1.heap.size]? = some (.cells #[.int .i64 x.id, .int .i64 x.co, .int .i64 x.ti, .int .i64 x.se, .int .i64 x.du, .int .i64 x.we, .int .i64 x.ki] 51) ∧ g < W1.heap.size) := by
          rw [hX]; exact ⟨HO.out.1.al _, Below.alloc HO.out.2.1 (by have := HO.out.1.lt; omega) _, heap_alloc_new _ _, HO.out.1.lt.2⟩
        obtain ⟨q0, q1, q2, q3, q4, q5, q6⟩ := HO.out.1.at (j := j) hin
        rw [← HX.out.1] at q0 q1 q2 q3 q4 q5 q6
        have hgl := HO.out.1.lt.2
        go_upto_region 12 with fail
        rw [← hX]
        clear hX q0 q1 q2 q3 q4 q5 q6 hgl
        obtain ⟨p0, p1, p2, p3, p4, p5, p6⟩ := HXX.out.1.at (j := i) (by omega)
        obtain ⟨q0, q1, q2, q3, q4, q5, q6⟩ := HXX.out.1.at (j := j) hin
        rw [← HX.out.1] at q0 q1 q2 q3 q4 q5 q6
        rw [← HX.out.2.1] at p0 p1 p2 p3 p4 p5 p6
        have hgl := HXX.out.1.lt.2
        obtain ⟨t0, t1, t2, t3, t4, t5, t6, tl⟩ := jbS_cells HXX.out.2.2.1
        have hgne := HXX.out.2.2.2
        have fp0 := HXX.out.1.fr (i * 7)
        have fq0 := HXX.out.1.fr (j * 7)
        have fp1 := HXX.out.1.fr (i * 7 + 1)
        have fq1 := HXX.out.1.fr (j * 7 + 1)
        have fp2 := HXX.out.1.fr (i * 7 + 2)
        have fq2 := HXX.out.1.fr (j * 7 + 2)
        have fp3 := HXX.out.1.fr (i * 7 + 3)
        have fq3 := HXX.out.1.fr (j * 7 + 3)
        have fp4 := HXX.out.1.fr (i * 7 + 4)
        have fq4 := HXX.out.1.fr (j * 7 + 4)
        have fp5 := HXX.out.1.fr (i * 7 + 5)
        have fq5 := HXX.out.1.fr (j * 7 + 5)
        have fp6 := HXX.out.1.fr (i * 7 + 6)
        have fq6 := HXX.out.1.fr (j * 7 + 6)
        go_wp2
        have HSW : Hid (OJ (((((((((((((((X.setCell ⟨g, j * 7, none⟩ (.int .i64 y.id)).setCell ⟨g, j * 7 + 1, none⟩ (.int .i64 y.co)).setCell ⟨g, j * 7 + 2, none⟩ (.int .i64 y.ti)).setCell ⟨g, j * 7 + 3, none⟩ (.int .i64 y.se)).setCell ⟨g, j * 7 + 4, none⟩ (.int .i64 y.du)).setCell ⟨g, j * 7 + 5, none⟩ (.int .i64 y.we)).setCell ⟨g, j * 7 + 6, none⟩ (.int .i64 y.ki)).setCell ⟨g, i * 7, none⟩ (.int .i64 x.id)).setCell ⟨g, i * 7 + 1, none⟩ (.int .i64 x.co)).setCell ⟨g, i * 7 + 2, none⟩ (.int .i64 x.ti)).setCell ⟨g, i * 7 + 3, none⟩ (.int .i64 x.se)).setCell ⟨g, i * 7 + 4, none⟩ (.int .i64 x.du)).setCell ⟨g, i * 7 + 5, none⟩ (.int .i64 x.we)).setCell ⟨g, i * 7 + 6, none⟩ (.int .i64 x.ki))) lo g n cap (sw l3 j i) ∧ Below lo w1 (((((((((((((((X.setCell ⟨g, j * 7, none⟩ (.int .i64 y.id)).setCell ⟨g, j * 7 + 1, none⟩ (.int .i64 y.co)).setCell ⟨g, j * 7 + 2, none⟩ (.int .i64 y.ti)).setCell ⟨g, j * 7 + 3, none⟩ (.int .i64 y.se)).setCell ⟨g, j * 7 + 4, none⟩ (.int .i64 y.du)).setCell ⟨g, j * 7 + 5, none⟩ (.int .i64 y.we)).setCell ⟨g, j * 7 + 6, none⟩ (.int .i64 y.ki)).setCell ⟨g, i * 7, none⟩ (.int .i64 x.id)).setCell ⟨g, i * 7 + 1, none⟩ (.int .i64 x.co)).setCell ⟨g, i * 7 + 2, none⟩ (.int .i64 x.ti)).setCell ⟨g, i * 7 + 3, none⟩ (.int .i64 x.se)).setCell ⟨g, i * 7 + 4, none⟩ (.int .i64 x.du)).setCell ⟨g, i * 7 + 5, none⟩ (.int .i64 x.we)).setCell ⟨g, i * 7 + 6, none⟩ (.int .i64 x.ki))) ∧ insO foC 0 (n - (k + 1)) (k + 1) (insJ foC 0 i (sw l3 j i)) = M) := by
          obtain ⟨s1, s2⟩ := HXX.out.1.swap hin (show i < n by omega) HX.out.2.1 HX.out.1
          exact ⟨s1, grown_lo HXX.out.2.1 s2 HL.out.1 (by have := HXX.out.1.lt; omega), HE.out⟩
        clear HO HE HXX p0 p1 p2 p3 p4 p5 p6 q0 q1 q2 q3 q4 q5 q6 t0 t1 t2 t3 t4 t5 t6 tl hgl fp0 fq0 fp1 fq1 fp2 fq2 fp3 fq3 fp4 fq4 fp5 fq5 fp6 fq6
        generalize (((((((((((((((X.setCell ⟨g, j * 7, none⟩ (.int .i64 y.id)).setCell ⟨g, j * 7 + 1, none⟩ (.int .i64 y.co)).setCell ⟨g, j * 7 + 2, none⟩ (.int .i64 y.ti)).setCell ⟨g, j * 7 + 3, none⟩ (.int .i64 y.se)).setCell ⟨g, j * 7 + 4, none⟩ (.int .i64 y.du)).setCell ⟨g, j * 7 + 5, none⟩ (.int .i64 y.we)).setCell ⟨g, j * 7 + 6, none⟩ (.int .i64 y.ki)).setCell ⟨g, i * 7, none⟩ (.int .i64 x.id)).setCell ⟨g, i * 7 + 1, none⟩ (.int .i64 x.co)).setCell ⟨g, i * 7 + 2, none⟩ (.int .i64 x.ti)).setCell ⟨g, i * 7 + 3, none⟩ (.int .i64 x.se)).setCell ⟨g, i * 7 + 4, none⟩ (.int .i64 x.du)).setCell ⟨g, i * 7 + 5, none⟩ (.int .i64 x.we)).setCell ⟨g, i * 7 + 6, none⟩ (.int .i64 x.ki))) = W2 at HSW ⊢
        go_roundw
        case rel => exact ⟨i, sw l3 j i, by have := HIJ.out; omega, by go_num, HSW.out⟩
        case measure => have := HIJ.out; simp [intOf]; omega
    · have HE : Hid (OJ wr lo g n cap M ∧ Below lo w1 wr) := by
        have e := hR.out.2.2
        rw [show n - k = 0 by omega] at e
        have e2 : l2 = M := e
        rw [← e2]; exact ⟨hR.out.1, hR.out.2.1⟩
      have b9 : ¬ (k : Int) < (n : Int) := by omega
      clear hR HBF
      obtain ⟨X0, hX0⟩ : ∃ X, X = wr := ⟨_, rfl⟩
      have hM9 := mdL_ok s
      have HM : Hid (M.length = n ∧ (∀ x ∈ M, x ∈ s) ∧ IDS = M.map Jb.id ∧ QQ = floV (pkL s IDS) ∧ pkL s IDS = M ∧ ∀ i, i < IDS.length → 0 ≤ fdI (jdA s) (IDS.getD i 0) s.length) := by
        have hmem : ∀ x ∈ M, x ∈ s := fun x hx => hM9.2.mem_iff.1 (by rw [← HL.out.2]; exact hx)
        have e1 : IDS = M.map Jb.id := by rw [H.out.2.2.2.1, foI, if_pos H.out.2.2.1.symm, fl_md HOK.out, HL.out.2]
        have e2 : pkL s IDS = M := by rw [e1]; exact pkL_ids HOK.out hmem
        refine ⟨by rw [HL.out.2, hM9.2.length_eq, H.out.2.1], hmem, e1, by rw [H.out.2.2.2.2.1, foQ, if_pos H.out.2.2.1.symm, fl_md HOK.out, ← HL.out.2, e2], e2, fun i hi => ?_⟩
        rw [e1] at hi ⊢
        have hi2 : i < M.length := by simpa using hi
        have e3 : (M.map Jb.id).getD i 0 = M[i].id := by simp [List.getD, hi2]
        rw [e3]
        exact (pkJ_id HOK.out (hmem _ (List.getElem_mem hi2))).2
      clear hM9
      obtain ⟨ob, hob⟩ : ∃ x, x = wr.heap.size := ⟨_, rfl⟩
      have HOB : Hid (Below ob X0 (wr.alloc (.cells #[.int .i64 0, .slice none 0 0, .int .i64 0] 26)) ∧ (wr.alloc (.cells #[.int .i64 0, .slice none 0 0, .int .i64 0] 26)).heap[ob]? = some (.cells #[.int .i64 0, .slice none 0 0, .int .i64 0] 26) ∧ IS (wr.alloc (.cells #[.int .i64 0, .slice none 0 0, .int .i64 0] 26)) (ob + 1) (.slice none 0 0) ((M.take 0).map Jb.id)) := by
        rw [hob, hX0]
        exact ⟨by (repeat' (first | (with_reducible exact Below.refl _ _) | (with_reducible assumption) | (with_reducible refine Below.setCell ?_ ?_ _) | (with_reducible refine Below.alloc ?_ ?_ _) | (with_reducible refine below_drewN ?_ _) | (with_reducible refine Below.drew ?_) | (with_reducible exact Nat.le_refl _) | omega | (simp; done) | (simp; omega))), heap_alloc_new _ _, is_nl _ _⟩
      have HX0 : Hid (OJ X0 lo g n cap M ∧ Below lo w1 X0 ∧ ob = X0.heap.size ∧ g < ob ∧ W.heap.size < lo ∧ lo ≤ g) := by
        rw [hX0]; exact ⟨HE.out.1, HE.out.2, hob, by rw [hob]; exact HE.out.1.lt.2, hlt.out.1, HL.out.1⟩
      clear HE hX0
      go_upto_region 15 with fail
      obtain ⟨X1, hX1⟩ : ∃ X, X = wr.alloc (.cells #[.int .i64 0, .slice none 0 0, .int .i64 0] 26) := ⟨_, rfl⟩
      rw [← hX1] at HOB ⊢
      rw [← hob]
      clear hX1 hob
      go_wp2
      go_loopw [9] (fun i wr => ∃ (k : Nat) (va : Option Addr) (vc : Nat), k ≤ n ∧ i = .int .i64 (k : Nat) ∧ Hid (Below ob X0 wr ∧ wr.heap[ob]? = some (.cells #[.int .i64 0, .slice va k vc, .int .i64 0] 26) ∧ IS wr (ob + 1) (.slice va k vc) ((M.take k).map Jb.id))) (fun i _ => n - (intOf i).toNat)
      case atStart => exact ⟨0, none, 0, Nat.zero_le _, by go_num, HOB.out⟩
      case round =>
        clear HOB
        obtain ⟨k, va, vc, hk, rfl, hR⟩ := hrel
        by_cases hlt2 : k < n
        · have hkl : k < M.length := by rw [HM.out.1]; exact hlt2
          have hOJ : OJ wr lo g n cap M := rowKept HX0.out.1 (fun q hq => by
            have e : q = g := by have h9 : (Value.slice (some ⟨g, 0, none⟩) n cap).ownBlock = some g := rfl; rw [h9] at hq; injection hq with hq; exact hq.symm
            subst e
            exact hR.out.1.block q (by have := HX0.out.2.2.2.1; have := HX0.out.2.2.1; omega))
          obtain ⟨q0, q1, q2, q3, q4, q5, q6⟩ := hOJ.at (j := k) hlt2
          clear q1 q2 q3 q4 q5 q6
          obtain ⟨y, hy⟩ : ∃ y, y = (jA M k).id := ⟨_, rfl⟩
          rw [← hy] at q0
          have HST : Hid ((M.take (k + 1)).map Jb.id = (M.take k).map Jb.id ++ [y]) := by unfold Hid; rw [hy, jA_at hkl, List.take_succ_eq_append_getElem hkl, List.map_append]; rfl
          have hln : ((M.take k).map Jb.id).length = k := by rw [List.length_map, List.length_take]; omega
          obtain ⟨OL, hOL⟩ : ∃ l', l' = (M.take k).map Jb.id := ⟨_, rfl⟩
          rw [← hOL] at hR HST hln
          have HR : Hid (Below ob X0 wr ∧ wr.heap[ob]? = some (.cells #[.int .i64 0, .slice va k vc, .int .i64 0] 26) ∧ IS wr (ob + 1) (.slice va k vc) OL ∧ OL.length = k ∧ ob + 1 ≤ wr.heap.size) := ⟨hR.out.1, hR.out.2.1, hR.out.2.2, hln, ltOfQ hR.out.2.1⟩
          have b0 : (0 : Int) ≤ (k : Int) := by omega
          have b1 : (k : Int) < (n : Int) := by omega
          have z0 : wr.cell? ⟨ob, 0, none⟩ = some (.int .i64 0) := cellOfQ HR.out.2.1 0 rfl
          have z1 : wr.cell? ⟨ob, 1, none⟩ = some (.slice va k vc) := cellOfQ HR.out.2.1 1 rfl
          have zl : ob < wr.heap.size := ltOfQ HR.out.2.1
          have gl : g < wr.heap.size := by have := HX0.out.2.2.2.1; omega
          have gB : g < ob := HX0.out.2.2.2.1
          have oB : ob < ob + 1 := by omega
          clear hR hOJ hy hOL hln
          go_upto_region 18 with fail
          refine wp_region_holdsA (S := KA ob wr) (by kernel_rfl) (KA.of ((Below.refl _ _).drew)) (fun hS => ?_)
          refine fl_takeA (i := 0) (d := 66) (v := .pointer (some ⟨ob, 1, none⟩)) rfl rfl rfl (by kernel_rfl) (by kernel_rfl) (by kernel_rfl) hS ?_ ?_
          · intro w' hk; unfold KA at hk; go_simp
          simp only [Act.put, List.setIfInBounds_toArray, List.set_cons_zero, List.set_cons_succ]
          refine fl_takeA (i := 2) (d := 68) (v := .slice (some ⟨g, 0, none⟩) n cap) rfl rfl rfl (by kernel_rfl) (by kernel_rfl) (by kernel_rfl) hS ?_ ?_
          · intro w' hk; unfold KA at hk; go_simp
          simp only [Act.put, List.setIfInBounds_toArray, List.set_cons_zero, List.set_cons_succ]
          refine fl_takeA (i := 3) (d := 69) (v := .int .i64 k) rfl rfl rfl (by kernel_rfl) (by kernel_rfl) (by kernel_rfl) hS ?_ ?_
          · intro w' hk; unfold KA at hk; go_simp
          simp only [Act.put, List.setIfInBounds_toArray, List.set_cons_zero, List.set_cons_succ]
          refine fl_takeA (i := 4) (d := 70) (v := .pointer (some ⟨g, k * 7, none⟩)) rfl rfl rfl (by kernel_rfl) (by kernel_rfl) (by kernel_rfl) hS ?_ ?_
          · intro w' hk; unfold KA at hk; go_simp
          simp only [Act.put, List.setIfInBounds_toArray, List.set_cons_zero, List.set_cons_succ]
          refine fl_takeA (i := 5) (d := 71) (v := .pointer (some ⟨g, k * 7, none⟩)) rfl rfl rfl (by kernel_rfl) (by kernel_rfl) (by kernel_rfl) hS ?_ ?_
          · intro w' hk; unfold KA at hk; go_simp
          simp only [Act.put, List.setIfInBounds_toArray, List.set_cons_zero, List.set_cons_succ]
          refine fl_takeA (i := 6) (d := 72) (v := .int .i64 y) rfl rfl rfl (by kernel_rfl) (by kernel_rfl) (by kernel_rfl) hS ?_ ?_
          · intro w' hk; unfold KA at hk; go_simp
          simp only [Act.put, List.setIfInBounds_toArray, List.set_cons_zero, List.set_cons_succ]
          have hbA : Below wr.heap.size wr (wr.drew.alloc (.cells #[.int .i64 y] 2)) := by have := (Below.refl wr.heap.size wr).drew; (repeat' (first | (with_reducible exact Below.refl _ _) | (with_reducible assumption) | (with_reducible refine Below.setCell ?_ ?_ _) | (with_reducible refine Below.alloc ?_ ?_ _) | (with_reducible refine below_drewN ?_ _) | (with_reducible refine Below.drew ?_) | (with_reducible exact Nat.le_refl _) | omega | (simp; done) | (simp; omega)))
          have zA : (wr.drew.alloc (.cells #[.int .i64 y] 2)).cell? ⟨ob, 1, none⟩ = some (.slice va k vc) := (hbA.cell (p := ⟨ob, 1, none⟩) zl).trans z1
          have hSA : KA ob wr (wr.drew.alloc (.cells #[.int .i64 y] 2)) := KA.of (hbA.mono (by omega))
          clear hbA
          refine wpAnyH_all (rs := [1, 7]) (by kernel_rfl) (by simp) ?_
          intro i hi
          rcases (by simpa using hi : i = 1 ∨ i = 7) with rfl | rfl
          · clear hi
            refine op_val (d := 67) (v := .slice va k vc) (w' := wr.drew) rfl rfl rfl (by go_simp; try rfl) ?_
            simp only [Act.put, List.setIfInBounds_toArray, List.set_cons_zero, List.set_cons_succ]
            refine ⟨hS, wpAnyH_all (rs := [7]) (by kernel_rfl) (by simp) ?_⟩
            intro i hi
            obtain rfl : i = 7 := by simpa using hi
            clear hi
            refine op_val (d := 73) (v := .slice (some ⟨wr.drew.heap.size, 0, none⟩) 1 1) (w' := wr.drew.alloc (.cells #[.int .i64 y] 2)) rfl rfl rfl (by go_simp; try rfl) ?_
            simp only [Act.put, List.setIfInBounds_toArray, List.set_cons_zero, List.set_cons_succ]
            refine ⟨hSA, ?_⟩
            clear hSA zA
            obtain ⟨V, hV⟩ : ∃ V, V = wr.drew.alloc (.cells #[.int .i64 y] 2) := ⟨_, rfl⟩
            have hn2 : V.heap[wr.drew.heap.size]? = some (.cells #[.int .i64 y] 2) := by rw [hV]; exact heap_alloc_new _ _
            have hb2 : Below wr.heap.size wr V := by rw [hV]; have := (Below.refl wr.heap.size wr).drew; (repeat' (first | (with_reducible exact Below.refl _ _) | (with_reducible assumption) | (with_reducible refine Below.setCell ?_ ?_ _) | (with_reducible refine Below.alloc ?_ ?_ _) | (with_reducible refine below_drewN ?_ _) | (with_reducible refine Below.drew ?_) | (with_reducible exact Nat.le_refl _) | omega | (simp; done) | (simp; omega)))
            have ho2 : V.ownsRow (ob + 1) 2 1 (.slice va k vc) k (OL.map (Value.int .i64)) := by
              have h9 := IS.kept HR.out.2.2.1 (fun q hq => hb2.block q (World.ownsRow.lt HR.out.2.2.1 q hq).2)
              unfold IS at h9
              rw [HR.out.2.2.2.1] at h9
              exact h9
            have hsz := HR.out.2.2.2.2
            rw [← hV]
            refine wpAnyH_all (rs := [8]) (by kernel_rfl) (by simp) ?_
            intro i hi
            obtain rfl : i = 8 := by simpa using hi
            clear hi
            refine op_appA (dd := 74) rfl rfl rfl _ _ 24 rfl (ob + 1) 2 i1 (.int .i64 0) 1 8 Try.underlying24 hi1 hy0 hy1 hy2 rfl (by decide) (.slice va k vc) k (OL.map (Value.int .i64)) rfl ho2 (some ⟨wr.drew.heap.size, 0, none⟩) 1 1 [.int .i64 y] rfl rfl (fun h => by cases h) (fun ad h => by injection h with h; subst h; exact World.news_of_block (cs := #[.int .i64 y]) (t := 2) (fr := (0, 0)) hn2) (by simp [Value.oneCell']) (by unfold maxLen; omega) (by omega) (Nat.le_trans hsz hb2.size) ?_
            intro v5 w5 hown5 hgrow5
            simp only [Act.put, List.setIfInBounds_toArray, List.set_cons_zero, List.set_cons_succ]
            have hb5 : Below (ob + 1) wr w5 := (hb2.mono hsz).grown hgrow5 (Nat.le_trans hsz hb2.size) (fun q hq => (World.ownsRow.lt ho2 q hq).1)
            have hk5 : w5.heap[ob]? = some (.cells #[.int .i64 0, .slice va k vc, .int .i64 0] 26) := (hb5.block ob oB).trans HR.out.2.1
            have his5 : IS w5 (ob + 1) v5 (OL ++ [y]) := by
              unfold IS; rw [List.length_append, HR.out.2.2.2.1, List.map_append]; exact hown5
            obtain ⟨na, nc, hv5⟩ := his5.form
            have hl5 : (OL ++ [y]).length = k + 1 := by rw [List.length_append, HR.out.2.2.2.1]; rfl
            rw [hl5] at hv5
            subst hv5
            have hS5 : KA ob wr w5 := KA.of (hb5.mono (by omega))
            refine ⟨hS5, ?_⟩
            refine fl_takeA (i := 9) (d := 75) (v := .pointer (some ⟨ob, 1, none⟩)) rfl rfl rfl (by kernel_rfl) (by kernel_rfl) (by kernel_rfl) hS5 ?_ ?_
            · intro w' hk; go_simp
            simp only [Act.put, List.setIfInBounds_toArray, List.set_cons_zero, List.set_cons_succ]
            have c1 : w5.cell? ⟨ob, 1, none⟩ = some (.slice va k vc) := cellOfQ hk5 1 rfl
            have d1 := frozOfQ hk5 1
            have cl := ltOfQ hk5
            have R : Hid (Below ob X0 (w5.setCell ⟨ob, 1, none⟩ (.slice na (k + 1) nc)) ∧ (w5.setCell ⟨ob, 1, none⟩ (.slice na (k + 1) nc)).heap[ob]? = some (.cells #[.int .i64 0, .slice na (k + 1) nc, .int .i64 0] 26) ∧ IS (w5.setCell ⟨ob, 1, none⟩ (.slice na (k + 1) nc)) (ob + 1) (.slice na (k + 1) nc) ((M.take (k + 1)).map Jb.id)) := by
              refine ⟨(HR.out.1.trans (hb5.mono (by omega))).setCell (Nat.le_refl _) _, ?_, ?_⟩
              · have := heap_setCell_same w5 ob 1 _ _ (.slice na (k + 1) nc) hk5
                simpa using this
              · rw [HST.out]
                refine his5.kept fun q hq => ?_
                have h9 := (IS.lt his5 q hq).1
                exact heap_setCell_other _ ⟨ob, 1, none⟩ _ _ (by show q ≠ ob; omega)
            have hS6 : KA ob wr (w5.setCell ⟨ob, 1, none⟩ (.slice na (k + 1) nc)) := KA.of (Below.setCell (p := ⟨ob, 1, none⟩) (hb5.mono (show ob ≤ ob + 1 by omega)) (Nat.le_refl _) _)
            refine wpAnyH_all (rs := [10]) (by kernel_rfl) (by simp) ?_
            intro i hi
            obtain rfl : i = 10 := by simpa using hi
            clear hi
            refine op_skipN (w' := w5.setCell ⟨ob, 1, none⟩ (.slice na (k + 1) nc)) rfl rfl (by go_simp; try rfl) ?_
            simp only [Act.put]
            refine ⟨hS6, wpAnyH_done (by kernel_rfl) (NoPanic.normal ?_) _⟩
            generalize w5.setCell ⟨ob, 1, none⟩ (.slice na (k + 1) nc) = W6 at R ⊢
            clear hS hS5 hS6 c1 d1 cl hl5 his5 hk5 hb5 hgrow5 hown5 hsz ho2 hb2 hn2 hV z0 z1 zl gl gB oB HR HST q0
            go_wp2
            go_roundw
            case rel => exact ⟨k + 1, na, nc, by omega, by go_num, R.out.1, R.out.2.1, R.out.2.2⟩
            case measure => simp [intOf]; omega
          · clear hi
            refine op_val (d := 73) (v := .slice (some ⟨wr.drew.heap.size, 0, none⟩) 1 1) (w' := wr.drew.alloc (.cells #[.int .i64 y] 2)) rfl rfl rfl (by go_simp; try rfl) ?_
            simp only [Act.put, List.setIfInBounds_toArray, List.set_cons_zero, List.set_cons_succ]
            refine ⟨hSA, wpAnyH_all (rs := [1]) (by kernel_rfl) (by simp) ?_⟩
            intro i hi
            obtain rfl : i = 1 := by simpa using hi
            clear hi
            refine op_val (d := 67) (v := .slice va k vc) (w' := wr.drew.alloc (.cells #[.int .i64 y] 2)) rfl rfl rfl (by go_simp; try rfl) ?_
            simp only [Act.put, List.setIfInBounds_toArray, List.set_cons_zero, List.set_cons_succ]
            refine ⟨hSA, ?_⟩
            clear hSA zA
            obtain ⟨V, hV⟩ : ∃ V, V = wr.drew.alloc (.cells #[.int .i64 y] 2) := ⟨_, rfl⟩
            have hn2 : V.heap[wr.drew.heap.size]? = some (.cells #[.int .i64 y] 2) := by rw [hV]; exact heap_alloc_new _ _
            have hb2 : Below wr.heap.size wr V := by rw [hV]; have := (Below.refl wr.heap.size wr).drew; (repeat' (first | (with_reducible exact Below.refl _ _) | (with_reducible assumption) | (with_reducible refine Below.setCell ?_ ?_ _) | (with_reducible refine Below.alloc ?_ ?_ _) | (with_reducible refine below_drewN ?_ _) | (with_reducible refine Below.drew ?_) | (with_reducible exact Nat.le_refl _) | omega | (simp; done) | (simp; omega)))
            have ho2 : V.ownsRow (ob + 1) 2 1 (.slice va k vc) k (OL.map (Value.int .i64)) := by
              have h9 := IS.kept HR.out.2.2.1 (fun q hq => hb2.block q (World.ownsRow.lt HR.out.2.2.1 q hq).2)
              unfold IS at h9
              rw [HR.out.2.2.2.1] at h9
              exact h9
            have hsz := HR.out.2.2.2.2
            rw [← hV]
            refine wpAnyH_all (rs := [8]) (by kernel_rfl) (by simp) ?_
            intro i hi
            obtain rfl : i = 8 := by simpa using hi
            clear hi
            refine op_appA (dd := 74) rfl rfl rfl _ _ 24 rfl (ob + 1) 2 i1 (.int .i64 0) 1 8 Try.underlying24 hi1 hy0 hy1 hy2 rfl (by decide) (.slice va k vc) k (OL.map (Value.int .i64)) rfl ho2 (some ⟨wr.drew.heap.size, 0, none⟩) 1 1 [.int .i64 y] rfl rfl (fun h => by cases h) (fun ad h => by injection h with h; subst h; exact World.news_of_block (cs := #[.int .i64 y]) (t := 2) (fr := (0, 0)) hn2) (by simp [Value.oneCell']) (by unfold maxLen; omega) (by omega) (Nat.le_trans hsz hb2.size) ?_
            intro v5 w5 hown5 hgrow5
            simp only [Act.put, List.setIfInBounds_toArray, List.set_cons_zero, List.set_cons_succ]
            have hb5 : Below (ob + 1) wr w5 := (hb2.mono hsz).grown hgrow5 (Nat.le_trans hsz hb2.size) (fun q hq => (World.ownsRow.lt ho2 q hq).1)
            have hk5 : w5.heap[ob]? = some (.cells #[.int .i64 0, .slice va k vc, .int .i64 0] 26) := (hb5.block ob oB).trans HR.out.2.1
            have his5 : IS w5 (ob + 1) v5 (OL ++ [y]) := by
              unfold IS; rw [List.length_append, HR.out.2.2.2.1, List.map_append]; exact hown5
            obtain ⟨na, nc, hv5⟩ := his5.form
            have hl5 : (OL ++ [y]).length = k + 1 := by rw [List.length_append, HR.out.2.2.2.1]; rfl
            rw [hl5] at hv5
            subst hv5
            have hS5 : KA ob wr w5 := KA.of (hb5.mono (by omega))
            refine ⟨hS5, ?_⟩
            refine fl_takeA (i := 9) (d := 75) (v := .pointer (some ⟨ob, 1, none⟩)) rfl rfl rfl (by kernel_rfl) (by kernel_rfl) (by kernel_rfl) hS5 ?_ ?_
            · intro w' hk; go_simp
            simp only [Act.put, List.setIfInBounds_toArray, List.set_cons_zero, List.set_cons_succ]
            have c1 : w5.cell? ⟨ob, 1, none⟩ = some (.slice va k vc) := cellOfQ hk5 1 rfl
            have d1 := frozOfQ hk5 1
            have cl := ltOfQ hk5
            have R : Hid (Below ob X0 (w5.setCell ⟨ob, 1, none⟩ (.slice na (k + 1) nc)) ∧ (w5.setCell ⟨ob, 1, none⟩ (.slice na (k + 1) nc)).heap[ob]? = some (.cells #[.int .i64 0, .slice na (k + 1) nc, .int .i64 0] 26) ∧ IS (w5.setCell ⟨ob, 1, none⟩ (.slice na (k + 1) nc)) (ob + 1) (.slice na (k + 1) nc) ((M.take (k + 1)).map Jb.id)) := by
              refine ⟨(HR.out.1.trans (hb5.mono (by omega))).setCell (Nat.le_refl _) _, ?_, ?_⟩
              · have := heap_setCell_same w5 ob 1 _ _ (.slice na (k + 1) nc) hk5
                simpa using this
              · rw [HST.out]
                refine his5.kept fun q hq => ?_
                have h9 := (IS.lt his5 q hq).1
                exact heap_setCell_other _ ⟨ob, 1, none⟩ _ _ (by show q ≠ ob; omega)
            have hS6 : KA ob wr (w5.setCell ⟨ob, 1, none⟩ (.slice na (k + 1) nc)) := KA.of (Below.setCell (p := ⟨ob, 1, none⟩) (hb5.mono (show ob ≤ ob + 1 by omega)) (Nat.le_refl _) _)
            refine wpAnyH_all (rs := [10]) (by kernel_rfl) (by simp) ?_
            intro i hi
            obtain rfl : i = 10 := by simpa using hi
            clear hi
            refine op_skipN (w' := w5.setCell ⟨ob, 1, none⟩ (.slice na (k + 1) nc)) rfl rfl (by go_simp; try rfl) ?_
            simp only [Act.put]
            refine ⟨hS6, wpAnyH_done (by kernel_rfl) (NoPanic.normal ?_) _⟩
            generalize w5.setCell ⟨ob, 1, none⟩ (.slice na (k + 1) nc) = W6 at R ⊢
            clear hS hS5 hS6 c1 d1 cl hl5 his5 hk5 hb5 hgrow5 hown5 hsz ho2 hb2 hn2 hV z0 z1 zl gl gB oB HR HST q0
            go_wp2
            go_roundw
            case rel => exact ⟨k + 1, na, nc, by omega, by go_num, R.out.1, R.out.2.1, R.out.2.2⟩
            case measure => simp [intOf]; omega
        · obtain rfl : k = n := by omega
          have HE : Hid (Below ob X0 wr ∧ wr.heap[ob]? = some (.cells #[.int .i64 0, .slice va k vc, .int .i64 0] 26) ∧ IS wr (ob + 1) (.slice va k vc) IDS) := by
            refine ⟨hR.out.1, hR.out.2.1, ?_⟩
            have h9 := hR.out.2.2
            rw [List.take_of_length_le (by rw [HM.out.1]; exact Nat.le_refl _), ← HM.out.2.2.1] at h9
            exact h9
          have HBW : Hid (Below W.heap.size W wr) := HW.out.1.trans ((HX0.out.2.1.mono (by have := hlt.out; omega)).trans (HE.out.1.mono (by have := HX0.out; omega)))
          have HKW : Hid (wr.heap[W.heap.size]? = some (.cells #[.int .i64 0, .slice none 0 0, .int .i64 0] 26)) := by
            refine (HE.out.1.block _ (by have := HX0.out; omega)).trans ((HX0.out.2.1.block _ (by have := HX0.out; omega)).trans HW.out.2)
          have HFW : Hid (Calls Try.prog 52 #[.slice a k c, .slice va k vc] wr fun e w' => e = .returned (.int .i64 QQ) ∧ Below wr.heap.size wr w') := by
            have h0 : IDS.length = k := by rw [HM.out.2.2.1, List.length_map]; exact HM.out.1
            rw [HM.out.2.2.2.1]
            refine spec_flow (by omega) (by omega) HM.out.2.2.2.2.2 (fun i hi => ?_) (H.out.1.below HBW.out) (IS.rg HE.out.2.2)
            have h1 : ∀ x ∈ pkL s IDS, rgJ x := by
              rw [HM.out.2.2.2.2.1]
              intro x hx
              obtain ⟨j, hj, e⟩ := List.getElem_of_mem (HM.out.2.1 x hx)
              rw [← e]; exact HOK.out.rg j hj
            exact h1 _ (List.getElem_mem hi)
          have z0 : wr.cell? ⟨ob, 0, none⟩ = some (.int .i64 0) := cellOfQ HE.out.2.1 0 rfl
          have z1 : wr.cell? ⟨ob, 1, none⟩ = some (.slice va k vc) := cellOfQ HE.out.2.1 1 rfl
          have zl : ob < wr.heap.size := ltOfQ HE.out.2.1
          clear hR
          go_wp2_with (fail)
          refine HFW.out.mono ?_
          rintro e w6 ⟨rfl, hb6⟩
          have hlo2 : W.heap.size < ob := by have := HX0.out; omega
          have HW6 : Hid (Below W.heap.size W w6 ∧ w6.heap[W.heap.size]? = some (.cells #[.int .i64 0, .slice none 0 0, .int .i64 0] 26) ∧ w6.heap[ob]? = some (.cells #[.int .i64 0, .slice va k vc, .int .i64 0] 26) ∧ IS w6 (ob + 1) (.slice va k vc) IDS ∧ W.heap.size < ob) := by
            refine ⟨HBW.out.trans (hb6.mono HBW.out.size), (hb6.block _ (by omega)).trans HKW.out, (hb6.block _ zl).trans HE.out.2.1, IS.kept HE.out.2.2 (fun q hq => hb6.block q (IS.lt HE.out.2.2 q hq).2), hlo2⟩
          clear z0 z1 zl HE HBW HKW HFW hb6 HX0 HM HL hlt HOK HW H hlo2
          have y0 : w6.cell? ⟨ob, 0, none⟩ = some (.int .i64 0) := cellOfQ HW6.out.2.2.1 0 rfl
          have y1 : w6.cell? ⟨ob, 1, none⟩ = some (.slice va k vc) := cellOfQ HW6.out.2.2.1 1 rfl
          have y2 : w6.cell? ⟨ob, 2, none⟩ = some (.int .i64 0) := cellOfQ HW6.out.2.2.1 2 rfl
          have yl := ltOfQ HW6.out.2.2.1
          have g2 := frozOfQ HW6.out.2.2.1 2
          have z0 : w6.cell? ⟨W.heap.size, 0, none⟩ = some (.int .i64 0) := cellOfQ HW6.out.2.1 0 rfl
          have z1 : w6.cell? ⟨W.heap.size, 1, none⟩ = some (.slice none 0 0) := cellOfQ HW6.out.2.1 1 rfl
          have z2 : w6.cell? ⟨W.heap.size, 2, none⟩ = some (.int .i64 0) := cellOfQ HW6.out.2.1 2 rfl
          have zl := ltOfQ HW6.out.2.1
          have f0 := frozOfQ HW6.out.2.1 0
          have f1 := frozOfQ HW6.out.2.1 1
          have f2 := frozOfQ HW6.out.2.1 2
          have hne : ob ≠ W.heap.size := by have := HW6.out.2.2.2.2; omega
          have hne' : W.heap.size ≠ ob := fun e => hne e.symm
          go_wp2
          try simp only [Exit.inBlock, Exit.then]
          refine bodyPost_ret (by simp [results, Try.results17, go_sem, z0, z1, z2, zl, f0, f1, f2]; try rfl) rfl ⟨_, (), by rfl, ?_, ?_⟩
          · have h8 := HW6.out.2.2.2.2
            refine (IS.low HW6.out.2.2.2.1 (show W.heap.size ≤ ob + 1 by omega)).kept fun q hq => ?_
            have h9 := (IS.lt HW6.out.2.2.2.1 q hq).1
            repeat rw [heap_setCell_other _ _ _ _ (by first | (show q ≠ W.heap.size; omega) | (show q ≠ ob; omega))]
          · have hb := HW6.out.1
            have h8 := HW6.out.2.2.2.2
            (repeat' (first | (with_reducible exact Below.refl _ _) | (with_reducible assumption) | (with_reducible refine Below.setCell ?_ ?_ _) | (with_reducible refine Below.alloc ?_ ?_ _) | (with_reducible refine below_drewN ?_ _) | (with_reducible refine Below.drew ?_) | (with_reducible exact Nat.le_refl _) | omega | (simp; done) | (simp; omega)))

end Go.Proofs.Ytjbghflphngnkaa
