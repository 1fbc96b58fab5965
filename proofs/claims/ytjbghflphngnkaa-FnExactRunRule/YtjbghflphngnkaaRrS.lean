/- Proved here: RunRule of the model. -/
import Derived.Test.YtjbghflphngnkaaKept
import Derived.Test.YtjbghflphngnkaaRrL
import Derived.Test.YtjbghflphngnkaaPjS
import Derived.Test.YtjbghflphngnkaaFoT
import Derived.Test.YtjbghflphngnkaaDkS
namespace Go.Proofs.Ytjbghflphngnkaa
open Go.RowKit
set_option linter.unusedVariables false
set_option linter.unusedSimpArgs false

theorem spec_mnj (a b : Int) (w : World) : Calls Try.prog 32 #[.int .i64 a, .int .i64 b] w fun e w' => e = .returned (.int .i64 (min a b)) ∧ w' = w := by
  rcases (by omega : b < a ∨ a = b ∨ a < b) with h | h | h
  · rw [show min a b = b by omega]
    go_enter Try.func32, Try.ntmps32
    go_wp2
    go_returns
    exact ⟨rfl, rfl⟩
  · subst h
    rw [show min a a = a by omega]
    go_enter Try.func32, Try.ntmps32
    go_wp2
    go_returns
    exact ⟨rfl, rfl⟩
  · rw [show min a b = a by omega]
    go_enter Try.func32, Try.ntmps32
    go_wp2
    go_returns
    exact ⟨rfl, rfl⟩
/-- What is kept while an Id is appended: what lies below the box, and the list that is left. -/
def KL (B g : Nat) (W w : World) : Prop := (∀ b o, (b < B ∨ b = g) → w.cell? ⟨b, o, none⟩ = W.cell? ⟨b, o, none⟩) ∧ Below B W w ∧ w.heap[g]? = W.heap[g]?
theorem KL.of {B g : Nat} {W w : World} (h : Below B W w) (hg : w.heap[g]? = W.heap[g]?) : KL B g W w :=
  ⟨fun b o hb => by
    rcases hb with hb | rfl
    · exact h.cell (p := ⟨b, o, none⟩) hb
    · exact World.cell?_of_block (w := W) hg, h, hg⟩
open Classical in
/-- How much a run has left to do: twice the jobs, and one where none has come. -/
noncomputable def rrMs (q i : Value) (w : World) : Nat := match q with
  | .slice (some a) n _ => 2 * n + (if ∃ j co, j < n ∧ w.cell? ⟨a.block, j * 7 + 1, none⟩ = some (.int .i64 co) ∧ co ≤ intOf i then 0 else 1)
  | _ => 0
theorem rrMs_eq {w : World} {lo g N cap : Nat} {l : List Jb} {now rule : Int} (h : OJ w lo g N cap l) (hN : N = l.length) : rrMs (.slice (some ⟨g, 0, none⟩) N cap) (.int .i64 now) w = 2 * N + (if (bst (orC rule now) now l l.length).isSome = true then 0 else 1) := by
  have e : (∃ j co, j < N ∧ w.cell? ⟨g, j * 7 + 1, none⟩ = some (.int .i64 co) ∧ co ≤ now) ↔ (bst (orC rule now) now l l.length).isSome = true := by
    constructor
    · rintro ⟨j, co, hj, hc, hle⟩
      cases hb : bst (orC rule now) now l l.length with
      | some b => rfl
      | none =>
        have h1 := bst_none _ _ _ _ hb j (by omega)
        have h2 := (h.at hj).2.1
        rw [h2] at hc
        injection hc with hc
        injection hc with _ hc
        omega
    · intro hb
      obtain ⟨b, hb⟩ := Option.isSome_iff_exists.1 hb
      obtain ⟨h1, h2⟩ := bst_lt _ _ _ _ _ hb
      exact ⟨b, _, by omega, (h.at (by omega)).2.1, h2⟩
  by_cases h9 : (bst (orC rule now) now l l.length).isSome = true
  · rw [if_pos h9]; exact congrArg (2 * N + ·) (if_pos (e.2 h9))
  · rw [if_neg h9]; exact congrArg (2 * N + ·) (if_neg (fun h8 => h9 (e.1 h8)))

set_option maxRecDepth 10000 in
set_option maxHeartbeats 25600000 in
theorem spec_rr (rule : Int) {W : World} {a : Option Addr} {c : Nat} {s : List Jb} (hn : s.length ≤ 1048576) (hc : s.length ≤ c) (hnc : NCj a s.length c) (hs : RG 7 jbC W (.slice a s.length c) s) :
    Calls Try.prog 9 #[.slice a s.length c, .int .i64 rule] W fun e w' => ∃ (v : Value) (_ : Unit), e = .returned (.agg #[.int .i64 (rrC s rule), v, .int .i64 (rrQ s rule)]) ∧ IS w' W.heap.size v (rrI s rule) ∧ Below W.heap.size W w' := by
  obtain ⟨i0, hi0, hz0, hz1, hz2⟩ := info_parts info_Job
  obtain ⟨i1, hi1, hy0, hy1, hy2⟩ := info_parts info_i64
  obtain ⟨n, hnn⟩ : ∃ n, n = s.length := ⟨_, rfl⟩
  obtain ⟨J, hJ⟩ : ∃ J, J = rrC s rule := ⟨_, rfl⟩
  obtain ⟨IDS, hIDS⟩ : ∃ J, J = rrI s rule := ⟨_, rfl⟩
  obtain ⟨QQ, hQQ⟩ : ∃ J, J = rrQ s rule := ⟨_, rfl⟩
  obtain ⟨Z, hZ⟩ : ∃ Z, Z = W.alloc (.cells #[.int .i64 0, .slice none 0 0, .int .i64 0] 26) := ⟨_, rfl⟩
  have HZ : Hid (Below W.heap.size W Z ∧ Z.heap[W.heap.size]? = some (.cells #[.int .i64 0, .slice none 0 0, .int .i64 0] 26)) := by rw [hZ]; exact ⟨by (repeat' (first | (with_reducible exact Below.refl _ _) | (with_reducible assumption) | (with_reducible refine Below.setCell ?_ ?_ _) | (with_reducible refine Below.alloc ?_ ?_ _) | (with_reducible refine below_drewN ?_ _) | (with_reducible refine Below.drew ?_) | (with_reducible exact Nat.le_refl _) | omega | (simp; done) | (simp; omega))), heap_alloc_new _ _⟩
  have HJ : Hid (Calls Try.prog 30 #[.slice a n c, .int .i64 rule] Z fun e w' => e = .returned (.int .i64 J) ∧ Below Z.heap.size Z w') := by rw [hJ, hnn, rrC_lr]; exact spec_lr rule hn hc (hs.below HZ.out.1)
  have H : Hid (RG 7 jbC W (.slice a n c) s ∧ n = s.length ∧ J = rrC s rule ∧ IDS = rrI s rule ∧ QQ = rrQ s rule ∧ NCj a n c) := ⟨by rw [hnn]; exact hs, hnn, hJ, hIDS, hQQ, by rw [hnn]; exact hnc⟩
  rw [← hJ, ← hnn, ← hIDS, ← hQQ]
  clear hs hn hc hnn hJ hIDS hQQ hnc
  go_enter Try.func9, Try.ntmps9
  go_wp2_with (fail)
  rw [← hZ]
  clear hZ
  refine HJ.out.mono ?_
  rintro e w1 ⟨rfl, hb1⟩
  have HW : Hid (Below W.heap.size W w1 ∧ w1.heap[W.heap.size]? = some (.cells #[.int .i64 0, .slice none 0 0, .int .i64 0] 26)) := ⟨HZ.out.1.trans (hb1.mono HZ.out.1.size), (hb1.block _ (ltOfQ HZ.out.2)).trans HZ.out.2⟩
  clear hb1 HZ HJ
  by_cases hJ0 : J = 0
  case neg =>
    have HE : Hid (IDS = [] ∧ QQ = 0) := by
      have h9 : ¬ rrC s rule = 0 := by rw [← H.out.2.2.1]; exact hJ0
      exact ⟨by rw [H.out.2.2.2.1, rrI, if_neg h9], by rw [H.out.2.2.2.2.1, rrQ, if_neg h9]⟩
    have h1 : (J != 0) = true := by simpa using hJ0
    have z0 : w1.cell? ⟨W.heap.size, 0, none⟩ = some (.int .i64 0) := cellOfQ HW.out.2 0 rfl
    have z1 : w1.cell? ⟨W.heap.size, 1, none⟩ = some (.slice none 0 0) := cellOfQ HW.out.2 1 rfl
    have z2 : w1.cell? ⟨W.heap.size, 2, none⟩ = some (.int .i64 0) := cellOfQ HW.out.2 2 rfl
    have zl := ltOfQ HW.out.2
    have f0 := frozOfQ HW.out.2 0
    have f1 := frozOfQ HW.out.2 1
    have f2 := frozOfQ HW.out.2 2
    have HB : Hid (Below W.heap.size W w1) := HW.out.1
    clear HW H
    go_wp2
    try simp only [Exit.inBlock, Exit.then]
    refine bodyPost_ret (by simp [results, Try.results9, go_sem, z0, z1, z2, zl, f0, f1, f2]; try rfl) rfl ⟨_, (), by rw [HE.out.2], by rw [HE.out.1]; exact World.ownsRow_nil _ _ _ _, ?_⟩
    have hb := HB.out
    (repeat' (first | (with_reducible exact Below.refl _ _) | (with_reducible assumption) | (with_reducible refine Below.setCell ?_ ?_ _) | (with_reducible refine Below.alloc ?_ ?_ _) | (with_reducible refine below_drewN ?_ _) | (with_reducible refine Below.drew ?_) | (with_reducible exact Nat.le_refl _) | omega | (simp; done) | (simp; omega)))
  subst hJ0
  obtain ⟨hok, hr1, hr4⟩ := pfC_ok H.out.2.2.1.symm
  have hn30 : n ≤ 30 := by rw [H.out.2.1]; exact hok.len
  have HOK : Hid (OkJ s ∧ 1 ≤ rule ∧ rule ≤ 4) := ⟨hok, hr1, hr4⟩
  clear hok
  obtain ⟨lo, hlo⟩ : ∃ x, x = w1.heap.size := ⟨_, rfl⟩
  have HN : Hid (RG 7 jbC (w1.alloc (.cells #[] 51)) (.slice a n c) s) := H.out.1.below (HW.out.1.trans ((show Below w1.heap.size w1 (w1.alloc (.cells #[] 51)) by (repeat' (first | (with_reducible exact Below.refl _ _) | (with_reducible assumption) | (with_reducible refine Below.setCell ?_ ?_ _) | (with_reducible refine Below.alloc ?_ ?_ _) | (with_reducible refine below_drewN ?_ _) | (with_reducible refine Below.drew ?_) | (with_reducible exact Nat.le_refl _) | omega | (simp; done) | (simp; omega)))).mono HW.out.1.size))
  have hWl : W.heap.size < lo := by rw [hlo]; exact ltOfQ HW.out.2
  have hlt : Hid (W.heap.size < lo ∧ lo = w1.heap.size) := ⟨hWl, hlo⟩
  clear hWl
  go_upto_region 5 with (at_builtin; (refine appAny rfl _ _ 28 rfl w1.heap.size 51 i0 (.agg #[.int .i64 0, .int .i64 0, .int .i64 0, .int .i64 0, .int .i64 0, .int .i64 0, .int .i64 0]) 7 56 Try.underlying28 hi0 hz0 hz1 hz2 rfl (by decide) (.slice (some ⟨w1.heap.size, 0, none⟩) 0 0) 0 [] rfl (World.ownsRow_lit w1 #[] 0 (Nat.le_refl _) (by decide) (by simp)) a n c (s.flatMap jbC) rfl (by rw [H.out.2.1]; rw [fm_length jbC_len]) (fun h => H.out.2.2.2.2.2 h) (fun ad had => newsK jbC_len (by decide) HN.out ad had) (ones_of jbC_one _) (by unfold maxLen; omega) (by omega) (by simp) ?_; intro v2 w2 hown2 hgrow2 hnil2))
  have HO0 : Hid (∃ g cap, v2 = .slice (some ⟨g, 0, none⟩) n cap ∧ OJ w2 lo g n cap s ∧ Below lo w1 w2) := by
    have ho : OG 51 7 jbC w2 lo v2 s := by
      rw [H.out.2.1, ← hlo] at hown2
      unfold OG
      simpa using hown2
    have hb : Below lo w1 w2 := by rw [hlo]; exact ((Below.refl _ _).alloc (Nat.le_refl _) _).grown hgrow2 (by simp) (fun j hj => by cases hj; exact Nat.le_refl _)
    rcases ho.2 with ⟨h1, _⟩ | ⟨g, cap, cur, h1, _⟩
    · exact absurd h1 (hnil2 (by simp))
    · rw [← H.out.2.1] at h1
      exact ⟨g, cap, h1, by rw [h1] at ho; exact ho, hb⟩
  clear hown2 hgrow2 hnil2 HN
  obtain ⟨g, cap, rfl, ho0, hb0⟩ := HO0.out
  obtain ⟨ob, hob⟩ : ∃ x, x = w2.heap.size := ⟨_, rfl⟩
  obtain ⟨X0, hX0⟩ : ∃ X, X = w2 := ⟨_, rfl⟩
  obtain ⟨X1, hX1⟩ : ∃ X, X = w2.alloc (.cells #[.int .i64 0, .slice none 0 0, .int .i64 0] 26) := ⟨_, rfl⟩
  have HX0 : Hid (Below lo w1 X0 ∧ ob = X0.heap.size ∧ W.heap.size < lo ∧ lo ≤ ob) := by
    have h9 := ho0.lt
    rw [hX0]; exact ⟨hb0, hob, hlt.out.1, by omega⟩
  have HOB : Hid (RS rule s 0 s 0 [] ∧ OJ X1 lo g n cap s ∧ n = (s).length ∧ Below ob X0 X1 ∧ X1.heap[ob]? = some (.cells #[.int .i64 0, .slice none 0 0, .int .i64 0] 26) ∧ IS X1 (ob + 1) (.slice none 0 0) (([]).map Jb.id) ∧ (∀ q, (Value.slice none 0 0).ownBlock = some q → q ≠ g) ∧ g ≠ ob ∧ lo ≤ ob) := by
    have h9 := ho0.lt
    rw [hX1, hob, hX0]
    exact ⟨RS.zero HOK.out.1, ho0.al _, H.out.2.1, by (repeat' (first | (with_reducible exact Below.refl _ _) | (with_reducible assumption) | (with_reducible refine Below.setCell ?_ ?_ _) | (with_reducible refine Below.alloc ?_ ?_ _) | (with_reducible refine below_drewN ?_ _) | (with_reducible refine Below.drew ?_) | (with_reducible exact Nat.le_refl _) | omega | (simp; done) | (simp; omega))), heap_alloc_new _ _, is_nl _ _, (fun q hq => by cases hq), by omega, by omega⟩
  clear ho0 hb0 HO0 hlo hX0
  go_upto_region 7 with fail
  rw [← hX1, ← hob]
  clear hX1 hob
  go_wp2
  go_loopw [6, 7] (fun q i wr => ∃ (g cap : Nat) (l : List Jb) (now : Int) (t : Nat) (od : List Jb) (va : Option Addr) (vc N : Nat), q = .slice (some ⟨g, 0, none⟩) N cap ∧ i = .int .i64 now ∧ Hid (RS rule s t l now od ∧ OJ wr lo g N cap l ∧ N = (l).length ∧ Below ob X0 wr ∧ wr.heap[ob]? = some (.cells #[.int .i64 0, .slice va t vc, .int .i64 0] 26) ∧ IS wr (ob + 1) (.slice va t vc) ((od).map Jb.id) ∧ (∀ q, (Value.slice va t vc).ownBlock = some q → q ≠ g) ∧ g ≠ ob ∧ lo ≤ ob)) rrMs
  case atStart => exact ⟨g, cap, s, 0, 0, [], none, 0, n, rfl, rfl, HOB.out⟩
  case round =>
    clear HOB
    obtain ⟨g, cap, l, now, t, od, va, vc, N, rfl, rfl, hR⟩ := hrel
    by_cases hN : 0 < N
    · have hlp : 0 < l.length := by rw [← hR.out.2.2.1]; exact hN
      have hN30 : N ≤ 30 := by rw [hR.out.2.2.1]; exact hR.out.1.ok.len
      obtain ⟨P, hP⟩ : ∃ P, P = bst (orC rule now) now l l.length := ⟨_, rfl⟩
      have HPK : Hid (Calls Try.prog 31 #[.slice (some ⟨g, 0, none⟩) N cap, .int .i64 rule, .int .i64 now] wr fun e w' => e = .returned (.int .i64 (obK P)) ∧ Below wr.heap.size wr w') := by
        rw [hP]; exact spec_pick rule now HOK.out.2 (by rw [← hR.out.2.2.1]; omega) (OG.rg jbC_len hR.out.2.1)
      have HPP : Hid (P = bst (orC rule now) now l l.length) := hP
      have hNp : ((N : Int) > 0) := by omega
      have HMS0 : Hid (rrMs (.slice (some ⟨g, 0, none⟩) N cap) (.int .i64 now) wr = 2 * N + (if P.isSome = true then 0 else 1)) := by rw [hP]; exact rrMs_eq hR.out.2.1 hR.out.2.2.1
      clear hP
      go_wp2_with (fail)
      refine HPK.out.mono ?_
      rintro e w3 ⟨rfl, hb3⟩
      have HR3 : Hid (RS rule s t l now od ∧ OJ w3 lo g N cap l ∧ N = (l).length ∧ Below ob X0 w3 ∧ w3.heap[ob]? = some (.cells #[.int .i64 0, .slice va t vc, .int .i64 0] 26) ∧ IS w3 (ob + 1) (.slice va t vc) ((od).map Jb.id) ∧ (∀ q, (Value.slice va t vc).ownBlock = some q → q ≠ g) ∧ g ≠ ob ∧ lo ≤ ob) := by
        refine ⟨hR.out.1, hR.out.2.1.below hb3, hR.out.2.2.1, hR.out.2.2.2.1.trans (hb3.mono (by have h9 := hR.out.2.2.2.1.size; have h8 := HX0.out.2.1; omega)), (hb3.block _ (ltOfQ hR.out.2.2.2.2.1)).trans hR.out.2.2.2.2.1, IS.kept hR.out.2.2.2.2.2.1 (fun q hq => hb3.block q (IS.lt hR.out.2.2.2.2.2.1 q hq).2), hR.out.2.2.2.2.2.2⟩
      clear hb3 HPK hR
      cases P with
      | none =>
        have HNO : Hid (nwR l now = mnC l (l.length - 1) ∧ (bst (orC rule (mnC l (l.length - 1))) (mnC l (l.length - 1)) l l.length).isSome = true) := pick_none hlp HPP.out.symm
        have HPO : Hid (RS rule s t l (mnC l (N - 1)) od ∧ OJ w3 lo g N cap l ∧ N = (l).length ∧ Below ob X0 w3 ∧ w3.heap[ob]? = some (.cells #[.int .i64 0, .slice va t vc, .int .i64 0] 26) ∧ IS w3 (ob + 1) (.slice va t vc) ((od).map Jb.id) ∧ (∀ q, (Value.slice va t vc).ownBlock = some q → q ≠ g) ∧ g ≠ ob ∧ lo ≤ ob) := by
          refine ⟨?_, HR3.out.2⟩
          rw [HR3.out.2.2.1, ← HNO.out.1]; exact HR3.out.1.wait hlp
        have HMS : Hid (rrMs (.slice (some ⟨g, 0, none⟩) N cap) (.int .i64 (mnC l (N - 1))) w3 < rrMs (.slice (some ⟨g, 0, none⟩) N cap) (.int .i64 now) wr) := by
          unfold Hid
          rw [HMS0.out, rrMs_eq (rule := rule) HR3.out.2.1 HR3.out.2.2.1, HR3.out.2.2.1, if_pos HNO.out.2]
          simp
        have c0 := (HR3.out.2.1.at (j := 0) hN).2.1
        rw [Nat.zero_mul, Nat.zero_add] at c0
        have hgl := HR3.out.2.1.lt.2
        have HJ3 : Hid (OJ w3 lo g N cap l) := HR3.out.2.1
        clear HMS0 HNO HR3 HPP hlp
        have eK : obK none = -1 := rfl
        rw [eK]
        clear eK
        go_wp2
        go_loopw [10, 11] (fun q i wz => ∃ k : Nat, k ≤ N ∧ q = .int .i64 (mnC l (k - 1)) ∧ i = .int .i64 k ∧ wz = w3) (fun _ i _ => N - (intOf i).toNat)
        case atStart => exact ⟨0, Nat.zero_le _, rfl, rfl, by first | rfl | trivial⟩
        case round =>
          obtain ⟨k, hk, rfl, rfl, rfl⟩ := hrel
          by_cases hkN : k < N
          · have c1 := (HJ3.out.at (j := k) hkN).2.1
            have b0 : (0 : Int) ≤ (k : Int) := by omega
            have b1 : (k : Int) < (N : Int) := by omega
            obtain ⟨m, hm⟩ : ∃ m, m = mnC l (k - 1) := ⟨_, rfl⟩
            obtain ⟨x, hx⟩ : ∃ m, m = (jA l k).co := ⟨_, rfl⟩
            rw [← hx] at c1
            rw [← hm]
            have HMX : Hid (min m x = mnC l (k + 1 - 1)) := by
              unfold Hid; rw [hm, hx]
              cases k with
              | zero => show min (mnC l 0) (jA l 0).co = mnC l 0; simp [mnC]
              | succ k => rfl
            clear hm hx
            go_wp2_with (fail)
            refine (spec_mnj m x _).mono ?_
            rintro e w4 ⟨rfl, rfl⟩
            rw [HMX.out]
            clear HMX
            go_wp2
            go_roundw
            case rel => exact ⟨k + 1, by omega, rfl, by go_num, by first | rfl | trivial⟩
            case measure => simp [intOf]; omega
          · obtain rfl : k = N := by omega
            go_wp2
            go_roundw
            case rel => exact ⟨g, cap, l, mnC l (k - 1), t, od, va, vc, k, rfl, rfl, HPO.out⟩
            case measure => exact HMS.out
      | some b =>
        obtain ⟨hnw, hpk, hbl⟩ := pick_some hlp HPP.out.symm
        have hbN : b < N := by rw [HR3.out.2.2.1]; exact hbl
        obtain ⟨p0, p1, p2, p3, p4, p5, p6⟩ := HR3.out.2.1.at (j := b) hbN
        clear p1 p3 p4 p5 p6
        obtain ⟨y, hy⟩ : ∃ y, y = (jA l b).id := ⟨_, rfl⟩
        obtain ⟨ti, hti⟩ : ∃ y, y = (jA l b).ti := ⟨_, rfl⟩
        rw [← hy] at p0
        rw [← hti] at p2
        have hti2 : 1 ≤ ti ∧ ti ≤ 1000000 := by
          have h9 := HR3.out.1.ok.rg b hbl
          rw [← jA_at] at h9
          rw [hti]; exact h9.2.1
        have hnow : 0 ≤ now ∧ now ≤ 31000000 := by
          have h9 := HR3.out.1.nw
          have h8 := HR3.out.1.len
          have h7 := HOK.out.1.len
          omega
        obtain ⟨OL, hOL⟩ : ∃ l', l' = od.map Jb.id := ⟨_, rfl⟩
        have HRS : Hid (RS rule s (t + 1) (l.eraseIdx b) (now + ti) (od ++ [jA l b])) := by
          have h9 := HR3.out.1.step hlp
          rw [hpk, hnw] at h9
          rw [hti]; exact h9
        have HST : Hid ((od ++ [jA l b]).map Jb.id = OL ++ [y]) := by unfold Hid; rw [hOL, hy, List.map_append]; rfl
        have HR : Hid (Below ob X0 w3 ∧ w3.heap[ob]? = some (.cells #[.int .i64 0, .slice va t vc, .int .i64 0] 26) ∧ IS w3 (ob + 1) (.slice va t vc) OL ∧ OL.length = t ∧ ob + 1 ≤ w3.heap.size) := ⟨HR3.out.2.2.2.1, HR3.out.2.2.2.2.1, by rw [hOL]; exact HR3.out.2.2.2.2.2.1, by rw [hOL, List.length_map]; exact HR3.out.1.ol, ltOfQ HR3.out.2.2.2.2.1⟩
        have HNE : Hid (∀ q, (Value.slice va t vc).ownBlock = some q → q ≠ g) := HR3.out.2.2.2.2.2.2.1
        have HGO : Hid (g ≠ ob) := HR3.out.2.2.2.2.2.2.2.1
        have HLO : Hid (lo ≤ ob) := HR3.out.2.2.2.2.2.2.2.2
        have HNL : Hid (N = l.length) := HR3.out.2.2.1
        have HOJ : Hid (OJ w3 lo g N cap l) := HR3.out.2.1
        have HMS : Hid (∀ {g' c' : Nat} (X : World), OJ X lo g' (N - 1) c' (l.eraseIdx b) → N - 1 = (l.eraseIdx b).length → rrMs (.slice (some ⟨g', 0, none⟩) (N - 1) c') (.int .i64 (now + ti)) X < rrMs (.slice (some ⟨g, 0, none⟩) N cap) (.int .i64 now) wr) := fun X h1 h2 => by
          rw [HMS0.out, rrMs_eq (rule := rule) h1 h2]
          simp
          split <;> omega
        have z0 : w3.cell? ⟨ob, 0, none⟩ = some (.int .i64 0) := cellOfQ HR.out.2.1 0 rfl
        have z1 : w3.cell? ⟨ob, 1, none⟩ = some (.slice va t vc) := cellOfQ HR.out.2.1 1 rfl
        have zl : ob < w3.heap.size := ltOfQ HR.out.2.1
        have gl : g < w3.heap.size := HOJ.out.lt.2
        have oB : ob < ob + 1 := by omega
        have ht30 : t ≤ 30 := by
          have h8 := HR3.out.1.len
          have h7 := HOK.out.1.len
          omega
        have b0 : (0 : Int) ≤ (b : Int) := by omega
        have b1 : (b : Int) < (N : Int) := by omega
        clear HR3 HPP hlp hnw hpk hbl hy hti hOL HMS0
        have eK : obK (some b) = (b : Int) := rfl
        rw [eK]
        clear eK
        have q0 := p0
        go_upto_region 17 with fail
        clear p2 p0
        refine wp_region_holdsA (S := KL ob g w3) (by kernel_rfl) (KL.of ((Below.refl _ _).drew) rfl) (fun hS => ?_)
        refine fl_takeA (i := 0) (d := 57) (v := .pointer (some ⟨ob, 1, none⟩)) rfl rfl rfl (by kernel_rfl) (by kernel_rfl) (by kernel_rfl) hS ?_ ?_
        · intro w' hk; obtain ⟨hk0, hk1, hk2⟩ := hk; go_simp
        simp only [Act.put, List.setIfInBounds_toArray, List.set_cons_zero, List.set_cons_succ]
        refine fl_takeA (i := 2) (d := 59) (v := .slice (some ⟨g, 0, none⟩) N cap) rfl rfl rfl (by kernel_rfl) (by kernel_rfl) (by kernel_rfl) hS ?_ ?_
        · intro w' hk; obtain ⟨hk0, hk1, hk2⟩ := hk; go_simp
        simp only [Act.put, List.setIfInBounds_toArray, List.set_cons_zero, List.set_cons_succ]
        refine fl_takeA (i := 3) (d := 60) (v := .int .i64 b) rfl rfl rfl (by kernel_rfl) (by kernel_rfl) (by kernel_rfl) hS ?_ ?_
        · intro w' hk; obtain ⟨hk0, hk1, hk2⟩ := hk; go_simp
        simp only [Act.put, List.setIfInBounds_toArray, List.set_cons_zero, List.set_cons_succ]
        refine fl_takeA (i := 4) (d := 61) (v := .pointer (some ⟨g, b * 7, none⟩)) rfl rfl rfl (by kernel_rfl) (by kernel_rfl) (by kernel_rfl) hS ?_ ?_
        · intro w' hk; obtain ⟨hk0, hk1, hk2⟩ := hk; go_simp
        simp only [Act.put, List.setIfInBounds_toArray, List.set_cons_zero, List.set_cons_succ]
        refine fl_takeA (i := 5) (d := 62) (v := .pointer (some ⟨g, b * 7, none⟩)) rfl rfl rfl (by kernel_rfl) (by kernel_rfl) (by kernel_rfl) hS ?_ ?_
        · intro w' hk; obtain ⟨hk0, hk1, hk2⟩ := hk; go_simp
        simp only [Act.put, List.setIfInBounds_toArray, List.set_cons_zero, List.set_cons_succ]
        refine fl_takeA (i := 6) (d := 63) (v := .int .i64 y) rfl rfl rfl (by kernel_rfl) (by kernel_rfl) (by kernel_rfl) hS ?_ ?_
        · intro w' hk; obtain ⟨hk0, hk1, hk2⟩ := hk; go_simp
        simp only [Act.put, List.setIfInBounds_toArray, List.set_cons_zero, List.set_cons_succ]
        have hbA : Below w3.heap.size w3 (w3.drew.alloc (.cells #[.int .i64 y] 2)) := by have := (Below.refl w3.heap.size w3).drew; (repeat' (first | (with_reducible exact Below.refl _ _) | (with_reducible assumption) | (with_reducible refine Below.setCell ?_ ?_ _) | (with_reducible refine Below.alloc ?_ ?_ _) | (with_reducible refine below_drewN ?_ _) | (with_reducible refine Below.drew ?_) | (with_reducible exact Nat.le_refl _) | omega | (simp; done) | (simp; omega)))
        have zA : (w3.drew.alloc (.cells #[.int .i64 y] 2)).cell? ⟨ob, 1, none⟩ = some (.slice va t vc) := (hbA.cell (p := ⟨ob, 1, none⟩) zl).trans z1
        have hSA : KL ob g w3 (w3.drew.alloc (.cells #[.int .i64 y] 2)) := KL.of (hbA.mono (by omega)) (hbA.block _ gl)
        clear hbA
        refine wpAnyH_all (rs := [1, 7]) (by kernel_rfl) (by simp) ?_
        intro i hi
        rcases (by simpa using hi : i = 1 ∨ i = 7) with rfl | rfl
        · clear hi
          refine op_val (d := 58) (v := .slice va t vc) (w' := w3.drew) rfl rfl rfl (by go_simp; try rfl) ?_
          simp only [Act.put, List.setIfInBounds_toArray, List.set_cons_zero, List.set_cons_succ]
          refine ⟨hS, wpAnyH_all (rs := [7]) (by kernel_rfl) (by simp) ?_⟩
          intro i hi
          obtain rfl : i = 7 := by simpa using hi
          clear hi
          refine op_val (d := 64) (v := .slice (some ⟨w3.drew.heap.size, 0, none⟩) 1 1) (w' := w3.drew.alloc (.cells #[.int .i64 y] 2)) rfl rfl rfl (by go_simp; try rfl) ?_
          simp only [Act.put, List.setIfInBounds_toArray, List.set_cons_zero, List.set_cons_succ]
          refine ⟨hSA, ?_⟩
          clear hSA zA
          obtain ⟨V, hV⟩ : ∃ V, V = w3.drew.alloc (.cells #[.int .i64 y] 2) := ⟨_, rfl⟩
          have hn2 : V.heap[w3.drew.heap.size]? = some (.cells #[.int .i64 y] 2) := by rw [hV]; exact heap_alloc_new _ _
          have hb2 : Below w3.heap.size w3 V := by rw [hV]; have := (Below.refl w3.heap.size w3).drew; (repeat' (first | (with_reducible exact Below.refl _ _) | (with_reducible assumption) | (with_reducible refine Below.setCell ?_ ?_ _) | (with_reducible refine Below.alloc ?_ ?_ _) | (with_reducible refine below_drewN ?_ _) | (with_reducible refine Below.drew ?_) | (with_reducible exact Nat.le_refl _) | omega | (simp; done) | (simp; omega)))
          have ho2 : V.ownsRow (ob + 1) 2 1 (.slice va t vc) t (OL.map (Value.int .i64)) := by
            have h9 := IS.kept HR.out.2.2.1 (fun q hq => hb2.block q (World.ownsRow.lt HR.out.2.2.1 q hq).2)
            unfold IS at h9
            rw [HR.out.2.2.2.1] at h9
            exact h9
          have hsz := HR.out.2.2.2.2
          rw [← hV]
          refine wpAnyH_all (rs := [8]) (by kernel_rfl) (by simp) ?_
          intro i hi
          obtain rfl : i = 8 := by simpa using hi
          clear hi
          refine op_appA (dd := 65) rfl rfl rfl _ _ 24 rfl (ob + 1) 2 i1 (.int .i64 0) 1 8 Try.underlying24 hi1 hy0 hy1 hy2 rfl (by decide) (.slice va t vc) t (OL.map (Value.int .i64)) rfl ho2 (some ⟨w3.drew.heap.size, 0, none⟩) 1 1 [.int .i64 y] rfl rfl (fun h => by cases h) (fun ad h => by injection h with h; subst h; exact World.news_of_block (cs := #[.int .i64 y]) (t := 2) (fr := (0, 0)) hn2) (by simp [Value.oneCell']) (by unfold maxLen; omega) (by omega) (Nat.le_trans hsz hb2.size) ?_
          intro v5 w5 hown5 hgrow5
          simp only [Act.put, List.setIfInBounds_toArray, List.set_cons_zero, List.set_cons_succ]
          have hb5 : Below (ob + 1) w3 w5 := (hb2.mono hsz).grown hgrow5 (Nat.le_trans hsz hb2.size) (fun q hq => (World.ownsRow.lt ho2 q hq).1)
          have hk5 : w5.heap[ob]? = some (.cells #[.int .i64 0, .slice va t vc, .int .i64 0] 26) := (hb5.block ob oB).trans HR.out.2.1
          have his5 : IS w5 (ob + 1) v5 (OL ++ [y]) := by
            unfold IS; rw [List.length_append, HR.out.2.2.2.1, List.map_append]; exact hown5
          obtain ⟨na, nc, hv5⟩ := his5.form
          have hl5 : (OL ++ [y]).length = t + 1 := by rw [List.length_append, HR.out.2.2.2.1]; rfl
          rw [hl5] at hv5
          subst hv5
          have hg5 : w5.heap[g]? = w3.heap[g]? := (hgrow5.block g (Nat.lt_of_lt_of_le gl hb2.size) (fun e => HNE.out g e.symm rfl)).trans (hb2.block g gl)
          have hS5 : KL ob g w3 w5 := KL.of (hb5.mono (by omega)) hg5
          refine ⟨hS5, ?_⟩
          refine fl_takeA (i := 9) (d := 66) (v := .pointer (some ⟨ob, 1, none⟩)) rfl rfl rfl (by kernel_rfl) (by kernel_rfl) (by kernel_rfl) hS5 ?_ ?_
          · intro w' hk; go_simp
          simp only [Act.put, List.setIfInBounds_toArray, List.set_cons_zero, List.set_cons_succ]
          have c1 : w5.cell? ⟨ob, 1, none⟩ = some (.slice va t vc) := cellOfQ hk5 1 rfl
          have d1 := frozOfQ hk5 1
          have cl := ltOfQ hk5
          have R : Hid (Below ob X0 (w5.setCell ⟨ob, 1, none⟩ (.slice na (t + 1) nc)) ∧ (w5.setCell ⟨ob, 1, none⟩ (.slice na (t + 1) nc)).heap[ob]? = some (.cells #[.int .i64 0, .slice na (t + 1) nc, .int .i64 0] 26) ∧ IS (w5.setCell ⟨ob, 1, none⟩ (.slice na (t + 1) nc)) (ob + 1) (.slice na (t + 1) nc) (OL ++ [y]) ∧ OJ (w5.setCell ⟨ob, 1, none⟩ (.slice na (t + 1) nc)) lo g N cap l) := by
            refine ⟨(HR.out.1.trans (hb5.mono (by omega))).setCell (Nat.le_refl _) _, ?_, ?_, rowKept HOJ.out (fun q hq => by
              have e : q = g := by have h9 : (Value.slice (some ⟨g, 0, none⟩) N cap).ownBlock = some g := rfl; rw [h9] at hq; injection hq with hq; exact hq.symm
              subst e
              exact (heap_setCell_other _ ⟨ob, 1, none⟩ _ _ (by show q ≠ ob; exact HGO.out)).trans hg5)⟩
            · have := heap_setCell_same w5 ob 1 _ _ (.slice na (t + 1) nc) hk5
              simpa using this
            · refine his5.kept fun q hq => ?_
              have h9 := (IS.lt his5 q hq).1
              exact heap_setCell_other _ ⟨ob, 1, none⟩ _ _ (by show q ≠ ob; omega)
          have hS6 : KL ob g w3 (w5.setCell ⟨ob, 1, none⟩ (.slice na (t + 1) nc)) := KL.of (Below.setCell (p := ⟨ob, 1, none⟩) (hb5.mono (show ob ≤ ob + 1 by omega)) (Nat.le_refl _) _) ((heap_setCell_other _ ⟨ob, 1, none⟩ _ _ (by show g ≠ ob; exact HGO.out)).trans hg5)
          refine wpAnyH_all (rs := [10]) (by kernel_rfl) (by simp) ?_
          intro i hi
          obtain rfl : i = 10 := by simpa using hi
          clear hi
          refine op_skipN (w' := w5.setCell ⟨ob, 1, none⟩ (.slice na (t + 1) nc)) rfl rfl (by go_simp; try rfl) ?_
          simp only [Act.put]
          refine ⟨hS6, wpAnyH_done (by kernel_rfl) (NoPanic.normal ?_) _⟩
          generalize w5.setCell ⟨ob, 1, none⟩ (.slice na (t + 1) nc) = W6 at R ⊢
          clear hS hS5 hS6 c1 d1 cl hl5 his5 hk5 hb5 hgrow5 hown5 hsz ho2 hb2 hn2 hV z0 z1 zl gl q0 HR hg5
          go_wp2_with (fail)
          refine (spec_less hN30 hbN R.out.2.2.2).mono ?_
          rintro e w7 ⟨g', c', rfl, ho7, hb7⟩
          have HP : Hid (RS rule s (t + 1) (l.eraseIdx b) (now + ti) (od ++ [jA l b]) ∧ OJ w7 lo g' (N - 1) c' (l.eraseIdx b) ∧ N - 1 = (l.eraseIdx b).length ∧ Below ob X0 w7 ∧ w7.heap[ob]? = some (.cells #[.int .i64 0, .slice na (t + 1) nc, .int .i64 0] 26) ∧ IS w7 (ob + 1) (.slice na (t + 1) nc) ((od ++ [jA l b]).map Jb.id) ∧ (∀ q, (Value.slice na (t + 1) nc).ownBlock = some q → q ≠ g') ∧ g' ≠ ob ∧ lo ≤ ob) := by
            have hg7 := ho7.lt
            have hobs := ltOfQ R.out.2.1
            have hlo9 := HLO.out
            refine ⟨HRS.out, OG.low ho7 (by omega), by rw [List.length_eraseIdx, if_pos (by rw [← HNL.out]; exact hbN), HNL.out], R.out.1.trans (hb7.mono (by omega)), (hb7.block _ hobs).trans R.out.2.1, by rw [HST.out]; exact IS.kept R.out.2.2.1 (fun q hq => hb7.block q (IS.lt R.out.2.2.1 q hq).2), fun q hq => by have h9 := (IS.lt R.out.2.2.1 q hq).2; omega, by omega, HLO.out⟩
          clear R ho7 hb7 HRS HST HNL HOJ HGO HNE HLO
          go_wp2
          go_roundw
          case rel => exact ⟨g', c', l.eraseIdx b, now + ti, t + 1, od ++ [jA l b], na, nc, N - 1, rfl, rfl, HP.out⟩
          case measure => exact HMS.out _ HP.out.2.1 HP.out.2.2.1
        · clear hi
          refine op_val (d := 64) (v := .slice (some ⟨w3.drew.heap.size, 0, none⟩) 1 1) (w' := w3.drew.alloc (.cells #[.int .i64 y] 2)) rfl rfl rfl (by go_simp; try rfl) ?_
          simp only [Act.put, List.setIfInBounds_toArray, List.set_cons_zero, List.set_cons_succ]
          refine ⟨hSA, wpAnyH_all (rs := [1]) (by kernel_rfl) (by simp) ?_⟩
          intro i hi
          obtain rfl : i = 1 := by simpa using hi
          clear hi
          refine op_val (d := 58) (v := .slice va t vc) (w' := w3.drew.alloc (.cells #[.int .i64 y] 2)) rfl rfl rfl (by go_simp; try rfl) ?_
          simp only [Act.put, List.setIfInBounds_toArray, List.set_cons_zero, List.set_cons_succ]
          refine ⟨hSA, ?_⟩
          clear hSA zA
          obtain ⟨V, hV⟩ : ∃ V, V = w3.drew.alloc (.cells #[.int .i64 y] 2) := ⟨_, rfl⟩
          have hn2 : V.heap[w3.drew.heap.size]? = some (.cells #[.int .i64 y] 2) := by rw [hV]; exact heap_alloc_new _ _
          have hb2 : Below w3.heap.size w3 V := by rw [hV]; have := (Below.refl w3.heap.size w3).drew; (repeat' (first | (with_reducible exact Below.refl _ _) | (with_reducible assumption) | (with_reducible refine Below.setCell ?_ ?_ _) | (with_reducible refine Below.alloc ?_ ?_ _) | (with_reducible refine below_drewN ?_ _) | (with_reducible refine Below.drew ?_) | (with_reducible exact Nat.le_refl _) | omega | (simp; done) | (simp; omega)))
          have ho2 : V.ownsRow (ob + 1) 2 1 (.slice va t vc) t (OL.map (Value.int .i64)) := by
            have h9 := IS.kept HR.out.2.2.1 (fun q hq => hb2.block q (World.ownsRow.lt HR.out.2.2.1 q hq).2)
            unfold IS at h9
            rw [HR.out.2.2.2.1] at h9
            exact h9
          have hsz := HR.out.2.2.2.2
          rw [← hV]
          refine wpAnyH_all (rs := [8]) (by kernel_rfl) (by simp) ?_
          intro i hi
          obtain rfl : i = 8 := by simpa using hi
          clear hi
          refine op_appA (dd := 65) rfl rfl rfl _ _ 24 rfl (ob + 1) 2 i1 (.int .i64 0) 1 8 Try.underlying24 hi1 hy0 hy1 hy2 rfl (by decide) (.slice va t vc) t (OL.map (Value.int .i64)) rfl ho2 (some ⟨w3.drew.heap.size, 0, none⟩) 1 1 [.int .i64 y] rfl rfl (fun h => by cases h) (fun ad h => by injection h with h; subst h; exact World.news_of_block (cs := #[.int .i64 y]) (t := 2) (fr := (0, 0)) hn2) (by simp [Value.oneCell']) (by unfold maxLen; omega) (by omega) (Nat.le_trans hsz hb2.size) ?_
          intro v5 w5 hown5 hgrow5
          simp only [Act.put, List.setIfInBounds_toArray, List.set_cons_zero, List.set_cons_succ]
          have hb5 : Below (ob + 1) w3 w5 := (hb2.mono hsz).grown hgrow5 (Nat.le_trans hsz hb2.size) (fun q hq => (World.ownsRow.lt ho2 q hq).1)
          have hk5 : w5.heap[ob]? = some (.cells #[.int .i64 0, .slice va t vc, .int .i64 0] 26) := (hb5.block ob oB).trans HR.out.2.1
          have his5 : IS w5 (ob + 1) v5 (OL ++ [y]) := by
            unfold IS; rw [List.length_append, HR.out.2.2.2.1, List.map_append]; exact hown5
          obtain ⟨na, nc, hv5⟩ := his5.form
          have hl5 : (OL ++ [y]).length = t + 1 := by rw [List.length_append, HR.out.2.2.2.1]; rfl
          rw [hl5] at hv5
          subst hv5
          have hg5 : w5.heap[g]? = w3.heap[g]? := (hgrow5.block g (Nat.lt_of_lt_of_le gl hb2.size) (fun e => HNE.out g e.symm rfl)).trans (hb2.block g gl)
          have hS5 : KL ob g w3 w5 := KL.of (hb5.mono (by omega)) hg5
          refine ⟨hS5, ?_⟩
          refine fl_takeA (i := 9) (d := 66) (v := .pointer (some ⟨ob, 1, none⟩)) rfl rfl rfl (by kernel_rfl) (by kernel_rfl) (by kernel_rfl) hS5 ?_ ?_
          · intro w' hk; go_simp
          simp only [Act.put, List.setIfInBounds_toArray, List.set_cons_zero, List.set_cons_succ]
          have c1 : w5.cell? ⟨ob, 1, none⟩ = some (.slice va t vc) := cellOfQ hk5 1 rfl
          have d1 := frozOfQ hk5 1
          have cl := ltOfQ hk5
          have R : Hid (Below ob X0 (w5.setCell ⟨ob, 1, none⟩ (.slice na (t + 1) nc)) ∧ (w5.setCell ⟨ob, 1, none⟩ (.slice na (t + 1) nc)).heap[ob]? = some (.cells #[.int .i64 0, .slice na (t + 1) nc, .int .i64 0] 26) ∧ IS (w5.setCell ⟨ob, 1, none⟩ (.slice na (t + 1) nc)) (ob + 1) (.slice na (t + 1) nc) (OL ++ [y]) ∧ OJ (w5.setCell ⟨ob, 1, none⟩ (.slice na (t + 1) nc)) lo g N cap l) := by
            refine ⟨(HR.out.1.trans (hb5.mono (by omega))).setCell (Nat.le_refl _) _, ?_, ?_, rowKept HOJ.out (fun q hq => by
              have e : q = g := by have h9 : (Value.slice (some ⟨g, 0, none⟩) N cap).ownBlock = some g := rfl; rw [h9] at hq; injection hq with hq; exact hq.symm
              subst e
              exact (heap_setCell_other _ ⟨ob, 1, none⟩ _ _ (by show q ≠ ob; exact HGO.out)).trans hg5)⟩
            · have := heap_setCell_same w5 ob 1 _ _ (.slice na (t + 1) nc) hk5
              simpa using this
            · refine his5.kept fun q hq => ?_
              have h9 := (IS.lt his5 q hq).1
              exact heap_setCell_other _ ⟨ob, 1, none⟩ _ _ (by show q ≠ ob; omega)
          have hS6 : KL ob g w3 (w5.setCell ⟨ob, 1, none⟩ (.slice na (t + 1) nc)) := KL.of (Below.setCell (p := ⟨ob, 1, none⟩) (hb5.mono (show ob ≤ ob + 1 by omega)) (Nat.le_refl _) _) ((heap_setCell_other _ ⟨ob, 1, none⟩ _ _ (by show g ≠ ob; exact HGO.out)).trans hg5)
          refine wpAnyH_all (rs := [10]) (by kernel_rfl) (by simp) ?_
          intro i hi
          obtain rfl : i = 10 := by simpa using hi
          clear hi
          refine op_skipN (w' := w5.setCell ⟨ob, 1, none⟩ (.slice na (t + 1) nc)) rfl rfl (by go_simp; try rfl) ?_
          simp only [Act.put]
          refine ⟨hS6, wpAnyH_done (by kernel_rfl) (NoPanic.normal ?_) _⟩
          generalize w5.setCell ⟨ob, 1, none⟩ (.slice na (t + 1) nc) = W6 at R ⊢
          clear hS hS5 hS6 c1 d1 cl hl5 his5 hk5 hb5 hgrow5 hown5 hsz ho2 hb2 hn2 hV z0 z1 zl gl q0 HR hg5
          go_wp2_with (fail)
          refine (spec_less hN30 hbN R.out.2.2.2).mono ?_
          rintro e w7 ⟨g', c', rfl, ho7, hb7⟩
          have HP : Hid (RS rule s (t + 1) (l.eraseIdx b) (now + ti) (od ++ [jA l b]) ∧ OJ w7 lo g' (N - 1) c' (l.eraseIdx b) ∧ N - 1 = (l.eraseIdx b).length ∧ Below ob X0 w7 ∧ w7.heap[ob]? = some (.cells #[.int .i64 0, .slice na (t + 1) nc, .int .i64 0] 26) ∧ IS w7 (ob + 1) (.slice na (t + 1) nc) ((od ++ [jA l b]).map Jb.id) ∧ (∀ q, (Value.slice na (t + 1) nc).ownBlock = some q → q ≠ g') ∧ g' ≠ ob ∧ lo ≤ ob) := by
            have hg7 := ho7.lt
            have hobs := ltOfQ R.out.2.1
            have hlo9 := HLO.out
            refine ⟨HRS.out, OG.low ho7 (by omega), by rw [List.length_eraseIdx, if_pos (by rw [← HNL.out]; exact hbN), HNL.out], R.out.1.trans (hb7.mono (by omega)), (hb7.block _ hobs).trans R.out.2.1, by rw [HST.out]; exact IS.kept R.out.2.2.1 (fun q hq => hb7.block q (IS.lt R.out.2.2.1 q hq).2), fun q hq => by have h9 := (IS.lt R.out.2.2.1 q hq).2; omega, by omega, HLO.out⟩
          clear R ho7 hb7 HRS HST HNL HOJ HGO HNE HLO
          go_wp2
          go_roundw
          case rel => exact ⟨g', c', l.eraseIdx b, now + ti, t + 1, od ++ [jA l b], na, nc, N - 1, rfl, rfl, HP.out⟩
          case measure => exact HMS.out _ HP.out.2.1 HP.out.2.2.1
    · obtain rfl : N = 0 := by omega
      have HM : Hid (IDS = od.map Jb.id ∧ QQ = lateV (pkL s IDS) ∧ pkL s IDS = od ∧ (∀ i, i < IDS.length → 0 ≤ fdI (jdA s) (IDS.getD i 0) s.length) ∧ (∀ x ∈ od, x ∈ s) ∧ IDS.length ≤ 30 ∧ t = s.length) := by
        have hl0 : l.length = 0 := hR.out.2.2.1.symm
        have hrun := hR.out.1.run
        rw [hl0] at hrun
        have e0 : rrL s rule = od := by rw [rrL, hrun]; exact List.append_nil od
        have e1 : IDS = od.map Jb.id := by rw [H.out.2.2.2.1, rrI, if_pos H.out.2.2.1.symm, e0]
        have hmem := hR.out.1.osub
        have e2 : pkL s IDS = od := by rw [e1]; exact pkL_ids HOK.out.1 hmem
        refine ⟨e1, by rw [H.out.2.2.2.2.1, rrQ, if_pos H.out.2.2.1.symm, e0, e2], e2, fun i hi => ?_, hmem, ?_, by have := hR.out.1.len; omega⟩
        · rw [e1] at hi ⊢
          have hi2 : i < od.length := by simpa using hi
          have e3 : (od.map Jb.id).getD i 0 = od[i].id := by simp [List.getD, hi2]
          rw [e3]
          exact (pkJ_id HOK.out.1 (hmem _ (List.getElem_mem hi2))).2
        · rw [e1, List.length_map, hR.out.1.ol]
          have := hR.out.1.len
          have := HOK.out.1.len
          omega
      have HE : Hid (Below ob X0 wr ∧ wr.heap[ob]? = some (.cells #[.int .i64 0, .slice va t vc, .int .i64 0] 26) ∧ IS wr (ob + 1) (.slice va t vc) IDS) := ⟨hR.out.2.2.2.1, hR.out.2.2.2.2.1, by rw [HM.out.1]; exact hR.out.2.2.2.2.2.1⟩
      have HBW : Hid (Below W.heap.size W wr) := HW.out.1.trans ((HX0.out.1.mono (by have := hlt.out; omega)).trans (HE.out.1.mono (by have := HX0.out; omega)))
      have HKW : Hid (wr.heap[W.heap.size]? = some (.cells #[.int .i64 0, .slice none 0 0, .int .i64 0] 26)) := by
        refine (HE.out.1.block _ (by have := HX0.out; omega)).trans ((HX0.out.1.block _ (by have := HX0.out; omega)).trans HW.out.2)
      have HFW : Hid (Calls Try.prog 34 #[.slice a n c, .slice va t vc] wr fun e w' => e = .returned (.int .i64 QQ) ∧ Below wr.heap.size wr w') := by
        rw [HM.out.2.1]
        refine spec_late (by omega) HM.out.2.2.2.2.2.1 HM.out.2.2.2.1 (fun i hi => ?_) (H.out.1.below HBW.out) (IS.rg HE.out.2.2)
        have h1 : ∀ x ∈ pkL s IDS, rgJ x := by
          rw [HM.out.2.2.1]
          intro x hx
          obtain ⟨j, hj, e⟩ := List.getElem_of_mem (HM.out.2.2.2.2.1 x hx)
          rw [← e]; exact HOK.out.1.rg j hj
        exact h1 _ (List.getElem_mem hi)
      have z0 : wr.cell? ⟨ob, 0, none⟩ = some (.int .i64 0) := cellOfQ HE.out.2.1 0 rfl
      have z1 : wr.cell? ⟨ob, 1, none⟩ = some (.slice va t vc) := cellOfQ HE.out.2.1 1 rfl
      have zl : ob < wr.heap.size := ltOfQ HE.out.2.1
      clear hR
      go_wp2_with (fail)
      refine HFW.out.mono ?_
      rintro e w6 ⟨rfl, hb6⟩
      have hlo2 : W.heap.size < ob := by have := HX0.out; omega
      have HW6 : Hid (Below W.heap.size W w6 ∧ w6.heap[W.heap.size]? = some (.cells #[.int .i64 0, .slice none 0 0, .int .i64 0] 26) ∧ w6.heap[ob]? = some (.cells #[.int .i64 0, .slice va t vc, .int .i64 0] 26) ∧ IS w6 (ob + 1) (.slice va t vc) IDS ∧ W.heap.size < ob) := by
        refine ⟨HBW.out.trans (hb6.mono HBW.out.size), (hb6.block _ (by omega)).trans HKW.out, (hb6.block _ zl).trans HE.out.2.1, IS.kept HE.out.2.2 (fun q hq => hb6.block q (IS.lt HE.out.2.2 q hq).2), hlo2⟩
      clear z0 z1 zl HE HBW HKW HFW hb6 HX0 HM hlt HOK HW H hlo2
      have y0 : w6.cell? ⟨ob, 0, none⟩ = some (.int .i64 0) := cellOfQ HW6.out.2.2.1 0 rfl
      have y1 : w6.cell? ⟨ob, 1, none⟩ = some (.slice va t vc) := cellOfQ HW6.out.2.2.1 1 rfl
      have y2 : w6.cell? ⟨ob, 2, none⟩ = some (.int .i64 0) := cellOfQ HW6.out.2.2.1 2 rfl
      have yl := ltOfQ HW6.out.2.2.1
      have g2 := frozOfQ HW6.out.2.2.1 2
      have z0 : w6.cell? ⟨W.heap.size, 0, none⟩ = some (.int .i64 0) := cellOfQ HW6.out.2.1 0 rfl
      have z1 : w6.cell? ⟨W.heap.size, 1, none⟩ = some (.slice none 0 0) := cellOfQ HW6.out.2.1 1 rfl
      have z2 : w6.cell? ⟨W.heap.size, 2, none⟩ = some (.int .i64 0) := cellOfQ HW6.out.2.1 2 rfl
      have zl := ltOfQ HW6.out.2.1
      have f0 := frozOfQ HW6.out.2.1 0
      have f1 := frozOfQ HW6.out.2.1 1
      have f2 := frozOfQ HW6.out.2.1 2
      have hne : ob ≠ W.heap.size := by have := HW6.out.2.2.2.2; omega
      have hne' : W.heap.size ≠ ob := fun e => hne e.symm
      go_wp2
      try simp only [Exit.inBlock, Exit.then]
      refine bodyPost_ret (by simp [results, Try.results9, go_sem, z0, z1, z2, zl, f0, f1, f2]; try rfl) rfl ⟨_, (), by rfl, ?_, ?_⟩
      · have h8 := HW6.out.2.2.2.2
        refine (IS.low HW6.out.2.2.2.1 (show W.heap.size ≤ ob + 1 by omega)).kept fun q hq => ?_
        have h9 := (IS.lt HW6.out.2.2.2.1 q hq).1
        repeat rw [heap_setCell_other _ _ _ _ (by first | (show q ≠ W.heap.size; omega) | (show q ≠ ob; omega))]
      · have hb := HW6.out.1
        have h8 := HW6.out.2.2.2.2
        (repeat' (first | (with_reducible exact Below.refl _ _) | (with_reducible assumption) | (with_reducible refine Below.setCell ?_ ?_ _) | (with_reducible refine Below.alloc ?_ ?_ _) | (with_reducible refine below_drewN ?_ _) | (with_reducible refine Below.drew ?_) | (with_reducible exact Nat.le_refl _) | omega | (simp; done) | (simp; omega)))

end Go.Proofs.Ytjbghflphngnkaa
