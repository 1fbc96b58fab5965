/- Proved here: who is to move, of the program (ahead, urges): urL. -/
import Derived.Test.YtgbbigokbbllgaaGyM
import Derived.Test.YtgbbigokbbllgaaBoL
import Derived.Test.YtgbbigokbbllgaaTwA
import Derived.Test.YtgbbigokbbllgaaMoI
import Derived.Test.YtgbbigokbbllgaaOpA
import Derived.Deep.AppendLies
import Derived.Deep.Cut
namespace Go.Proofs.Ytgbbigokbbllgaa
open Go.RowKit
set_option linter.unusedVariables false
set_option linter.unusedSimpArgs false

/-- The two lists of truths. -/
structure GT (w : World) (o : Obj) (gt gu N : Nat) (tk ug : List Bool) (W : World) : Prop where
  sb : SB w o W
  t : BO W (w.heap.size + 1) (.slice (some ⟨gt, 0, none⟩) N N) tk
  u : BO W (w.heap.size + 1) (.slice (some ⟨gu, 0, none⟩) N N) ug
  ne : gt ≠ gu
theorem GT.swap {w : World} {o : Obj} {gt gu N : Nat} {tk ug : List Bool} {W : World} (h : GT w o gt gu N tk ug W) : GT w o gu gt N ug tk W := ⟨h.sb, h.u, h.t, h.ne.symm⟩
theorem GT.next {w : World} {o : Obj} {gt gu N : Nat} {tk ug : List Bool} {W W' : World} (h : GT w o gt gu N tk ug W) (hb : Below W.heap.size W W') : GT w o gt gu N tk ug W' :=
  ⟨h.sb.next hb, h.t.bel hb, h.u.bel hb, h.ne⟩
theorem GT.setT {w : World} {o : Obj} {gt gu N : Nat} {tk ug : List Bool} {W : World} (h : GT w o gt gu N tk ug W) (p : Nat) (y : Bool) : GT w o gt gu N (tk.set p y) ug (W.setCell ⟨gt, p, none⟩ (.bool y)) := by
  have hl := (BO.lt h.t gt rfl).1
  have hb : Below (w.heap.size + 1) W (W.setCell ⟨gt, p, none⟩ (.bool y)) := by (repeat' (first | (with_reducible exact Below.refl _ _) | (with_reducible assumption) | (with_reducible refine Below.setCell ?_ ?_ _) | (with_reducible refine Below.alloc ?_ ?_ _) | (with_reducible refine below_drewN ?_ _) | (with_reducible refine Below.drew ?_) | (with_reducible exact Nat.le_refl _) | omega | (simp; done) | (simp; omega)))
  exact ⟨⟨h.sb.bl.trans (hb.mono (Nat.le_succ _)), (hb.block _ (Nat.lt_succ_self _)).trans h.sb.bx⟩, h.t.setL p y, h.u.kept fun q hq => by
    have e : gu = q := Option.some.inj hq
    subst e
    exact heap_setCell_other _ _ _ _ (by simpa using h.ne.symm), h.ne⟩
theorem GT.setU {w : World} {o : Obj} {gt gu N : Nat} {tk ug : List Bool} {W : World} (h : GT w o gt gu N tk ug W) (p : Nat) (y : Bool) : GT w o gt gu N tk (ug.set p y) (W.setCell ⟨gu, p, none⟩ (.bool y)) := (h.swap.setT p y).swap
theorem GT.two {w : World} {o : Obj} {V y1 y2 : World} {g1 N : Nat} {tk ug : List Bool} (h : SB w o V) (hk : Below V.heap.size V y2) (h1 : BO y1 V.heap.size (.slice (some ⟨g1, 0, none⟩) N N) tk) (h2 : BO y2 V.heap.size (.slice (some ⟨y1.heap.size, 0, none⟩) N N) ug) (hb : Below y1.heap.size y1 y2) : GT w o g1 y1.heap.size N tk ug y2 := by
  have hl : w.heap.size + 1 ≤ V.heap.size := ltOf h.bx
  exact ⟨h.next hk, (h1.bel hb).low hl, h2.low hl, Nat.ne_of_lt (BO.lt h1 g1 rfl).2⟩

set_option maxHeartbeats 1600000 in
theorem impl_ah (Z z : Int) {w : World} {a b : Option Addr} {n m c d : Nat} (hz : 0 ≤ z ∧ z < Z) (hZ : Z ≤ 30) :
    Calls Try.prog 60 #[.agg #[.int .i64 Z, .slice a n c, .slice b m d], .int .i64 z] w fun e w' => e = .returned (.int .i64 ((z + 1) % Z)) ∧ Below w.heap.size w w' := by
  have hz0 := hz.1
  have hz1 := hz.2
  obtain ⟨q, hq⟩ : ∃ q, q = (z + 1) % Z := ⟨_, rfl⟩
  have HM : Hid (∀ W, Calls Try.prog 63 #[.int .i64 (z + 1), .int .i64 Z] W fun e w' => e = .returned (.int .i64 q) ∧ w' = W) := fun W => by rw [hq]; exact impl_mod (z + 1) Z (by omega) (by omega) W
  rw [← hq]
  clear hq hz
  go_enter Try.func60, Try.ntmps60
  go_wp2_with (fail)
  refine (HM.out _).mono ?_
  rintro e w5 ⟨rfl, hw5⟩
  subst w5
  go_wp2
  go_returns
  exact ⟨rfl, by (repeat' (first | (with_reducible exact Below.refl _ _) | (with_reducible assumption) | (with_reducible refine Below.setCell ?_ ?_ _) | (with_reducible refine Below.alloc ?_ ?_ _) | (with_reducible refine below_drewN ?_ _) | (with_reducible refine Below.drew ?_) | (with_reducible exact Nat.le_refl _) | omega | (simp; done) | (simp; omega)))⟩
set_option maxHeartbeats 400000 in
theorem impl_one20 (b : Bool) (w : World) : Calls Try.prog 61 #[.bool b] w fun e w' => e = .returned (.int .i64 (if b = true then 1 else 0)) ∧ w' = w := by
  cases b with
  | true =>
    go_enter Try.func61, Try.ntmps61
    go_wp2
    go_returns
    exact ⟨rfl, rfl⟩
  | false =>
    go_enter Try.func61, Try.ntmps61
    go_wp2
    go_returns
    exact ⟨rfl, rfl⟩

set_option maxRecDepth 10000 in
set_option maxHeartbeats 12800000 in
theorem impl_ur (N : Nat) {w : World} {a b : Option Addr} {c d : Nat} {s t : List Int} (ho : FlOk (N : Int) s t) (h : RdL w (.slice a s.length c) (.slice b s.length d) s t) :
    Calls Try.prog 50 #[.agg #[.int .i64 (N : Int), .slice a s.length c, .slice b s.length d]] w fun e w' => ∃ v, e = .returned v ∧ IS w' w.heap.size v (urL (N : Int) s t) ∧ Below w.heap.size w w' := by
  obtain ⟨i0, hi0, hz0, hz1, hz2⟩ := info_parts info_i64
  obtain ⟨i1, hi1, hy0, hy1, hy2⟩ := info_parts info_bo
  obtain ⟨n, hnn⟩ : ∃ n, n = s.length := ⟨_, rfl⟩
  rw [← hnn] at h ⊢
  have zb0 : 1 ≤ N := by have := ho.z; omega
  have zb1 : N ≤ 30 := by have := ho.z; omega
  have hnN : n ≤ N := by have := ho.m; omega
  have H : Hid (RdL w (.slice a n c) (.slice b n d) s t ∧ n = s.length ∧ n = t.length ∧ FlOk (N : Int) s t) := ⟨h, hnn, by rw [hnn]; exact ho.l.symm, ho⟩
  obtain ⟨V, hV⟩ : ∃ V, V = w.alloc (.cells #[.int .i64 (N : Int), .slice a n c, .slice b n d] 45) := ⟨_, rfl⟩
  have HS : Hid (SB w (.cells #[.int .i64 (N : Int), .slice a n c, .slice b n d] 45) V) := by rw [hV]; exact SB.new _ _
  obtain ⟨p0, p1, p2, pf, pl⟩ := tw_three HS.out.bx
  clear h hnn ho pf
  go_enter Try.func50, Try.ntmps50
  go_upto_region 1 with fail
  rw [← hV]
  clear hV
  go_cut [3, 4] from 13 (fun r3 r4 wx => ∃ gt gu, r3 = .slice (some ⟨gt, 0, none⟩) N N ∧ r4 = .slice (some ⟨gu, 0, none⟩) N N ∧ Hid (GT w (.cells #[.int .i64 (N : Int), .slice a n c, .slice b n d] 45) gt gu N (List.replicate N false) (List.replicate N false) wx))
  case first =>
    refine wp_region_float (by kernel_rfl) (fun hS => ?_)
    refine fl_take (i := 0) (d := 13) (v := .pointer (some ⟨w.heap.size, 0, none⟩)) rfl rfl rfl (by kernel_rfl) (by kernel_rfl) (by kernel_rfl) hS ?_ ?_
    · intro w' hk; go_simp
    simp only [Act.put, List.setIfInBounds_toArray, List.set_cons_zero, List.set_cons_succ]
    refine fl_take (i := 1) (d := 14) (v := .int .i64 (N : Int)) rfl rfl rfl (by kernel_rfl) (by kernel_rfl) (by kernel_rfl) hS ?_ ?_
    · intro w' hk; go_simp
    simp only [Act.put, List.setIfInBounds_toArray, List.set_cons_zero, List.set_cons_succ]
    refine fl_take (i := 3) (d := 16) (v := .pointer (some ⟨w.heap.size, 0, none⟩)) rfl rfl rfl (by kernel_rfl) (by kernel_rfl) (by kernel_rfl) hS ?_ ?_
    · intro w' hk; go_simp
    simp only [Act.put, List.setIfInBounds_toArray, List.set_cons_zero, List.set_cons_succ]
    refine fl_take (i := 4) (d := 17) (v := .int .i64 (N : Int)) rfl rfl rfl (by kernel_rfl) (by kernel_rfl) (by kernel_rfl) hS ?_ ?_
    · intro w' hk; go_simp
    simp only [Act.put, List.setIfInBounds_toArray, List.set_cons_zero, List.set_cons_succ]
    refine wpAnyH_all (rs := [2, 5]) (by kernel_rfl) (by simp) ?_
    intro i hi
    rcases (by simpa using hi : i = 2 ∨ i = 5) with rfl | rfl
    · clear hi
      obtain ⟨y2, hr2, hown2, hgrow2⟩ := run_make_full (P := Try.prog) V.drew V.heap.size 80 4 i1 (.bool false) 1 Try.underlying80 hi1 hy0 hy1 .i64 .i64 N (by rw [hy2]; omega) (by unfold maxLen; omega) (hS.2).size
      have hbb2 : Below (V.drew).heap.size (V.drew) y2 := (Below.refl _ _).grown hgrow2 (Nat.le_refl _) (fun k h => by cases h)
      have hk2 : Below V.heap.size V y2 := (hS.2).trans (hbb2.mono (hS.2).size)
      have hr2 : (Instr.makeSlice 80 (.int .i64 (N : Int)) (.int .i64 (N : Int))).run Try.prog (V.drew) = .ok (.slice (some ⟨(V.drew).heap.size, 0, none⟩) N N) y2 := hr2
      refine op_val (d := 15) (v := .slice (some ⟨(V.drew).heap.size, 0, none⟩) N N) (w' := y2) rfl rfl rfl (by go_simp) ?_
      simp only [Act.put, List.setIfInBounds_toArray, List.set_cons_zero, List.set_cons_succ]
      refine ⟨KS.of hk2, ?_⟩
      refine wpAnyH_all (rs := [5, 6]) (by kernel_rfl) (by simp) ?_
      intro i hi
      rcases (by simpa using hi : i = 5 ∨ i = 6) with rfl | rfl
      · clear hi
        obtain ⟨y25, hr25, hown25, hgrow25⟩ := run_make_full (P := Try.prog) y2 V.heap.size 80 4 i1 (.bool false) 1 Try.underlying80 hi1 hy0 hy1 .i64 .i64 N (by rw [hy2]; omega) (by unfold maxLen; omega) (hk2).size
        have hbb25 : Below (y2).heap.size (y2) y25 := (Below.refl _ _).grown hgrow25 (Nat.le_refl _) (fun k h => by cases h)
        have hk25 : Below V.heap.size V y25 := (hk2).trans (hbb25.mono (hk2).size)
        have hr25 : (Instr.makeSlice 80 (.int .i64 (N : Int)) (.int .i64 (N : Int))).run Try.prog (y2) = .ok (.slice (some ⟨(y2).heap.size, 0, none⟩) N N) y25 := hr25
        refine op_val (d := 18) (v := .slice (some ⟨(y2).heap.size, 0, none⟩) N N) (w' := y25) rfl rfl rfl (by go_simp) ?_
        simp only [Act.put, List.setIfInBounds_toArray, List.set_cons_zero, List.set_cons_succ]
        refine ⟨KS.of hk25, ?_⟩
        refine wpAnyH_all (rs := [6]) (by kernel_rfl) (by simp) ?_
        intro i hi
        obtain rfl : i = 6 := by simpa using hi
        clear hi
        refine op_val (d := 3) (v := .slice (some ⟨V.drew.heap.size, 0, none⟩) N N) (w' := y25) rfl rfl rfl (by go_simp; try rfl) ?_
        simp only [Act.put, List.setIfInBounds_toArray, List.set_cons_zero, List.set_cons_succ]
        refine ⟨KS.of hk25, ?_⟩
        refine wpAnyH_all (rs := [7]) (by kernel_rfl) (by simp) ?_
        intro i hi
        obtain rfl : i = 7 := by simpa using hi
        clear hi
        refine op_val (d := 4) (v := .slice (some ⟨y2.heap.size, 0, none⟩) N N) (w' := y25) rfl rfl rfl (by go_simp; try rfl) ?_
        simp only [Act.put, List.setIfInBounds_toArray, List.set_cons_zero, List.set_cons_succ]
        refine ⟨KS.of hk25, wpAnyH_done (by kernel_rfl) (NoPanic.normal ?_) _⟩
        go_wp2_with (fail)
        go_meet
        exact ⟨_, _, rfl, rfl, GT.two HS.out hk25 (BO.made hown2) (BO.made hown25) hbb25⟩
      · clear hi
        refine op_val (d := 3) (v := .slice (some ⟨V.drew.heap.size, 0, none⟩) N N) (w' := y2) rfl rfl rfl (by go_simp; try rfl) ?_
        simp only [Act.put, List.setIfInBounds_toArray, List.set_cons_zero, List.set_cons_succ]
        refine ⟨KS.of hk2, ?_⟩
        refine wpAnyH_all (rs := [5]) (by kernel_rfl) (by simp) ?_
        intro i hi
        obtain rfl : i = 5 := by simpa using hi
        clear hi
        obtain ⟨y265, hr265, hown265, hgrow265⟩ := run_make_full (P := Try.prog) y2 V.heap.size 80 4 i1 (.bool false) 1 Try.underlying80 hi1 hy0 hy1 .i64 .i64 N (by rw [hy2]; omega) (by unfold maxLen; omega) (hk2).size
        have hbb265 : Below (y2).heap.size (y2) y265 := (Below.refl _ _).grown hgrow265 (Nat.le_refl _) (fun k h => by cases h)
        have hk265 : Below V.heap.size V y265 := (hk2).trans (hbb265.mono (hk2).size)
        have hr265 : (Instr.makeSlice 80 (.int .i64 (N : Int)) (.int .i64 (N : Int))).run Try.prog (y2) = .ok (.slice (some ⟨(y2).heap.size, 0, none⟩) N N) y265 := hr265
        refine op_val (d := 18) (v := .slice (some ⟨(y2).heap.size, 0, none⟩) N N) (w' := y265) rfl rfl rfl (by go_simp) ?_
        simp only [Act.put, List.setIfInBounds_toArray, List.set_cons_zero, List.set_cons_succ]
        refine ⟨KS.of hk265, ?_⟩
        refine wpAnyH_all (rs := [7]) (by kernel_rfl) (by simp) ?_
        intro i hi
        obtain rfl : i = 7 := by simpa using hi
        clear hi
        refine op_val (d := 4) (v := .slice (some ⟨y2.heap.size, 0, none⟩) N N) (w' := y265) rfl rfl rfl (by go_simp; try rfl) ?_
        simp only [Act.put, List.setIfInBounds_toArray, List.set_cons_zero, List.set_cons_succ]
        refine ⟨KS.of hk265, wpAnyH_done (by kernel_rfl) (NoPanic.normal ?_) _⟩
        go_wp2_with (fail)
        go_meet
        exact ⟨_, _, rfl, rfl, GT.two HS.out hk265 (BO.made hown2) (BO.made hown265) hbb265⟩
    · clear hi
      obtain ⟨y5, hr5, hown5, hgrow5⟩ := run_make_full (P := Try.prog) V.drew V.heap.size 80 4 i1 (.bool false) 1 Try.underlying80 hi1 hy0 hy1 .i64 .i64 N (by rw [hy2]; omega) (by unfold maxLen; omega) (hS.2).size
      have hbb5 : Below (V.drew).heap.size (V.drew) y5 := (Below.refl _ _).grown hgrow5 (Nat.le_refl _) (fun k h => by cases h)
      have hk5 : Below V.heap.size V y5 := (hS.2).trans (hbb5.mono (hS.2).size)
      have hr5 : (Instr.makeSlice 80 (.int .i64 (N : Int)) (.int .i64 (N : Int))).run Try.prog (V.drew) = .ok (.slice (some ⟨(V.drew).heap.size, 0, none⟩) N N) y5 := hr5
      refine op_val (d := 18) (v := .slice (some ⟨(V.drew).heap.size, 0, none⟩) N N) (w' := y5) rfl rfl rfl (by go_simp) ?_
      simp only [Act.put, List.setIfInBounds_toArray, List.set_cons_zero, List.set_cons_succ]
      refine ⟨KS.of hk5, ?_⟩
      refine wpAnyH_all (rs := [2]) (by kernel_rfl) (by simp) ?_
      intro i hi
      obtain rfl : i = 2 := by simpa using hi
      clear hi
      obtain ⟨y52, hr52, hown52, hgrow52⟩ := run_make_full (P := Try.prog) y5 V.heap.size 80 4 i1 (.bool false) 1 Try.underlying80 hi1 hy0 hy1 .i64 .i64 N (by rw [hy2]; omega) (by unfold maxLen; omega) (hk5).size
      have hbb52 : Below (y5).heap.size (y5) y52 := (Below.refl _ _).grown hgrow52 (Nat.le_refl _) (fun k h => by cases h)
      have hk52 : Below V.heap.size V y52 := (hk5).trans (hbb52.mono (hk5).size)
      have hr52 : (Instr.makeSlice 80 (.int .i64 (N : Int)) (.int .i64 (N : Int))).run Try.prog (y5) = .ok (.slice (some ⟨(y5).heap.size, 0, none⟩) N N) y52 := hr52
      refine op_val (d := 15) (v := .slice (some ⟨(y5).heap.size, 0, none⟩) N N) (w' := y52) rfl rfl rfl (by go_simp) ?_
      simp only [Act.put, List.setIfInBounds_toArray, List.set_cons_zero, List.set_cons_succ]
      refine ⟨KS.of hk52, ?_⟩
      refine wpAnyH_all (rs := [6]) (by kernel_rfl) (by simp) ?_
      intro i hi
      obtain rfl : i = 6 := by simpa using hi
      clear hi
      refine op_val (d := 3) (v := .slice (some ⟨y5.heap.size, 0, none⟩) N N) (w' := y52) rfl rfl rfl (by go_simp; try rfl) ?_
      simp only [Act.put, List.setIfInBounds_toArray, List.set_cons_zero, List.set_cons_succ]
      refine ⟨KS.of hk52, ?_⟩
      refine wpAnyH_all (rs := [7]) (by kernel_rfl) (by simp) ?_
      intro i hi
      obtain rfl : i = 7 := by simpa using hi
      clear hi
      refine op_val (d := 4) (v := .slice (some ⟨V.drew.heap.size, 0, none⟩) N N) (w' := y52) rfl rfl rfl (by go_simp; try rfl) ?_
      simp only [Act.put, List.setIfInBounds_toArray, List.set_cons_zero, List.set_cons_succ]
      refine ⟨KS.of hk52, wpAnyH_done (by kernel_rfl) (NoPanic.normal ?_) _⟩
      go_wp2_with (fail)
      go_meet
      exact ⟨_, _, rfl, rfl, (GT.two HS.out hk52 (BO.made hown5) (BO.made hown52) hbb52).swap⟩
  case rest =>
  obtain ⟨gt, gu, rfl, rfl, hR0⟩ := hcut
  have HR0 : Hid (GT w (.cells #[.int .i64 (N : Int), .slice a n c, .slice b n d] 45) gt gu N (List.replicate N false) (List.replicate N false) wc) := hR0.out
  clear hR0 p0 p1 p2 pl HS
  obtain ⟨p0, p1, p2, pf, pl⟩ := tw_three HR0.out.sb.bx
  clear pf
  go_wp2
  clear p0 p1 p2 pl
  go_loopw [22] (fun i wr => ∃ k : Nat, k ≤ n ∧ i = .int .i64 k ∧ Hid (∃ tk ug, GT w (.cells #[.int .i64 (N : Int), .slice a n c, .slice b n d] 45) gt gu N tk ug wr ∧ FI N s t k tk ug)) (fun i _ => n - (intOf i).toNat)
  case atStart => exact ⟨0, Nat.zero_le _, rfl, _, _, HR0.out, FI.start _ _ _⟩
  case round =>
  clear HR0
  obtain ⟨k, hk, rfl, hR⟩ := hrel
  obtain ⟨tk, ug, hG, hF⟩ := hR.out
  obtain ⟨p0, p1, p2, pf, pl⟩ := tw_three hG.sb.bx
  clear pf hR
  by_cases hlt : k < n
  · obtain ⟨g1, o1, rfl, hg1, hc1⟩ := rd_at (H.out.1.1.below hG.sb.bl) hlt
    obtain ⟨g2, o2, rfl, hg2, hc2⟩ := rd_at (H.out.1.2.below hG.sb.bl) hlt
    have hks : k < s.length := by rw [← H.out.2.1]; exact hlt
    have hxb := H.out.2.2.2.a k hks
    obtain ⟨p, hp⟩ : ∃ p : Nat, s.getD k 0 = (p : Int) := ⟨(s.getD k 0).toNat, by omega⟩
    obtain ⟨y, hy⟩ : ∃ x, x = t.getD k 0 := ⟨_, rfl⟩
    rw [hp] at hc1 hxb
    rw [← hy] at hc2
    have hpN : p < N := by omega
    obtain ⟨t0, tf0⟩ := hG.t.atL hpN
    obtain ⟨u0, uf0⟩ := hG.u.atL hpN
    have tl : gt < wr.heap.size := (BO.lt hG.t gt rfl).2
    have ul : gu < wr.heap.size := (BO.lt hG.u gu rfl).2
    have hne := hG.ne
    have hne2 : ¬ gu = gt := fun e => hG.ne e.symm
    have HN : Hid (∃ tk' ug', GT w (.cells #[.int .i64 (N : Int), .slice (some ⟨g1, o1, none⟩) n c, .slice (some ⟨g2, o2, none⟩) n d] 45) gt gu N tk' ug' ((wr.setCell ⟨gt, p, none⟩ (.bool true)).setCell ⟨gu, p, none⟩ (.bool ((p : Int) != y))) ∧ FI N s t (k + 1) tk' ug') := by
      refine ⟨_, _, (hG.setT p true).setU p _, ?_⟩
      have := hF.step H.out.2.2.2 hks hp hpN
      rw [hp, ← hy] at this
      exact this
    have b0 : (0 : Int) ≤ (k : Int) := by omega
    have b1 : (k : Int) < (n : Int) := by omega
    have b2 : (0 : Int) ≤ (p : Int) := by omega
    have b3 : (p : Int) < (N : Int) := by omega
    clear hG hF hp hy hxb hks
    go_wp2
    go_roundw
    case rel => exact ⟨k + 1, by omega, by go_num, HN.out⟩
    case measure => simp [intOf]; omega
  obtain rfl : k = n := by omega
  have HG : Hid (GT w (.cells #[.int .i64 (N : Int), .slice a k c, .slice b k d] 45) gt gu N tk ug wr ∧ UI N s t 0 ug ∧ ∀ z, z < N → tk.getD z false = decide ((z : Int) ∈ s)) := by
    rw [H.out.2.1] at hF
    exact ⟨hG, hF.ui (by omega), fun z hz => hF.taken hz⟩
  clear hG hF hlt hk
  go_wp2
  clear p0 p1 p2 pl
  have HTK : Hid (∀ z, z < N → tk.getD z false = decide ((z : Int) ∈ s)) := HG.out.2.2
  go_loopw [44] (fun i wr => ∃ m : Nat, m ≤ 2 * N ∧ i = .int .i64 m ∧ Hid (∃ ug, GT w (.cells #[.int .i64 (N : Int), .slice a k c, .slice b k d] 45) gt gu N tk ug wr ∧ UI N s t m ug)) (fun i _ => 2 * N - (intOf i).toNat)
  case atStart => exact ⟨0, Nat.zero_le _, rfl, ug, HG.out.1, HG.out.2.1⟩
  case round =>
  clear HG
  obtain ⟨m, hm, rfl, hR⟩ := hrel
  obtain ⟨ug2, hG, hU⟩ := hR.out
  obtain ⟨p0, p1, p2, pf, pl⟩ := tw_three hG.sb.bx
  clear pf hR
  have b9 : (0 : Int) ≤ (m : Int) := by omega
  by_cases hlt : m < 2 * N
  · obtain ⟨p, hp⟩ : ∃ p, p = m % N := ⟨_, rfl⟩
    obtain ⟨q, hq⟩ : ∃ p, p = (m + 1) % N := ⟨_, rfl⟩
    have hpN : p < N := by rw [hp]; exact Nat.mod_lt _ (by omega)
    have hqN : q < N := by rw [hq]; exact Nat.mod_lt _ (by omega)
    have hpi : (m : Int) % (N : Int) = (p : Int) := by rw [hp]; simp
    have hw1 : IntKind.i64.wrap ((m : Int) % (N : Int)) = (m : Int) % (N : Int) := by rw [IntKind.wrap_i64, hpi]; omega
    have HAH : Hid (∀ W, Calls Try.prog 60 #[.agg #[.int .i64 (N : Int), .slice a k c, .slice b k d], .int .i64 (p : Int)] W fun e w' => e = .returned (.int .i64 (q : Int)) ∧ Below W.heap.size W w') := fun W => by
      have := impl_ah (N : Int) (p : Int) (w := W) (a := a) (b := b) (n := k) (m := k) (c := c) (d := d) (by omega) (by omega)
      rw [hp, mod_next (by omega), ← hq, ← hp] at this
      exact this
    have b1 : (m : Int) < 2 * (N : Int) := by omega
    have hn0 : ((N : Int) == 0) = false := by simp; omega
    have hn1 : ¬ (N : Int) = 0 := by omega
    have hw2 : IntKind.i64.wrap (p : Int) = (p : Int) := by rw [IntKind.wrap_i64]; omega
    have HPQ : Hid (p = m % N ∧ q = (m + 1) % N) := ⟨hp, hq⟩
    clear hp hq
    go_wp2_with (fail)
    try rw [hpi]
    refine (HAH.out _).mono ?_
    rintro e w5 ⟨rfl, hb5⟩
    have HG : Hid (GT w (.cells #[.int .i64 (N : Int), .slice a k c, .slice b k d] 45) gt gu N tk ug2 w5 ∧ UI N s t m ug2 ∧ p = m % N ∧ q = (m + 1) % N) := ⟨hG.next hb5, hU, HPQ.out.1, HPQ.out.2⟩
    clear hG hU HPQ hb5 p0 p1 p2 pl HAH hn0 hn1 hw1 hw2 hpi
    obtain ⟨p0, p1, p2, pf, pl⟩ := tw_three HG.out.1.sb.bx
    obtain ⟨u0, uf0⟩ := HG.out.1.u.atL hpN
    obtain ⟨t0, tf0⟩ := HG.out.1.t.atL hqN
    obtain ⟨v0, vf0⟩ := HG.out.1.u.atL hqN
    have tl : gt < w5.heap.size := (BO.lt HG.out.1.t gt rfl).2
    have ul : gu < w5.heap.size := (BO.lt HG.out.1.u gu rfl).2
    obtain ⟨bu, hbu⟩ : ∃ x, x = ug2.getD p false := ⟨_, rfl⟩
    obtain ⟨bt, hbt⟩ : ∃ x, x = tk.getD q false := ⟨_, rfl⟩
    rw [← hbu] at u0
    rw [← hbt] at t0
    have HST : Hid (UI N s t (m + 1) (if (bu && bt) = true then ug2.set q true else ug2)) := by
      have := HG.out.2.1.step (by omega) (bu && bt) (by rw [hbu, hbt, HG.out.2.2.1, HG.out.2.2.2, HTK.out _ (Nat.mod_lt _ (by omega))])
      rw [← HG.out.2.2.2] at this
      exact this
    have c0 : (0 : Int) ≤ (p : Int) := by omega
    have c1 : (p : Int) < (N : Int) := by omega
    have c2 : (0 : Int) ≤ (q : Int) := by omega
    have c3 : (q : Int) < (N : Int) := by omega
    have e9 : IntKind.i64.wrap ((m : Int) + 1) = (m : Int) + 1 := by rw [IntKind.wrap_i64]; omega
    clear hbu hbt pf
    cases bu with
    | false =>
      have HN : Hid (UI N s t (m + 1) ug2) := by unfold Hid; have := HST.out; simpa using this
      go_wp2
      go_roundw
      case rel => exact ⟨m + 1, by omega, by go_num, ug2, HG.out.1, HN.out⟩
      case measure => simp [intOf]; omega
    | true =>
    cases bt with
    | false =>
      have HN : Hid (UI N s t (m + 1) ug2) := by unfold Hid; have := HST.out; simpa using this
      go_wp2
      go_roundw
      case rel => exact ⟨m + 1, by omega, by go_num, ug2, HG.out.1, HN.out⟩
      case measure => simp [intOf]; omega
    | true =>
      have HN : Hid (UI N s t (m + 1) (ug2.set q true)) := by unfold Hid; have := HST.out; simpa using this
      go_wp2
      go_roundw
      case rel => exact ⟨m + 1, by omega, by go_num, ug2.set q true, HG.out.1.setU q true, HN.out⟩
      case measure => simp [intOf]; omega
  obtain rfl : m = 2 * N := by omega
  have HD : Hid (∀ z, z < N → ug2.getD z false = ugB (N : Int) s t (z : Int)) := fun z hz => hU.done ⟨by omega, by omega⟩ hz
  have HG : Hid (GT w (.cells #[.int .i64 (N : Int), .slice a k c, .slice b k d] 45) gt gu N tk ug2 wr) := hG
  have hsz : w.heap.size + 1 ≤ wr.heap.size := ltOf hG.sb.bx
  have b1 : ¬ ((2 * N : Nat) : Int) < 2 * (N : Int) := by omega
  clear hG hU hlt hm HTK
  obtain ⟨f0, hf0⟩ : ∃ f : Nat → Int, f = (fun i => if ugB (N : Int) s t (s.getD i 0) = true then 1 else 0) := ⟨_, rfl⟩
  have HF0 : Hid (f0 = (fun i => if ugB (N : Int) s t (s.getD i 0) = true then 1 else 0)) := hf0
  clear hf0
  obtain ⟨wm, hwm⟩ : ∃ x, x = wr := ⟨_, rfl⟩
  subst hwm
  go_wp2_with (at_make; refine wpList_make_own _ rfl _ _ 22 rfl wm.heap.size 2 i0 (.int .i64 0) 1 Try.underlying22 hi0 hz0 hz1 _ _ _ k rfl rfl rfl (by rw [hz2]; omega) (by unfold maxLen; omega) (Nat.le_refl _) ?_; intro w2 hown2 hgrow2; have HS2 : Hid (Below wm.heap.size wm w2 ∧ IS w2 wm.heap.size (.slice (some ⟨wm.heap.size, 0, none⟩) 0 k) (rgL f0 0)) := ⟨(Below.refl _ _).grown hgrow2 (Nat.le_refl _) (fun k h => by cases h), hown2⟩; have q1 : w2.cell? ⟨w.heap.size, 1, none⟩ = some (.slice a k c) := (HS2.out.1.cell (p := ⟨w.heap.size, 1, none⟩) pl).trans p1; have q2 : w.heap.size < w2.heap.size := Nat.lt_of_lt_of_le pl HS2.out.1.size; clear hown2 hgrow2 p0 p1 p2 pl)
  go_wp2
  go_loopw [10, 75] (fun l i wr => ∃ (j : Nat) (va : Option Addr) (vc : Nat), j ≤ k ∧ l = .slice va j vc ∧ i = .int .i64 j ∧ Hid (Below wm.heap.size wm wr ∧ IS wr wm.heap.size (.slice va j vc) (rgL f0 j))) (fun _ i _ => k - (intOf i).toNat)
  case atStart => exact ⟨0, _, _, Nat.zero_le _, rfl, rfl, HS2.out⟩
  case round =>
    clear HS2 q1 q2
    obtain ⟨j, va, vc, hj, rfl, rfl, hR⟩ := hrel
    by_cases hlt : j < k
    · have hG := HG.out.next hR.out.1
      obtain ⟨g1, o1, rfl, hg1, hc1⟩ := rd_at (H.out.1.1.below hG.sb.bl) hlt
      have hjs : j < s.length := by rw [← H.out.2.1]; exact hlt
      have hxb := H.out.2.2.2.a j hjs
      obtain ⟨p, hp⟩ : ∃ p : Nat, s.getD j 0 = (p : Int) := ⟨(s.getD j 0).toNat, by omega⟩
      rw [hp] at hc1 hxb
      have hpN : p < N := by omega
      obtain ⟨u0, uf0⟩ := hG.u.atL hpN
      obtain ⟨bu, hbu⟩ : ∃ x, x = ug2.getD p false := ⟨_, rfl⟩
      obtain ⟨z, hz⟩ : ∃ z, z = f0 j := ⟨_, rfl⟩
      rw [← hbu] at u0
      have ul : gu < wr.heap.size := (BO.lt hG.u gu rfl).2
      have HO : Hid (∀ W, Calls Try.prog 61 #[.bool bu] W fun e w' => e = .returned (.int .i64 z) ∧ w' = W) := fun W => by
        have := impl_one20 bu W
        rw [hbu, HD.out p hpN, ← hp] at this
        rw [hz, HF0.out, hbu, HD.out p hpN, ← hp]
        exact this
      have HN : Hid (rgL f0 (j + 1) = rgL f0 j ++ [z] ∧ (rgL f0 j).length = j) := ⟨by rw [rgL_succ, hz], rgL_len _ _⟩
      have HOW : Hid (wr.ownsRow wm.heap.size 2 1 (.slice va j vc) j ((rgL f0 j).map (Value.int .i64)) ∧ Below wm.heap.size wm wr) := by
        have h9 := hR.out.2
        unfold IS at h9
        rw [HN.out.2] at h9
        exact ⟨h9, hR.out.1⟩
      have hws := hR.out.1.size
      have b0 : (0 : Int) ≤ (j : Int) := by omega
      have b1 : (j : Int) < (k : Int) := by omega
      have c0 : (0 : Int) ≤ (p : Int) := by omega
      have c1 : (p : Int) < (N : Int) := by omega
      clear hbu hz hp hxb hjs hG hR
      go_wp2_with (fail)
      refine (HO.out _).mono ?_
      rintro e w5 ⟨rfl, hw5⟩
      subst w5
      go_wp2_with (at_builtin; refine wpList_append_own _ rfl _ _ 22 rfl wm.heap.size 2 i0 (.int .i64 0) 1 8 Try.underlying22 hi0 hz0 hz1 hz2 rfl (by decide) (.slice va j vc) j _ rfl (World.ownsRow.alloc HOW.out.1 _) ⟨wr.heap.size, 0, none⟩ 1 1 [.int .i64 z] rfl rfl (World.news_of_block (cs := #[.int .i64 z]) (t := 2) (fr := (0, 0)) (heap_alloc_new wr _)) (by simp [Value.oneCell']) (by unfold maxLen; omega) (by omega) (by simp; omega) ?_; intro v6 w6 hown6 hgrow6 _)
      have R : Hid (∃ na nc, v6 = .slice na (j + 1) nc ∧ Below wm.heap.size wm w6 ∧ IS w6 wm.heap.size (.slice na (j + 1) nc) (rgL f0 (j + 1))) := by
        have h9 : IS w6 wm.heap.size v6 (rgL f0 (j + 1)) := by
          rw [HN.out.1]; unfold IS; rw [List.length_append, HN.out.2, List.map_append]; exact hown6
        obtain ⟨na, nc, e⟩ := h9.form
        rw [rgL_len] at e
        rw [e] at h9
        refine ⟨na, nc, e, ?_, h9⟩
        exact (HOW.out.2.alloc hws _).grown hgrow6 (by simp; omega) (fun q hq => (World.ownsRow.lt HOW.out.1 q hq).1)
      obtain ⟨na, nc, rfl, R2⟩ := R.out
      have R3 : Hid _ := R2
      clear R R2 hown6 hgrow6 HOW
      go_wp2
      go_roundw
      case rel => exact ⟨j + 1, na, nc, by omega, rfl, by go_num, R3.out⟩
      case measure => simp [intOf]; omega
    · obtain rfl : j = k := by omega
      have HE : Hid (IS wr w.heap.size (.slice va j vc) (urL (N : Int) s t) ∧ Below w.heap.size w wr) := by
        refine ⟨?_, HG.out.sb.bl.trans (hR.out.1.mono HG.out.sb.bl.size)⟩
        have h9 := hR.out.2.low (show w.heap.size ≤ wm.heap.size by omega)
        rw [HF0.out, H.out.2.1] at h9
        rw [H.out.2.1]
        exact h9
      clear hR
      go_wp2
      go_returns
      exact ⟨_, rfl, HE.out.1, HE.out.2⟩

end Go.Proofs.Ytgbbigokbbllgaa
