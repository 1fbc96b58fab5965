/- Proved here: l20Urges of the model: urL. -/
import Derived.Test.YtgbbigokbbllgaaGzM
import Derived.Test.YtgbbigokbbllgaaFzS
import Derived.Test.YtgbbigokbbllgaaMoI
import Derived.Test.YtgbbigokbbllgaaFl20
import Derived.Test.YtgbbigokbbllgaaReg
import Derived.Test.YtgbbigokbbllgaaOpA
import Derived.Deep.AppendLies
import Derived.BigQuiet
namespace Go.Proofs.Ytgbbigokbbllgaa
open Go.RowKit
set_option linter.unusedVariables false
set_option linter.unusedSimpArgs false

/-- Where the reckoning of urges stands. -/
structure GS (w : World) (o : Obj) (v : Value) (xs : List Int) (W : World) : Prop where
  sb : SB w o W
  is : IS W (w.heap.size + 1) v xs
theorem GS.next {w : World} {o : Obj} {v : Value} {xs : List Int} {V V' : World} (h : GS w o v xs V) (hb : Below V.heap.size V V') : GS w o v xs V' :=
  ⟨h.sb.next hb, h.is.bel hb⟩
theorem GS.kept {w : World} {o : Obj} {v v' : Value} {xs xs' : List Int} {V V' : World} (h : GS w o v xs V) (hb : Below (w.heap.size + 1) V V') (hi : IS V' (w.heap.size + 1) v' xs') : GS w o v' xs' V' :=
  ⟨⟨h.sb.bl.trans (hb.mono (Nat.le_succ _)), (hb.block _ (Nat.lt_succ_self _)).trans h.sb.bx⟩, hi⟩
theorem gs_lt {w : World} {o : Obj} {V : World} (h : SB w o V) : w.heap.size + 1 ≤ V.heap.size := ltOf h.bx

set_option maxRecDepth 10000 in
set_option maxHeartbeats 12800000 in
theorem spec_ur (Z : Int) {w : World} {a b : Option Addr} {c d : Nat} {s t : List Int} (ho : FlOk Z s t) (h : RdL w (.slice a s.length c) (.slice b s.length d) s t) :
    Calls Try.prog 49 #[.agg #[.int .i64 Z, .slice a s.length c, .slice b s.length d]] w fun e w' => ∃ v, e = .returned v ∧ IS w' w.heap.size v (urL Z s t) ∧ Below w.heap.size w w' := by
  obtain ⟨i0, hi0, hz0, hz1, hz2⟩ := info_parts info_i64
  obtain ⟨n, hnn⟩ : ∃ n, n = s.length := ⟨_, rfl⟩
  rw [← hnn] at h ⊢
  have hn30 : n ≤ 30 := by have := ho.m; have := ho.z; omega
  have zb0 := ho.z.1
  have zb1 := ho.z.2
  have H : Hid (RdL w (.slice a n c) (.slice b n d) s t ∧ n = s.length ∧ n = t.length ∧ FlOk Z s t) := ⟨h, hnn, by rw [hnn]; exact ho.l.symm, ho⟩
  obtain ⟨f0, hf0⟩ : ∃ f : Nat → Int, f = (fun i => if s.getD i 0 ≠ t.getD i 0 then 1 else 0) := ⟨_, rfl⟩
  have HF0 : Hid (f0 = (fun i => if s.getD i 0 ≠ t.getD i 0 then 1 else 0)) := hf0
  have HS : Hid (GS w (.cells #[.int .i64 Z, .slice a n c, .slice b n d] 45) (.slice (some ⟨w.heap.size + 1, 0, none⟩) 0 0) (rgL f0 0) ((w.alloc (.cells #[.int .i64 Z, .slice a n c, .slice b n d] 45)).alloc (.cells #[] 2))) := by
    refine ⟨(SB.new w _).next (by (repeat' (first | (with_reducible exact Below.refl _ _) | (with_reducible assumption) | (with_reducible refine Below.setCell ?_ ?_ _) | (with_reducible refine Below.alloc ?_ ?_ _) | (with_reducible refine below_drewN ?_ _) | (with_reducible refine Below.drew ?_) | (with_reducible exact Nat.le_refl _) | omega | (simp; done) | (simp; omega)))), ?_⟩
    have := gz_lit (w.alloc (.cells #[.int .i64 Z, .slice a n c, .slice b n d] 45)) (w.heap.size + 1) (by simp)
    rw [rgL_zero]
    simpa using this
  clear h hnn ho hf0
  go_enter Try.func49, Try.ntmps49
  go_wp2
  go_loopw [3, 4] (fun q i wr => ∃ (k g oc : Nat), k ≤ n ∧ q = .slice (some ⟨g, 0, none⟩) k oc ∧ i = .int .i64 k ∧ Hid (GS w (.cells #[.int .i64 Z, .slice a n c, .slice b n d] 45) (.slice (some ⟨g, 0, none⟩) k oc) (rgL f0 k) wr)) (fun _ i _ => n - (intOf i).toNat)
  case atStart => exact ⟨0, w.heap.size + 1, 0, Nat.zero_le _, rfl, rfl, HS.out⟩
  case round =>
    clear HS
    obtain ⟨k, g, oc, hk, rfl, rfl, hR⟩ := hrel
    obtain ⟨p0, p1, p2, pf, pl⟩ := tw_three hR.out.sb.bx
    clear pf
    by_cases hlt : k < n
    · obtain ⟨g1, o1, rfl, hg1, hc1⟩ := rd_at (H.out.1.1.below hR.out.sb.bl) hlt
      obtain ⟨g2, o2, rfl, hg2, hc2⟩ := rd_at (H.out.1.2.below hR.out.sb.bl) hlt
      obtain ⟨x, hx⟩ : ∃ x, x = s.getD k 0 := ⟨_, rfl⟩
      obtain ⟨y, hy⟩ : ∃ x, x = t.getD k 0 := ⟨_, rfl⟩
      rw [← hx] at hc1
      rw [← hy] at hc2
      obtain ⟨z, hz⟩ : ∃ z, z = f0 k := ⟨_, rfl⟩
      have HN : Hid (rgL f0 (k + 1) = rgL f0 k ++ [z] ∧ (rgL f0 k).length = k) := ⟨by rw [rgL_succ, hz], rgL_len _ _⟩
      have HFL : Hid (∀ W, Calls Try.prog 58 #[.bool (x != y)] W fun e w' => e = .returned (.int .i64 z) ∧ w' = W) := fun W => by
        refine (spec_flag20 (x != y) W).mono ?_
        rintro e w' ⟨rfl, hw⟩
        refine ⟨?_, hw⟩
        rw [hz, HF0.out, hx, hy]
        congr 2
        by_cases e : s.getD k 0 = t.getD k 0 <;> simp [e]
      have HR : Hid (GS w (.cells #[.int .i64 Z, .slice (some ⟨g1, o1, none⟩) n c, .slice (some ⟨g2, o2, none⟩) n d] 45) (.slice (some ⟨g, 0, none⟩) k oc) (rgL f0 k) wr) := hR.out
      have hsz := gs_lt hR.out.sb
      have g1l : g1 < w.heap.size + 1 := by
        obtain ⟨q1, _, e, hq, _⟩ := rd_at H.out.1.1 hlt
        simp only [Option.some.injEq, Addr.mk.injEq, and_true] at e
        omega
      have g2l : g2 < w.heap.size + 1 := by
        obtain ⟨q1, _, e, hq, _⟩ := rd_at H.out.1.2 hlt
        simp only [Option.some.injEq, Addr.mk.injEq, and_true] at e
        omega
      have b0 : (0 : Int) ≤ (k : Int) := by omega
      have b1 : (k : Int) < (n : Int) := by omega
      have b9 : w.heap.size < w.heap.size + 1 := by omega
      clear hR hx hy hz
      go_wp2_with (fail)
      refine wp_region_holdsA (S := KA (w.heap.size + 1) wr) (by kernel_rfl) (KA.of ((Below.refl _ _).drew)) (fun hS => ?_)
      refine fl_takeA (i := 0) (d := 16) (v := .slice (some ⟨g, 0, none⟩) k oc) rfl rfl rfl (by kernel_rfl) (by kernel_rfl) (by kernel_rfl) hS ?_ ?_
      · intro w' hk; unfold KA at hk; go_simp
      simp only [Act.put, List.setIfInBounds_toArray, List.set_cons_zero, List.set_cons_succ]
      refine fl_takeA (i := 1) (d := 17) (v := .pointer (some ⟨w.heap.size, 1, none⟩)) rfl rfl rfl (by kernel_rfl) (by kernel_rfl) (by kernel_rfl) hS ?_ ?_
      · intro w' hk; unfold KA at hk; go_simp
      simp only [Act.put, List.setIfInBounds_toArray, List.set_cons_zero, List.set_cons_succ]
      refine fl_takeA (i := 2) (d := 18) (v := .slice (some ⟨g1, o1, none⟩) n c) rfl rfl rfl (by kernel_rfl) (by kernel_rfl) (by kernel_rfl) hS ?_ ?_
      · intro w' hk; unfold KA at hk; go_simp
      simp only [Act.put, List.setIfInBounds_toArray, List.set_cons_zero, List.set_cons_succ]
      refine fl_takeA (i := 3) (d := 19) (v := .int .i64 k) rfl rfl rfl (by kernel_rfl) (by kernel_rfl) (by kernel_rfl) hS ?_ ?_
      · intro w' hk; unfold KA at hk; go_simp
      simp only [Act.put, List.setIfInBounds_toArray, List.set_cons_zero, List.set_cons_succ]
      refine fl_takeA (i := 4) (d := 20) (v := .pointer (some ⟨g1, o1 + k, none⟩)) rfl rfl rfl (by kernel_rfl) (by kernel_rfl) (by kernel_rfl) hS ?_ ?_
      · intro w' hk; unfold KA at hk; go_simp
      simp only [Act.put, List.setIfInBounds_toArray, List.set_cons_zero, List.set_cons_succ]
      refine fl_takeA (i := 5) (d := 21) (v := .int .i64 x) rfl rfl rfl (by kernel_rfl) (by kernel_rfl) (by kernel_rfl) hS ?_ ?_
      · intro w' hk; unfold KA at hk; go_simp
      simp only [Act.put, List.setIfInBounds_toArray, List.set_cons_zero, List.set_cons_succ]
      refine fl_takeA (i := 6) (d := 22) (v := .pointer (some ⟨w.heap.size, 2, none⟩)) rfl rfl rfl (by kernel_rfl) (by kernel_rfl) (by kernel_rfl) hS ?_ ?_
      · intro w' hk; unfold KA at hk; go_simp
      simp only [Act.put, List.setIfInBounds_toArray, List.set_cons_zero, List.set_cons_succ]
      refine fl_takeA (i := 7) (d := 23) (v := .slice (some ⟨g2, o2, none⟩) n d) rfl rfl rfl (by kernel_rfl) (by kernel_rfl) (by kernel_rfl) hS ?_ ?_
      · intro w' hk; unfold KA at hk; go_simp
      simp only [Act.put, List.setIfInBounds_toArray, List.set_cons_zero, List.set_cons_succ]
      refine fl_takeA (i := 8) (d := 24) (v := .int .i64 k) rfl rfl rfl (by kernel_rfl) (by kernel_rfl) (by kernel_rfl) hS ?_ ?_
      · intro w' hk; unfold KA at hk; go_simp
      simp only [Act.put, List.setIfInBounds_toArray, List.set_cons_zero, List.set_cons_succ]
      refine fl_takeA (i := 9) (d := 25) (v := .pointer (some ⟨g2, o2 + k, none⟩)) rfl rfl rfl (by kernel_rfl) (by kernel_rfl) (by kernel_rfl) hS ?_ ?_
      · intro w' hk; unfold KA at hk; go_simp
      simp only [Act.put, List.setIfInBounds_toArray, List.set_cons_zero, List.set_cons_succ]
      refine fl_takeA (i := 10) (d := 26) (v := .int .i64 y) rfl rfl rfl (by kernel_rfl) (by kernel_rfl) (by kernel_rfl) hS ?_ ?_
      · intro w' hk; unfold KA at hk; go_simp
      simp only [Act.put, List.setIfInBounds_toArray, List.set_cons_zero, List.set_cons_succ]
      refine fl_takeA (i := 11) (d := 27) (v := .bool (x != y)) rfl rfl rfl (by kernel_rfl) (by kernel_rfl) (by kernel_rfl) hS ?_ ?_
      · intro w' hk; unfold KA at hk; go_simp
      simp only [Act.put, List.setIfInBounds_toArray, List.set_cons_zero, List.set_cons_succ]
      refine wpAnyH_all (rs := [12]) (by kernel_rfl) (by simp) ?_
      intro i hi
      obtain rfl : i = 12 := by simpa using hi
      clear hi
      refine op_call (d := 28) rfl rfl rfl (by go_simp) ((HFL.out _).mono ?_)
      rintro e w9 ⟨rfl, hw9⟩
      subst hw9
      refine ⟨_, rfl, hS, ?_⟩
      simp only [Act.put, List.setIfInBounds_toArray, List.set_cons_zero, List.set_cons_succ]
      refine wpAnyH_all (rs := [13]) (by kernel_rfl) (by simp) ?_
      intro i hi
      obtain rfl : i = 13 := by simpa using hi
      clear hi
      refine op_val (d := 29) (v := .slice (some ⟨wr.drew.heap.size, 0, none⟩) 1 1) (w' := wr.drew.alloc (.cells #[.int .i64 z] 2)) rfl rfl rfl (by go_simp; try rfl) ?_
      simp only [Act.put, List.setIfInBounds_toArray, List.set_cons_zero, List.set_cons_succ]
      have hn2 := heap_alloc_new wr.drew (.cells #[.int .i64 z] 2)
      have hb2 : Below wr.heap.size wr (wr.drew.alloc (.cells #[.int .i64 z] 2)) := by have := (Below.refl wr.heap.size wr).drew; (repeat' (first | (with_reducible exact Below.refl _ _) | (with_reducible assumption) | (with_reducible refine Below.setCell ?_ ?_ _) | (with_reducible refine Below.alloc ?_ ?_ _) | (with_reducible refine below_drewN ?_ _) | (with_reducible refine Below.drew ?_) | (with_reducible exact Nat.le_refl _) | omega | (simp; done) | (simp; omega)))
      have ho2 : (wr.drew.alloc (.cells #[.int .i64 z] 2)).ownsRow (w.heap.size + 1) 2 1 (.slice (some ⟨g, 0, none⟩) k oc) k ((rgL f0 k).map (Value.int .i64)) := by
        have h9 := IS.kept HR.out.is (fun q hq => hb2.block q (World.ownsRow.lt HR.out.is q hq).2)
        unfold IS at h9
        rw [HN.out.2] at h9
        exact h9
      refine ⟨KA.of (hb2.mono hsz), wpAnyH_all (rs := [14]) (by kernel_rfl) (by simp) ?_⟩
      intro i hi
      obtain rfl : i = 14 := by simpa using hi
      clear hi
      refine op_appA rfl rfl rfl _ _ 22 rfl (w.heap.size + 1) 2 i0 (.int .i64 0) 1 8 Try.underlying22 hi0 hz0 hz1 hz2 rfl (by decide) (.slice (some ⟨g, 0, none⟩) k oc) k ((rgL f0 k).map (Value.int .i64)) rfl ho2 (some ⟨wr.drew.heap.size, 0, none⟩) 1 1 [.int .i64 z] rfl rfl (fun h => by cases h) (fun ad h => by injection h with h; subst h; exact World.news_of_block (cs := #[.int .i64 z]) (t := 2) (fr := (0, 0)) hn2) (by simp [Value.oneCell']) (by unfold maxLen; omega) (by omega) (Nat.le_trans hsz hb2.size) ?_
      intro v5 w5 hown5 hgrow5
      simp only [Act.put, List.setIfInBounds_toArray, List.set_cons_zero, List.set_cons_succ]
      have hb5 : Below (w.heap.size + 1) wr w5 := (hb2.mono hsz).grown hgrow5 (Nat.le_trans hsz hb2.size) (fun q hq => (World.ownsRow.lt ho2 q hq).1)
      have R : Hid (∃ ng nc, v5 = .slice (some ⟨ng, 0, none⟩) (k + 1) nc ∧ GS w (.cells #[.int .i64 Z, .slice (some ⟨g1, o1, none⟩) n c, .slice (some ⟨g2, o2, none⟩) n d] 45) (.slice (some ⟨ng, 0, none⟩) (k + 1) nc) (rgL f0 (k + 1)) w5) := by
        have h9 : IS w5 (w.heap.size + 1) v5 (rgL f0 (k + 1)) := by
          rw [HN.out.1]; unfold IS; rw [List.length_append, HN.out.2, List.map_append]; exact hown5
        obtain ⟨ng, nc, e, _⟩ := h9.pos (by rw [rgL_len]; omega)
        rw [rgL_len] at e
        rw [e] at h9
        exact ⟨ng, nc, e, HR.out.kept hb5 h9⟩
      refine ⟨KA.of hb5, wpAnyH_all (rs := [15]) (by kernel_rfl) (by simp) ?_⟩
      intro i hi
      obtain rfl : i = 15 := by simpa using hi
      clear hi
      refine op_val (d := 3) (v := v5) (w' := w5) rfl rfl rfl (by go_simp; try rfl) ?_
      simp only [Act.put, List.setIfInBounds_toArray, List.set_cons_zero, List.set_cons_succ]
      refine ⟨KA.of hb5, wpAnyH_done (by kernel_rfl) (NoPanic.normal ?_) _⟩
      obtain ⟨ng, nc, rfl, R2⟩ := R.out
      have R3 : Hid _ := R2
      clear R R2 hown5 hgrow5 hb5 ho2 hb2 hn2 hS p0 p1 p2 pl hc1 hc2 hg1 hg2 g1l g2l HR hsz
      go_wp2
      go_roundw
      case rel => exact ⟨k + 1, ng, nc, by omega, rfl, by go_num, R3.out⟩
      case measure => simp [intOf]; omega
    obtain rfl : k = n := by omega
    have HG : Hid (GS w (.cells #[.int .i64 Z, .slice a k c, .slice b k d] 45) (.slice (some ⟨g, 0, none⟩) k oc) (rgL f0 k) wr ∧ GU Z s t (rgL f0 k)) := by
      refine ⟨hR.out, ?_⟩
      rw [H.out.2.1, HF0.out]
      exact GU.start H.out.2.2.2
    clear hR hlt hk HF0
    go_wp2
    clear p0 p1 p2 pl
    go_loopw [5] (fun q wr => ∃ (ag : Bool), q = .bool ag ∧ Hid (∃ xs, GS w (.cells #[.int .i64 Z, .slice a k c, .slice b k d] 45) (.slice (some ⟨g, 0, none⟩) k oc) xs wr ∧ GU Z s t xs ∧ (ag = false → ∀ i, i < k → clo Z s xs i))) (fun q wr => zcW wr g k + agN q)
    case atStart => exact ⟨true, rfl, rgL f0 k, HG.out.1, HG.out.2, fun h => by cases h⟩
    case round =>
      clear HG
      obtain ⟨ag, rfl, hR⟩ := hrel
      obtain ⟨xs, hGS, hGU, hcl⟩ := hR.out
      cases ag with
      | false =>
        have HD : Hid (IS wr w.heap.size (.slice (some ⟨g, 0, none⟩) k oc) (urL Z s t) ∧ Below w.heap.size w wr) := by
          refine ⟨?_, hGS.sb.bl⟩
          rw [← GU.done H.out.2.2.2 hGU fun i hi => hcl rfl i (by rw [H.out.2.1]; exact hi)]
          exact hGS.is.low (Nat.le_succ _)
        clear hR hGS hGU hcl
        go_wp2
        go_returns
        exact ⟨_, rfl, HD.out.1, HD.out.2⟩
      | true =>
      obtain ⟨Q0, hQ0⟩ : ∃ q, q = zcs (fun a => xs.getD a 0) k := ⟨_, rfl⟩
      have HQ : Hid (zcW wr g k = Q0) := by unfold Hid; rw [hQ0]; exact zcW_eq hGS.is
      have HG : Hid (GS w (.cells #[.int .i64 Z, .slice a k c, .slice b k d] 45) (.slice (some ⟨g, 0, none⟩) k oc) xs wr ∧ GU Z s t xs ∧ Q0 = zcs (fun a => xs.getD a 0) k) := ⟨hGS, hGU, hQ0⟩
      clear hR hGS hGU hcl hQ0
      go_wp2
      obtain ⟨wo, hwo⟩ : ∃ x, x = wr := ⟨_, rfl⟩
      subst hwo
      go_loopw [5, 6] (fun q i wr => ∃ (j : Nat) (ag : Bool), j ≤ k ∧ q = .bool ag ∧ i = .int .i64 j ∧ Hid (∃ ys, GS w (.cells #[.int .i64 Z, .slice a k c, .slice b k d] 45) (.slice (some ⟨g, 0, none⟩) k oc) ys wr ∧ GU Z s t ys ∧ zcs (fun a => ys.getD a 0) k ≤ Q0 ∧ (ag = false → ∀ i, i < j → clo Z s ys i) ∧ (ag = true → zcs (fun a => ys.getD a 0) k < Q0))) (fun _ i _ => k - (intOf i).toNat)
      case atStart => exact ⟨0, false, Nat.zero_le _, rfl, rfl, xs, HG.out.1, HG.out.2.1, by rw [HG.out.2.2]; exact Nat.le_refl _, fun _ i hi => by omega, fun h => by cases h⟩
      case round =>
        clear HG
        obtain ⟨j, ag, hj, rfl, rfl, hR⟩ := hrel
        obtain ⟨ys, hGS, hGU, hq1, hcl, hq2⟩ := hR.out
        obtain ⟨p0, p1, p2, pf, pl⟩ := tw_three hGS.sb.bx
        clear pf hR
        by_cases hlt : j < k
        · obtain ⟨g1, o1, rfl, hg1, hc1⟩ := rd_at (H.out.1.1.below hGS.sb.bl) hlt
          obtain ⟨x, hx⟩ : ∃ x, x = s.getD j 0 := ⟨_, rfl⟩
          rw [← hx] at hc1
          have hjs : j < s.length := by rw [← H.out.2.1]; exact hlt
          have hxb := H.out.2.2.2.a j hjs
          rw [← hx] at hxb
          obtain ⟨bz, hbz⟩ : ∃ z, z = (x - 1) % Z := ⟨_, rfl⟩
          obtain ⟨r, hr⟩ : ∃ r, r = fxI s bz := ⟨_, rfl⟩
          have HM : Hid (∀ W, Calls Try.prog 59 #[.int .i64 (x - 1), .int .i64 Z] W fun e w' => e = .returned (.int .i64 bz) ∧ w' = W) := fun W => by rw [hbz]; exact spec_mod (x - 1) Z (by omega) (by omega) W
          have HC : Hid (∀ y : Und wr.heap.size wr, Calls Try.prog 47 #[.agg #[.int .i64 Z, .slice (some ⟨g1, o1, none⟩) k c, .slice b k d], .int .i64 bz] y.W fun e w' => e = .returned (.int .i64 r) ∧ Below y.W.heap.size y.W w') := fun y => by
            have h1 := H.out.1.1.below (hGS.sb.bl.trans (y.below.mono hGS.sb.bl.size))
            have := spec_i20 (b := b) (m := k) (d := d) Z bz (a := some ⟨g1, o1, none⟩) (c := c) (s := s) (by rw [← H.out.2.1]; omega) (by rw [← H.out.2.1]; exact h1)
            rw [← H.out.2.1, ← hr] at this
            exact this
          have hx0 := hxb.1
          have hx1 := hxb.2
          have b0 : (0 : Int) ≤ (j : Int) := by omega
          have b1 : (j : Int) < (k : Int) := by omega
          have HI : Hid (x = s.getD j 0 ∧ bz = (x - 1) % Z ∧ r = fxI s bz ∧ j < s.length) := ⟨hx, hbz, hr, hjs⟩
          have HY : Hid (GS w (.cells #[.int .i64 Z, .slice (some ⟨g1, o1, none⟩) k c, .slice b k d] 45) (.slice (some ⟨g, 0, none⟩) k oc) ys wr ∧ GU Z s t ys ∧ zcs (fun a => ys.getD a 0) k ≤ Q0 ∧ (ag = false → ∀ i, i < j → clo Z s ys i) ∧ (ag = true → zcs (fun a => ys.getD a 0) k < Q0)) := ⟨hGS, hGU, hq1, hcl, hq2⟩
          have hr2 : r = -1 ∨ ∃ m : Nat, r = (m : Int) ∧ m < k := by
            by_cases hm : bz ∈ s
            · obtain ⟨m, hm1, hm2, _⟩ := fxI_pos hm
              exact Or.inr ⟨m, by rw [hr]; exact hm2, by rw [H.out.2.1]; exact hm1⟩
            · exact Or.inl (by rw [hr]; exact fxI_neg hm)
          clear hGS hGU hq1 hcl hq2 hx hbz hr hjs hxb
          go_wp2
          (refine wp_region_und (by kernel_rfl) (by kernel_rfl) (fun hund => ?_); (repeat (go_big_quiet_step (first | (go_at_call 59; with_reducible refine und_call_same (HM.out _)) | (go_at_call 47; with_reducible refine und_call ?_ (HC.out _); exact Nat.le_refl _)))); with_reducible refine wpQuiet_nil ?_; clear hund; intro W1 hb1; obtain ⟨hc1, hf1⟩ := undcell hb1)
          have HV : Hid (GS w (.cells #[.int .i64 Z, .slice (some ⟨g1, o1, none⟩) k c, .slice b k d] 45) (.slice (some ⟨g, 0, none⟩) k oc) ys W1) := HY.out.1.next hb1
          obtain ⟨d0, df0⟩ := HV.out.is.atG hlt
          obtain ⟨u, hu⟩ : ∃ u, u = ys.getD j 0 := ⟨_, rfl⟩
          rw [← hu] at d0
          have gl : g < W1.heap.size := (IS.lt HV.out.is g rfl).2
          have HU : Hid (u = ys.getD j 0) := hu
          have hu2 : u = 0 ∨ u = 1 := by rw [hu]; exact HY.out.2.1.v j HI.out.2.2.2
          clear hb1 hc1 hf1 hu p0 p1 p2 pl hg1 HM HC
          obtain ⟨p0, p1, p2, pf, pl⟩ := tw_three HV.out.sb.bx
          clear pf
          rcases hu2 with rfl | rfl
          · rcases hr2 with rfl | ⟨m, rfl, hmk⟩
            · have HN : Hid (clo Z s ys j) := fun _ i hi e => by
                exfalso
                have h3 : bz ∈ s := by rw [HI.out.2.1, HI.out.1, ← e]; exact gdMem hi
                obtain ⟨m, _, h4, _⟩ := fxI_pos h3
                have := HI.out.2.2.1
                omega
              go_wp2
              go_roundw
              case rel => exact ⟨j + 1, ag, by omega, rfl, by go_num, ys, HV.out, HY.out.2.1, HY.out.2.2.1, fun e i hi => by
                rcases (by omega : i < j ∨ i = j) with h3 | rfl
                · exact HY.out.2.2.2.1 e i h3
                · exact HN.out, HY.out.2.2.2.2⟩
              case measure => simp [intOf]; omega
            · obtain ⟨e0, ef0⟩ := HV.out.is.atG hmk
              obtain ⟨v, hv⟩ : ∃ u, u = ys.getD m 0 := ⟨_, rfl⟩
              rw [← hv] at e0
              have HVV : Hid (v = ys.getD m 0 ∧ s.getD m 0 = (s.getD j 0 - 1) % Z ∧ m < s.length) := by
                have hm3 : m < s.length := by rw [← H.out.2.1]; exact hmk
                have h3 : bz ∈ s := by
                  by_cases hm : bz ∈ s
                  · exact hm
                  · have h5 := HI.out.2.2.1; rw [fxI_neg hm] at h5; omega
                obtain ⟨m2, _, h4, h5⟩ := fxI_pos h3
                have h6 : m2 = m := by have := HI.out.2.2.1; omega
                subst h6
                exact ⟨hv, by rw [h5, HI.out.2.1, HI.out.1], hm3⟩
              have hv2 : v = 0 ∨ v = 1 := by rw [hv]; exact HY.out.2.1.v m HVV.out.2.2
              have c0 : (0 : Int) ≤ (m : Int) := by omega
              have c1 : (m : Int) < (k : Int) := by omega
              clear hv
              rcases hv2 with rfl | rfl
              · have HN : Hid (clo Z s ys j) := fun _ i hi e => by
                  have : i = m := dif_inj H.out.2.2.2.d hi HVV.out.2.2 (by rw [e, HVV.out.2.1])
                  subst this
                  rw [← HVV.out.1]
                  decide
                go_wp2
                go_roundw
                case rel => exact ⟨j + 1, ag, by omega, rfl, by go_num, ys, HV.out, HY.out.2.1, HY.out.2.2.1, fun e i hi => by
                  rcases (by omega : i < j ∨ i = j) with h3 | rfl
                  · exact HY.out.2.2.2.1 e i h3
                  · exact HN.out, HY.out.2.2.2.2⟩
                case measure => simp [intOf]; omega
              · have HN : Hid (GS w (.cells #[.int .i64 Z, .slice (some ⟨g1, o1, none⟩) k c, .slice b k d] 45) (.slice (some ⟨g, 0, none⟩) k oc) (ys.set j 1) (W1.setCell ⟨g, j, none⟩ (.int .i64 1)) ∧ GU Z s t (ys.set j 1) ∧ zcs (fun a => (ys.set j 1).getD a 0) k < Q0) := by
                  refine ⟨HV.out.kept ?_ (HV.out.is.setG j 1), HY.out.2.1.set H.out.2.2.2 HI.out.2.2.2 HVV.out.2.2 HVV.out.2.1 HVV.out.1.symm, ?_⟩
                  · have h3 := (IS.lt HV.out.is g rfl).1
                    (repeat' (first | (with_reducible exact Below.refl _ _) | (with_reducible assumption) | (with_reducible refine Below.setCell ?_ ?_ _) | (with_reducible refine Below.alloc ?_ ?_ _) | (with_reducible refine below_drewN ?_ _) | (with_reducible refine Below.drew ?_) | (with_reducible exact Nat.le_refl _) | omega | (simp; done) | (simp; omega)))
                  · have h3 := zcs_set (xs := ys) (i := j) (n := k) hlt (by rw [HY.out.2.1.l, ← H.out.2.1]; exact Nat.le_refl _) HU.out.symm
                    have h4 := HY.out.2.2.1
                    omega
                go_wp2
                go_roundw
                case rel => exact ⟨j + 1, true, by omega, rfl, by go_num, ys.set j 1, HN.out.1, HN.out.2.1, Nat.le_of_lt HN.out.2.2, (fun h => by cases h), fun _ => HN.out.2.2⟩
                case measure => simp [intOf]; omega
          · have HN : Hid (clo Z s ys j) := fun h0 => by rw [← HU.out] at h0; exact absurd h0 (by decide)
            go_wp2
            go_roundw
            case rel => exact ⟨j + 1, ag, by omega, rfl, by go_num, ys, HV.out, HY.out.2.1, HY.out.2.2.1, fun e i hi => by
              rcases (by omega : i < j ∨ i = j) with h3 | rfl
              · exact HY.out.2.2.2.1 e i h3
              · exact HN.out, HY.out.2.2.2.2⟩
            case measure => simp [intOf]; omega
        · obtain rfl : j = k := by omega
          have HQ2 : Hid (zcW wr g j = zcs (fun a => ys.getD a 0) j) := zcW_eq hGS.is
          have HY : Hid (GS w (.cells #[.int .i64 Z, .slice a j c, .slice b j d] 45) (.slice (some ⟨g, 0, none⟩) j oc) ys wr ∧ GU Z s t ys ∧ zcs (fun a => ys.getD a 0) j ≤ Q0 ∧ (ag = false → ∀ i, i < j → clo Z s ys i) ∧ (ag = true → zcs (fun a => ys.getD a 0) j < Q0)) := ⟨hGS, hGU, hq1, hcl, hq2⟩
          clear hGS hGU hq1 hcl hq2
          go_wp2
          go_roundw
          case rel => exact ⟨ag, rfl, ys, HY.out.1, HY.out.2.1, HY.out.2.2.2.1⟩
          case measure =>
            rw [HQ.out, HQ2.out]
            cases ag with
            | false => have := HY.out.2.2.1; simp only [agN]; omega
            | true => have := HY.out.2.2.2.2 rfl; simp only [agN]; omega

end Go.Proofs.Ytgbbigokbbllgaa
