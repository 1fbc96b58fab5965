/- Proved here: the program's ModImage where the lengths are right, and in all. -/
import Derived.Test.YtcplddblfhbejaaMiI
namespace Go.Proofs.Ytcplddblfhbejaa
open Go.RowKit
set_option linter.unusedVariables false
set_option linter.unusedSimpArgs false

/-- While the sums go on. -/
structure MiS (w wr : World) (gp gs n : Nat) (cur : List Int) : Prop where
  bl : Below w.heap.size w wr
  rs : wr.heap[w.heap.size]? = some (.cells #[.int .i64 0, .slice none 0 0] 28)
  pw : IS wr (w.heap.size + 1) (.slice (some ⟨gp, 0, none⟩) n n) (pwL n)
  su : IS wr gs (.slice (some ⟨gs, 0, none⟩) n n) cur
  ord : w.heap.size + 1 ≤ gp ∧ gp < gs ∧ gs < wr.heap.size
theorem MiS.drewN {w wr : World} {gp gs n : Nat} {cur : List Int} (h : MiS w wr gp gs n cur) (q : Nat) : MiS w (wr.drewN q) gp gs n cur :=
  ⟨below_drewN h.bl q, h.rs, h.pw, h.su, h.ord⟩
theorem MiS.put {w wr : World} {gp gs n : Nat} {cur : List Int} (h : MiS w wr gp gs n cur) (j : Nat) (y : Int) : MiS w (wr.setCell ⟨gs, j, none⟩ (.int .i64 y)) gp gs n (cur.set j y) := by
  have hord := h.ord
  refine ⟨h.bl.setCell (by simp; omega) _, ?_, h.pw.kept fun g hg => ?_, h.su.setM j y, by simpa using hord⟩
  · rw [heap_setCell_other _ _ _ _ (by simp; omega)]; exact h.rs
  · injection hg with hg
    have hg' : gp = g := hg
    exact heap_setCell_other _ _ _ _ (by simp; omega)
theorem IS.frz {w : World} {B g n c : Nat} {xs : List Int} (h : IS w B (.slice (some ⟨g, 0, none⟩) n c) xs) (j : Nat) : w.frozen? ⟨g, j, none⟩ = false := by
  rcases h.2 with ⟨h1, _⟩ | ⟨g', cap, cur, h1, h2, h3, _⟩
  · cases h1
  · injection h1 with h1
    injection h1 with h1
    injection h1 with h1
    subst h1
    simp [World.frozen?, h3]

theorem rdh {w W : World} {v : Value} {s : List Int} (hW : W.heap = w.heap) (h : RdI w v s) : RdI W v s :=
  h.kept (fun q _ => by rw [hW]) (by rw [hW]; exact Nat.le_refl _)

set_option maxRecDepth 10000 in
set_option maxHeartbeats 12800000 in
theorem impl_mi_ok {al ab aS : Option Addr} {n cl cb l cs : Nat} {w : World} {mk bk ss : List Int} (h : ¬ badN n n) (h32 : n ≤ 32) (h12 : l ≤ 12) (hm : RdI w (.slice al n cl) mk) (hb : RdI w (.slice ab n cb) bk) (hs : RdI w (.slice aS l cs) ss) :
    Calls Try.prog 10 #[.slice al n cl, .slice ab n cb, .slice aS l cs] w fun e w' => ∃ g, e = .returned (.agg #[.int .i64 0, .slice (some ⟨g, 0, none⟩) n n]) ∧ IS w' w.heap.size (.slice (some ⟨g, 0, none⟩) n n) (miK mk bk ss) ∧ Below w.heap.size w w' := by
  unfold badN at h
  have h0 : ¬ n = 0 := fun e => h (Or.inl e)
  have h1 : bits BinOp.and .i64 (n : Int) ((n : Int) - 1) = 0 := Classical.not_not.1 fun e => h (Or.inr (Or.inl e))
  clear h
  have hn0 : ((n : Int) == 0) = false := by simp; omega
  have hn1 : ¬ (n : Int) = 0 := by omega
  have h3' : ¬ (32 : Int) < (n : Int) := by omega
  have h4' : ¬ (12 : Int) < (l : Int) := by omega
  have H : Hid (RdI w (.slice al n cl) mk ∧ RdI w (.slice ab n cb) bk ∧ RdI w (.slice aS l cs) ss ∧ n = mk.length ∧ l = ss.length) := ⟨hm, hb, hs, hm.len, hs.len⟩
  clear hm hb hs
  obtain ⟨i0, hi, hz0, hz1, hz2⟩ := info_parts info_i64
  go_enter Try.func10, Try.ntmps10
  go_wp2_with (fail)
  refine (impl_powers n (by omega) h32 _).mono ?_
  rintro e w1 ⟨gp, rfl, hp1, hb1⟩
  have hlt1 := IS.lt hp1 gp rfl
  simp at hlt1
  have k1 := (hb1.block w.heap.size (by simp)).trans (heap_alloc_new w _)
  have hB1 : Below w.heap.size w w1 := (show Below w.heap.size w _ from by (repeat' (first | (with_reducible exact Below.refl _ _) | (with_reducible assumption) | (with_reducible refine Below.setCell ?_ ?_ _) | (with_reducible refine Below.alloc ?_ ?_ _) | (with_reducible refine below_drewN ?_ _) | (with_reducible refine Below.drew ?_) | (with_reducible exact Nat.le_refl _) | omega | (simp; done) | (simp; omega)))).trans (hb1.mono (by simp))
  have hp1' : IS w1 (w.heap.size + 1) (.slice (some ⟨gp, 0, none⟩) n n) (pwL n) := by simpa using hp1
  have HW1 : Hid (IS w1 (w.heap.size + 1) (.slice (some ⟨gp, 0, none⟩) n n) (pwL n) ∧ Below w.heap.size w w1 ∧ w1.heap[w.heap.size]? = some (.cells #[.int .i64 0, .slice none 0 0] 28) ∧ w.heap.size + 1 ≤ gp ∧ gp < w1.heap.size) := ⟨hp1', hB1, k1, hlt1.1, hlt1.2⟩
  clear hp1 hp1' hlt1 k1 hB1 hb1
  go_wp2_with (at_make; refine wpList_make_full _ rfl _ _ 24 rfl w1.heap.size 2 i0 (.int .i64 0) 1 Try.underlying24 hi hz0 hz1 _ _ _ _ n rfl rfl rfl rfl (by rw [hz2]; omega) (by unfold maxLen; omega) (Nat.le_refl _) ?_; intro w2 hown2 hgrow2)
  have HS2 : Hid (MiS w w2 gp w1.heap.size n (smK mk bk ss n 0 0)) := by
    obtain ⟨a1, a2, a3, a4, a5⟩ := HW1.out
    have hb2 : Below w1.heap.size w1 w2 := (Below.refl _ _).grown hgrow2 (Nat.le_refl _) (fun k h => by cases h)
    have hsz := a2.size
    refine ⟨a2.trans (hb2.mono a2.size), (hb2.block _ (by omega)).trans a3, a1.bel hb2, ?_, a4, a5, (World.ownsRow.lt hown2 _ rfl).2⟩
    rw [smK_zero]
    unfold IS
    have e : (madeCells (Value.cells (.int .i64 0)) (n * 1)).toList = (List.replicate n (0 : Int)).map (Value.int .i64) := by
      rw [show (Value.int IntKind.i64 0).cells = #[Value.int IntKind.i64 0] from rfl, toList_madeCells_one]
      simp
    rw [e] at hown2
    simpa using hown2
  obtain ⟨gs, hgs⟩ : ∃ gs, gs = w1.heap.size := ⟨_, rfl⟩
  rw [← hgs] at HS2 ⊢
  clear hown2 hgrow2 HW1 hgs
  go_loopw [46] (fun i wr => ∃ x : Nat, x ≤ n ∧ i = .int .i64 x ∧ Hid (MiS w wr gp gs n (smK mk bk ss n x 0))) (fun i _ => n - (intOf i).toNat)
  case atStart => exact ⟨0, Nat.zero_le _, rfl, HS2.out⟩
  case round =>
    clear HS2
    obtain ⟨x, hx, rfl, hR⟩ := hrel
    by_cases hltx : x < n
    · have bx : (x : Int) < (n : Int) := by omega
      go_wp2
      go_loopw [51] (fun i wv => ∃ j : Nat, j ≤ l ∧ i = .int .i64 j ∧ Hid (MiS w wv gp gs n (smK mk bk ss n x j))) (fun i _ => l - (intOf i).toNat)
      case atStart => exact ⟨0, Nat.zero_le _, rfl, hR.out⟩
      case round =>
        clear hR
        obtain ⟨j, hj, rfl, hQ⟩ := hrel
        by_cases hltj : j < l
        · have bj : (j : Int) < (l : Int) := by omega
          have b0 : (0 : Int) ≤ (j : Int) := by omega
          have b2 : (0 : Int) ≤ (x : Int) := by omega
          obtain ⟨gS, oS, haS, hgS, hxS⟩ := rd_at (H.out.2.2.1.below hQ.out.bl) hltj
          subst haS
          obtain ⟨X, hX⟩ : ∃ X, X = ss.getD j 0 := ⟨_, rfl⟩
          obtain ⟨A, hA⟩ : ∃ A, A = rsK mk (rtK n) n X x n := ⟨_, rfl⟩
          obtain ⟨D, hD⟩ : ∃ D, D = rsK bk (rtK n) n X (-x) n := ⟨_, rfl⟩
          obtain ⟨O, hO⟩ : ∃ O, O = imK mk bk ss (rtK n) n x j := ⟨_, rfl⟩
          rw [← hX] at hxS
          have hAb : 0 ≤ A ∧ A < 998244353 := by rw [hA]; exact rsK_bd _ _ _ _ _ _
          have hDb : 0 ≤ D ∧ D < 998244353 := by rw [hD]; exact rsK_bd _ _ _ _ _ _
          have hOb : 0 ≤ O ∧ O < 998244353 := by rw [hO]; exact imK_bd _ _ _ _ _ _ _
          have hmb := mul_bdP hAb.1 hAb.2 hDb.1 hDb.2
          have HV : Hid ((O + A * D) % 998244353 = imK mk bk ss (rtK n) n x (j + 1)) := by
            unfold Hid; rw [hO, hA, hD, hX]; rfl
          have hcO : wr.cell? ⟨gs, x, none⟩ = some (.int .i64 O) := by
            have hsu := hQ.out.su
            obtain ⟨g2, c2, he, _, _, hat⟩ := hsu.pos (by rw [smK_len]; omega)
            rw [smK_len] at he hat
            injection he with he1 he2 he3
            injection he1 with he1
            injection he1 with he1
            subst he1
            rw [hat x hltx, smK_at hltx, ← hO]
          have hfO := IS.frz hQ.out.su x
          have e1 : IntKind.i64.wrap (A * D) = A * D := by rw [IntKind.wrap_i64]; omega
          have e2 : IntKind.i64.wrap (O + A * D) = O + A * D := by rw [IntKind.wrap_i64]; omega
          have e3 : (O + A * D).tmod 998244353 = (O + A * D) % 998244353 := Int.tmod_eq_emod_of_nonneg (by omega)
          have e4 : IntKind.i64.wrap (-(x : Int)) = -(x : Int) := by rw [IntKind.wrap_i64]; omega
          have HA : Hid (∀ W : World, W.heap = wr.heap → Calls Try.prog 44 #[.slice al n cl, .slice (some ⟨gp, 0, none⟩) n n, .int .i64 X, .int .i64 x] W fun e w' => e = .returned (.int .i64 A) ∧ ∃ m, w' = W.drewN m) := fun W hW => by
            rw [hA]
            exact impl_rsum n (by omega) h32 X x (by omega) (rdh hW (H.out.1.below hQ.out.bl)) (rdh hW hQ.out.pw.rg)
          have HD : Hid (∀ W : World, W.heap = wr.heap → Calls Try.prog 44 #[.slice ab n cb, .slice (some ⟨gp, 0, none⟩) n n, .int .i64 X, .int .i64 (-(x : Int))] W fun e w' => e = .returned (.int .i64 D) ∧ ∃ m, w' = W.drewN m) := fun W hW => by
            rw [hD]
            exact impl_rsum n (by omega) h32 X (-x) (by omega) (rdh hW (H.out.2.1.below hQ.out.bl)) (rdh hW hQ.out.pw.rg)
          clear hA hD hO hX hAb hDb hOb
          go_wp2_with (fail)
          refine (HA.out _ rfl).mono ?_
          rintro e w3 ⟨rfl, m3, rfl⟩
          go_wp2_with (fail)
          refine wp_region_holdsA (S := KA gs (wr.drewN m3)) (by kernel_rfl) (KA.of ((Below.refl _ _).drew)) (fun hS => ?_)
          rw [World.drew_drewN] at hS ⊢
          refine fl_takeA (i := 0) (d := 60) (v := .slice (some ⟨gs, 0, none⟩) n n) rfl rfl rfl (by kernel_rfl) (by kernel_rfl) (by kernel_rfl) hS ?_ ?_
          · intro w' hk; unfold KA at hk; go_simp
          simp only [Act.put, List.setIfInBounds_toArray, List.set_cons_zero, List.set_cons_succ]
          refine fl_takeA (i := 1) (d := 61) (v := .int .i64 x) rfl rfl rfl (by kernel_rfl) (by kernel_rfl) (by kernel_rfl) hS ?_ ?_
          · intro w' hk; unfold KA at hk; go_simp
          simp only [Act.put, List.setIfInBounds_toArray, List.set_cons_zero, List.set_cons_succ]
          refine fl_takeA (i := 2) (d := 62) (v := .slice (some ⟨gs, 0, none⟩) n n) rfl rfl rfl (by kernel_rfl) (by kernel_rfl) (by kernel_rfl) hS ?_ ?_
          · intro w' hk; unfold KA at hk; go_simp
          simp only [Act.put, List.setIfInBounds_toArray, List.set_cons_zero, List.set_cons_succ]
          refine fl_takeA (i := 3) (d := 63) (v := .int .i64 x) rfl rfl rfl (by kernel_rfl) (by kernel_rfl) (by kernel_rfl) hS ?_ ?_
          · intro w' hk; unfold KA at hk; go_simp
          simp only [Act.put, List.setIfInBounds_toArray, List.set_cons_zero, List.set_cons_succ]
          refine fl_takeA (i := 4) (d := 64) (v := .pointer (some ⟨gs, x, none⟩)) rfl rfl rfl (by kernel_rfl) (by kernel_rfl) (by kernel_rfl) hS ?_ ?_
          · intro w' hk; unfold KA at hk; go_simp
          simp only [Act.put, List.setIfInBounds_toArray, List.set_cons_zero, List.set_cons_succ]
          refine fl_takeA (i := 6) (d := 66) (v := .int .i64 A) rfl rfl rfl (by kernel_rfl) (by kernel_rfl) (by kernel_rfl) hS ?_ ?_
          · intro w' hk; unfold KA at hk; go_simp
          simp only [Act.put, List.setIfInBounds_toArray, List.set_cons_zero, List.set_cons_succ]
          refine fl_takeA (i := 7) (d := 67) (v := .slice ab n cb) rfl rfl rfl (by kernel_rfl) (by kernel_rfl) (by kernel_rfl) hS ?_ ?_
          · intro w' hk; unfold KA at hk; go_simp
          simp only [Act.put, List.setIfInBounds_toArray, List.set_cons_zero, List.set_cons_succ]
          refine fl_takeA (i := 8) (d := 68) (v := .slice (some ⟨gp, 0, none⟩) n n) rfl rfl rfl (by kernel_rfl) (by kernel_rfl) (by kernel_rfl) hS ?_ ?_
          · intro w' hk; unfold KA at hk; go_simp
          simp only [Act.put, List.setIfInBounds_toArray, List.set_cons_zero, List.set_cons_succ]
          refine fl_takeA (i := 9) (d := 69) (v := .int .i64 X) rfl rfl rfl (by kernel_rfl) (by kernel_rfl) (by kernel_rfl) hS ?_ ?_
          · intro w' hk; unfold KA at hk; go_simp
          simp only [Act.put, List.setIfInBounds_toArray, List.set_cons_zero, List.set_cons_succ]
          refine fl_takeA (i := 10) (d := 70) (v := .int .i64 x) rfl rfl rfl (by kernel_rfl) (by kernel_rfl) (by kernel_rfl) hS ?_ ?_
          · intro w' hk; unfold KA at hk; go_simp
          simp only [Act.put, List.setIfInBounds_toArray, List.set_cons_zero, List.set_cons_succ]
          refine fl_takeA (i := 11) (d := 71) (v := .int .i64 (-(x : Int))) rfl rfl rfl (by kernel_rfl) (by kernel_rfl) (by kernel_rfl) hS ?_ ?_
          · intro w' hk; unfold KA at hk; go_simp
          simp only [Act.put, List.setIfInBounds_toArray, List.set_cons_zero, List.set_cons_succ]
          refine wpAnyH_all (rs := [5, 12]) (by kernel_rfl) (by simp) ?_
          intro i hi
          rcases List.mem_cons.1 hi with rfl | hi
          · clear hi
            refine op_val (d := 65) (v := .int .i64 O) rfl rfl rfl (by go_simp; try rfl) ?_
            simp only [Act.put, List.setIfInBounds_toArray, List.set_cons_zero, List.set_cons_succ]
            refine ⟨hS, wpAnyH_all (rs := [12]) (by kernel_rfl) (by simp) ?_⟩
            intro i hi; obtain rfl := List.mem_singleton.1 hi; clear hi
            refine op_call (d := 72) rfl rfl rfl (by go_simp) ((HD.out _ (by simp)).mono ?_)
            rintro e w4 ⟨rfl, m4, rfl⟩
            have KT : KA gs (wr.drewN m3) ((wr.drewN (m3 + 1)).drewN m4) := KA.of (below_drewN hS.2 m4)
            refine ⟨_, rfl, KT, ?_⟩
            obtain ⟨q4, hq4⟩ : ∃ q, (wr.drewN (m3 + 1)).drewN m4 = wr.drewN q := ⟨m3 + 1 + m4, by simp⟩
            rw [hq4] at KT ⊢
            simp only [Act.put, List.setIfInBounds_toArray, List.set_cons_zero, List.set_cons_succ]
            refine wpAnyH_all (rs := [13]) (by kernel_rfl) (by simp) ?_
            intro i hi; obtain rfl := List.mem_singleton.1 hi; clear hi
            refine op_val (d := 73) (v := .int .i64 (A * D)) rfl rfl rfl (by go_simp; try rfl) ?_
            simp only [Act.put, List.setIfInBounds_toArray, List.set_cons_zero, List.set_cons_succ]
            refine ⟨KT, wpAnyH_all (rs := [14]) (by kernel_rfl) (by simp) ?_⟩
            intro i hi; obtain rfl := List.mem_singleton.1 hi; clear hi
            refine op_val (d := 74) (v := .int .i64 (O + A * D)) rfl rfl rfl (by go_simp; try rfl) ?_
            simp only [Act.put, List.setIfInBounds_toArray, List.set_cons_zero, List.set_cons_succ]
            refine ⟨KT, wpAnyH_all (rs := [15]) (by kernel_rfl) (by simp) ?_⟩
            intro i hi; obtain rfl := List.mem_singleton.1 hi; clear hi
            refine op_val (d := 75) (v := .int .i64 ((O + A * D) % 998244353)) rfl rfl rfl (by go_simp; try rfl) ?_
            simp only [Act.put, List.setIfInBounds_toArray, List.set_cons_zero, List.set_cons_succ]
            refine ⟨KT, wpAnyH_all (rs := [16]) (by kernel_rfl) (by simp) ?_⟩
            intro i hi; obtain rfl := List.mem_singleton.1 hi; clear hi
            refine op_val (d := 76) (v := .pointer (some ⟨gs, x, none⟩)) rfl rfl rfl (by go_simp; try rfl) ?_
            simp only [Act.put, List.setIfInBounds_toArray, List.set_cons_zero, List.set_cons_succ]
            refine ⟨KT, wpAnyH_all (rs := [17]) (by kernel_rfl) (by simp) ?_⟩
            intro i hi; obtain rfl := List.mem_singleton.1 hi; clear hi
            refine op_skipN rfl rfl (w' := (wr.drewN q4).setCell ⟨gs, x, none⟩ (.int .i64 ((O + A * D) % 998244353))) (by go_simp; try rfl) ?_
            refine ⟨KA.of (KT.2.setCell (Nat.le_refl _) _), wpAnyH_done (by kernel_rfl) (NoPanic.normal ?_) _⟩
            have HN : Hid (MiS w ((wr.drewN q4).setCell ⟨gs, x, none⟩ (.int .i64 ((O + A * D) % 998244353))) gp gs n (smK mk bk ss n x (j + 1))) := by
              unfold Hid
              rw [← smK_set hltx, ← HV.out]
              exact (hQ.out.drewN q4).put x _
            clear KT hS hq4 hQ HA HD hcO hfO hxS
            go_wp2
            go_roundw
            case rel => exact ⟨j + 1, by omega, by go_num, HN.out⟩
            case measure => simp [intOf]; omega
          · obtain rfl := List.mem_singleton.1 hi
            clear hi
            refine op_call (d := 72) rfl rfl rfl (by go_simp) ((HD.out _ (by simp)).mono ?_)
            rintro e w4 ⟨rfl, m4, rfl⟩
            have KT : KA gs (wr.drewN m3) ((wr.drewN (m3 + 1)).drewN m4) := KA.of (below_drewN hS.2 m4)
            refine ⟨_, rfl, KT, ?_⟩
            simp only [Act.put, List.setIfInBounds_toArray, List.set_cons_zero, List.set_cons_succ]
            obtain ⟨q4, hq4⟩ : ∃ q, (wr.drewN (m3 + 1)).drewN m4 = wr.drewN q := ⟨m3 + 1 + m4, by simp⟩
            rw [hq4] at KT ⊢
            have hS := KT
            refine fl_takeA (i := 13) (d := 73) (v := .int .i64 (A * D)) rfl rfl rfl (by kernel_rfl) (by kernel_rfl) (by kernel_rfl) hS ?_ ?_
            · intro w' hk; unfold KA at hk; go_simp
            simp only [Act.put, List.setIfInBounds_toArray, List.set_cons_zero, List.set_cons_succ]
            refine wpAnyH_all (rs := [5]) (by kernel_rfl) (by simp) ?_
            intro i hi; obtain rfl := List.mem_singleton.1 hi; clear hi
            refine op_val (d := 65) (v := .int .i64 O) rfl rfl rfl (by go_simp; try rfl) ?_
            refine ⟨KT, ?_⟩
            simp only [Act.put, List.setIfInBounds_toArray, List.set_cons_zero, List.set_cons_succ]
            refine wpAnyH_all (rs := [14]) (by kernel_rfl) (by simp) ?_
            intro i hi; obtain rfl := List.mem_singleton.1 hi; clear hi
            refine op_val (d := 74) (v := .int .i64 (O + A * D)) rfl rfl rfl (by go_simp; try rfl) ?_
            simp only [Act.put, List.setIfInBounds_toArray, List.set_cons_zero, List.set_cons_succ]
            refine ⟨KT, wpAnyH_all (rs := [15]) (by kernel_rfl) (by simp) ?_⟩
            intro i hi; obtain rfl := List.mem_singleton.1 hi; clear hi
            refine op_val (d := 75) (v := .int .i64 ((O + A * D) % 998244353)) rfl rfl rfl (by go_simp; try rfl) ?_
            simp only [Act.put, List.setIfInBounds_toArray, List.set_cons_zero, List.set_cons_succ]
            refine ⟨KT, wpAnyH_all (rs := [16]) (by kernel_rfl) (by simp) ?_⟩
            intro i hi; obtain rfl := List.mem_singleton.1 hi; clear hi
            refine op_val (d := 76) (v := .pointer (some ⟨gs, x, none⟩)) rfl rfl rfl (by go_simp; try rfl) ?_
            simp only [Act.put, List.setIfInBounds_toArray, List.set_cons_zero, List.set_cons_succ]
            refine ⟨KT, wpAnyH_all (rs := [17]) (by kernel_rfl) (by simp) ?_⟩
            intro i hi; obtain rfl := List.mem_singleton.1 hi; clear hi
            refine op_skipN rfl rfl (w' := (wr.drewN q4).setCell ⟨gs, x, none⟩ (.int .i64 ((O + A * D) % 998244353))) (by go_simp; try rfl) ?_
            refine ⟨KA.of (KT.2.setCell (Nat.le_refl _) _), wpAnyH_done (by kernel_rfl) (NoPanic.normal ?_) _⟩
            have HN : Hid (MiS w ((wr.drewN q4).setCell ⟨gs, x, none⟩ (.int .i64 ((O + A * D) % 998244353))) gp gs n (smK mk bk ss n x (j + 1))) := by
              unfold Hid
              rw [← smK_set hltx, ← HV.out]
              exact (hQ.out.drewN q4).put x _
            clear KT hS hq4 hQ HA HD hcO hfO hxS
            go_wp2
            go_roundw
            case rel => exact ⟨j + 1, by omega, by go_num, HN.out⟩
            case measure => simp [intOf]; omega
        · have bj : ¬ (j : Int) < (l : Int) := by omega
          have HN : Hid (MiS w wr gp gs n (smK mk bk ss n (x + 1) 0)) := by
            unfold Hid
            rw [← smK_next, ← H.out.2.2.2.2, show l = j by omega]
            exact hQ.out
          clear hQ
          go_wp2
          go_roundw
          case rel => exact ⟨x + 1, by omega, by go_num, HN.out⟩
          case measure => simp [intOf]; omega
    · have bx : ¬ (x : Int) < (n : Int) := by omega
      have HN : Hid (MiS w wr gp gs n (miK mk bk ss)) := by
        unfold Hid
        have h := hR.out
        rw [show x = mk.length by have := H.out.2.2.2.1; omega] at h
        have hm := H.out.2.2.2.1
        subst hm
        rw [smK_done] at h
        exact h
      have r0 : wr.cell? ⟨w.heap.size, 0, none⟩ = some (.int .i64 0) := by simp [World.cell?, HN.out.rs]
      have r1 : wr.cell? ⟨w.heap.size, 1, none⟩ = some (.slice none 0 0) := by simp [World.cell?, HN.out.rs]
      have rf0 : wr.frozen? ⟨w.heap.size, 0, none⟩ = false := by simp [World.frozen?, HN.out.rs]
      have rf1 : wr.frozen? ⟨w.heap.size, 1, none⟩ = false := by simp [World.frozen?, HN.out.rs]
      clear hR
      go_wp2
      try simp only [Exit.inBlock, Exit.then]
      refine bodyPost_ret (by simp [results, Try.results10, go_sem, r0, r1]; try rfl) rfl ⟨gs, rfl, ?_, ?_⟩
      · have hord := HN.out.ord
        refine (HN.out.su.low (show w.heap.size ≤ gs by omega)).kept fun g hg => ?_
        injection hg with hg
        have hg' : gs = g := hg
        rw [heap_setCell_other _ _ _ _ (by simp; omega), heap_setCell_other _ _ _ _ (by simp; omega)]
      · have hB := HN.out.bl
        (repeat' (first | (with_reducible exact Below.refl _ _) | (with_reducible assumption) | (with_reducible refine Below.setCell ?_ ?_ _) | (with_reducible refine Below.alloc ?_ ?_ _) | (with_reducible refine below_drewN ?_ _) | (with_reducible refine Below.drew ?_) | (with_reducible exact Nat.le_refl _) | omega | (simp; done) | (simp; omega)))

def miL (mk bk ss : List Int) : List Int := if miC mk.length bk.length ss.length = 0 then miK mk bk ss else []

/-- The program's ModImage: a code and a list in memory of its own. -/
theorem impl_mi {al ab aS : Option Addr} {n cl m cb l cs : Nat} {w : World} {mk bk ss : List Int} (hn : n ≤ 1048576) (hm : RdI w (.slice al n cl) mk) (hb : RdI w (.slice ab m cb) bk) (hs : RdI w (.slice aS l cs) ss) :
    Calls Try.prog 10 #[.slice al n cl, .slice ab m cb, .slice aS l cs] w fun e w' => ∃ v, e = .returned (.agg #[.int .i64 (miC mk.length bk.length ss.length), v]) ∧ IS w' w.heap.size v (miL mk bk ss) ∧ Below w.heap.size w w' := by
  have e1 := hm.len
  have e2 := hb.len
  have e3 := hs.len
  unfold miL
  rw [← e1, ← e2, ← e3]
  by_cases h : badN n m
  · have hc : miC n m l = 1 := by unfold miC; rw [if_pos h]
    rw [hc]
    refine (impl_mi_form w hn h).mono ?_
    rintro e w' ⟨rfl, hb⟩
    exact ⟨_, rfl, World.ownsRow_nil _ _ _ _, hb⟩
  by_cases h2 : 32 < n ∨ 12 < l
  · have hc : miC n m l = 2 := by unfold miC; rw [if_neg h, if_pos h2]
    rw [hc]
    refine (impl_mi_many w hn h h2).mono ?_
    rintro e w' ⟨rfl, hb⟩
    exact ⟨_, rfl, World.ownsRow_nil _ _ _ _, hb⟩
  · have hc : miC n m l = 0 := by unfold miC; rw [if_neg h, if_neg h2]
    rw [hc]
    obtain rfl : m = n := by unfold badN at h; exact Classical.not_not.1 fun e => h (Or.inr (Or.inr e))
    refine (impl_mi_ok h (by omega) (by omega) hm hb hs).mono ?_
    rintro e w' ⟨g, rfl, h3, h4⟩
    exact ⟨_, rfl, by simpa using h3, h4⟩

end Go.Proofs.Ytcplddblfhbejaa
