/- Proved here: the model's l7Add and l7Orders, by value. -/
import Derived.Test.YtgaabcgdfbgchaaOrM
import Derived.Test.YtgaabcgdfbgchaaTrS
namespace Go.Proofs.Ytgaabcgdfbgchaa
open Go.RowKit
set_option linter.unusedVariables false
set_option linter.unusedSimpArgs false

set_option maxHeartbeats 1600000 in
theorem spec_add (a b : Zf) (w : World) :
    Calls Try.prog 77 #[.agg #[.float .f64 a.re, .float .f64 a.im], .agg #[.float .f64 b.re, .float .f64 b.im]] w fun e w' => ∃ z : Zf, e = .returned (.agg #[.float .f64 z.re, .float .f64 z.im]) ∧ z.v = addV a.v b.v ∧ Below w.heap.size w w' := by
  go_enter Try.func77, Try.ntmps77
  go_wp2
  go_returns
  refine zret rfl ⟨?_, by (repeat' (first | (with_reducible exact Below.refl _ _) | (with_reducible assumption) | (with_reducible refine Below.setCell ?_ ?_ _) | (with_reducible refine Below.alloc ?_ ?_ _) | (with_reducible refine below_drewN ?_ _) | (with_reducible refine Below.drew ?_) | (with_reducible exact Nat.le_refl _) | omega | (simp; done) | (simp; omega)))⟩
  simp only [Zf.v, addV, fv_fres]

/-- The list under way. -/
def otK (ms : List Zv) (n k : Nat) : List Zv := (List.range k).map fun j => orK ms n j n
theorem otK_succ (ms : List Zv) (n k : Nat) : otK ms n (k + 1) = otK ms n k ++ [orK ms n k n] := by simp [otK, List.range_succ]
theorem otK_len (ms : List Zv) (n k : Nat) : (otK ms n k).length = k := by simp [otK]

set_option maxRecDepth 10000 in
set_option maxHeartbeats 12800000 in
theorem spec_orders {w : World} {a ra : Option Addr} {n c rc : Nat} {mk : List Zf} (hm : RZs w (.slice a n c) mk) (hr : RZs w (.slice ra 20 rc) (rzK 20)) (h1 : 1 ≤ n) (h2 : n ≤ 24) :
    Calls Try.prog 44 #[.slice a n c, .slice ra 20 rc] w fun e w' => ∃ v zs, e = .returned v ∧ OZs w' w.heap.size v zs ∧ zs.map Zf.v = orL (mk.map Zf.v) ∧ Below w.heap.size w w' := by
  have hml : n = mk.length := hm.len
  obtain ⟨ms, hms⟩ : ∃ ms, ms = mk.map Zf.v := ⟨_, rfl⟩
  have H : Hid (RZs w (.slice a n c) mk ∧ RZs w (.slice ra 20 rc) (rzK 20) ∧ n = mk.length ∧ ms = mk.map Zf.v ∧ n = ms.length) := ⟨hm, hr, hml, hms, by rw [hms, List.length_map]; exact hml⟩
  rw [← hms]
  clear hm hml hms hr
  obtain ⟨i0, hi, hz0, hz1, hz2⟩ := info_parts info_z
  have hnN : ¬ n = 0 := by omega
  have hn0 : ((n : Int) == 0) = false := by simp; omega
  have hn1 : ¬ (n : Int) = 0 := by omega
  go_enter Try.func44, Try.ntmps44
  go_wp2
  go_loopw [6, 7] (fun o i wr => ∃ (k : Nat) (v : Value), k ≤ n ∧ v = o ∧ i = .int .i64 k ∧ Hid (∃ zs, OZs wr w.heap.size v zs ∧ zs.map Zf.v = otK ms n k ∧ Below w.heap.size w wr)) (fun _ i _ => n - (intOf i).toNat)
  case atStart =>
    refine ⟨0, _, Nat.zero_le _, rfl, rfl, [], ?_, rfl, by (repeat' (first | (with_reducible exact Below.refl _ _) | (with_reducible assumption) | (with_reducible refine Below.setCell ?_ ?_ _) | (with_reducible refine Below.alloc ?_ ?_ _) | (with_reducible refine below_drewN ?_ _) | (with_reducible refine Below.drew ?_) | (with_reducible exact Nat.le_refl _) | omega | (simp; done) | (simp; omega)))⟩
    have := World.ownsRow_lit (e := 24) (size := 2) (base := w.heap.size) w #[] 0 (Nat.le_refl _) (by decide) (by simp)
    exact this
  case round =>
    obtain ⟨k, v, hk, rfl, rfl, hR⟩ := hrel
    by_cases hltk : k < n
    · have bk : (k : Int) < (n : Int) := by omega
      have bk0 : (0 : Int) ≤ (k : Int) := by omega
      go_wp2
      obtain ⟨wo, hwo⟩ : ∃ wo, wo = wr.alloc (.cells #[.float .f64 0, .float .f64 0] 24) := ⟨_, rfl⟩
      have HRo : Hid (∃ zs, OZs wo w.heap.size v zs ∧ zs.map Zf.v = otK ms n k ∧ Below w.heap.size w wo) := by
        obtain ⟨zs, a1, a2, a3⟩ := hR.out
        unfold Hid
        rw [hwo]
        exact ⟨zs, OG.below a1 (by (repeat' (first | (with_reducible exact Below.refl _ _) | (with_reducible assumption) | (with_reducible refine Below.setCell ?_ ?_ _) | (with_reducible refine Below.alloc ?_ ?_ _) | (with_reducible refine below_drewN ?_ _) | (with_reducible refine Below.drew ?_) | (with_reducible exact Nat.le_refl _) | omega | (simp; done) | (simp; omega)))), a2, a3.alloc a3.size _⟩
      obtain ⟨g8, hg⟩ : ∃ g, g = wr.heap.size := ⟨_, rfl⟩
      have hw8 : w.heap.size ≤ g8 := by rw [hg]; obtain ⟨zs, a1, a2, a3⟩ := hR.out; exact a3.size
      have hv8 : Hid (∀ q, v.ownBlock = some q → q < g8) := by
        obtain ⟨zs, a1, a2, a3⟩ := hR.out
        intro q hq
        rw [hg]
        exact (OG.lt a1 q hq).2
      have h08 : wo.heap[g8]? = some (.cells #[.float .f64 0, .float .f64 0] 24) := by rw [hwo, hg]; exact heap_alloc_new _ _
      have hs8 : wo.heap.size = g8 + 1 := by rw [hwo, hg]; simp
      have H8 : Hid (wo.heap[g8]? = some (.cells #[.float .f64 0, .float .f64 0] 24) ∧ wo.heap.size = g8 + 1) := ⟨h08, hs8⟩
      rw [← hwo, ← hg]
      clear hR hwo hg h08 hs8
      go_loopw [9] (fun i wv => ∃ (x : Nat) (O : Zf), x ≤ n ∧ i = .int .i64 x ∧ Hid (O.v = orK ms n k x ∧ wv.heap[g8]? = some (.cells #[.float .f64 O.re, .float .f64 O.im] 24) ∧ Below g8 wo wv)) (fun i _ => n - (intOf i).toNat)
      case atStart => exact ⟨0, ⟨0, 0⟩, Nat.zero_le _, rfl, rfl, H8.out.1, Below.refl _ _⟩
      case round =>
        obtain ⟨x, O, hx, rfl, hQ⟩ := hrel
        have u0 := hQ.out.2.1
        obtain ⟨cu0, cu1, fu, lu⟩ := z_two u0
        have hg8 : g8 < wr.heap.size := lu
        by_cases hltx : x < n
        · have bx : (x : Int) < (n : Int) := by omega
          have bx0 : (0 : Int) ≤ (x : Int) := by omega
          have HBw : Hid (Below w.heap.size w wr) := by
            obtain ⟨zs, a1, a2, a3⟩ := HRo.out
            exact a3.trans (hQ.out.2.2.mono hw8)
          have HRZ : Hid (∀ W, Below wr.heap.size wr W → RZs W (.slice ra 20 rc) (rzK 20)) := fun W hW => H.out.2.1.below (HBw.out.trans (hW.mono HBw.out.size))
          obtain ⟨gm, om, M, ham, hgm, hM, cm0, cm1⟩ := rz_at (H.out.1.below HBw.out) hltx
          have hgm8 : gm < g8 := by
            obtain ⟨g2, o2, y2, ha2, hg2, _⟩ := rz_at H.out.1 hltx
            rw [ham] at ha2
            injection ha2 with ha2
            injection ha2 with ha2
            omega
          subst ham
          obtain ⟨E, hE⟩ : ∃ E, E = k * x % n := ⟨_, rfl⟩
          have hEn : E < n := by rw [hE]; exact Nat.mod_lt _ (by omega)
          have hkx : k * x ≤ 24 * 24 := Nat.mul_le_mul (by omega) (by omega)
          have e1 : IntKind.i64.wrap ((k : Int) * (x : Int)) = (k : Int) * (x : Int) := by
            have h3 : (k : Int) * (x : Int) = ((k * x : Nat) : Int) := by simp
            rw [h3, IntKind.wrap_i64]; omega
          have e2 : ((k : Int) * (x : Int)) % (n : Int) = (E : Int) := by rw [hE]; simp
          have e2' : ((k : Int) * (x : Int)).tmod (n : Int) = (E : Int) := by rw [Int.tmod_eq_emod_of_nonneg (Int.mul_nonneg bk0 bx0)]; exact e2
          obtain ⟨pE, hpE⟩ : ∃ p, p = prt n E := ⟨_, rfl⟩
          have hpb : 0 ≤ pE ∧ pE ≤ 1048576 := by rw [hpE]; exact prt_bd hEn h2
          have e3 : IntKind.i64.wrap ((E : Int) * 1048576) = (E : Int) * 1048576 := by rw [IntKind.wrap_i64]; omega
          have e4 : ((E : Int) * 1048576).tdiv n = pE := by rw [hpE, Int.tdiv_eq_ediv_of_nonneg (by omega)]; rfl
          have e4' : ((E : Int) * 1048576) / (n : Int) = pE := by rw [hpE]; rfl
          have e5 : IntKind.i64.wrap pE = pE := by rw [IntKind.wrap_i64]; omega
          have e6 : IntKind.i64.wrap (-pE) = -pE := by rw [IntKind.wrap_i64]; omega
          have HOv : Hid (O.v = orK ms n k x) := hQ.out.1
          have HMv : Hid (ms.getD x z0V = M.v ∧ trV (-pE) = trV (-prt n (k * x % n))) := by
            refine ⟨?_, by rw [hpE, hE]⟩
            rw [H.out.2.2.2.1, List.getD_eq_getElem?_getD, List.getElem?_map, hM]; rfl
          have HB8 : Hid (Below g8 wo wr) := hQ.out.2.2
          clear hE hM hkx hpE hQ
          go_wp2_with (fail)
          refine wp_region_holdsA (S := KA g8 wr) (by kernel_rfl) (KA.of ((Below.refl _ _).drew)) (fun hS => ?_)
          refine fl_takeA (i := 1) (d := 25) (v := .slice (some ⟨gm, om, none⟩) n c) rfl rfl rfl (by kernel_rfl) (by kernel_rfl) (by kernel_rfl) hS ?_ ?_
          · intro w' hk; unfold KA at hk; go_simp
          simp only [Act.put, List.setIfInBounds_toArray, List.set_cons_zero, List.set_cons_succ]
          refine fl_takeA (i := 2) (d := 26) (v := .int .i64 x) rfl rfl rfl (by kernel_rfl) (by kernel_rfl) (by kernel_rfl) hS ?_ ?_
          · intro w' hk; unfold KA at hk; go_simp
          simp only [Act.put, List.setIfInBounds_toArray, List.set_cons_zero, List.set_cons_succ]
          refine fl_takeA (i := 3) (d := 27) (v := .pointer (some ⟨gm, om + x * 2, none⟩)) rfl rfl rfl (by kernel_rfl) (by kernel_rfl) (by kernel_rfl) hS ?_ ?_
          · intro w' hk; unfold KA at hk; go_simp
          simp only [Act.put, List.setIfInBounds_toArray, List.set_cons_zero, List.set_cons_succ]
          refine fl_takeA (i := 4) (d := 28) (v := .agg #[.float .f64 M.re, .float .f64 M.im]) rfl rfl rfl (by kernel_rfl) (by kernel_rfl) (by kernel_rfl) hS ?_ ?_
          · intro w' hk; unfold KA at hk; go_simp
          simp only [Act.put, List.setIfInBounds_toArray, List.set_cons_zero, List.set_cons_succ]
          refine fl_takeA (i := 5) (d := 29) (v := .int .i64 k) rfl rfl rfl (by kernel_rfl) (by kernel_rfl) (by kernel_rfl) hS ?_ ?_
          · intro w' hk; unfold KA at hk; go_simp
          simp only [Act.put, List.setIfInBounds_toArray, List.set_cons_zero, List.set_cons_succ]
          refine fl_takeA (i := 6) (d := 30) (v := .int .i64 x) rfl rfl rfl (by kernel_rfl) (by kernel_rfl) (by kernel_rfl) hS ?_ ?_
          · intro w' hk; unfold KA at hk; go_simp
          simp only [Act.put, List.setIfInBounds_toArray, List.set_cons_zero, List.set_cons_succ]
          refine fl_takeA (i := 7) (d := 31) (v := .int .i64 ((k : Int) * (x : Int))) rfl rfl rfl (by kernel_rfl) (by kernel_rfl) (by kernel_rfl) hS ?_ ?_
          · intro w' hk; unfold KA at hk; go_simp
          simp only [Act.put, List.setIfInBounds_toArray, List.set_cons_zero, List.set_cons_succ]
          refine fl_takeA (i := 8) (d := 32) (v := .int .i64 n) rfl rfl rfl (by kernel_rfl) (by kernel_rfl) (by kernel_rfl) hS ?_ ?_
          · intro w' hk; unfold KA at hk; go_simp
          simp only [Act.put, List.setIfInBounds_toArray, List.set_cons_zero, List.set_cons_succ]
          refine fl_takeA (i := 9) (d := 33) (v := .int .i64 E) rfl rfl rfl (by kernel_rfl) (by kernel_rfl) (by kernel_rfl) hS ?_ ?_
          · intro w' hk; unfold KA at hk; go_simp
          simp only [Act.put, List.setIfInBounds_toArray, List.set_cons_zero, List.set_cons_succ]
          refine fl_takeA (i := 10) (d := 34) (v := .int .i64 ((E : Int) * 1048576)) rfl rfl rfl (by kernel_rfl) (by kernel_rfl) (by kernel_rfl) hS ?_ ?_
          · intro w' hk; unfold KA at hk; go_simp
          simp only [Act.put, List.setIfInBounds_toArray, List.set_cons_zero, List.set_cons_succ]
          refine fl_takeA (i := 11) (d := 35) (v := .int .i64 n) rfl rfl rfl (by kernel_rfl) (by kernel_rfl) (by kernel_rfl) hS ?_ ?_
          · intro w' hk; unfold KA at hk; go_simp
          simp only [Act.put, List.setIfInBounds_toArray, List.set_cons_zero, List.set_cons_succ]
          refine fl_takeA (i := 12) (d := 36) (v := .int .i64 pE) rfl rfl rfl (by kernel_rfl) (by kernel_rfl) (by kernel_rfl) hS ?_ ?_
          · intro w' hk; unfold KA at hk; go_simp
          simp only [Act.put, List.setIfInBounds_toArray, List.set_cons_zero, List.set_cons_succ]
          refine fl_takeA (i := 13) (d := 37) (v := .int .i64 (-pE)) rfl rfl rfl (by kernel_rfl) (by kernel_rfl) (by kernel_rfl) hS ?_ ?_
          · intro w' hk; unfold KA at hk; go_simp
          simp only [Act.put, List.setIfInBounds_toArray, List.set_cons_zero, List.set_cons_succ]
          refine fl_takeA (i := 14) (d := 38) (v := .slice ra 20 rc) rfl rfl rfl (by kernel_rfl) (by kernel_rfl) (by kernel_rfl) hS ?_ ?_
          · intro w' hk; unfold KA at hk; go_simp
          simp only [Act.put, List.setIfInBounds_toArray, List.set_cons_zero, List.set_cons_succ]
          refine wpAnyH_all (rs := [0, 15]) (by kernel_rfl) (by simp) ?_
          intro i hi
          rcases List.mem_cons.1 hi with rfl | hi
          · clear hi
            refine op_val (d := 24) (v := .agg #[.float .f64 O.re, .float .f64 O.im]) (w' := wr.drew) rfl rfl rfl (by go_simp; try rfl) ?_
            simp only [Act.put, List.setIfInBounds_toArray, List.set_cons_zero, List.set_cons_succ]
            refine ⟨hS, wpAnyH_all (rs := [15]) (by kernel_rfl) (by simp) ?_⟩
            intro i hi; obtain rfl := List.mem_singleton.1 hi; clear hi
            refine op_call (d := 39) rfl rfl rfl (by go_simp) ((spec_turn (-pE) (HRZ.out _ ((Below.refl wr.heap.size wr).drew))).mono ?_)
            rintro e w4 ⟨T, rfl, hT, hb4⟩
            have B4 : Below wr.heap.size wr w4 := Below.trans ((Below.refl wr.heap.size wr).drew) (hb4.mono (by simp))
            obtain ⟨c4, d4, f4, l4⟩ := z_two ((B4.block _ hg8).trans u0)
            refine ⟨_, rfl, KA.of (B4.mono (Nat.le_of_lt hg8)), ?_⟩
            simp only [Act.put, List.setIfInBounds_toArray, List.set_cons_zero, List.set_cons_succ]
            refine wpAnyH_all (rs := [16]) (by kernel_rfl) (by simp) ?_
            intro i hi; obtain rfl := List.mem_singleton.1 hi; clear hi
            refine op_call (d := 40) rfl rfl rfl (by go_simp) ((spec_mul M T _).mono ?_)
            rintro e w5 ⟨Y, rfl, hY, hb5⟩
            have B5 : Below wr.heap.size wr w5 := B4.trans (hb5.mono B4.size)
            obtain ⟨c5, d5, f5, l5⟩ := z_two ((B5.block _ hg8).trans u0)
            refine ⟨_, rfl, KA.of (B5.mono (Nat.le_of_lt hg8)), ?_⟩
            simp only [Act.put, List.setIfInBounds_toArray, List.set_cons_zero, List.set_cons_succ]
            refine wpAnyH_all (rs := [17]) (by kernel_rfl) (by simp) ?_
            intro i hi; obtain rfl := List.mem_singleton.1 hi; clear hi
            refine op_call (d := 41) rfl rfl rfl (by go_simp) ((spec_add O Y _).mono ?_)
            rintro e w7 ⟨S, rfl, hSv, hb7⟩
            have B7 : Below wr.heap.size wr w7 := B5.trans (hb7.mono B5.size)
            have g7 := (B7.block _ hg8).trans u0
            refine ⟨_, rfl, KA.of (B7.mono (Nat.le_of_lt hg8)), ?_⟩
            simp only [Act.put, List.setIfInBounds_toArray, List.set_cons_zero, List.set_cons_succ]
            refine wpAnyH_all (rs := [18]) (by kernel_rfl) (by simp) ?_
            intro i hi; obtain rfl := List.mem_singleton.1 hi; clear hi
            refine op_store rfl rfl rfl 24 _ _ rfl g8 #[.float .f64 S.re, .float .f64 S.im] (by go_simp) (by go_simp) (there_two g7) (by kernel_rfl) (by simp [Value.oneCell']) ?_
            have B8 := below_setCells g8 (Nat.le_refl _) [.float .f64 S.re, .float .f64 S.im] 0 _ (B7.mono (Nat.le_of_lt hg8))
            refine ⟨KA.of B8, wpAnyH_done (by kernel_rfl) (NoPanic.normal ?_) _⟩
            have s0 := heap_setCell_same _ _ 0 _ _ (.float .f64 S.re) g7
            have s1 := heap_setCell_same _ _ 1 _ _ (.float .f64 S.im) s0
            have s2 : (w7.setCells g8 0 [.float .f64 S.re, .float .f64 S.im]).heap[g8]? = some (.cells #[.float .f64 S.re, .float .f64 S.im] 24) := by simpa [World.setCells] using s1
            have HN : Hid (S.v = orK ms n k (x + 1) ∧ (w7.setCells g8 0 [.float .f64 S.re, .float .f64 S.im]).heap[g8]? = some (.cells #[.float .f64 S.re, .float .f64 S.im] 24) ∧ Below g8 wo (w7.setCells g8 0 [.float .f64 S.re, .float .f64 S.im])) :=
              ⟨by rw [orK, HMv.out.1, ← HMv.out.2, ← HOv.out, ← hT, ← hY, hSv], s2, HB8.out.trans B8⟩
            generalize w7.setCells g8 0 [.float .f64 S.re, .float .f64 S.im] = V' at HN ⊢
            clear s0 s1 s2 B8 B7 g7 hS HOv HMv u0 cu0 cu1 fu lu
            go_wp2
            go_roundw
            case rel => exact ⟨x + 1, S, by omega, by go_num, HN.out⟩
            case measure => simp [intOf]; omega
          · obtain rfl := List.mem_singleton.1 hi
            clear hi
            refine op_call (d := 39) rfl rfl rfl (by go_simp) ((spec_turn (-pE) (HRZ.out _ ((Below.refl wr.heap.size wr).drew))).mono ?_)
            rintro e w4 ⟨T, rfl, hT, hb4⟩
            have B4 : Below wr.heap.size wr w4 := Below.trans ((Below.refl wr.heap.size wr).drew) (hb4.mono (by simp))
            obtain ⟨c4, d4, f4, l4⟩ := z_two ((B4.block _ hg8).trans u0)
            refine ⟨_, rfl, KA.of (B4.mono (Nat.le_of_lt hg8)), ?_⟩
            simp only [Act.put, List.setIfInBounds_toArray, List.set_cons_zero, List.set_cons_succ]
            refine wpAnyH_all (rs := [0, 16]) (by kernel_rfl) (by simp) ?_
            intro i hi
            rcases List.mem_cons.1 hi with rfl | hi
            · clear hi
              refine op_val (d := 24) (v := .agg #[.float .f64 O.re, .float .f64 O.im]) (w' := w4) rfl rfl rfl (by go_simp; try rfl) ?_
              simp only [Act.put, List.setIfInBounds_toArray, List.set_cons_zero, List.set_cons_succ]
              refine ⟨KA.of (B4.mono (Nat.le_of_lt hg8)), wpAnyH_all (rs := [16]) (by kernel_rfl) (by simp) ?_⟩
              intro i hi; obtain rfl := List.mem_singleton.1 hi; clear hi
              refine op_call (d := 40) rfl rfl rfl (by go_simp) ((spec_mul M T _).mono ?_)
              rintro e w5 ⟨Y, rfl, hY, hb5⟩
              have B5 : Below wr.heap.size wr w5 := B4.trans (hb5.mono B4.size)
              obtain ⟨c5, d5, f5, l5⟩ := z_two ((B5.block _ hg8).trans u0)
              refine ⟨_, rfl, KA.of (B5.mono (Nat.le_of_lt hg8)), ?_⟩
              simp only [Act.put, List.setIfInBounds_toArray, List.set_cons_zero, List.set_cons_succ]
              refine wpAnyH_all (rs := [17]) (by kernel_rfl) (by simp) ?_
              intro i hi; obtain rfl := List.mem_singleton.1 hi; clear hi
              refine op_call (d := 41) rfl rfl rfl (by go_simp) ((spec_add O Y _).mono ?_)
              rintro e w7 ⟨S, rfl, hSv, hb7⟩
              have B7 : Below wr.heap.size wr w7 := B5.trans (hb7.mono B5.size)
              have g7 := (B7.block _ hg8).trans u0
              refine ⟨_, rfl, KA.of (B7.mono (Nat.le_of_lt hg8)), ?_⟩
              simp only [Act.put, List.setIfInBounds_toArray, List.set_cons_zero, List.set_cons_succ]
              refine wpAnyH_all (rs := [18]) (by kernel_rfl) (by simp) ?_
              intro i hi; obtain rfl := List.mem_singleton.1 hi; clear hi
              refine op_store rfl rfl rfl 24 _ _ rfl g8 #[.float .f64 S.re, .float .f64 S.im] (by go_simp) (by go_simp) (there_two g7) (by kernel_rfl) (by simp [Value.oneCell']) ?_
              have B8 := below_setCells g8 (Nat.le_refl _) [.float .f64 S.re, .float .f64 S.im] 0 _ (B7.mono (Nat.le_of_lt hg8))
              refine ⟨KA.of B8, wpAnyH_done (by kernel_rfl) (NoPanic.normal ?_) _⟩
              have s0 := heap_setCell_same _ _ 0 _ _ (.float .f64 S.re) g7
              have s1 := heap_setCell_same _ _ 1 _ _ (.float .f64 S.im) s0
              have s2 : (w7.setCells g8 0 [.float .f64 S.re, .float .f64 S.im]).heap[g8]? = some (.cells #[.float .f64 S.re, .float .f64 S.im] 24) := by simpa [World.setCells] using s1
              have HN : Hid (S.v = orK ms n k (x + 1) ∧ (w7.setCells g8 0 [.float .f64 S.re, .float .f64 S.im]).heap[g8]? = some (.cells #[.float .f64 S.re, .float .f64 S.im] 24) ∧ Below g8 wo (w7.setCells g8 0 [.float .f64 S.re, .float .f64 S.im])) :=
                ⟨by rw [orK, HMv.out.1, ← HMv.out.2, ← HOv.out, ← hT, ← hY, hSv], s2, HB8.out.trans B8⟩
              generalize w7.setCells g8 0 [.float .f64 S.re, .float .f64 S.im] = V' at HN ⊢
              clear s0 s1 s2 B8 B7 g7 hS HOv HMv u0 cu0 cu1 fu lu
              go_wp2
              go_roundw
              case rel => exact ⟨x + 1, S, by omega, by go_num, HN.out⟩
              case measure => simp [intOf]; omega
            · obtain rfl := List.mem_singleton.1 hi
              clear hi
              refine op_call (d := 40) rfl rfl rfl (by go_simp) ((spec_mul M T _).mono ?_)
              rintro e w5 ⟨Y, rfl, hY, hb5⟩
              have B5 : Below wr.heap.size wr w5 := B4.trans (hb5.mono B4.size)
              obtain ⟨c5, d5, f5, l5⟩ := z_two ((B5.block _ hg8).trans u0)
              refine ⟨_, rfl, KA.of (B5.mono (Nat.le_of_lt hg8)), ?_⟩
              simp only [Act.put, List.setIfInBounds_toArray, List.set_cons_zero, List.set_cons_succ]
              refine wpAnyH_all (rs := [0]) (by kernel_rfl) (by simp) ?_
              intro i hi; obtain rfl := List.mem_singleton.1 hi; clear hi
              refine op_val (d := 24) (v := .agg #[.float .f64 O.re, .float .f64 O.im]) (w' := w5) rfl rfl rfl (by go_simp; try rfl) ?_
              simp only [Act.put, List.setIfInBounds_toArray, List.set_cons_zero, List.set_cons_succ]
              refine ⟨KA.of (B5.mono (Nat.le_of_lt hg8)), wpAnyH_all (rs := [17]) (by kernel_rfl) (by simp) ?_⟩
              intro i hi; obtain rfl := List.mem_singleton.1 hi; clear hi
              refine op_call (d := 41) rfl rfl rfl (by go_simp) ((spec_add O Y _).mono ?_)
              rintro e w7 ⟨S, rfl, hSv, hb7⟩
              have B7 : Below wr.heap.size wr w7 := B5.trans (hb7.mono B5.size)
              have g7 := (B7.block _ hg8).trans u0
              refine ⟨_, rfl, KA.of (B7.mono (Nat.le_of_lt hg8)), ?_⟩
              simp only [Act.put, List.setIfInBounds_toArray, List.set_cons_zero, List.set_cons_succ]
              refine wpAnyH_all (rs := [18]) (by kernel_rfl) (by simp) ?_
              intro i hi; obtain rfl := List.mem_singleton.1 hi; clear hi
              refine op_store rfl rfl rfl 24 _ _ rfl g8 #[.float .f64 S.re, .float .f64 S.im] (by go_simp) (by go_simp) (there_two g7) (by kernel_rfl) (by simp [Value.oneCell']) ?_
              have B8 := below_setCells g8 (Nat.le_refl _) [.float .f64 S.re, .float .f64 S.im] 0 _ (B7.mono (Nat.le_of_lt hg8))
              refine ⟨KA.of B8, wpAnyH_done (by kernel_rfl) (NoPanic.normal ?_) _⟩
              have s0 := heap_setCell_same _ _ 0 _ _ (.float .f64 S.re) g7
              have s1 := heap_setCell_same _ _ 1 _ _ (.float .f64 S.im) s0
              have s2 : (w7.setCells g8 0 [.float .f64 S.re, .float .f64 S.im]).heap[g8]? = some (.cells #[.float .f64 S.re, .float .f64 S.im] 24) := by simpa [World.setCells] using s1
              have HN : Hid (S.v = orK ms n k (x + 1) ∧ (w7.setCells g8 0 [.float .f64 S.re, .float .f64 S.im]).heap[g8]? = some (.cells #[.float .f64 S.re, .float .f64 S.im] 24) ∧ Below g8 wo (w7.setCells g8 0 [.float .f64 S.re, .float .f64 S.im])) :=
                ⟨by rw [orK, HMv.out.1, ← HMv.out.2, ← HOv.out, ← hT, ← hY, hSv], s2, HB8.out.trans B8⟩
              generalize w7.setCells g8 0 [.float .f64 S.re, .float .f64 S.im] = V' at HN ⊢
              clear s0 s1 s2 B8 B7 g7 hS HOv HMv u0 cu0 cu1 fu lu
              go_wp2
              go_roundw
              case rel => exact ⟨x + 1, S, by omega, by go_num, HN.out⟩
              case measure => simp [intOf]; omega
        · have bx : ¬ (x : Int) < (n : Int) := by omega
          have HST : Hid (otK ms n (k + 1) = otK ms n k ++ [O.v]) := by
            unfold Hid
            rw [otK_succ, hQ.out.1, show x = n by omega]
          obtain ⟨zs, a1, a2, a3⟩ := HRo.out
          have HZ : Hid (OZs wr w.heap.size v zs ∧ zs.map Zf.v = otK ms n k ∧ zs.length = k ∧ Below w.heap.size w wr) := by
            have hk : ∀ q, v.ownBlock = some q → wr.heap[q]? = wo.heap[q]? := fun q hq => hQ.out.2.2.block q (hv8.out q hq)
            refine ⟨⟨a1.1, ?_⟩, a2, by have h3 := congrArg List.length a2; rw [List.length_map, otK_len] at h3; exact h3, a3.trans (hQ.out.2.2.mono hw8)⟩
            rcases a1.2 with hh | ⟨g, cap, cu, f1, f2, f3, f4⟩
            · exact Or.inl hh
            · refine Or.inr ⟨g, cap, cu, f1, f2, ?_, f4⟩
              rw [hk g (by rw [f1]; rfl)]
              exact f3
          clear a1 a2 a3 HRo
          obtain ⟨va, vc, hvf⟩ := HZ.out.1.rg.form
          rw [HZ.out.2.2.1] at hvf
          subst hvf
          have HOW : Hid (wr.ownsRow w.heap.size 24 2 (.slice va k vc) k (zs.flatMap zC)) := by
            have h3 := HZ.out.1
            unfold OZs OG at h3
            rw [HZ.out.2.2.1] at h3
            exact h3
          clear hQ
          go_wp2_with (at_builtin; refine wpList_append_own _ rfl _ _ 30 rfl w.heap.size 24 i0 (.agg #[.float .f64 0, .float .f64 0]) 2 16 Try.underlying30 hi hz0 hz1 hz2 rfl (by decide) _ _ _ rfl (World.ownsRow.alloc HOW.out _) ⟨wr.heap.size, 0, none⟩ 1 1 [.float .f64 O.re, .float .f64 O.im] rfl rfl (World.news_of_block (cs := #[.float .f64 O.re, .float .f64 O.im]) (t := 24) (fr := (0, 0)) (heap_alloc_new wr _)) (by simp [Value.oneCell']) (by unfold maxLen; omega) (by omega) (by simp; omega) ?_; intro v6 w6 hown6 hgrow6 _)
          have R6 : Hid (∃ zs, OZs w6 w.heap.size v6 zs ∧ zs.map Zf.v = otK ms n (k + 1) ∧ Below w.heap.size w w6) := by
            refine ⟨zs ++ [O], OZs.snoc (by rw [HZ.out.2.2.1]; exact hown6), by rw [List.map_append, HZ.out.2.1, HST.out]; rfl, ?_⟩
            exact (HZ.out.2.2.2.alloc HZ.out.2.2.2.size _).grown hgrow6 (by simp; omega) (fun q hq => (OG.lt HZ.out.1 q hq).1)
          clear hown6 hgrow6 HOW HZ HST cu0 cu1 fu lu u0
          go_wp2
          go_roundw
          case rel => exact ⟨k + 1, v6, by omega, rfl, by go_num, R6.out⟩
          case measure => simp [intOf]; omega
    · have bk : ¬ (k : Int) < (n : Int) := by omega
      have HE : Hid (∃ zs, OZs wr w.heap.size v zs ∧ zs.map Zf.v = orL ms ∧ Below w.heap.size w wr) := by
        obtain ⟨zs, a1, a2, a3⟩ := hR.out
        refine ⟨zs, a1, ?_, a3⟩
        rw [a2, show k = n by omega, H.out.2.2.2.2]
        rfl
      clear hR
      go_wp2
      go_returns
      obtain ⟨zs, a1, a2, a3⟩ := HE.out
      exact ⟨v, rfl, zs, a1, a2, a3⟩

end Go.Proofs.Ytgaabcgdfbgchaa
