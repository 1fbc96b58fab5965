/- Proved here: the model's l7Shift and l7Field, by value. -/
import Derived.Test.YtgaabcgdfbgchaaOrS
import Derived.Test.YtgaabcgdfbgchaaFdM
import Derived.Test.YtgaabcgdfbgchaaMoI
namespace Go.Proofs.Ytgaabcgdfbgchaa
open Go.RowKit
set_option linter.unusedVariables false
set_option linter.unusedSimpArgs false

theorem spec_shift (o : Int) (w : World) : Calls Try.prog 59 #[.int .i64 o] w fun e w' => e = .returned (.bool (decide (o < -12 ∨ 12 < o))) ∧ w' = w := by
  by_cases h1 : o < -12
  · have e : decide (o < -12 ∨ 12 < o) = true := decide_eq_true (Or.inl h1)
    rw [e]
    clear e
    go_enter Try.func59, Try.ntmps59
    go_wp2
    go_returns
    exact ⟨rfl, rfl⟩
  · by_cases h2 : 12 < o
    · have e : decide (o < -12 ∨ 12 < o) = true := decide_eq_true (Or.inr h2)
      rw [e]
      clear e
      go_enter Try.func59, Try.ntmps59
      go_wp2
      go_returns
      exact ⟨rfl, rfl⟩
    · have e : decide (o < -12 ∨ 12 < o) = false := decide_eq_false (by omega)
      rw [e]
      clear e
      go_enter Try.func59, Try.ntmps59
      go_wp2
      go_returns
      exact ⟨rfl, rfl⟩

/-- How many orders are done ahead of k. -/
def fdN (C sh k : Int) : Nat := min (k + sh + C).toNat (2 * C + 1).toNat
/-- The list under way. -/
def ftK (ov : List Zv) (n : Nat) (C F sh : Int) (s : List Int) (x : Nat) : List Zv := (List.range x).map fun j => fdK ov n C F sh s j (2 * C + 1).toNat
theorem ftK_succ (ov : List Zv) (n : Nat) (C F sh : Int) (s : List Int) (x : Nat) : ftK ov n C F sh s (x + 1) = ftK ov n C F sh s x ++ [fdK ov n C F sh s x (2 * C + 1).toNat] := by simp [ftK, List.range_succ]
theorem ftK_len (ov : List Zv) (n : Nat) (C F sh : Int) (s : List Int) (x : Nat) : (ftK ov n C F sh s x).length = x := by simp [ftK]
theorem fdE {n : Nat} (h : 1 ≤ n) (kv sh o : Int) (ho : o = kv + sh) (x : Nat) : kv * (x : Int) % (n : Int) = ((fdP n sh o * x % n : Nat) : Int) := by
  have h1 : (fdP n sh o : Int) = kv % (n : Int) := by rw [← fdP_int h, ho]; congr 1; omega
  have h2 : ((fdP n sh o * x % n : Nat) : Int) = ((fdP n sh o : Int) * (x : Int)) % (n : Int) := by simp
  rw [h2, h1, emod_mul_l]

set_option maxRecDepth 10000 in
set_option maxHeartbeats 25600000 in
theorem spec_field {w : World} {a ra ap : Option Addr} {n c rc m cp : Nat} {os : List Zf} {s : List Int} (C F sh : Int) (hm : RZs w (.slice a n c) os) (hr : RZs w (.slice ra 20 rc) (rzK 20)) (hs : RdI w (.slice ap m cp) s) (hp : puF C F s = 0) (h1 : 1 ≤ n) (h2 : n ≤ 24) (hs0 : -12 ≤ sh) (hs1 : sh ≤ 12) :
    Calls Try.prog 60 #[.slice a n c, .agg #[.int .i64 C, .int .i64 F, .slice ap m cp], .int .i64 sh, .slice ra 20 rc] w fun e w' => ∃ v zs, e = .returned v ∧ OZs w' w.heap.size v zs ∧ zs.map Zf.v = fdL (os.map Zf.v) n C F sh s ∧ Below w.heap.size w w' := by
  obtain ⟨ov, hov⟩ : ∃ ov, ov = os.map Zf.v := ⟨_, rfl⟩
  have hC := puF_good hp
  have H : Hid (RZs w (.slice a n c) os ∧ RZs w (.slice ra 20 rc) (rzK 20) ∧ RdI w (.slice ap m cp) s ∧ ov = os.map Zf.v ∧ puF C F s = 0) := ⟨hm, hr, hs, hov, hp⟩
  have hC0 := hC.1
  have hC1 := hC.2.1
  rw [← hov]
  clear hm hov hr hs hp hC
  obtain ⟨i0, hi, hz0, hz1, hz2⟩ := info_parts info_z
  have hnN : ¬ n = 0 := by omega
  have hn0 : ((n : Int) == 0) = false := by simp; omega
  have hn1 : ¬ (n : Int) = 0 := by omega
  have eC : IntKind.i64.wrap (-C) = -C := by rw [IntKind.wrap_i64]; omega
  have eC2 : IntKind.i64.wrap (-C - 12) = -C - 12 := by rw [IntKind.wrap_i64]; omega
  have eC3 : IntKind.i64.wrap (C + 12) = C + 12 := by rw [IntKind.wrap_i64]; omega
  go_enter Try.func60, Try.ntmps60
  go_wp2
  go_loopw [10, 11] (fun o i wr => ∃ (x : Nat) (v : Value), x ≤ n ∧ v = o ∧ i = .int .i64 x ∧ Hid (∃ zs, OZs wr (w.heap.size + 1) v zs ∧ zs.map Zf.v = ftK ov n C F sh s x ∧ Below w.heap.size w wr ∧ wr.heap[w.heap.size]? = some (.cells #[.int .i64 C, .int .i64 F, .slice ap m cp] 45))) (fun _ i _ => n - (intOf i).toNat)
  case atStart =>
    refine ⟨0, _, Nat.zero_le _, rfl, rfl, [], ?_, rfl, by (repeat' (first | (with_reducible exact Below.refl _ _) | (with_reducible assumption) | (with_reducible refine Below.setCell ?_ ?_ _) | (with_reducible refine Below.alloc ?_ ?_ _) | (with_reducible refine below_drewN ?_ _) | (with_reducible refine Below.drew ?_) | (with_reducible exact Nat.le_refl _) | omega | (simp; done) | (simp; omega))), (Below.heap_alloc _ _ _ (by simp)).trans (heap_alloc_new w _)⟩
    have := World.ownsRow_lit (e := 24) (size := 2) (base := w.heap.size + 1) (w.alloc (.cells #[.int .i64 C, .int .i64 F, .slice ap m cp] 45)) #[] 0 (by simp) (by decide) (by simp)
    rw [show (w.alloc (.cells #[.int .i64 C, .int .i64 F, .slice ap m cp] 45)).heap.size = w.heap.size + 1 by simp] at this
    exact this
  case round =>
    obtain ⟨x, v, hx, rfl, rfl, hR⟩ := hrel
    obtain ⟨q0, q1, q2, ql⟩ : wr.cell? ⟨w.heap.size, 0, none⟩ = some (.int .i64 C) ∧ wr.cell? ⟨w.heap.size, 1, none⟩ = some (.int .i64 F) ∧ wr.cell? ⟨w.heap.size, 2, none⟩ = some (.slice ap m cp) ∧ w.heap.size < wr.heap.size := by
      obtain ⟨zs, a1, a2, a3, a4⟩ := hR.out
      have := three_at a4
      exact ⟨this.1, this.2.1, this.2.2.1, this.2.2.2.2⟩
    by_cases hltx : x < n
    · have bx : (x : Int) < (n : Int) := by omega
      have bx0 : (0 : Int) ≤ (x : Int) := by omega
      go_wp2
      obtain ⟨wo, hwo⟩ : ∃ wo, wo = wr.alloc (.cells #[.float .f64 0, .float .f64 0] 24) := ⟨_, rfl⟩
      have HRo : Hid (∃ zs, OZs wo (w.heap.size + 1) v zs ∧ zs.map Zf.v = ftK ov n C F sh s x ∧ Below w.heap.size w wo ∧ wo.heap[w.heap.size]? = some (.cells #[.int .i64 C, .int .i64 F, .slice ap m cp] 45)) := by
        obtain ⟨zs, a1, a2, a3, a4⟩ := hR.out
        unfold Hid
        rw [hwo]
        exact ⟨zs, OG.below a1 (by (repeat' (first | (with_reducible exact Below.refl _ _) | (with_reducible assumption) | (with_reducible refine Below.setCell ?_ ?_ _) | (with_reducible refine Below.alloc ?_ ?_ _) | (with_reducible refine below_drewN ?_ _) | (with_reducible refine Below.drew ?_) | (with_reducible exact Nat.le_refl _) | omega | (simp; done) | (simp; omega)))), a2, a3.alloc a3.size _, (Below.heap_alloc _ _ _ ql).trans a4⟩
      obtain ⟨g8, hg⟩ : ∃ g, g = wr.heap.size := ⟨_, rfl⟩
      have hw8 : w.heap.size < g8 := by rw [hg]; exact ql
      have hv8 : Hid (∀ q, v.ownBlock = some q → q < g8) := by
        obtain ⟨zs, a1, a2, a3, a4⟩ := hR.out
        intro q hq
        rw [hg]
        exact (OG.lt a1 q hq).2
      have h08 : wo.heap[g8]? = some (.cells #[.float .f64 0, .float .f64 0] 24) := by rw [hwo, hg]; exact heap_alloc_new _ _
      have hs8 : wo.heap.size = g8 + 1 := by rw [hwo, hg]; simp
      have H8 : Hid (wo.heap[g8]? = some (.cells #[.float .f64 0, .float .f64 0] 24) ∧ wo.heap.size = g8 + 1) := ⟨h08, hs8⟩
      rw [← hwo, ← hg]
      clear hR hwo hg h08 hs8 q0 q1 q2 ql
      go_loopw [13] (fun i wv => ∃ (kv : Int) (O : Zf), -C - 12 ≤ kv ∧ kv ≤ C + 13 ∧ i = .int .i64 kv ∧ Hid (O.v = fdK ov n C F sh s x (fdN C sh kv) ∧ wv.heap[g8]? = some (.cells #[.float .f64 O.re, .float .f64 O.im] 24) ∧ Below g8 wo wv)) (fun i _ => (C + 13 - intOf i).toNat)
      case atStart => exact ⟨-C - 12, ⟨0, 0⟩, by omega, by omega, rfl, by rw [show fdN C sh (-C - 12) = 0 by unfold fdN; omega]; rfl, H8.out.1, Below.refl _ _⟩
      case round =>
        obtain ⟨kv, O, hk0, hk1, rfl, hQ⟩ := hrel
        have u0 := hQ.out.2.1
        obtain ⟨cu0, cu1, fu, lu⟩ := z_two u0
        have hg8 : g8 < wr.heap.size := lu
        have HBw : Hid (Below w.heap.size w wr ∧ wr.heap[w.heap.size]? = some (.cells #[.int .i64 C, .int .i64 F, .slice ap m cp] 45)) := by
          obtain ⟨zs, a1, a2, a3, a4⟩ := HRo.out
          exact ⟨a3.trans (hQ.out.2.2.mono (by omega)), (hQ.out.2.2.block _ hw8).trans a4⟩
        obtain ⟨q0, q1, q2, qf, ql⟩ := three_at HBw.out.2
        clear qf
        by_cases hltk : kv ≤ C + 12
        · have e1 : IntKind.i64.wrap (kv + sh) = kv + sh := by rw [IntKind.wrap_i64]; omega
          have e1' : IntKind.i64.wrap (kv + 1) = kv + 1 := by rw [IntKind.wrap_i64]; omega
          by_cases hlo : kv + sh < -C
          · have HN : Hid (O.v = fdK ov n C F sh s x (fdN C sh (kv + 1)) ∧ wr.heap[g8]? = some (.cells #[.float .f64 O.re, .float .f64 O.im] 24) ∧ Below g8 wo wr) := by
              refine ⟨?_, hQ.out.2⟩
              rw [hQ.out.1, show fdN C sh (kv + 1) = fdN C sh kv by unfold fdN; omega]
            clear hQ u0
            go_wp2
            go_roundw
            case rel => exact ⟨kv + 1, O, by omega, by omega, by go_num, HN.out⟩
            case measure => simp [intOf]; omega
          by_cases hhi : C < kv + sh
          · have HN : Hid (O.v = fdK ov n C F sh s x (fdN C sh (kv + 1)) ∧ wr.heap[g8]? = some (.cells #[.float .f64 O.re, .float .f64 O.im] 24) ∧ Below g8 wo wr) := by
              refine ⟨?_, hQ.out.2⟩
              rw [hQ.out.1, show fdN C sh (kv + 1) = fdN C sh kv by unfold fdN; omega]
            clear hQ u0
            go_wp2
            go_roundw
            case rel => exact ⟨kv + 1, O, by omega, by omega, by go_num, HN.out⟩
            case measure => simp [intOf]; omega
          have HRZ : Hid (∀ W, Below wr.heap.size wr W → RZs W (.slice ra 20 rc) (rzK 20)) := fun W hW => H.out.2.1.below (HBw.out.1.trans (hW.mono HBw.out.1.size))
          obtain ⟨o, ho⟩ : ∃ o, o = kv + sh := ⟨_, rfl⟩
          have ho2 : -C ≤ o ∧ o ≤ C := by omega
          have HPL : Hid (∀ W, Below wr.heap.size wr W → Calls Try.prog 52 #[.agg #[.int .i64 C, .int .i64 F, .slice ap m cp], .int .i64 (kv + sh), .slice ra 20 rc] W fun e w' => ∃ z : Zf, e = .returned (.agg #[.float .f64 z.re, .float .f64 z.im]) ∧ z.v = puV C F s o ∧ Below W.heap.size W w') := fun W hW => by
            rw [← ho, pu_pos H.out.2.2.2.2 ho2]
            exact spec_pl C F o (H.out.2.2.1.below (HBw.out.1.trans (hW.mono HBw.out.1.size))) (HRZ.out W hW) H.out.2.2.2.2 (by omega)
          obtain ⟨P, hP⟩ : ∃ P, P = fdP n sh o := ⟨_, rfl⟩
          have hPn : P < n := by rw [hP]; exact fdP_lt h1
          have HM1 : Hid (∀ W, Calls Try.prog 71 #[.int .i64 kv, .int .i64 n] W fun e w' => e = .returned (.int .i64 P) ∧ w' = W) := fun W => by
            rw [hP, ← fdP_int h1, ho, show kv + sh - sh = kv by omega]; exact spec_mod kv n (by omega) (by omega) W
          obtain ⟨E, hE⟩ : ∃ E, E = P * x % n := ⟨_, rfl⟩
          have hEn : E < n := by rw [hE]; exact Nat.mod_lt _ (by omega)
          have hkx : -600 ≤ kv * (x : Int) ∧ kv * (x : Int) ≤ 600 := by
            have p1 := Int.mul_le_mul_of_nonneg_right (show kv ≤ 24 by omega) bx0
            have p2 := Int.mul_le_mul_of_nonneg_right (show -24 ≤ kv by omega) bx0
            omega
          have e2 : IntKind.i64.wrap (kv * (x : Int)) = kv * (x : Int) := by rw [IntKind.wrap_i64]; omega
          have HM2 : Hid (∀ W, Calls Try.prog 71 #[.int .i64 (kv * (x : Int)), .int .i64 n] W fun e w' => e = .returned (.int .i64 E) ∧ w' = W) := fun W => by
            rw [hE, hP, ← fdE h1 kv sh o ho x]; exact spec_mod _ n (by omega) (by omega) W
          obtain ⟨gm, om, M, ham, hgm, hM, cm0, cm1⟩ := rz_at (H.out.1.below HBw.out.1) hPn
          have hgm8 : gm < g8 := by
            obtain ⟨g2, o2, y2, ha2, hg2, _⟩ := rz_at H.out.1 hPn
            rw [ham] at ha2
            injection ha2 with ha2
            injection ha2 with ha2
            omega
          subst ham
          obtain ⟨pE, hpE⟩ : ∃ p, p = prt n E := ⟨_, rfl⟩
          have hpb : 0 ≤ pE ∧ pE ≤ 1048576 := by rw [hpE]; exact prt_bd hEn h2
          have e3 : IntKind.i64.wrap ((E : Int) * 1048576) = (E : Int) * 1048576 := by rw [IntKind.wrap_i64]; omega
          have e4 : ((E : Int) * 1048576).tdiv n = pE := by rw [hpE, Int.tdiv_eq_ediv_of_nonneg (by omega)]; rfl
          have e4' : ((E : Int) * 1048576) / (n : Int) = pE := by rw [hpE]; rfl
          have e5 : IntKind.i64.wrap pE = pE := by rw [IntKind.wrap_i64]; omega
          obtain ⟨t, ht⟩ : ∃ t, t = fdN C sh kv := ⟨_, rfl⟩
          have hto : -C + (t : Int) = o := by rw [ht, ho]; unfold fdN; omega
          have HOv : Hid (O.v = fdK ov n C F sh s x t) := by unfold Hid; rw [ht]; exact hQ.out.1
          have HST : Hid (fdK ov n C F sh s x (fdN C sh (kv + 1)) = addV (fdK ov n C F sh s x t) (mulV (mulV (ov.getD P z0V) (puV C F s o)) (trV (prt n E)))) := by
            unfold Hid
            rw [show fdN C sh (kv + 1) = t + 1 by rw [ht]; unfold fdN; omega, fdK, hto]
            unfold fdV
            rw [← hP, ← hE]
          have HMv : Hid (M.v = ov.getD P z0V ∧ pE = prt n E ∧ True) := by
            refine ⟨?_, hpE, trivial⟩
            rw [H.out.2.2.2.1, List.getD_eq_getElem?_getD, List.getElem?_map, hM]; rfl
          have HB8 : Hid (Below g8 wo wr) := hQ.out.2.2
          have bp0 : (0 : Int) ≤ (P : Int) := by omega
          have bp1 : (P : Int) < (n : Int) := by omega
          clear hE hM hP hpE hQ ht hto ho ho2
          go_wp2_with (fail)
          obtain ⟨w0, hw0⟩ : ∃ w0, w0 = wr.drew := ⟨_, rfl⟩
          have B0 : Below wr.heap.size wr w0 := by rw [hw0]; exact (Below.refl _ _).drew
          refine wp_region_holdsA (S := KA g8 wr) (by kernel_rfl) (KA.of ((Below.refl _ _).drew)) (fun hS => ?_)
          rw [← hw0] at hS ⊢
          obtain ⟨c0, d0, f0, l0⟩ := z_two ((B0.block _ hg8).trans u0)
          clear hw0
          refine fl_takeA (i := 1) (d := 50) (v := .slice (some ⟨gm, om, none⟩) n c) rfl rfl rfl (by kernel_rfl) (by kernel_rfl) (by kernel_rfl) hS ?_ ?_
          · intro w' hk; unfold KA at hk; go_simp
          simp only [Act.put, List.setIfInBounds_toArray, List.set_cons_zero, List.set_cons_succ]
          refine fl_takeA (i := 2) (d := 51) (v := .int .i64 kv) rfl rfl rfl (by kernel_rfl) (by kernel_rfl) (by kernel_rfl) hS ?_ ?_
          · intro w' hk; unfold KA at hk; go_simp
          simp only [Act.put, List.setIfInBounds_toArray, List.set_cons_zero, List.set_cons_succ]
          refine fl_takeA (i := 3) (d := 52) (v := .int .i64 n) rfl rfl rfl (by kernel_rfl) (by kernel_rfl) (by kernel_rfl) hS ?_ ?_
          · intro w' hk; unfold KA at hk; go_simp
          simp only [Act.put, List.setIfInBounds_toArray, List.set_cons_zero, List.set_cons_succ]
          refine fl_takeA (i := 7) (d := 56) (v := .agg #[.int .i64 C, .int .i64 F, .slice ap m cp]) rfl rfl rfl (by kernel_rfl) (by kernel_rfl) (by kernel_rfl) hS ?_ ?_
          · intro w' hk; unfold KA at hk; go_simp
          simp only [Act.put, List.setIfInBounds_toArray, List.set_cons_zero, List.set_cons_succ]
          refine fl_takeA (i := 8) (d := 57) (v := .int .i64 kv) rfl rfl rfl (by kernel_rfl) (by kernel_rfl) (by kernel_rfl) hS ?_ ?_
          · intro w' hk; unfold KA at hk; go_simp
          simp only [Act.put, List.setIfInBounds_toArray, List.set_cons_zero, List.set_cons_succ]
          refine fl_takeA (i := 9) (d := 58) (v := .int .i64 sh) rfl rfl rfl (by kernel_rfl) (by kernel_rfl) (by kernel_rfl) hS ?_ ?_
          · intro w' hk; unfold KA at hk; go_simp
          simp only [Act.put, List.setIfInBounds_toArray, List.set_cons_zero, List.set_cons_succ]
          refine fl_takeA (i := 10) (d := 59) (v := .int .i64 (kv + sh)) rfl rfl rfl (by kernel_rfl) (by kernel_rfl) (by kernel_rfl) hS ?_ ?_
          · intro w' hk; unfold KA at hk; go_simp
          simp only [Act.put, List.setIfInBounds_toArray, List.set_cons_zero, List.set_cons_succ]
          refine fl_takeA (i := 11) (d := 60) (v := .slice ra 20 rc) rfl rfl rfl (by kernel_rfl) (by kernel_rfl) (by kernel_rfl) hS ?_ ?_
          · intro w' hk; unfold KA at hk; go_simp
          simp only [Act.put, List.setIfInBounds_toArray, List.set_cons_zero, List.set_cons_succ]
          refine fl_takeA (i := 14) (d := 63) (v := .int .i64 kv) rfl rfl rfl (by kernel_rfl) (by kernel_rfl) (by kernel_rfl) hS ?_ ?_
          · intro w' hk; unfold KA at hk; go_simp
          simp only [Act.put, List.setIfInBounds_toArray, List.set_cons_zero, List.set_cons_succ]
          refine fl_takeA (i := 15) (d := 64) (v := .int .i64 x) rfl rfl rfl (by kernel_rfl) (by kernel_rfl) (by kernel_rfl) hS ?_ ?_
          · intro w' hk; unfold KA at hk; go_simp
          simp only [Act.put, List.setIfInBounds_toArray, List.set_cons_zero, List.set_cons_succ]
          refine fl_takeA (i := 16) (d := 65) (v := .int .i64 (kv * (x : Int))) rfl rfl rfl (by kernel_rfl) (by kernel_rfl) (by kernel_rfl) hS ?_ ?_
          · intro w' hk; unfold KA at hk; go_simp
          simp only [Act.put, List.setIfInBounds_toArray, List.set_cons_zero, List.set_cons_succ]
          refine fl_takeA (i := 17) (d := 66) (v := .int .i64 n) rfl rfl rfl (by kernel_rfl) (by kernel_rfl) (by kernel_rfl) hS ?_ ?_
          · intro w' hk; unfold KA at hk; go_simp
          simp only [Act.put, List.setIfInBounds_toArray, List.set_cons_zero, List.set_cons_succ]
          refine fl_takeA (i := 20) (d := 69) (v := .int .i64 n) rfl rfl rfl (by kernel_rfl) (by kernel_rfl) (by kernel_rfl) hS ?_ ?_
          · intro w' hk; unfold KA at hk; go_simp
          simp only [Act.put, List.setIfInBounds_toArray, List.set_cons_zero, List.set_cons_succ]
          refine fl_takeA (i := 22) (d := 71) (v := .slice ra 20 rc) rfl rfl rfl (by kernel_rfl) (by kernel_rfl) (by kernel_rfl) hS ?_ ?_
          · intro w' hk; unfold KA at hk; go_simp
          simp only [Act.put, List.setIfInBounds_toArray, List.set_cons_zero, List.set_cons_succ]
          refine wpAnyH_all (rs := [0, 4]) (by kernel_rfl) (by simp) ?_
          intro i hi
          rcases List.mem_cons.1 hi with rfl | hi
          · clear hi
            refine op_val (d := 49) (v := .agg #[.float .f64 O.re, .float .f64 O.im]) (w' := w0) rfl rfl rfl (by go_simp; try rfl) ?_
            simp only [Act.put, List.setIfInBounds_toArray, List.set_cons_zero, List.set_cons_succ]
            refine ⟨hS, ?_⟩
            refine wpAnyH_all (rs := [4]) (by kernel_rfl) (by simp) ?_
            intro i hi; obtain rfl := List.mem_singleton.1 hi; clear hi
            refine op_call (d := 53) rfl rfl rfl (by go_simp) ((HM1.out _).mono ?_)
            rintro e w1 ⟨rfl, hw1⟩
            have hb1 : Below w0.heap.size w0 w1 := by rw [hw1]; exact Below.refl _ _
            clear hw1
            have B1 : Below wr.heap.size wr w1 := B0.trans (hb1.mono B0.size)
            obtain ⟨c1, d1, f1, l1⟩ := z_two ((B1.block _ hg8).trans u0)
            have hS : KA g8 wr w1 := KA.of (B1.mono (Nat.le_of_lt hg8))
            refine ⟨_, rfl, hS, ?_⟩
            simp only [Act.put, List.setIfInBounds_toArray, List.set_cons_zero, List.set_cons_succ]
            refine fl_takeA (i := 5) (d := 54) (v := .pointer (some ⟨gm, om + P * 2, none⟩)) rfl rfl rfl (by kernel_rfl) (by kernel_rfl) (by kernel_rfl) hS ?_ ?_
            · intro w' hk; unfold KA at hk; go_simp
            simp only [Act.put, List.setIfInBounds_toArray, List.set_cons_zero, List.set_cons_succ]
            refine fl_takeA (i := 6) (d := 55) (v := .agg #[.float .f64 M.re, .float .f64 M.im]) rfl rfl rfl (by kernel_rfl) (by kernel_rfl) (by kernel_rfl) hS ?_ ?_
            · intro w' hk; unfold KA at hk; go_simp
            simp only [Act.put, List.setIfInBounds_toArray, List.set_cons_zero, List.set_cons_succ]
            refine wpAnyH_all (rs := [12]) (by kernel_rfl) (by simp) ?_
            intro i hi; obtain rfl := List.mem_singleton.1 hi; clear hi
            refine op_call (d := 61) rfl rfl rfl (by go_simp) ((HPL.out _ B1).mono ?_)
            rintro e w2 ⟨Z, rfl, hZ, hb2⟩
            have B2 : Below wr.heap.size wr w2 := B1.trans (hb2.mono B1.size)
            obtain ⟨c2, d2, f2, l2⟩ := z_two ((B2.block _ hg8).trans u0)
            have hS : KA g8 wr w2 := KA.of (B2.mono (Nat.le_of_lt hg8))
            refine ⟨_, rfl, hS, ?_⟩
            simp only [Act.put, List.setIfInBounds_toArray, List.set_cons_zero, List.set_cons_succ]
            refine wpAnyH_all (rs := [13]) (by kernel_rfl) (by simp) ?_
            intro i hi; obtain rfl := List.mem_singleton.1 hi; clear hi
            refine op_call (d := 62) rfl rfl rfl (by go_simp) ((spec_mul M Z _).mono ?_)
            rintro e w3 ⟨Y, rfl, hY, hb3⟩
            have B3 : Below wr.heap.size wr w3 := B2.trans (hb3.mono B2.size)
            obtain ⟨c3, d3, f3, l3⟩ := z_two ((B3.block _ hg8).trans u0)
            have hS : KA g8 wr w3 := KA.of (B3.mono (Nat.le_of_lt hg8))
            refine ⟨_, rfl, hS, ?_⟩
            simp only [Act.put, List.setIfInBounds_toArray, List.set_cons_zero, List.set_cons_succ]
            refine wpAnyH_all (rs := [18]) (by kernel_rfl) (by simp) ?_
            intro i hi; obtain rfl := List.mem_singleton.1 hi; clear hi
            refine op_call (d := 67) rfl rfl rfl (by go_simp) ((HM2.out _).mono ?_)
            rintro e w4 ⟨rfl, hw4⟩
            have hb4 : Below w3.heap.size w3 w4 := by rw [hw4]; exact Below.refl _ _
            clear hw4
            have B4 : Below wr.heap.size wr w4 := B3.trans (hb4.mono B3.size)
            obtain ⟨c4, d4, f4, l4⟩ := z_two ((B4.block _ hg8).trans u0)
            have hS : KA g8 wr w4 := KA.of (B4.mono (Nat.le_of_lt hg8))
            refine ⟨_, rfl, hS, ?_⟩
            simp only [Act.put, List.setIfInBounds_toArray, List.set_cons_zero, List.set_cons_succ]
            refine fl_takeA (i := 19) (d := 68) (v := .int .i64 ((E : Int) * 1048576)) rfl rfl rfl (by kernel_rfl) (by kernel_rfl) (by kernel_rfl) hS ?_ ?_
            · intro w' hk; unfold KA at hk; go_simp
            simp only [Act.put, List.setIfInBounds_toArray, List.set_cons_zero, List.set_cons_succ]
            refine fl_takeA (i := 21) (d := 70) (v := .int .i64 pE) rfl rfl rfl (by kernel_rfl) (by kernel_rfl) (by kernel_rfl) hS ?_ ?_
            · intro w' hk; unfold KA at hk; go_simp
            simp only [Act.put, List.setIfInBounds_toArray, List.set_cons_zero, List.set_cons_succ]
            refine wpAnyH_all (rs := [23]) (by kernel_rfl) (by simp) ?_
            intro i hi; obtain rfl := List.mem_singleton.1 hi; clear hi
            refine op_call (d := 72) rfl rfl rfl (by go_simp) ((spec_turn pE (HRZ.out _ B4)).mono ?_)
            rintro e w5 ⟨T, rfl, hT, hb5⟩
            have B5 : Below wr.heap.size wr w5 := B4.trans (hb5.mono B4.size)
            obtain ⟨c5, d5, f5, l5⟩ := z_two ((B5.block _ hg8).trans u0)
            have hS : KA g8 wr w5 := KA.of (B5.mono (Nat.le_of_lt hg8))
            refine ⟨_, rfl, hS, ?_⟩
            simp only [Act.put, List.setIfInBounds_toArray, List.set_cons_zero, List.set_cons_succ]
            refine wpAnyH_all (rs := [24]) (by kernel_rfl) (by simp) ?_
            intro i hi; obtain rfl := List.mem_singleton.1 hi; clear hi
            refine op_call (d := 73) rfl rfl rfl (by go_simp) ((spec_mul Y T _).mono ?_)
            rintro e w6 ⟨X, rfl, hX, hb6⟩
            have B6 : Below wr.heap.size wr w6 := B5.trans (hb6.mono B5.size)
            obtain ⟨c6, d6, f6, l6⟩ := z_two ((B6.block _ hg8).trans u0)
            have hS : KA g8 wr w6 := KA.of (B6.mono (Nat.le_of_lt hg8))
            refine ⟨_, rfl, hS, ?_⟩
            simp only [Act.put, List.setIfInBounds_toArray, List.set_cons_zero, List.set_cons_succ]
            refine wpAnyH_all (rs := [25]) (by kernel_rfl) (by simp) ?_
            intro i hi; obtain rfl := List.mem_singleton.1 hi; clear hi
            refine op_call (d := 74) rfl rfl rfl (by go_simp) ((spec_add O X _).mono ?_)
            rintro e w7 ⟨S, rfl, hSv, hb7⟩
            have B7 : Below wr.heap.size wr w7 := B6.trans (hb7.mono B6.size)
            have g7 := (B7.block _ hg8).trans u0
            refine ⟨_, rfl, KA.of (B7.mono (Nat.le_of_lt hg8)), ?_⟩
            simp only [Act.put, List.setIfInBounds_toArray, List.set_cons_zero, List.set_cons_succ]
            refine wpAnyH_all (rs := [26]) (by kernel_rfl) (by simp) ?_
            intro i hi; obtain rfl := List.mem_singleton.1 hi; clear hi
            refine op_store rfl rfl rfl 24 _ _ rfl g8 #[.float .f64 S.re, .float .f64 S.im] (by go_simp) (by go_simp) (there_two g7) (by kernel_rfl) (by simp [Value.oneCell']) ?_
            have B8 := below_setCells g8 (Nat.le_refl _) [.float .f64 S.re, .float .f64 S.im] 0 _ (B7.mono (Nat.le_of_lt hg8))
            refine ⟨KA.of B8, wpAnyH_done (by kernel_rfl) (NoPanic.normal ?_) _⟩
            have s0 := heap_setCell_same _ _ 0 _ _ (.float .f64 S.re) g7
            have s1 := heap_setCell_same _ _ 1 _ _ (.float .f64 S.im) s0
            have s2 : (w7.setCells g8 0 [.float .f64 S.re, .float .f64 S.im]).heap[g8]? = some (.cells #[.float .f64 S.re, .float .f64 S.im] 24) := by simpa [World.setCells] using s1
            have HN : Hid (S.v = fdK ov n C F sh s x (fdN C sh (kv + 1)) ∧ (w7.setCells g8 0 [.float .f64 S.re, .float .f64 S.im]).heap[g8]? = some (.cells #[.float .f64 S.re, .float .f64 S.im] 24) ∧ Below g8 wo (w7.setCells g8 0 [.float .f64 S.re, .float .f64 S.im])) :=
              ⟨by rw [hSv, hX, hT, hY, hZ, HMv.out.1, HMv.out.2.1, HOv.out, HST.out], s2, HB8.out.trans B8⟩
            generalize w7.setCells g8 0 [.float .f64 S.re, .float .f64 S.im] = V' at HN ⊢
            clear s0 s1 s2 B8 B7 g7 hS HOv HMv u0 cu0 cu1 fu lu
            go_wp2
            go_roundw
            case rel => exact ⟨kv + 1, S, by omega, by omega, by go_num, HN.out⟩
            case measure => simp [intOf]; omega
          · obtain rfl := List.mem_singleton.1 hi
            clear hi
            refine op_call (d := 53) rfl rfl rfl (by go_simp) ((HM1.out _).mono ?_)
            rintro e w1 ⟨rfl, hw1⟩
            have hb1 : Below w0.heap.size w0 w1 := by rw [hw1]; exact Below.refl _ _
            clear hw1
            have B1 : Below wr.heap.size wr w1 := B0.trans (hb1.mono B0.size)
            obtain ⟨c1, d1, f1, l1⟩ := z_two ((B1.block _ hg8).trans u0)
            have hS : KA g8 wr w1 := KA.of (B1.mono (Nat.le_of_lt hg8))
            refine ⟨_, rfl, hS, ?_⟩
            simp only [Act.put, List.setIfInBounds_toArray, List.set_cons_zero, List.set_cons_succ]
            refine fl_takeA (i := 5) (d := 54) (v := .pointer (some ⟨gm, om + P * 2, none⟩)) rfl rfl rfl (by kernel_rfl) (by kernel_rfl) (by kernel_rfl) hS ?_ ?_
            · intro w' hk; unfold KA at hk; go_simp
            simp only [Act.put, List.setIfInBounds_toArray, List.set_cons_zero, List.set_cons_succ]
            refine fl_takeA (i := 6) (d := 55) (v := .agg #[.float .f64 M.re, .float .f64 M.im]) rfl rfl rfl (by kernel_rfl) (by kernel_rfl) (by kernel_rfl) hS ?_ ?_
            · intro w' hk; unfold KA at hk; go_simp
            simp only [Act.put, List.setIfInBounds_toArray, List.set_cons_zero, List.set_cons_succ]
            refine wpAnyH_all (rs := [0, 12]) (by kernel_rfl) (by simp) ?_
            intro i hi
            rcases List.mem_cons.1 hi with rfl | hi
            · clear hi
              refine op_val (d := 49) (v := .agg #[.float .f64 O.re, .float .f64 O.im]) (w' := w1) rfl rfl rfl (by go_simp; try rfl) ?_
              simp only [Act.put, List.setIfInBounds_toArray, List.set_cons_zero, List.set_cons_succ]
              refine ⟨hS, ?_⟩
              refine wpAnyH_all (rs := [12]) (by kernel_rfl) (by simp) ?_
              intro i hi; obtain rfl := List.mem_singleton.1 hi; clear hi
              refine op_call (d := 61) rfl rfl rfl (by go_simp) ((HPL.out _ B1).mono ?_)
              rintro e w2 ⟨Z, rfl, hZ, hb2⟩
              have B2 : Below wr.heap.size wr w2 := B1.trans (hb2.mono B1.size)
              obtain ⟨c2, d2, f2, l2⟩ := z_two ((B2.block _ hg8).trans u0)
              have hS : KA g8 wr w2 := KA.of (B2.mono (Nat.le_of_lt hg8))
              refine ⟨_, rfl, hS, ?_⟩
              simp only [Act.put, List.setIfInBounds_toArray, List.set_cons_zero, List.set_cons_succ]
              refine wpAnyH_all (rs := [13]) (by kernel_rfl) (by simp) ?_
              intro i hi; obtain rfl := List.mem_singleton.1 hi; clear hi
              refine op_call (d := 62) rfl rfl rfl (by go_simp) ((spec_mul M Z _).mono ?_)
              rintro e w3 ⟨Y, rfl, hY, hb3⟩
              have B3 : Below wr.heap.size wr w3 := B2.trans (hb3.mono B2.size)
              obtain ⟨c3, d3, f3, l3⟩ := z_two ((B3.block _ hg8).trans u0)
              have hS : KA g8 wr w3 := KA.of (B3.mono (Nat.le_of_lt hg8))
              refine ⟨_, rfl, hS, ?_⟩
              simp only [Act.put, List.setIfInBounds_toArray, List.set_cons_zero, List.set_cons_succ]
              refine wpAnyH_all (rs := [18]) (by kernel_rfl) (by simp) ?_
              intro i hi; obtain rfl := List.mem_singleton.1 hi; clear hi
              refine op_call (d := 67) rfl rfl rfl (by go_simp) ((HM2.out _).mono ?_)
              rintro e w4 ⟨rfl, hw4⟩
              have hb4 : Below w3.heap.size w3 w4 := by rw [hw4]; exact Below.refl _ _
              clear hw4
              have B4 : Below wr.heap.size wr w4 := B3.trans (hb4.mono B3.size)
              obtain ⟨c4, d4, f4, l4⟩ := z_two ((B4.block _ hg8).trans u0)
              have hS : KA g8 wr w4 := KA.of (B4.mono (Nat.le_of_lt hg8))
              refine ⟨_, rfl, hS, ?_⟩
              simp only [Act.put, List.setIfInBounds_toArray, List.set_cons_zero, List.set_cons_succ]
              refine fl_takeA (i := 19) (d := 68) (v := .int .i64 ((E : Int) * 1048576)) rfl rfl rfl (by kernel_rfl) (by kernel_rfl) (by kernel_rfl) hS ?_ ?_
              · intro w' hk; unfold KA at hk; go_simp
              simp only [Act.put, List.setIfInBounds_toArray, List.set_cons_zero, List.set_cons_succ]
              refine fl_takeA (i := 21) (d := 70) (v := .int .i64 pE) rfl rfl rfl (by kernel_rfl) (by kernel_rfl) (by kernel_rfl) hS ?_ ?_
              · intro w' hk; unfold KA at hk; go_simp
              simp only [Act.put, List.setIfInBounds_toArray, List.set_cons_zero, List.set_cons_succ]
              refine wpAnyH_all (rs := [23]) (by kernel_rfl) (by simp) ?_
              intro i hi; obtain rfl := List.mem_singleton.1 hi; clear hi
              refine op_call (d := 72) rfl rfl rfl (by go_simp) ((spec_turn pE (HRZ.out _ B4)).mono ?_)
              rintro e w5 ⟨T, rfl, hT, hb5⟩
              have B5 : Below wr.heap.size wr w5 := B4.trans (hb5.mono B4.size)
              obtain ⟨c5, d5, f5, l5⟩ := z_two ((B5.block _ hg8).trans u0)
              have hS : KA g8 wr w5 := KA.of (B5.mono (Nat.le_of_lt hg8))
              refine ⟨_, rfl, hS, ?_⟩
              simp only [Act.put, List.setIfInBounds_toArray, List.set_cons_zero, List.set_cons_succ]
              refine wpAnyH_all (rs := [24]) (by kernel_rfl) (by simp) ?_
              intro i hi; obtain rfl := List.mem_singleton.1 hi; clear hi
              refine op_call (d := 73) rfl rfl rfl (by go_simp) ((spec_mul Y T _).mono ?_)
              rintro e w6 ⟨X, rfl, hX, hb6⟩
              have B6 : Below wr.heap.size wr w6 := B5.trans (hb6.mono B5.size)
              obtain ⟨c6, d6, f6, l6⟩ := z_two ((B6.block _ hg8).trans u0)
              have hS : KA g8 wr w6 := KA.of (B6.mono (Nat.le_of_lt hg8))
              refine ⟨_, rfl, hS, ?_⟩
              simp only [Act.put, List.setIfInBounds_toArray, List.set_cons_zero, List.set_cons_succ]
              refine wpAnyH_all (rs := [25]) (by kernel_rfl) (by simp) ?_
              intro i hi; obtain rfl := List.mem_singleton.1 hi; clear hi
              refine op_call (d := 74) rfl rfl rfl (by go_simp) ((spec_add O X _).mono ?_)
              rintro e w7 ⟨S, rfl, hSv, hb7⟩
              have B7 : Below wr.heap.size wr w7 := B6.trans (hb7.mono B6.size)
              have g7 := (B7.block _ hg8).trans u0
              refine ⟨_, rfl, KA.of (B7.mono (Nat.le_of_lt hg8)), ?_⟩
              simp only [Act.put, List.setIfInBounds_toArray, List.set_cons_zero, List.set_cons_succ]
              refine wpAnyH_all (rs := [26]) (by kernel_rfl) (by simp) ?_
              intro i hi; obtain rfl := List.mem_singleton.1 hi; clear hi
              refine op_store rfl rfl rfl 24 _ _ rfl g8 #[.float .f64 S.re, .float .f64 S.im] (by go_simp) (by go_simp) (there_two g7) (by kernel_rfl) (by simp [Value.oneCell']) ?_
              have B8 := below_setCells g8 (Nat.le_refl _) [.float .f64 S.re, .float .f64 S.im] 0 _ (B7.mono (Nat.le_of_lt hg8))
              refine ⟨KA.of B8, wpAnyH_done (by kernel_rfl) (NoPanic.normal ?_) _⟩
              have s0 := heap_setCell_same _ _ 0 _ _ (.float .f64 S.re) g7
              have s1 := heap_setCell_same _ _ 1 _ _ (.float .f64 S.im) s0
              have s2 : (w7.setCells g8 0 [.float .f64 S.re, .float .f64 S.im]).heap[g8]? = some (.cells #[.float .f64 S.re, .float .f64 S.im] 24) := by simpa [World.setCells] using s1
              have HN : Hid (S.v = fdK ov n C F sh s x (fdN C sh (kv + 1)) ∧ (w7.setCells g8 0 [.float .f64 S.re, .float .f64 S.im]).heap[g8]? = some (.cells #[.float .f64 S.re, .float .f64 S.im] 24) ∧ Below g8 wo (w7.setCells g8 0 [.float .f64 S.re, .float .f64 S.im])) :=
                ⟨by rw [hSv, hX, hT, hY, hZ, HMv.out.1, HMv.out.2.1, HOv.out, HST.out], s2, HB8.out.trans B8⟩
              generalize w7.setCells g8 0 [.float .f64 S.re, .float .f64 S.im] = V' at HN ⊢
              clear s0 s1 s2 B8 B7 g7 hS HOv HMv u0 cu0 cu1 fu lu
              go_wp2
              go_roundw
              case rel => exact ⟨kv + 1, S, by omega, by omega, by go_num, HN.out⟩
              case measure => simp [intOf]; omega
            · obtain rfl := List.mem_singleton.1 hi
              clear hi
              refine op_call (d := 61) rfl rfl rfl (by go_simp) ((HPL.out _ B1).mono ?_)
              rintro e w2 ⟨Z, rfl, hZ, hb2⟩
              have B2 : Below wr.heap.size wr w2 := B1.trans (hb2.mono B1.size)
              obtain ⟨c2, d2, f2, l2⟩ := z_two ((B2.block _ hg8).trans u0)
              have hS : KA g8 wr w2 := KA.of (B2.mono (Nat.le_of_lt hg8))
              refine ⟨_, rfl, hS, ?_⟩
              simp only [Act.put, List.setIfInBounds_toArray, List.set_cons_zero, List.set_cons_succ]
              refine wpAnyH_all (rs := [0, 13]) (by kernel_rfl) (by simp) ?_
              intro i hi
              rcases List.mem_cons.1 hi with rfl | hi
              · clear hi
                refine op_val (d := 49) (v := .agg #[.float .f64 O.re, .float .f64 O.im]) (w' := w2) rfl rfl rfl (by go_simp; try rfl) ?_
                simp only [Act.put, List.setIfInBounds_toArray, List.set_cons_zero, List.set_cons_succ]
                refine ⟨hS, ?_⟩
                refine wpAnyH_all (rs := [13]) (by kernel_rfl) (by simp) ?_
                intro i hi; obtain rfl := List.mem_singleton.1 hi; clear hi
                refine op_call (d := 62) rfl rfl rfl (by go_simp) ((spec_mul M Z _).mono ?_)
                rintro e w3 ⟨Y, rfl, hY, hb3⟩
                have B3 : Below wr.heap.size wr w3 := B2.trans (hb3.mono B2.size)
                obtain ⟨c3, d3, f3, l3⟩ := z_two ((B3.block _ hg8).trans u0)
                have hS : KA g8 wr w3 := KA.of (B3.mono (Nat.le_of_lt hg8))
                refine ⟨_, rfl, hS, ?_⟩
                simp only [Act.put, List.setIfInBounds_toArray, List.set_cons_zero, List.set_cons_succ]
                refine wpAnyH_all (rs := [18]) (by kernel_rfl) (by simp) ?_
                intro i hi; obtain rfl := List.mem_singleton.1 hi; clear hi
                refine op_call (d := 67) rfl rfl rfl (by go_simp) ((HM2.out _).mono ?_)
                rintro e w4 ⟨rfl, hw4⟩
                have hb4 : Below w3.heap.size w3 w4 := by rw [hw4]; exact Below.refl _ _
                clear hw4
                have B4 : Below wr.heap.size wr w4 := B3.trans (hb4.mono B3.size)
                obtain ⟨c4, d4, f4, l4⟩ := z_two ((B4.block _ hg8).trans u0)
                have hS : KA g8 wr w4 := KA.of (B4.mono (Nat.le_of_lt hg8))
                refine ⟨_, rfl, hS, ?_⟩
                simp only [Act.put, List.setIfInBounds_toArray, List.set_cons_zero, List.set_cons_succ]
                refine fl_takeA (i := 19) (d := 68) (v := .int .i64 ((E : Int) * 1048576)) rfl rfl rfl (by kernel_rfl) (by kernel_rfl) (by kernel_rfl) hS ?_ ?_
                · intro w' hk; unfold KA at hk; go_simp
                simp only [Act.put, List.setIfInBounds_toArray, List.set_cons_zero, List.set_cons_succ]
                refine fl_takeA (i := 21) (d := 70) (v := .int .i64 pE) rfl rfl rfl (by kernel_rfl) (by kernel_rfl) (by kernel_rfl) hS ?_ ?_
                · intro w' hk; unfold KA at hk; go_simp
                simp only [Act.put, List.setIfInBounds_toArray, List.set_cons_zero, List.set_cons_succ]
                refine wpAnyH_all (rs := [23]) (by kernel_rfl) (by simp) ?_
                intro i hi; obtain rfl := List.mem_singleton.1 hi; clear hi
                refine op_call (d := 72) rfl rfl rfl (by go_simp) ((spec_turn pE (HRZ.out _ B4)).mono ?_)
                rintro e w5 ⟨T, rfl, hT, hb5⟩
                have B5 : Below wr.heap.size wr w5 := B4.trans (hb5.mono B4.size)
                obtain ⟨c5, d5, f5, l5⟩ := z_two ((B5.block _ hg8).trans u0)
                have hS : KA g8 wr w5 := KA.of (B5.mono (Nat.le_of_lt hg8))
                refine ⟨_, rfl, hS, ?_⟩
                simp only [Act.put, List.setIfInBounds_toArray, List.set_cons_zero, List.set_cons_succ]
                refine wpAnyH_all (rs := [24]) (by kernel_rfl) (by simp) ?_
                intro i hi; obtain rfl := List.mem_singleton.1 hi; clear hi
                refine op_call (d := 73) rfl rfl rfl (by go_simp) ((spec_mul Y T _).mono ?_)
                rintro e w6 ⟨X, rfl, hX, hb6⟩
                have B6 : Below wr.heap.size wr w6 := B5.trans (hb6.mono B5.size)
                obtain ⟨c6, d6, f6, l6⟩ := z_two ((B6.block _ hg8).trans u0)
                have hS : KA g8 wr w6 := KA.of (B6.mono (Nat.le_of_lt hg8))
                refine ⟨_, rfl, hS, ?_⟩
                simp only [Act.put, List.setIfInBounds_toArray, List.set_cons_zero, List.set_cons_succ]
                refine wpAnyH_all (rs := [25]) (by kernel_rfl) (by simp) ?_
                intro i hi; obtain rfl := List.mem_singleton.1 hi; clear hi
                refine op_call (d := 74) rfl rfl rfl (by go_simp) ((spec_add O X _).mono ?_)
                rintro e w7 ⟨S, rfl, hSv, hb7⟩
                have B7 : Below wr.heap.size wr w7 := B6.trans (hb7.mono B6.size)
                have g7 := (B7.block _ hg8).trans u0
                refine ⟨_, rfl, KA.of (B7.mono (Nat.le_of_lt hg8)), ?_⟩
                simp only [Act.put, List.setIfInBounds_toArray, List.set_cons_zero, List.set_cons_succ]
                refine wpAnyH_all (rs := [26]) (by kernel_rfl) (by simp) ?_
                intro i hi; obtain rfl := List.mem_singleton.1 hi; clear hi
                refine op_store rfl rfl rfl 24 _ _ rfl g8 #[.float .f64 S.re, .float .f64 S.im] (by go_simp) (by go_simp) (there_two g7) (by kernel_rfl) (by simp [Value.oneCell']) ?_
                have B8 := below_setCells g8 (Nat.le_refl _) [.float .f64 S.re, .float .f64 S.im] 0 _ (B7.mono (Nat.le_of_lt hg8))
                refine ⟨KA.of B8, wpAnyH_done (by kernel_rfl) (NoPanic.normal ?_) _⟩
                have s0 := heap_setCell_same _ _ 0 _ _ (.float .f64 S.re) g7
                have s1 := heap_setCell_same _ _ 1 _ _ (.float .f64 S.im) s0
                have s2 : (w7.setCells g8 0 [.float .f64 S.re, .float .f64 S.im]).heap[g8]? = some (.cells #[.float .f64 S.re, .float .f64 S.im] 24) := by simpa [World.setCells] using s1
                have HN : Hid (S.v = fdK ov n C F sh s x (fdN C sh (kv + 1)) ∧ (w7.setCells g8 0 [.float .f64 S.re, .float .f64 S.im]).heap[g8]? = some (.cells #[.float .f64 S.re, .float .f64 S.im] 24) ∧ Below g8 wo (w7.setCells g8 0 [.float .f64 S.re, .float .f64 S.im])) :=
                  ⟨by rw [hSv, hX, hT, hY, hZ, HMv.out.1, HMv.out.2.1, HOv.out, HST.out], s2, HB8.out.trans B8⟩
                generalize w7.setCells g8 0 [.float .f64 S.re, .float .f64 S.im] = V' at HN ⊢
                clear s0 s1 s2 B8 B7 g7 hS HOv HMv u0 cu0 cu1 fu lu
                go_wp2
                go_roundw
                case rel => exact ⟨kv + 1, S, by omega, by omega, by go_num, HN.out⟩
                case measure => simp [intOf]; omega
              · obtain rfl := List.mem_singleton.1 hi
                clear hi
                refine op_call (d := 62) rfl rfl rfl (by go_simp) ((spec_mul M Z _).mono ?_)
                rintro e w3 ⟨Y, rfl, hY, hb3⟩
                have B3 : Below wr.heap.size wr w3 := B2.trans (hb3.mono B2.size)
                obtain ⟨c3, d3, f3, l3⟩ := z_two ((B3.block _ hg8).trans u0)
                have hS : KA g8 wr w3 := KA.of (B3.mono (Nat.le_of_lt hg8))
                refine ⟨_, rfl, hS, ?_⟩
                simp only [Act.put, List.setIfInBounds_toArray, List.set_cons_zero, List.set_cons_succ]
                refine wpAnyH_all (rs := [0, 18]) (by kernel_rfl) (by simp) ?_
                intro i hi
                rcases List.mem_cons.1 hi with rfl | hi
                · clear hi
                  refine op_val (d := 49) (v := .agg #[.float .f64 O.re, .float .f64 O.im]) (w' := w3) rfl rfl rfl (by go_simp; try rfl) ?_
                  simp only [Act.put, List.setIfInBounds_toArray, List.set_cons_zero, List.set_cons_succ]
                  refine ⟨hS, ?_⟩
                  refine wpAnyH_all (rs := [18]) (by kernel_rfl) (by simp) ?_
                  intro i hi; obtain rfl := List.mem_singleton.1 hi; clear hi
                  refine op_call (d := 67) rfl rfl rfl (by go_simp) ((HM2.out _).mono ?_)
                  rintro e w4 ⟨rfl, hw4⟩
                  have hb4 : Below w3.heap.size w3 w4 := by rw [hw4]; exact Below.refl _ _
                  clear hw4
                  have B4 : Below wr.heap.size wr w4 := B3.trans (hb4.mono B3.size)
                  obtain ⟨c4, d4, f4, l4⟩ := z_two ((B4.block _ hg8).trans u0)
                  have hS : KA g8 wr w4 := KA.of (B4.mono (Nat.le_of_lt hg8))
                  refine ⟨_, rfl, hS, ?_⟩
                  simp only [Act.put, List.setIfInBounds_toArray, List.set_cons_zero, List.set_cons_succ]
                  refine fl_takeA (i := 19) (d := 68) (v := .int .i64 ((E : Int) * 1048576)) rfl rfl rfl (by kernel_rfl) (by kernel_rfl) (by kernel_rfl) hS ?_ ?_
                  · intro w' hk; unfold KA at hk; go_simp
                  simp only [Act.put, List.setIfInBounds_toArray, List.set_cons_zero, List.set_cons_succ]
                  refine fl_takeA (i := 21) (d := 70) (v := .int .i64 pE) rfl rfl rfl (by kernel_rfl) (by kernel_rfl) (by kernel_rfl) hS ?_ ?_
                  · intro w' hk; unfold KA at hk; go_simp
                  simp only [Act.put, List.setIfInBounds_toArray, List.set_cons_zero, List.set_cons_succ]
                  refine wpAnyH_all (rs := [23]) (by kernel_rfl) (by simp) ?_
                  intro i hi; obtain rfl := List.mem_singleton.1 hi; clear hi
                  refine op_call (d := 72) rfl rfl rfl (by go_simp) ((spec_turn pE (HRZ.out _ B4)).mono ?_)
                  rintro e w5 ⟨T, rfl, hT, hb5⟩
                  have B5 : Below wr.heap.size wr w5 := B4.trans (hb5.mono B4.size)
                  obtain ⟨c5, d5, f5, l5⟩ := z_two ((B5.block _ hg8).trans u0)
                  have hS : KA g8 wr w5 := KA.of (B5.mono (Nat.le_of_lt hg8))
                  refine ⟨_, rfl, hS, ?_⟩
                  simp only [Act.put, List.setIfInBounds_toArray, List.set_cons_zero, List.set_cons_succ]
                  refine wpAnyH_all (rs := [24]) (by kernel_rfl) (by simp) ?_
                  intro i hi; obtain rfl := List.mem_singleton.1 hi; clear hi
                  refine op_call (d := 73) rfl rfl rfl (by go_simp) ((spec_mul Y T _).mono ?_)
                  rintro e w6 ⟨X, rfl, hX, hb6⟩
                  have B6 : Below wr.heap.size wr w6 := B5.trans (hb6.mono B5.size)
                  obtain ⟨c6, d6, f6, l6⟩ := z_two ((B6.block _ hg8).trans u0)
                  have hS : KA g8 wr w6 := KA.of (B6.mono (Nat.le_of_lt hg8))
                  refine ⟨_, rfl, hS, ?_⟩
                  simp only [Act.put, List.setIfInBounds_toArray, List.set_cons_zero, List.set_cons_succ]
                  refine wpAnyH_all (rs := [25]) (by kernel_rfl) (by simp) ?_
                  intro i hi; obtain rfl := List.mem_singleton.1 hi; clear hi
                  refine op_call (d := 74) rfl rfl rfl (by go_simp) ((spec_add O X _).mono ?_)
                  rintro e w7 ⟨S, rfl, hSv, hb7⟩
                  have B7 : Below wr.heap.size wr w7 := B6.trans (hb7.mono B6.size)
                  have g7 := (B7.block _ hg8).trans u0
                  refine ⟨_, rfl, KA.of (B7.mono (Nat.le_of_lt hg8)), ?_⟩
                  simp only [Act.put, List.setIfInBounds_toArray, List.set_cons_zero, List.set_cons_succ]
                  refine wpAnyH_all (rs := [26]) (by kernel_rfl) (by simp) ?_
                  intro i hi; obtain rfl := List.mem_singleton.1 hi; clear hi
                  refine op_store rfl rfl rfl 24 _ _ rfl g8 #[.float .f64 S.re, .float .f64 S.im] (by go_simp) (by go_simp) (there_two g7) (by kernel_rfl) (by simp [Value.oneCell']) ?_
                  have B8 := below_setCells g8 (Nat.le_refl _) [.float .f64 S.re, .float .f64 S.im] 0 _ (B7.mono (Nat.le_of_lt hg8))
                  refine ⟨KA.of B8, wpAnyH_done (by kernel_rfl) (NoPanic.normal ?_) _⟩
                  have s0 := heap_setCell_same _ _ 0 _ _ (.float .f64 S.re) g7
                  have s1 := heap_setCell_same _ _ 1 _ _ (.float .f64 S.im) s0
                  have s2 : (w7.setCells g8 0 [.float .f64 S.re, .float .f64 S.im]).heap[g8]? = some (.cells #[.float .f64 S.re, .float .f64 S.im] 24) := by simpa [World.setCells] using s1
                  have HN : Hid (S.v = fdK ov n C F sh s x (fdN C sh (kv + 1)) ∧ (w7.setCells g8 0 [.float .f64 S.re, .float .f64 S.im]).heap[g8]? = some (.cells #[.float .f64 S.re, .float .f64 S.im] 24) ∧ Below g8 wo (w7.setCells g8 0 [.float .f64 S.re, .float .f64 S.im])) :=
                    ⟨by rw [hSv, hX, hT, hY, hZ, HMv.out.1, HMv.out.2.1, HOv.out, HST.out], s2, HB8.out.trans B8⟩
                  generalize w7.setCells g8 0 [.float .f64 S.re, .float .f64 S.im] = V' at HN ⊢
                  clear s0 s1 s2 B8 B7 g7 hS HOv HMv u0 cu0 cu1 fu lu
                  go_wp2
                  go_roundw
                  case rel => exact ⟨kv + 1, S, by omega, by omega, by go_num, HN.out⟩
                  case measure => simp [intOf]; omega
                · obtain rfl := List.mem_singleton.1 hi
                  clear hi
                  refine op_call (d := 67) rfl rfl rfl (by go_simp) ((HM2.out _).mono ?_)
                  rintro e w4 ⟨rfl, hw4⟩
                  have hb4 : Below w3.heap.size w3 w4 := by rw [hw4]; exact Below.refl _ _
                  clear hw4
                  have B4 : Below wr.heap.size wr w4 := B3.trans (hb4.mono B3.size)
                  obtain ⟨c4, d4, f4, l4⟩ := z_two ((B4.block _ hg8).trans u0)
                  have hS : KA g8 wr w4 := KA.of (B4.mono (Nat.le_of_lt hg8))
                  refine ⟨_, rfl, hS, ?_⟩
                  simp only [Act.put, List.setIfInBounds_toArray, List.set_cons_zero, List.set_cons_succ]
                  refine fl_takeA (i := 19) (d := 68) (v := .int .i64 ((E : Int) * 1048576)) rfl rfl rfl (by kernel_rfl) (by kernel_rfl) (by kernel_rfl) hS ?_ ?_
                  · intro w' hk; unfold KA at hk; go_simp
                  simp only [Act.put, List.setIfInBounds_toArray, List.set_cons_zero, List.set_cons_succ]
                  refine fl_takeA (i := 21) (d := 70) (v := .int .i64 pE) rfl rfl rfl (by kernel_rfl) (by kernel_rfl) (by kernel_rfl) hS ?_ ?_
                  · intro w' hk; unfold KA at hk; go_simp
                  simp only [Act.put, List.setIfInBounds_toArray, List.set_cons_zero, List.set_cons_succ]
                  refine wpAnyH_all (rs := [0, 23]) (by kernel_rfl) (by simp) ?_
                  intro i hi
                  rcases List.mem_cons.1 hi with rfl | hi
                  · clear hi
                    refine op_val (d := 49) (v := .agg #[.float .f64 O.re, .float .f64 O.im]) (w' := w4) rfl rfl rfl (by go_simp; try rfl) ?_
                    simp only [Act.put, List.setIfInBounds_toArray, List.set_cons_zero, List.set_cons_succ]
                    refine ⟨hS, ?_⟩
                    refine wpAnyH_all (rs := [23]) (by kernel_rfl) (by simp) ?_
                    intro i hi; obtain rfl := List.mem_singleton.1 hi; clear hi
                    refine op_call (d := 72) rfl rfl rfl (by go_simp) ((spec_turn pE (HRZ.out _ B4)).mono ?_)
                    rintro e w5 ⟨T, rfl, hT, hb5⟩
                    have B5 : Below wr.heap.size wr w5 := B4.trans (hb5.mono B4.size)
                    obtain ⟨c5, d5, f5, l5⟩ := z_two ((B5.block _ hg8).trans u0)
                    have hS : KA g8 wr w5 := KA.of (B5.mono (Nat.le_of_lt hg8))
                    refine ⟨_, rfl, hS, ?_⟩
                    simp only [Act.put, List.setIfInBounds_toArray, List.set_cons_zero, List.set_cons_succ]
                    refine wpAnyH_all (rs := [24]) (by kernel_rfl) (by simp) ?_
                    intro i hi; obtain rfl := List.mem_singleton.1 hi; clear hi
                    refine op_call (d := 73) rfl rfl rfl (by go_simp) ((spec_mul Y T _).mono ?_)
                    rintro e w6 ⟨X, rfl, hX, hb6⟩
                    have B6 : Below wr.heap.size wr w6 := B5.trans (hb6.mono B5.size)
                    obtain ⟨c6, d6, f6, l6⟩ := z_two ((B6.block _ hg8).trans u0)
                    have hS : KA g8 wr w6 := KA.of (B6.mono (Nat.le_of_lt hg8))
                    refine ⟨_, rfl, hS, ?_⟩
                    simp only [Act.put, List.setIfInBounds_toArray, List.set_cons_zero, List.set_cons_succ]
                    refine wpAnyH_all (rs := [25]) (by kernel_rfl) (by simp) ?_
                    intro i hi; obtain rfl := List.mem_singleton.1 hi; clear hi
                    refine op_call (d := 74) rfl rfl rfl (by go_simp) ((spec_add O X _).mono ?_)
                    rintro e w7 ⟨S, rfl, hSv, hb7⟩
                    have B7 : Below wr.heap.size wr w7 := B6.trans (hb7.mono B6.size)
                    have g7 := (B7.block _ hg8).trans u0
                    refine ⟨_, rfl, KA.of (B7.mono (Nat.le_of_lt hg8)), ?_⟩
                    simp only [Act.put, List.setIfInBounds_toArray, List.set_cons_zero, List.set_cons_succ]
                    refine wpAnyH_all (rs := [26]) (by kernel_rfl) (by simp) ?_
                    intro i hi; obtain rfl := List.mem_singleton.1 hi; clear hi
                    refine op_store rfl rfl rfl 24 _ _ rfl g8 #[.float .f64 S.re, .float .f64 S.im] (by go_simp) (by go_simp) (there_two g7) (by kernel_rfl) (by simp [Value.oneCell']) ?_
                    have B8 := below_setCells g8 (Nat.le_refl _) [.float .f64 S.re, .float .f64 S.im] 0 _ (B7.mono (Nat.le_of_lt hg8))
                    refine ⟨KA.of B8, wpAnyH_done (by kernel_rfl) (NoPanic.normal ?_) _⟩
                    have s0 := heap_setCell_same _ _ 0 _ _ (.float .f64 S.re) g7
                    have s1 := heap_setCell_same _ _ 1 _ _ (.float .f64 S.im) s0
                    have s2 : (w7.setCells g8 0 [.float .f64 S.re, .float .f64 S.im]).heap[g8]? = some (.cells #[.float .f64 S.re, .float .f64 S.im] 24) := by simpa [World.setCells] using s1
                    have HN : Hid (S.v = fdK ov n C F sh s x (fdN C sh (kv + 1)) ∧ (w7.setCells g8 0 [.float .f64 S.re, .float .f64 S.im]).heap[g8]? = some (.cells #[.float .f64 S.re, .float .f64 S.im] 24) ∧ Below g8 wo (w7.setCells g8 0 [.float .f64 S.re, .float .f64 S.im])) :=
                      ⟨by rw [hSv, hX, hT, hY, hZ, HMv.out.1, HMv.out.2.1, HOv.out, HST.out], s2, HB8.out.trans B8⟩
                    generalize w7.setCells g8 0 [.float .f64 S.re, .float .f64 S.im] = V' at HN ⊢
                    clear s0 s1 s2 B8 B7 g7 hS HOv HMv u0 cu0 cu1 fu lu
                    go_wp2
                    go_roundw
                    case rel => exact ⟨kv + 1, S, by omega, by omega, by go_num, HN.out⟩
                    case measure => simp [intOf]; omega
                  · obtain rfl := List.mem_singleton.1 hi
                    clear hi
                    refine op_call (d := 72) rfl rfl rfl (by go_simp) ((spec_turn pE (HRZ.out _ B4)).mono ?_)
                    rintro e w5 ⟨T, rfl, hT, hb5⟩
                    have B5 : Below wr.heap.size wr w5 := B4.trans (hb5.mono B4.size)
                    obtain ⟨c5, d5, f5, l5⟩ := z_two ((B5.block _ hg8).trans u0)
                    have hS : KA g8 wr w5 := KA.of (B5.mono (Nat.le_of_lt hg8))
                    refine ⟨_, rfl, hS, ?_⟩
                    simp only [Act.put, List.setIfInBounds_toArray, List.set_cons_zero, List.set_cons_succ]
                    refine wpAnyH_all (rs := [0, 24]) (by kernel_rfl) (by simp) ?_
                    intro i hi
                    rcases List.mem_cons.1 hi with rfl | hi
                    · clear hi
                      refine op_val (d := 49) (v := .agg #[.float .f64 O.re, .float .f64 O.im]) (w' := w5) rfl rfl rfl (by go_simp; try rfl) ?_
                      simp only [Act.put, List.setIfInBounds_toArray, List.set_cons_zero, List.set_cons_succ]
                      refine ⟨hS, ?_⟩
                      refine wpAnyH_all (rs := [24]) (by kernel_rfl) (by simp) ?_
                      intro i hi; obtain rfl := List.mem_singleton.1 hi; clear hi
                      refine op_call (d := 73) rfl rfl rfl (by go_simp) ((spec_mul Y T _).mono ?_)
                      rintro e w6 ⟨X, rfl, hX, hb6⟩
                      have B6 : Below wr.heap.size wr w6 := B5.trans (hb6.mono B5.size)
                      obtain ⟨c6, d6, f6, l6⟩ := z_two ((B6.block _ hg8).trans u0)
                      have hS : KA g8 wr w6 := KA.of (B6.mono (Nat.le_of_lt hg8))
                      refine ⟨_, rfl, hS, ?_⟩
                      simp only [Act.put, List.setIfInBounds_toArray, List.set_cons_zero, List.set_cons_succ]
                      refine wpAnyH_all (rs := [25]) (by kernel_rfl) (by simp) ?_
                      intro i hi; obtain rfl := List.mem_singleton.1 hi; clear hi
                      refine op_call (d := 74) rfl rfl rfl (by go_simp) ((spec_add O X _).mono ?_)
                      rintro e w7 ⟨S, rfl, hSv, hb7⟩
                      have B7 : Below wr.heap.size wr w7 := B6.trans (hb7.mono B6.size)
                      have g7 := (B7.block _ hg8).trans u0
                      refine ⟨_, rfl, KA.of (B7.mono (Nat.le_of_lt hg8)), ?_⟩
                      simp only [Act.put, List.setIfInBounds_toArray, List.set_cons_zero, List.set_cons_succ]
                      refine wpAnyH_all (rs := [26]) (by kernel_rfl) (by simp) ?_
                      intro i hi; obtain rfl := List.mem_singleton.1 hi; clear hi
                      refine op_store rfl rfl rfl 24 _ _ rfl g8 #[.float .f64 S.re, .float .f64 S.im] (by go_simp) (by go_simp) (there_two g7) (by kernel_rfl) (by simp [Value.oneCell']) ?_
                      have B8 := below_setCells g8 (Nat.le_refl _) [.float .f64 S.re, .float .f64 S.im] 0 _ (B7.mono (Nat.le_of_lt hg8))
                      refine ⟨KA.of B8, wpAnyH_done (by kernel_rfl) (NoPanic.normal ?_) _⟩
                      have s0 := heap_setCell_same _ _ 0 _ _ (.float .f64 S.re) g7
                      have s1 := heap_setCell_same _ _ 1 _ _ (.float .f64 S.im) s0
                      have s2 : (w7.setCells g8 0 [.float .f64 S.re, .float .f64 S.im]).heap[g8]? = some (.cells #[.float .f64 S.re, .float .f64 S.im] 24) := by simpa [World.setCells] using s1
                      have HN : Hid (S.v = fdK ov n C F sh s x (fdN C sh (kv + 1)) ∧ (w7.setCells g8 0 [.float .f64 S.re, .float .f64 S.im]).heap[g8]? = some (.cells #[.float .f64 S.re, .float .f64 S.im] 24) ∧ Below g8 wo (w7.setCells g8 0 [.float .f64 S.re, .float .f64 S.im])) :=
                        ⟨by rw [hSv, hX, hT, hY, hZ, HMv.out.1, HMv.out.2.1, HOv.out, HST.out], s2, HB8.out.trans B8⟩
                      generalize w7.setCells g8 0 [.float .f64 S.re, .float .f64 S.im] = V' at HN ⊢
                      clear s0 s1 s2 B8 B7 g7 hS HOv HMv u0 cu0 cu1 fu lu
                      go_wp2
                      go_roundw
                      case rel => exact ⟨kv + 1, S, by omega, by omega, by go_num, HN.out⟩
                      case measure => simp [intOf]; omega
                    · obtain rfl := List.mem_singleton.1 hi
                      clear hi
                      refine op_call (d := 73) rfl rfl rfl (by go_simp) ((spec_mul Y T _).mono ?_)
                      rintro e w6 ⟨X, rfl, hX, hb6⟩
                      have B6 : Below wr.heap.size wr w6 := B5.trans (hb6.mono B5.size)
                      obtain ⟨c6, d6, f6, l6⟩ := z_two ((B6.block _ hg8).trans u0)
                      have hS : KA g8 wr w6 := KA.of (B6.mono (Nat.le_of_lt hg8))
                      refine ⟨_, rfl, hS, ?_⟩
                      simp only [Act.put, List.setIfInBounds_toArray, List.set_cons_zero, List.set_cons_succ]
                      refine wpAnyH_all (rs := [0]) (by kernel_rfl) (by simp) ?_
                      intro i hi; obtain rfl := List.mem_singleton.1 hi; clear hi
                      refine op_val (d := 49) (v := .agg #[.float .f64 O.re, .float .f64 O.im]) (w' := w6) rfl rfl rfl (by go_simp; try rfl) ?_
                      simp only [Act.put, List.setIfInBounds_toArray, List.set_cons_zero, List.set_cons_succ]
                      refine ⟨hS, ?_⟩
                      refine wpAnyH_all (rs := [25]) (by kernel_rfl) (by simp) ?_
                      intro i hi; obtain rfl := List.mem_singleton.1 hi; clear hi
                      refine op_call (d := 74) rfl rfl rfl (by go_simp) ((spec_add O X _).mono ?_)
                      rintro e w7 ⟨S, rfl, hSv, hb7⟩
                      have B7 : Below wr.heap.size wr w7 := B6.trans (hb7.mono B6.size)
                      have g7 := (B7.block _ hg8).trans u0
                      refine ⟨_, rfl, KA.of (B7.mono (Nat.le_of_lt hg8)), ?_⟩
                      simp only [Act.put, List.setIfInBounds_toArray, List.set_cons_zero, List.set_cons_succ]
                      refine wpAnyH_all (rs := [26]) (by kernel_rfl) (by simp) ?_
                      intro i hi; obtain rfl := List.mem_singleton.1 hi; clear hi
                      refine op_store rfl rfl rfl 24 _ _ rfl g8 #[.float .f64 S.re, .float .f64 S.im] (by go_simp) (by go_simp) (there_two g7) (by kernel_rfl) (by simp [Value.oneCell']) ?_
                      have B8 := below_setCells g8 (Nat.le_refl _) [.float .f64 S.re, .float .f64 S.im] 0 _ (B7.mono (Nat.le_of_lt hg8))
                      refine ⟨KA.of B8, wpAnyH_done (by kernel_rfl) (NoPanic.normal ?_) _⟩
                      have s0 := heap_setCell_same _ _ 0 _ _ (.float .f64 S.re) g7
                      have s1 := heap_setCell_same _ _ 1 _ _ (.float .f64 S.im) s0
                      have s2 : (w7.setCells g8 0 [.float .f64 S.re, .float .f64 S.im]).heap[g8]? = some (.cells #[.float .f64 S.re, .float .f64 S.im] 24) := by simpa [World.setCells] using s1
                      have HN : Hid (S.v = fdK ov n C F sh s x (fdN C sh (kv + 1)) ∧ (w7.setCells g8 0 [.float .f64 S.re, .float .f64 S.im]).heap[g8]? = some (.cells #[.float .f64 S.re, .float .f64 S.im] 24) ∧ Below g8 wo (w7.setCells g8 0 [.float .f64 S.re, .float .f64 S.im])) :=
                        ⟨by rw [hSv, hX, hT, hY, hZ, HMv.out.1, HMv.out.2.1, HOv.out, HST.out], s2, HB8.out.trans B8⟩
                      generalize w7.setCells g8 0 [.float .f64 S.re, .float .f64 S.im] = V' at HN ⊢
                      clear s0 s1 s2 B8 B7 g7 hS HOv HMv u0 cu0 cu1 fu lu
                      go_wp2
                      go_roundw
                      case rel => exact ⟨kv + 1, S, by omega, by omega, by go_num, HN.out⟩
                      case measure => simp [intOf]; omega
        · have HST : Hid (ftK ov n C F sh s (x + 1) = ftK ov n C F sh s x ++ [O.v]) := by
            unfold Hid
            rw [ftK_succ, hQ.out.1, show fdN C sh kv = (2 * C + 1).toNat by unfold fdN; omega]
          obtain ⟨zs, a1, a2, a3, a4⟩ := HRo.out
          have HZ : Hid (OZs wr (w.heap.size + 1) v zs ∧ zs.map Zf.v = ftK ov n C F sh s x ∧ zs.length = x ∧ Below w.heap.size w wr ∧ wr.heap[w.heap.size]? = some (.cells #[.int .i64 C, .int .i64 F, .slice ap m cp] 45)) := by
            have hk : ∀ q, v.ownBlock = some q → wr.heap[q]? = wo.heap[q]? := fun q hq => hQ.out.2.2.block q (hv8.out q hq)
            refine ⟨⟨a1.1, ?_⟩, a2, by have h3 := congrArg List.length a2; rw [List.length_map, ftK_len] at h3; exact h3, HBw.out⟩
            rcases a1.2 with hh | ⟨g, cap, cu, f1, f2, f3, f4⟩
            · exact Or.inl hh
            · refine Or.inr ⟨g, cap, cu, f1, f2, ?_, f4⟩
              rw [hk g (by rw [f1]; rfl)]
              exact f3
          clear a1 a2 a3 a4 HRo HBw
          obtain ⟨va, vc, hvf⟩ := HZ.out.1.rg.form
          rw [HZ.out.2.2.1] at hvf
          subst hvf
          have HOW : Hid (wr.ownsRow (w.heap.size + 1) 24 2 (.slice va x vc) x (zs.flatMap zC)) := by
            have h3 := HZ.out.1
            unfold OZs OG at h3
            rw [HZ.out.2.2.1] at h3
            exact h3
          clear hQ
          go_wp2_with (at_builtin; refine wpList_append_own _ rfl _ _ 30 rfl (w.heap.size + 1) 24 i0 (.agg #[.float .f64 0, .float .f64 0]) 2 16 Try.underlying30 hi hz0 hz1 hz2 rfl (by decide) _ _ _ rfl (World.ownsRow.alloc HOW.out _) ⟨wr.heap.size, 0, none⟩ 1 1 [.float .f64 O.re, .float .f64 O.im] rfl rfl (World.news_of_block (cs := #[.float .f64 O.re, .float .f64 O.im]) (t := 24) (fr := (0, 0)) (heap_alloc_new wr _)) (by simp [Value.oneCell']) (by unfold maxLen; omega) (by omega) (by simp; omega) ?_; intro v6 w6 hown6 hgrow6 _)
          have R6 : Hid (∃ zs, OZs w6 (w.heap.size + 1) v6 zs ∧ zs.map Zf.v = ftK ov n C F sh s (x + 1) ∧ Below w.heap.size w w6 ∧ w6.heap[w.heap.size]? = some (.cells #[.int .i64 C, .int .i64 F, .slice ap m cp] 45)) := by
            refine ⟨zs ++ [O], OZs.snoc (by rw [HZ.out.2.2.1]; exact hown6), by rw [List.map_append, HZ.out.2.1, HST.out]; rfl, ?_, ?_⟩
            · exact (HZ.out.2.2.2.1.alloc HZ.out.2.2.2.1.size _).grown hgrow6 (by simp; omega) (fun q hq => by have := (OG.lt HZ.out.1 q hq).1; omega)
            · rw [hgrow6.block w.heap.size (by simp; omega) (fun e => by have := (OG.lt HZ.out.1 _ e.symm).1; omega)]
              exact (Below.heap_alloc _ _ _ ql).trans HZ.out.2.2.2.2
          clear hown6 hgrow6 HOW HZ HST cu0 cu1 fu lu u0
          go_wp2
          go_roundw
          case rel => exact ⟨x + 1, v6, by omega, rfl, by go_num, R6.out⟩
          case measure => simp [intOf]; omega
    · have bx : ¬ (x : Int) < (n : Int) := by omega
      have HE : Hid (∃ zs, OZs wr w.heap.size v zs ∧ zs.map Zf.v = fdL ov n C F sh s ∧ Below w.heap.size w wr) := by
        obtain ⟨zs, a1, a2, a3, a4⟩ := hR.out
        refine ⟨zs, OG.low a1 (by omega), ?_, a3⟩
        rw [a2, show x = n by omega]
        rfl
      clear hR
      go_wp2
      go_returns
      obtain ⟨zs, a1, a2, a3⟩ := HE.out
      exact ⟨v, rfl, zs, a1, a2, a3⟩

end Go.Proofs.Ytgaabcgdfbgchaa
