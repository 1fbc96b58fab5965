/- Proved here: a box whose places are all good (allGood), of the program. -/
import Derived.Test.YthmddnachancfaaWkM
import Derived.Test.YthmddnachancfaaWnG
namespace Go.Proofs.Ythmddnachancfaa
open Go.RowKit
set_option linter.unusedVariables false
set_option linter.unusedSimpArgs false

set_option maxRecDepth 10000 in
set_option maxHeartbeats 6400000 in
theorem impl_allGood {F : Nat} {r : Value} {n W : Nat} {P : Nat → Nat → Bool} {w : World} (x0 y0 x1 y1 : Nat) (hx : x0 ≤ x1) (hx1 : x1 ≤ W) (hy : y0 ≤ y1) (hy1 : y1 ≤ n) (hn : n ≤ 16) (hW : W ≤ 16) (hK : Kd F r n W P w) :
    Calls Try.prog 57 #[.agg #[.int .i64 x0, .int .i64 y0, .int .i64 x1, .int .i64 y1], .func (.func F) #[r] #[]] w fun e w' => e = .returned (.bool (agB P x0 x1 y0 (y1 - y0))) ∧ Below w.heap.size w w' := by
  have HK : Hid (Kd F r n W P w) := hK
  obtain ⟨R, hR⟩ : ∃ R, R = agB P x0 x1 y0 (y1 - y0) := ⟨_, rfl⟩
  rw [← hR]
  have HR : Hid (R = agB P x0 x1 y0 (y1 - y0)) := hR
  clear hK hR
  obtain ⟨V, hV⟩ : ∃ V, V = w.alloc (.cells #[.int .i64 x0, .int .i64 y0, .int .i64 x1, .int .i64 y1] 34) := ⟨_, rfl⟩
  have HB : Hid (V.heap[w.heap.size]? = some (.cells #[.int .i64 x0, .int .i64 y0, .int .i64 x1, .int .i64 y1] 34) ∧ Below w.heap.size w V) := by
    rw [hV]; exact ⟨heap_alloc_new w _, by (repeat' (first | (with_reducible exact Below.refl _ _) | (with_reducible assumption) | (with_reducible refine Below.setCell ?_ ?_ _) | (with_reducible refine Below.alloc ?_ ?_ _) | (with_reducible refine below_drewN ?_ _) | (with_reducible refine Below.drew ?_) | (with_reducible exact Nat.le_refl _) | omega | (simp; done) | (simp; omega)))⟩
  obtain ⟨p0, p1, p2, p3, pl⟩ := four_of HB.out.1
  go_enter Try.func57, Try.ntmps57
  go_upto_region 1 with fail
  rw [← hV]
  clear hV
  go_wp2
  clear p0 p1 p2 p3 pl
  go_loopw [5] (fun i wr => ∃ (m : Nat), y0 ≤ m ∧ m ≤ y1 ∧ i = .int .i64 m ∧ Hid (R = agB P x0 x1 m (y1 - m) ∧ Below V.heap.size V wr)) (fun i _ => y1 - (intOf i).toNat)
  case atStart => exact ⟨y0, Nat.le_refl _, hy, rfl, HR.out, Below.refl _ _⟩
  case round =>
    obtain ⟨m, hm0, hm, rfl, hR⟩ := hrel
    obtain ⟨p0, p1, p2, p3, pl⟩ := four_of ((hR.out.2.block _ (ltOf HB.out.1)).trans HB.out.1)
    by_cases hlt : m < y1
    · have b1 : (m : Int) < (y1 : Int) := by omega
      obtain ⟨G, hG⟩ : ∃ G, G = goU (P m) x0 (x1 - x0) := ⟨_, rfl⟩
      have hGb := goU_bd (P m) (x1 - x0) x0
      rw [← hG] at hGb
      have HC : Hid (∀ V', Below wr.heap.size wr V' → Calls Try.prog 67 #[.agg #[.int .i64 x0, .int .i64 m], .int .i64 x1, .func (.func F) #[r] #[]] V' fun e w' => e = .returned (.int .i64 G) ∧ Below V'.heap.size V' w') := fun V' hV' => by
        rw [hG]; exact impl_until x0 m x1 (by omega) hx hx1 hW (HK.out.below ((HB.out.2.trans (hR.out.2.mono HB.out.2.size)).trans (hV'.mono (HB.out.2.trans (hR.out.2.mono HB.out.2.size)).size)))
      have HN : Hid (R = ((G == x1) && agB P x0 x1 (m + 1) (y1 - (m + 1)))) := by
        have h := hR.out.1
        rw [show y1 - m = (y1 - (m + 1)) + 1 by omega, agB, ← hG] at h
        exact h
      have HBB : Hid (Below V.heap.size V wr) := hR.out.2
      clear hR hG
      by_cases hlt2 : G < x1
      · have HF : Hid (R = false) := by
          unfold Hid; rw [HN.out, show (G == x1) = false from by simp; omega]; rfl
        have hd : decide ((G : Int) < (x1 : Int)) = true := decide_eq_true (by omega)
        have hd2 : (G : Int) < (x1 : Int) := by omega
        go_wp2_with (fail)
        (refine wp_region_und (by kernel_rfl) (by kernel_rfl) (fun hund => ?_); (repeat (go_big_quiet_step (first | (go_at_call 67; with_reducible refine und_call ?_ (HC.out _ (Und.below _)); exact Nat.le_refl _)))); with_reducible refine wpQuiet_nil ?_; clear hund; intro W1 hb1; obtain ⟨hc1, hf1⟩ := undcell hb1)
        have HB1 : Hid (Below w.heap.size w W1) := (HB.out.2.trans (HBB.out.mono HB.out.2.size)).trans (hb1.mono (HB.out.2.trans (HBB.out.mono HB.out.2.size)).size)
        clear hb1 hc1 hf1
        go_wp2
        go_returns
        exact ⟨by rw [HF.out]; rfl, HB1.out⟩
      · have HF : Hid (R = agB P x0 x1 (m + 1) (y1 - (m + 1))) := by
          unfold Hid; rw [HN.out, show (G == x1) = true from by simp; omega]; rfl
        have hd : decide ((G : Int) < (x1 : Int)) = false := decide_eq_false (by omega)
        have hd2 : ¬ (G : Int) < (x1 : Int) := by omega
        go_wp2_with (fail)
        have hd3 : decide ((G : Int) < (x1 : Int)) = false := decide_eq_false (by omega)
        (refine wp_region_und (by kernel_rfl) (by kernel_rfl) (fun hund => ?_); (repeat (go_big_quiet_step (first | (go_at_call 67; with_reducible refine und_call ?_ (HC.out _ (Und.below _)); exact Nat.le_refl _)))); with_reducible refine wpQuiet_nil ?_; clear hund; intro W1 hb1; obtain ⟨hc1, hf1⟩ := undcell hb1)
        have HB1 : Hid (Below V.heap.size V W1) := HBB.out.trans (hb1.mono HBB.out.size)
        clear hb1 hc1 hf1 HN
        go_wp2
        go_roundw
        case rel => exact ⟨m + 1, by omega, by omega, by go_num, HF.out, HB1.out⟩
        case measure => simp [intOf]; omega
    · have HE : Hid (R = true) := by have h := hR.out.1; rw [show y1 - m = 0 by omega] at h; exact h
      have HB3 : Hid (Below V.heap.size V wr) := hR.out.2
      clear hR
      go_wp2
      go_returns
      exact ⟨by rw [HE.out]; rfl, HB.out.2.trans (HB3.out.mono HB.out.2.size)⟩

end Go.Proofs.Ythmddnachancfaa
