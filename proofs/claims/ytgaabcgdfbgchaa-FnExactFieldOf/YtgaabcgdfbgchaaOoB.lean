/- Proved here: OrdersOf of both. -/
import Derived.Test.YtgaabcgdfbgchaaOrI
import Derived.Test.YtgaabcgdfbgchaaOrS
import Derived.Test.YtgaabcgdfbgchaaWvI
namespace Go.Proofs.Ytgaabcgdfbgchaa
open Go.RowKit
set_option linter.unusedVariables false
set_option linter.unusedSimpArgs false

def mcK (n : Nat) : Int := if n = 0 then 1 else if 24 < n then 2 else 0
def orR (ms : List Zv) : List Zv := if mcK ms.length = 0 then orL ms else []

set_option maxHeartbeats 800000 in
theorem impl_mask (a : Option Addr) (n c : Nat) (w : World) : Calls Try.prog 46 #[.slice a n c] w fun e w' => e = .returned (.int .i64 (mcK n)) ∧ w' = w := by
  unfold mcK
  by_cases h0 : n = 0
  · subst h0
    go_enter Try.func46, Try.ntmps46
    go_wp2
    go_returns
    exact ⟨rfl, rfl⟩
  rw [if_neg h0]
  have b0 : ((n : Int) == 0) = false := by simp; omega
  have b1 : ¬ (n : Int) = 0 := by omega
  by_cases h1 : 24 < n
  · have b2 : (24 : Int) < (n : Int) := by omega
    rw [if_pos h1]
    go_enter Try.func46, Try.ntmps46
    go_wp2
    go_returns
    exact ⟨rfl, rfl⟩
  · have b2 : ¬ (24 : Int) < (n : Int) := by omega
    rw [if_neg h1]
    go_enter Try.func46, Try.ntmps46
    go_wp2
    go_returns
    exact ⟨rfl, rfl⟩

set_option maxHeartbeats 800000 in
theorem spec_mask (a : Option Addr) (n c : Nat) (w : World) : Calls Try.prog 43 #[.slice a n c] w fun e w' => e = .returned (.int .i64 (mcK n)) ∧ w' = w := by
  unfold mcK
  by_cases h0 : n = 0
  · subst h0
    go_enter Try.func43, Try.ntmps43
    go_wp2
    go_returns
    exact ⟨rfl, rfl⟩
  rw [if_neg h0]
  have b0 : ((n : Int) == 0) = false := by simp; omega
  have b1 : ¬ (n : Int) = 0 := by omega
  by_cases h1 : 24 < n
  · have b2 : (24 : Int) < (n : Int) := by omega
    rw [if_pos h1]
    go_enter Try.func43, Try.ntmps43
    go_wp2
    go_returns
    exact ⟨rfl, rfl⟩
  · have b2 : ¬ (24 : Int) < (n : Int) := by omega
    rw [if_neg h1]
    go_enter Try.func43, Try.ntmps43
    go_wp2
    go_returns
    exact ⟨rfl, rfl⟩

theorem OZs.keepO {w w' : World} {B : Nat} {v : Value} {s : List Zf} (h : OZs w (B + 1) v s) (hb : ∀ g, v.ownBlock = some g → w'.heap[g]? = w.heap[g]?) : OZs w' B v s := by
  refine ⟨h.1, ?_⟩
  rcases h.2 with hh | ⟨g, cap, cu, e1, e2, e3, e4⟩
  · exact Or.inl hh
  · refine Or.inr ⟨g, cap, cu, e1, by omega, ?_, e4⟩
    rw [hb g (by rw [e1]; rfl)]
    exact e3

set_option maxHeartbeats 3200000 in
theorem impl_oo {w : World} {a : Option Addr} {n c : Nat} {mk : List Zf} (hm : RZs w (.slice a n c) mk) :
    Calls Try.prog 14 #[.slice a n c] w fun e w' => ∃ v zs, e = .returned (.agg #[.int .i64 (mcK n), v]) ∧ OZs w' w.heap.size v zs ∧ zs.map Zf.v = orR (mk.map Zf.v) ∧ Below w.heap.size w w' := by
  have hml : n = mk.length := hm.len
  have H : Hid (RZs w (.slice a n c) mk ∧ orR (mk.map Zf.v) = if mcK n = 0 then orL (mk.map Zf.v) else []) := ⟨hm, by unfold orR; rw [List.length_map, ← hml]⟩
  obtain ⟨K, hK⟩ : ∃ K, K = mcK n := ⟨_, rfl⟩
  have HM : Hid (∀ W, Calls Try.prog 46 #[.slice a n c] W fun e w' => e = .returned (.int .i64 K) ∧ w' = W) := fun W => by rw [hK]; exact impl_mask a n c W
  have HK : Hid (K = mcK n) := hK
  rw [← hK]
  clear hm hml hK
  go_enter Try.func14, Try.ntmps14
  go_wp2_with (fail)
  refine (HM.out _).mono ?_
  rintro e w1 ⟨rfl, hw1⟩
  subst w1
  by_cases hK0 : K = 0
  case neg =>
    have HE : Hid (orR (mk.map Zf.v) = []) := by unfold Hid; rw [H.out.2, if_neg (by rw [← HK.out]; exact hK0)]
    go_wp2
    go_returns
    exact ⟨_, [], rfl, World.ownsRow_nil _ _ _ _, by rw [HE.out]; rfl, by (repeat' (first | (with_reducible exact Below.refl _ _) | (with_reducible assumption) | (with_reducible refine Below.setCell ?_ ?_ _) | (with_reducible refine Below.alloc ?_ ?_ _) | (with_reducible refine below_drewN ?_ _) | (with_reducible refine Below.drew ?_) | (with_reducible exact Nat.le_refl _) | omega | (simp; done) | (simp; omega)))⟩
  have hn : 1 ≤ n ∧ n ≤ 24 := by
    have h3 := HK.out
    unfold mcK at h3
    split at h3
    · omega
    · split at h3 <;> omega
  have HE : Hid (orR (mk.map Zf.v) = orL (mk.map Zf.v)) := by unfold Hid; rw [H.out.2, if_pos (by rw [← HK.out]; exact hK0)]
  subst hK0
  go_wp2_with (fail)
  refine (impl_orders (H.out.1.below (by (repeat' (first | (with_reducible exact Below.refl _ _) | (with_reducible assumption) | (with_reducible refine Below.setCell ?_ ?_ _) | (with_reducible refine Below.alloc ?_ ?_ _) | (with_reducible refine below_drewN ?_ _) | (with_reducible refine Below.drew ?_) | (with_reducible exact Nat.le_refl _) | omega | (simp; done) | (simp; omega))))) hn.1 hn.2).mono ?_
  rintro e w2 ⟨g, zs, rfl, hz2, hv2, hb2⟩
  have K2 : Hid (Below w.heap.size w w2 ∧ w2.heap[w.heap.size]? = some (.cells #[.int .i64 0, .slice none 0 0] 32) ∧ w.heap.size < w2.heap.size ∧ RCs w2 (.slice (some ⟨g, 0, none⟩) n n) zs ∧ zs.map Zf.v = orL (mk.map Zf.v) ∧ zs.length = n) :=
    ⟨(show Below w.heap.size w _ from by (repeat' (first | (with_reducible exact Below.refl _ _) | (with_reducible assumption) | (with_reducible refine Below.setCell ?_ ?_ _) | (with_reducible refine Below.alloc ?_ ?_ _) | (with_reducible refine below_drewN ?_ _) | (with_reducible refine Below.drew ?_) | (with_reducible exact Nat.le_refl _) | omega | (simp; done) | (simp; omega)))).trans (hb2.mono (by simp)), (hb2.block _ (by simp)).trans (heap_alloc_new w _), by have := hb2.size; simp at this; omega, hz2.rg, hv2, hz2.rg.len.symm⟩
  clear hz2 hv2 hb2
  go_wp2_with (fail)
  refine (impl_wave (by rw [K2.out.2.2.2.2.2]; omega) K2.out.2.2.2.1).mono ?_
  rintro e w4 ⟨g4, rfl, hz4, hb4⟩
  have KB : Hid (Below w.heap.size w w4 ∧ w4.heap[w.heap.size]? = some (.cells #[.int .i64 0, .slice none 0 0] 32)) := ⟨K2.out.1.trans (hb4.mono K2.out.1.size), (hb4.block _ K2.out.2.2.1).trans K2.out.2.1⟩
  have ZB4 : Hid (OZs w4 (w.heap.size + 1) (.slice (some ⟨g4, 0, none⟩) zs.length zs.length) zs ∧ zs.map Zf.v = orL (mk.map Zf.v)) := ⟨OG.low hz4 (by have := K2.out.2.2.1; omega), K2.out.2.2.2.2.1⟩
  clear hz4 hb4 K2
  have k4 := KB.out.2
  obtain ⟨p0, p1, pf, pl⟩ := z_two k4
  have pf0 := pf 0
  have pf1 := pf 1
  clear pf k4
  go_wp2
  refine bodyPost_ret (by simp [results, Try.results14, go_sem, p0, p1]; try rfl) rfl ⟨_, zs, rfl, ?_, by rw [HE.out]; exact ZB4.out.2, ?_⟩
  · refine OZs.keepO (ZB4.out.1) fun g hg => ?_
    have := (OG.lt ZB4.out.1 g hg).1
    rw [heap_setCell_other _ _ _ _ (by simp; omega), heap_setCell_other _ _ _ _ (by simp; omega)]
  · have hB := KB.out.1
    (repeat' (first | (with_reducible exact Below.refl _ _) | (with_reducible assumption) | (with_reducible refine Below.setCell ?_ ?_ _) | (with_reducible refine Below.alloc ?_ ?_ _) | (with_reducible refine below_drewN ?_ _) | (with_reducible refine Below.drew ?_) | (with_reducible exact Nat.le_refl _) | omega | (simp; done) | (simp; omega)))

set_option maxHeartbeats 3200000 in
theorem spec_oo {w : World} {a : Option Addr} {n c : Nat} {mk : List Zf} (hm : RZs w (.slice a n c) mk) :
    Calls Try.prog 12 #[.slice a n c] w fun e w' => ∃ v zs, e = .returned (.agg #[.int .i64 (mcK n), v]) ∧ OZs w' w.heap.size v zs ∧ zs.map Zf.v = orR (mk.map Zf.v) ∧ Below w.heap.size w w' := by
  have hml : n = mk.length := hm.len
  have H : Hid (RZs w (.slice a n c) mk ∧ orR (mk.map Zf.v) = if mcK n = 0 then orL (mk.map Zf.v) else []) := ⟨hm, by unfold orR; rw [List.length_map, ← hml]⟩
  obtain ⟨K, hK⟩ : ∃ K, K = mcK n := ⟨_, rfl⟩
  have HM : Hid (∀ W, Calls Try.prog 43 #[.slice a n c] W fun e w' => e = .returned (.int .i64 K) ∧ w' = W) := fun W => by rw [hK]; exact spec_mask a n c W
  have HK : Hid (K = mcK n) := hK
  rw [← hK]
  clear hm hml hK
  go_enter Try.func12, Try.ntmps12
  go_wp2_with (fail)
  refine (HM.out _).mono ?_
  rintro e w1 ⟨rfl, hw1⟩
  subst w1
  by_cases hK0 : K = 0
  case neg =>
    have HE : Hid (orR (mk.map Zf.v) = []) := by unfold Hid; rw [H.out.2, if_neg (by rw [← HK.out]; exact hK0)]
    go_wp2
    go_returns
    exact ⟨_, [], rfl, World.ownsRow_nil _ _ _ _, by rw [HE.out]; rfl, by (repeat' (first | (with_reducible exact Below.refl _ _) | (with_reducible assumption) | (with_reducible refine Below.setCell ?_ ?_ _) | (with_reducible refine Below.alloc ?_ ?_ _) | (with_reducible refine below_drewN ?_ _) | (with_reducible refine Below.drew ?_) | (with_reducible exact Nat.le_refl _) | omega | (simp; done) | (simp; omega)))⟩
  have hn : 1 ≤ n ∧ n ≤ 24 := by
    have h3 := HK.out
    unfold mcK at h3
    split at h3
    · omega
    · split at h3 <;> omega
  have HE : Hid (orR (mk.map Zf.v) = orL (mk.map Zf.v)) := by unfold Hid; rw [H.out.2, if_pos (by rw [← HK.out]; exact hK0)]
  subst hK0
  go_wp2_with (fail)
  refine (spec_roots _).mono ?_
  rintro e w2 ⟨rv, rfl, hr2, hb2⟩
  obtain ⟨ra, rc, hrf⟩ := hr2.rg.form
  rw [rzK_len] at hrf
  subst hrf
  have K2 : Hid (Below w.heap.size w w2 ∧ w2.heap[w.heap.size]? = some (.cells #[.int .i64 0, .slice none 0 0] 32) ∧ w.heap.size < w2.heap.size ∧ RZs w2 (.slice ra 20 rc) (rzK 20)) :=
    ⟨(show Below w.heap.size w _ from by (repeat' (first | (with_reducible exact Below.refl _ _) | (with_reducible assumption) | (with_reducible refine Below.setCell ?_ ?_ _) | (with_reducible refine Below.alloc ?_ ?_ _) | (with_reducible refine below_drewN ?_ _) | (with_reducible refine Below.drew ?_) | (with_reducible exact Nat.le_refl _) | omega | (simp; done) | (simp; omega)))).trans (hb2.mono (by simp)), (hb2.block _ (by simp)).trans (heap_alloc_new w _), by have := hb2.size; simp at this; omega, hr2.rg⟩
  clear hr2 hb2
  go_wp2_with (fail)
  refine (spec_orders (H.out.1.below K2.out.1) K2.out.2.2.2 hn.1 hn.2).mono ?_
  rintro e w4 ⟨v, zs, rfl, hz4, hv4, hb4⟩
  have KB : Hid (Below w.heap.size w w4 ∧ w4.heap[w.heap.size]? = some (.cells #[.int .i64 0, .slice none 0 0] 32)) := ⟨K2.out.1.trans (hb4.mono K2.out.1.size), (hb4.block _ K2.out.2.2.1).trans K2.out.2.1⟩
  have ZB4 : Hid (OZs w4 (w.heap.size + 1) v zs ∧ zs.map Zf.v = orL (mk.map Zf.v)) := ⟨OG.low hz4 (by have := K2.out.2.2.1; omega), hv4⟩
  clear hz4 hb4 hv4 K2
  have k4 := KB.out.2
  obtain ⟨p0, p1, pf, pl⟩ := z_two k4
  have pf0 := pf 0
  have pf1 := pf 1
  clear pf k4
  obtain ⟨xa, xc, hxf⟩ := ZB4.out.1.rg.form
  subst hxf
  go_wp2
  refine bodyPost_ret (by simp [results, Try.results12, go_sem, p0, p1]; try rfl) rfl ⟨_, zs, rfl, ?_, by rw [HE.out]; exact ZB4.out.2, ?_⟩
  · refine OZs.keepO (ZB4.out.1) fun g hg => ?_
    have := (OG.lt ZB4.out.1 g hg).1
    rw [heap_setCell_other _ _ _ _ (by simp; omega), heap_setCell_other _ _ _ _ (by simp; omega)]
  · have hB := KB.out.1
    (repeat' (first | (with_reducible exact Below.refl _ _) | (with_reducible assumption) | (with_reducible refine Below.setCell ?_ ?_ _) | (with_reducible refine Below.alloc ?_ ?_ _) | (with_reducible refine below_drewN ?_ _) | (with_reducible refine Below.drew ?_) | (with_reducible exact Nat.le_refl _) | omega | (simp; done) | (simp; omega)))

end Go.Proofs.Ytgaabcgdfbgchaa
