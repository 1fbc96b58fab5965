/- Proved here: the closures of StripMat and PolishTo. -/
import Derived.Test.YtceljakmjddgbabEtM
import Derived.Test.YtceljakmjddgbabInsC
import Derived.Test.YtceljakmjddgbabLyW
import Derived.Test.YtceljakmjddgbabScI
namespace Go.Proofs.Ytceljakmjddgbab
open Go.RowKit
set_option linter.unusedVariables false
set_option linter.unusedSimpArgs false

theorem layC_fm (l : List Lay) : l.flatMap layC = l.map layV := by
  induction l with
  | nil => rfl
  | cons a t ih => rw [List.flatMap_cons, List.map_cons, ih]; rfl
theorem og_layset {w : World} {B g n c : Nat} {l : List Lay} (h : OG 88 1 layC w B (.slice (some ⟨g, 0, none⟩) n c) l) (k : Nat) (x : Lay) : OG 88 1 layC (w.setCell ⟨g, k, none⟩ (layV x)) B (.slice (some ⟨g, 0, none⟩) n c) (l.set k x) := by
  have hn : n = l.length := by obtain ⟨_, _, e⟩ := h.form; injection e
  subst hn
  have h1 := (World.ownsRow.stored h k (layV x)).1
  unfold OG
  rw [List.length_set, layC_fm, List.map_set, ← layC_fm]
  exact h1
theorem og_layat {w : World} {B g n c : Nat} {l : List Lay} (h : OG 88 1 layC w B (.slice (some ⟨g, 0, none⟩) n c) l) {k : Nat} (hk : k < l.length) : w.cell? ⟨g, k, none⟩ = some (layV (lat l k)) ∧ w.frozen? ⟨g, k, none⟩ = false ∧ g < w.heap.size := by
  have hn : n = l.length := by obtain ⟨_, _, e⟩ := h.form; injection e
  subst hn
  refine ⟨?_, World.ownsRow.frozenAt h k, (World.ownsRow.lt h g rfl).2⟩
  rw [World.ownsRow.cellAt h k (by omega), layC_fm, lat_get hk]
  simp [hk]

set_option maxRecDepth 10000 in
set_option maxHeartbeats 6400000 in
theorem impl_strip1 {W : World} {i : Nat} {ua : Option Addr} {un uc k1 : Nat} {c : List Flm} {m : Int} (hc : GC c) (hk1 : k1 < W.heap.size) (h1 : W.cell? ⟨k1, 0, none⟩ = some (.int .i64 m)) (h : RG 2 flC W (.slice ua un uc) c) :
    Calls Try.prog 66 #[.int .i64 i, .slice ua un uc, .pointer (some ⟨k1, 0, none⟩)] W fun e w' => ∃ u, e = .returned u ∧ OG 88 1 layC w' W.heap.size u (stL c m) ∧ Below W.heap.size W w' := by
  obtain ⟨n, hn⟩ : ∃ n, n = un := ⟨_, rfl⟩
  subst hn
  have HN : Hid (n = c.length) := h.len
  have hn24 : n ≤ 24 := by rw [h.len]; exact hc.len
  have HWH : Hid (Calls Try.prog 47 #[.slice ua n uc] W fun e w' => e = .returned (.slice (some ⟨W.heap.size, 0, none⟩) n n) ∧ OG 88 1 layC w' W.heap.size (.slice (some ⟨W.heap.size, 0, none⟩) n n) (whoL c) ∧ Below W.heap.size W w') := by
    rw [HN.out]; have := h; rw [HN.out] at this; exact impl_whole (Nat.le_trans hc.len (by omega)) this
  have H : Hid (RG 2 flC W (.slice ua n uc) c) := h
  clear h hc
  go_enter Try.func66, Try.ntmps66
  go_wp2_with (fail)
  refine HWH.out.mono ?_
  rintro e w1 ⟨rfl, ho, hb⟩
  have q1 : w1.cell? ⟨k1, 0, none⟩ = some (.int .i64 m) := (hb.cell (p := ⟨k1, 0, none⟩) hk1).trans h1
  have q2 : k1 < w1.heap.size := Nat.lt_of_lt_of_le hk1 hb.size
  have HO : Hid (OG 88 1 layC w1 W.heap.size (.slice (some ⟨W.heap.size, 0, none⟩) n n) (whoL c) ∧ Below W.heap.size W w1) := ⟨ho, hb⟩
  clear HWH ho hk1 h1
  rcases Nat.eq_zero_or_pos n with hn0 | hn0
  · have HE : Hid (stL c m = whoL c) := by unfold Hid stL; rw [if_neg (by have := HN.out; omega)]
    subst hn0
    have k1' : IntKind.i64.wrap (-1) = -1 := by decide
    have k2' : ¬ (0 : Int) ≤ -1 := by omega
    clear hb
    go_wp2_with (fail)
    (refine wp_region_und (by kernel_rfl) (by kernel_rfl) (fun hund => ?_); (repeat (go_big_quiet_step (fail))); with_reducible refine wpQuiet_nil ?_; clear hund; intro W1 hb1; obtain ⟨hc1, hf1⟩ := undcell hb1)
    have HF : Hid (OG 88 1 layC W1 W.heap.size (.slice (some ⟨W.heap.size, 0, none⟩) 0 0) (stL c m) ∧ Below W.heap.size W W1) := by
      rw [HE.out]; exact ⟨HO.out.1.below hb1, HO.out.2.trans (hb1.mono HO.out.2.size)⟩
    clear hb1 hc1 hf1
    go_wp2
    go_returns
    exact ⟨_, rfl, HF.out.1, HF.out.2⟩
  obtain ⟨p, hp⟩ : ∃ p, n = p + 1 := ⟨n - 1, by omega⟩
  have hpl : p < c.length := by rw [← HN.out]; omega
  obtain ⟨g, o, rfl, hgl, d0, d1⟩ := fl_at (H.out.below hb) (show p < n by omega)
  obtain ⟨pm, hpm⟩ : ∃ x, x = (fat c p).m := ⟨_, rfl⟩
  obtain ⟨pt, hpt⟩ : ∃ x, x = (fat c p).t := ⟨_, rfl⟩
  rw [← hpm] at d0
  rw [← hpt] at d1
  have HP : Hid (pm = (fat c (c.length - 1)).m ∧ pt = (fat c (c.length - 1)).t ∧ 0 < c.length ∧ c.length - 1 = p) := by
    have e : c.length - 1 = p := by rw [← HN.out]; omega
    exact ⟨by rw [e]; exact hpm, by rw [e]; exact hpt, by omega, e⟩
  have k1' : IntKind.i64.wrap ((n : Int) - 1) = (p : Int) := by rw [IntKind.wrap_i64]; omega
  have k2' : (n : Int) - 1 = (p : Int) := by omega
  have k3 : (0 : Int) ≤ (p : Int) := by omega
  have k4 : (p : Int) < (n : Int) := by omega
  clear hp hpm hpt hb
  by_cases hs : pm = m
  · have HE : Hid (stL c m = (whoL c).set p (.gon pm pt)) := by
      have h9 := HP.out
      unfold Hid stL
      rw [if_pos ⟨h9.2.2.1, by rw [← h9.1]; exact hs⟩, ← h9.1, ← h9.2.1, h9.2.2.2]
    subst hs
    go_wp2_with (fail)
    (refine wp_region_und (by kernel_rfl) (by kernel_rfl) (fun hund => ?_); (repeat (go_big_quiet_step (fail))); with_reducible refine wpQuiet_nil ?_; clear hund; intro W1 hb1; obtain ⟨hc1, hf1⟩ := undcell hb1)
    have hoW := HO.out.1.below hb1
    obtain ⟨c0, f0, g0⟩ := og_layat hoW (show p < (whoL c).length by rw [whoL_len]; exact hpl)
    have HF : Hid (OG 88 1 layC (W1.setCell ⟨W.heap.size, p, none⟩ (layV (.gon pm pt))) W.heap.size (.slice (some ⟨W.heap.size, 0, none⟩) n n) (stL c pm) ∧ Below W.heap.size W (W1.setCell ⟨W.heap.size, p, none⟩ (layV (.gon pm pt)))) := by
      rw [HE.out]; exact ⟨og_layset hoW p _, (HO.out.2.trans (hb1.mono HO.out.2.size)).setCell (Nat.le_refl _) _⟩
    have e0 := (hc1 g (o + p * 2) hgl).trans d0
    have e1 := (hc1 g (o + p * 2 + 1) hgl).trans d1
    have e3 : g < W1.heap.size := Nat.lt_of_lt_of_le hgl hb1.size
    obtain ⟨cv, hcv⟩ : ∃ x, x = layV (lat (whoL c) p) := ⟨_, rfl⟩
    rw [← hcv] at c0
    clear hb1 hc1 hf1 hoW d0 d1 hgl q1 q2 hcv
    go_wp2
    go_returns
    exact ⟨_, rfl, HF.out.1, HF.out.2⟩
  · have hs' : (pm == m) = false := by simpa using hs
    have HE : Hid (stL c m = whoL c) := by
      unfold Hid stL; rw [if_neg (fun h => hs (by rw [HP.out.1]; exact h.2))]
    go_wp2_with (fail)
    (refine wp_region_und (by kernel_rfl) (by kernel_rfl) (fun hund => ?_); (repeat (go_big_quiet_step (fail))); with_reducible refine wpQuiet_nil ?_; clear hund; intro W1 hb1; obtain ⟨hc1, hf1⟩ := undcell hb1)
    have HF : Hid (OG 88 1 layC W1 W.heap.size (.slice (some ⟨W.heap.size, 0, none⟩) n n) (stL c m) ∧ Below W.heap.size W W1) := by
      rw [HE.out]; exact ⟨HO.out.1.below hb1, HO.out.2.trans (hb1.mono HO.out.2.size)⟩
    clear hb1 hc1 hf1 d0 d1 hgl q1 q2
    go_wp2
    go_returns
    exact ⟨_, rfl, HF.out.1, HF.out.2⟩

set_option maxHeartbeats 1600000 in
theorem impl_less (m t b : Int) (w : World) : Calls Try.prog 79 #[.agg #[.int .i64 m, .int .i64 t], .int .i64 b] w fun e w' => e = .returned (layV (lessL ⟨m, t⟩ b)) ∧ Below w.heap.size w w' := by
  by_cases h : t ≤ b
  · have e : lessL ⟨m, t⟩ b = .gon m t := by unfold lessL; rw [if_pos h]
    rw [e]
    go_enter Try.func79, Try.ntmps79
    go_wp2
    go_returns
    exact ⟨rfl, by (repeat' (first | (with_reducible exact Below.refl _ _) | (with_reducible assumption) | (with_reducible refine Below.setCell ?_ ?_ _) | (with_reducible refine Below.alloc ?_ ?_ _) | (with_reducible refine below_drewN ?_ _) | (with_reducible refine Below.drew ?_) | (with_reducible exact Nat.le_refl _) | omega | (simp; done) | (simp; omega)))⟩
  · have e : lessL ⟨m, t⟩ b = .thi m t b := by unfold lessL; rw [if_neg h]
    rw [e]
    go_enter Try.func79, Try.ntmps79
    go_wp2
    go_returns
    exact ⟨rfl, by (repeat' (first | (with_reducible exact Below.refl _ _) | (with_reducible assumption) | (with_reducible refine Below.setCell ?_ ?_ _) | (with_reducible refine Below.alloc ?_ ?_ _) | (with_reducible refine below_drewN ?_ _) | (with_reducible refine Below.drew ?_) | (with_reducible exact Nat.le_refl _) | omega | (simp; done) | (simp; omega)))⟩

end Go.Proofs.Ytceljakmjddgbab
