/- Proved here: how the laws' package marks lists of bytes. -/
import Derived.Test.YtejpjbihdclngaaLwS
import Derived.Test.YtejpjbihdclngaaByC
namespace Go.Proofs.Ytejpjbihdclngaa
open Go.RowKit
set_option linter.unusedVariables false
set_option linter.unusedSimpArgs false

def mkB (z : Int) (n : Nat) : List Value := (List.range n).map fun j : Nat => Value.int .u8 ((z + (j : Int)) % 256)
theorem mkB_len (z : Int) (n : Nat) : (mkB z n).length = n := by simp [mkB]
theorem mkB_at {z : Int} {n j : Nat} (h : j < n) : (mkB z n)[j]? = some (.int .u8 ((z + (j : Int)) % 256)) := by simp [mkB, h]
theorem mkB_of {z : Int} {n : Nat} {ys : List Value} (hl : ys.length = n) (h : ∀ t, t < n → ys[t]? = some (.int .u8 ((z + (t : Int)) % 256))) : ys = mkB z n := by
  apply List.ext_getElem?
  intro t
  rcases Nat.lt_or_ge t n with ht | ht
  · rw [h t ht, mkB_at ht]
  · rw [List.getElem?_eq_none (by omega), List.getElem?_eq_none (by rw [mkB_len]; omega)]

set_option maxHeartbeats 800000 in
theorem markByteS_zero (a : Option Addr) (c : Nat) (z : Int) (w : World) :
    Calls Try.prog 30 #[.slice a 0 c, .int .i64 z] w fun e w' => e = .returned (.int .i64 z) ∧ w' = w := by
  go_enter Try.func30, Try.ntmps30
  go_wp2
  refine wp_loop_rounds 1 ?_
  rw [rounds_succ]
  go_wp2
  go_returns
  exact ⟨rfl, rfl⟩
theorem marksByte_step {ys : List Value} {n j : Nat} {z z0 : Int} (hl : ys.length = n) (hj : j < n) (hz : z = z0 + (j : Int)) (h : ∀ t, t < j → ys[t]? = some (.int .u8 ((z0 + (t : Int)) % 256))) :
    ∀ t, t < j + 1 → ((ys.set (j) (.int .u8 (z % 256))))[t]? = some (.int .u8 ((z0 + (t : Int)) % 256)) := by
  intro t ht
  rcases Nat.lt_or_ge t (j) with h1 | h1
  · rw [List.getElem?_set_ne (by omega)]
    exact h t h1
  · have htj : t = j := by omega
    subst htj
    · rw [List.getElem?_set_self (by (try simp); omega)]
      rw [show z = z0 + ((t : Nat) : Int) by omega]

set_option maxRecDepth 10000 in
set_option maxHeartbeats 3200000 in
theorem markByteS_pos (g c n B : Nat) (ys : List Value) (z0 : Int) (w : World) (hn : n ≤ 1048576) (hz0 : 0 ≤ z0) (hz1 : z0 ≤ 1000000000000) (h : w.ownsRow B 5 1 (.slice (some ⟨g, 0, none⟩) n c) n ys) :
    Calls Try.prog 30 #[.slice (some ⟨g, 0, none⟩) n c, .int .i64 z0] w fun e w' => e = .returned (.int .i64 (z0 + (n : Int))) ∧ w'.ownsRow B 5 1 (.slice (some ⟨g, 0, none⟩) n c) n (mkB z0 (n)) ∧ Only g w w' := by
  have H : Hid (w.ownsRow B 5 1 (.slice (some ⟨g, 0, none⟩) n c) n ys) := h
  clear h
  go_enter Try.func30, Try.ntmps30
  go_wp2
  go_loopw [1, 5] (fun q i wr => ∃ (j : Nat) (z : Int), j ≤ n ∧ i = .int .i64 j ∧ q = .int .i64 z ∧ 0 ≤ z ∧ z ≤ 1000100000000 ∧ Hid (z = z0 + (j : Int) ∧ ∃ ys : List Value, ys.length = n ∧ (∀ t, t < j → ys[t]? = some (.int .u8 ((z0 + (t : Int)) % 256))) ∧ wr.ownsRow B 5 1 (.slice (some ⟨g, 0, none⟩) n c) n ys ∧ Only g w wr)) (fun _ i _ => n - (intOf i).toNat)
  case atStart => exact ⟨0, z0, Nat.zero_le _, rfl, rfl, by omega, by omega, by simp, ys, by have := H.out.1; omega, fun t ht => by omega, H.out, Only.refl _ _⟩
  case round =>
    clear H
    obtain ⟨j, z, hj, rfl, rfl, hzz0, hzz1, hR⟩ := hrel
    by_cases hlt : j < n
    · obtain ⟨hzj, ys, hyl, hyt, ho, hon⟩ := hR.out
      have HZ : Hid (z + 1 = z0 + ((j + 1 : Nat) : Int)) := by unfold Hid; omega
      have hz4 : z + 1 ≤ 1000100000000 := by omega
      have f0 := World.ownsRow.frozenAt ho (j)
      have g0 : wr.cell? ⟨g, j, none⟩ = some (ys.getD (j) (.bool false)) := by rw [World.ownsRow.cellAt ho _ (by omega)]; simp [hyl, show j < n by omega]
      have R : Hid (∃ ys : List Value, ys.length = n ∧ (∀ t, t < j + 1 → ys[t]? = some (.int .u8 ((z0 + (t : Int)) % 256))) ∧ ((wr.setCell ⟨g, j, none⟩ (.int .u8 (z % 256)))).ownsRow B 5 1 (.slice (some ⟨g, 0, none⟩) n c) n ys ∧ Only g w ((wr.setCell ⟨g, j, none⟩ (.int .u8 (z % 256))))) :=
        ⟨_, by simpa using hyl, marksByte_step hyl hlt hzj hyt, (World.ownsRow.stored ho (j) (.int .u8 (z % 256))).1, (hon.set _ _)⟩
      have hgl : g < wr.heap.size := (World.ownsRow.lt ho g rfl).2
      clear ho hon hR hyl hzj hyt
      generalize ys.getD (j) (.bool false) = v0 at g0
      have hwz : IntKind.u8.wrap z = z % 256 := IntKind.wrap_u8 z
      have b0 : (0 : Int) ≤ (j : Int) := by omega
      have b1 : (j : Int) < (n : Int) := by omega
      go_wp2
      go_roundw
      case rel => exact ⟨j + 1, _, by omega, by go_num, rfl, by omega, hz4, HZ.out, R.out⟩
      case measure => simp [intOf]; omega
    · have HR : Hid _ := hR.out
      clear hR
      go_wp2
      go_returns
      obtain ⟨hzj, ys, hyl, hyt, ho, hon⟩ := HR.out
      obtain rfl : j = n := by omega
      refine ⟨by rw [hzj]; rfl, ?_, hon⟩
      rw [← mkB_of hyl hyt]; exact ho
theorem markByteS_to {w : World} {B Z n : Nat} {v : Value} {ys : List Value} (z : Int) (hn : n ≤ 1048576) (hz0 : 0 ≤ z) (hz1 : z ≤ 1000000000000) (h : w.ownsRow B 5 1 v n ys) (hZ : ∀ g, v.ownBlock = some g → g < Z) :
    Calls Try.prog 30 #[v, .int .i64 z] w fun e w' => e = .returned (.int .i64 (z + (n : Int))) ∧ w'.ownsRow B 5 1 v n (mkB z (n)) ∧ Chg B Z w w' := by
  rcases h.2 with ⟨rfl, rfl⟩ | ⟨g, cap, cur, rfl, hB, _⟩
  · refine (markByteS_zero none 0 z w).mono ?_
    rintro e w' ⟨rfl, rfl⟩
    refine ⟨by simp, ?_, Chg.refl _ _ _⟩
    have e : ys = [] := List.length_eq_zero_iff.1 (by have := h.1; omega)
    rw [e] at h
    simpa [mkB] using h
  · refine (markByteS_pos g cap n B ys z w hn hz0 hz1 h).mono ?_
    rintro e w' ⟨rfl, h1, h2⟩
    exact ⟨rfl, h1, Chg.only h2 hB (hZ g rfl)⟩

set_option maxHeartbeats 800000 in
theorem heldByteS_zero (a : Option Addr) (c : Nat) (z : Int) (w : World) :
    Calls Try.prog 64 #[.slice a 0 c, .int .i64 z] w fun e w' => e = .returned (.int .i64 z) ∧ w' = w := by
  go_enter Try.func64, Try.ntmps64
  go_wp2
  refine wp_loop_rounds 1 ?_
  rw [rounds_succ]
  go_wp2
  go_returns
  exact ⟨rfl, rfl⟩

set_option maxHeartbeats 3200000 in
theorem heldByteS_pos (g c n : Nat) (z0 : Int) (w : World) (hn : n ≤ 1048576) (hz0 : 0 ≤ z0) (hz1 : z0 ≤ 1000000000000) (h : ∀ t, t < n → w.cell? ⟨g, t, none⟩ = some (.int .u8 ((z0 + (t : Int)) % 256))) :
    Calls Try.prog 64 #[.slice (some ⟨g, 0, none⟩) n c, .int .i64 z0] w fun e w' => e = .returned (.int .i64 (z0 + (n : Int))) ∧ w' = w := by
  have H : Hid (∀ t, t < n → w.cell? ⟨g, t, none⟩ = some (.int .u8 ((z0 + (t : Int)) % 256))) := h
  clear h
  go_enter Try.func64, Try.ntmps64
  go_wp2
  go_loop [1, 5] (fun q i => ∃ (j : Nat) (z : Int), j ≤ n ∧ i = .int .i64 j ∧ q = .int .i64 z ∧ 0 ≤ z ∧ z ≤ 1000100000000 ∧ Hid (z = z0 + (j : Int))) (fun _ i => n - (intOf i).toNat)
  case atStart => exact ⟨0, z0, Nat.zero_le _, rfl, rfl, by omega, by omega, by unfold Hid; simp⟩
  case round =>
    obtain ⟨j, z, hj, rfl, rfl, hzz0, hzz1, hR⟩ := hrel
    by_cases hlt : j < n
    · have HZ : Hid (z + 1 = z0 + ((j + 1 : Nat) : Int)) := by unfold Hid; have := hR.out; omega
      have c0 := H.out (j) (by omega)
      rw [show (z0 + (((j : Nat)) : Int)) % 256 = z % 256 by have := hR.out; omega] at c0
      have hwz : IntKind.u8.wrap z = z % 256 := IntKind.wrap_u8 z
      have b0 : (0 : Int) ≤ (j : Int) := by omega
      have b1 : (j : Int) < (n : Int) := by omega
      have hz4 : z + 1 ≤ 1000100000000 := by have := HZ.out; omega
      clear hR
      go_wp2
      go_round
      case rel => exact ⟨j + 1, _, by omega, by go_num, rfl, by omega, hz4, HZ.out⟩
      case measure => simp [intOf]; omega
    · have e : Hid (z = z0 + (n : Int)) := by unfold Hid; rw [hR.out]; omega
      go_wp2
      go_returns
      exact ⟨by rw [← e.out]; rfl, rfl⟩
theorem heldByteS_to {w : World} {B n : Nat} {v : Value} (z : Int) (hn : n ≤ 1048576) (hz0 : 0 ≤ z) (hz1 : z ≤ 1000000000000) (h : w.ownsRow B 5 1 v n (mkB z (n))) :
    Calls Try.prog 64 #[v, .int .i64 z] w fun e w' => e = .returned (.int .i64 (z + (n : Int))) ∧ w' = w := by
  rcases h.2 with ⟨rfl, rfl⟩ | ⟨g, cap, cur, rfl, hB, _⟩
  · refine (heldByteS_zero none 0 z w).mono ?_
    rintro e w' ⟨rfl, rfl⟩
    exact ⟨by simp, rfl⟩
  · refine heldByteS_pos g cap n z w hn hz0 hz1 fun t ht => ?_
    rw [World.ownsRow.cellAt (w := w) (g := g) (cap := cap) h t (by omega), mkB_at ht]

end Go.Proofs.Ytejpjbihdclngaa
