/- Proved here: the program's Coins, at every three numbers. -/
import Derived.Test.YtfjfogiohijkkaaSCoins
import Derived.Laws.StructEq
namespace Go.Proofs.Ytfjfogiohijkkaa
open Go.RowKit
set_option linter.unusedVariables false
set_option linter.unusedSimpArgs false

def clampz (n lo hi : Int) : Int := if n < lo then lo else if hi < n then hi else n

set_option maxHeartbeats 400000 in
theorem clamp_any (n lo hi : Int) (w : World) :
    Calls Try.prog 52 #[.int .i64 n, .int .i64 lo, .int .i64 hi] w fun e w' => e = .returned (.int .i64 (clampz n lo hi)) ∧ w' = w := by
  unfold clampz
  by_cases h1 : n < lo
  · rw [if_pos h1]
    go_enter Try.func52, Try.ntmps52
    go_wp2
    go_ret
    exact ⟨rfl, rfl⟩
  · rw [if_neg h1]
    by_cases h2 : hi < n
    · rw [if_pos h2]
      go_enter Try.func52, Try.ntmps52
      go_wp2
      go_ret
      exact ⟨rfl, rfl⟩
    · rw [if_neg h2]
      go_enter Try.func52, Try.ntmps52
      go_wp2
      go_ret
      exact ⟨rfl, rfl⟩

set_option maxHeartbeats 1600000 in
theorem within_any (s n m : Int) (w : World) :
    Calls Try.prog 51 #[.agg #[.int .i64 s, .int .i64 n, .int .i64 m]] w fun e w' => e = .returned (.agg #[.int .i64 (clampz s 1 2147483646), .int .i64 (clampz n 0 5000), .int .i64 (clampz m 1 1000000)]) ∧ Below w.heap.size w w' := by
  go_enter Try.func51, Try.ntmps51
  go_wp2_with (fail)
  go_region_held3 (fun w' => w'.cell? ⟨w.heap.size, 0, none⟩ = some (.int .i64 s) ∧ w'.cell? ⟨w.heap.size, 1, none⟩ = some (.int .i64 n) ∧ w'.cell? ⟨w.heap.size, 2, none⟩ = some (.int .i64 m)) (go_keep)
    (first | (go_at_call 52; refine (clamp_any _ _ _ _).mono ?_; rintro e w' ⟨rfl, rfl⟩))
  all_goals go_wp2
  all_goals go_returns
  all_goals exact ⟨rfl, by (repeat' (first | (with_reducible exact Below.refl _ _) | (with_reducible assumption) | (with_reducible refine Below.setCell ?_ ?_ _) | (with_reducible refine Below.alloc ?_ ?_ _) | (with_reducible refine below_drewN ?_ _) | (with_reducible refine Below.drew ?_) | (with_reducible exact Nat.le_refl _) | omega | (simp; done) | (simp; omega)))⟩

theorem ask_guard : Try.prog.eqGuardType Try.prog.depth 71 = false := by kernel_rfl
def same3 (a b c d e f : Int) : Bool := a == d && (b == e && c == f)
theorem ask_neq (a b c d e f : Int) (r : Bool) (h : same3 a b c d e f = r) (w : World) : (binOp .neq 71 (.agg #[.int .i64 a, .int .i64 b, .int .i64 c]) (.agg #[.int .i64 d, .int .i64 e, .int .i64 f])).run Try.prog w = .ok (.bool (!r)) w := by
  have u3 := Try.underlying2
  have a3 := Try.isAgg2
  have z3 := Try.sizeOf2
  have hS : Try.prog.underlying 71 = some (.struct (Try.prog.fieldsOf 71)) := by kernel_rfl
  have hp : Try.prog.stoodInHeld 71 = false := by kernel_rfl
  subst h
  rw [run_neq_struct, show (10000 : Nat) = 9999 + 1 from rfl, run_equalIn_agg w 9999 71 _ _ hS hp]
  simp only [Program.fieldsOf, Try.underlying71]
  unfold same3
  go_simp
  by_cases h1 : a = d <;> by_cases h2 : b = e <;> by_cases h3 : c = f <;> simp [h1, h2, h3]

theorem same3_ask (s n m : Int) : same3 s n m (clampz s 1 2147483646) (clampz n 0 5000) (clampz m 1 1000000) = askOk s n m := by
  rw [Bool.eq_iff_iff]
  unfold same3 askOk clampz
  simp
  constructor
  · rintro ⟨h1, h2, h3⟩
    (repeat' split at h1) <;> (repeat' split at h2) <;> (repeat' split at h3) <;> omega
  · intro h
    refine ⟨?_, ?_, ?_⟩ <;> (repeat' split) <;> omega

set_option maxHeartbeats 800000 in
theorem impl_coins_bad (s n m : Int) (w : World) (h : askOk s n m = false) :
    Calls Try.prog 50 #[.int .i64 s, .int .i64 n, .int .i64 m] w fun e w' => e = .returned (.agg #[.int .i64 1, .int .i64 0, .slice none 0 0]) ∧ Below w.heap.size w w' := by
  have hg := ask_guard
  have hn := ask_neq s n m _ _ _ _ ((same3_ask s n m).trans h)
  have hz : w.heap.size < w.heap.size + 1 + 1 := by omega
  clear h
  go_enter Try.func50, Try.ntmps50
  go_wp2_with (fail)
  (refine wp_region_und (by kernel_rfl) (by kernel_rfl) (fun hund => ?_); (repeat (go_big_quiet_step (first | (go_at_call 51; refine und_call ?_ (within_any _ _ _ _); simp)))); with_reducible refine wpQuiet_nil ?_; clear hund; intro W1 hb1; obtain ⟨hc1, hf1⟩ := undcell hb1)
  have HB : Hid (Below w.heap.size w W1) := Below.trans (by (repeat' (first | (with_reducible exact Below.refl _ _) | (with_reducible assumption) | (with_reducible refine Below.setCell ?_ ?_ _) | (with_reducible refine Below.alloc ?_ ?_ _) | (with_reducible refine below_drewN ?_ _) | (with_reducible refine Below.drew ?_) | (with_reducible exact Nat.le_refl _) | omega | (simp; done) | (simp; omega)))) (hb1.mono (by simp; omega))
  clear hb1
  go_wp2
  refine bodyPost_ret (by simp [results, Try.results50, go_sem, hc1, hz]) rfl ⟨rfl, ?_⟩
  clear hc1 hf1
  have hB := HB.out
  (repeat' (first | (with_reducible exact Below.refl _ _) | (with_reducible assumption) | (with_reducible refine Below.setCell ?_ ?_ _) | (with_reducible refine Below.alloc ?_ ?_ _) | (with_reducible refine below_drewN ?_ _) | (with_reducible refine Below.drew ?_) | (with_reducible exact Nat.le_refl _) | omega | (simp; done) | (simp; omega)))

set_option maxHeartbeats 1600000 in
theorem impl_coins_ok (s m : Int) (n : Nat) (w : World) (h1 : 1 ≤ s) (h2 : s ≤ 2147483646) (h4 : n ≤ 5000) (h5 : 1 ≤ m) (h6 : m ≤ 1000000) :
    Calls Try.prog 50 #[.int .i64 s, .int .i64 n, .int .i64 m] w fun e w' => ∃ g cap, e = .returned (.agg #[.int .i64 0, .int .i64 (seedK s n), .slice (some ⟨g, 0, none⟩) n cap]) ∧ IS w' w.heap.size (.slice (some ⟨g, 0, none⟩) n cap) (coinsK s m n) ∧ Below w.heap.size w w' := by
  obtain ⟨i0, hi, hz0, hz1, hz2⟩ := info_parts info_i64
  have hm0 : (m == 0) = false := by simp; omega
  have hm1 : ¬ m = 0 := by omega
  have hg := ask_guard
  have hn := ask_neq s n m _ _ _ _ ((same3_ask s n m).trans (show askOk s n m = true by unfold askOk; simp; omega))
  have hz : w.heap.size < w.heap.size + 1 + 1 := by omega
  go_enter Try.func50, Try.ntmps50
  go_wp2_with (fail)
  (refine wp_region_und (by kernel_rfl) (by kernel_rfl) (fun hund => ?_); (repeat (go_big_quiet_step (first | (go_at_call 51; refine und_call ?_ (within_any _ _ _ _); simp)))); with_reducible refine wpQuiet_nil ?_; clear hund; intro W1 hb1; obtain ⟨hc1, hf1⟩ := undcell hb1)
  have HB : Hid (Below w.heap.size w W1) := Below.trans (by (repeat' (first | (with_reducible exact Below.refl _ _) | (with_reducible assumption) | (with_reducible refine Below.setCell ?_ ?_ _) | (with_reducible refine Below.alloc ?_ ?_ _) | (with_reducible refine below_drewN ?_ _) | (with_reducible refine Below.drew ?_) | (with_reducible exact Nat.le_refl _) | omega | (simp; done) | (simp; omega)))) (hb1.mono (by simp; omega))
  have hR : Hid (W1.heap[w.heap.size]? = some (.cells #[.int .i64 0, .int .i64 0, .slice none 0 0] 61)) := by
    unfold Hid
    rw [hb1.block _ (by simp; omega)]
    exact (alloc2 _ _ _).2
  have hsz : w.heap.size < W1.heap.size := by have := hb1.size; simp at this; omega
  clear hb1 hc1 hf1 hn hg
  go_wp2_with (at_make; refine wpList_make_own _ rfl _ _ 22 rfl w.heap.size 2 i0 (.int .i64 0) 1 Try.underlying22 hi hz0 hz1 _ _ _ n rfl rfl rfl (by rw [hz2]; omega) (by unfold maxLen; omega) (by omega) ?_; intro w2 hown2 hgrow2)
  go_loopw [0, 8, 21] (fun sd l i wr => ∃ k : Nat, k ≤ n ∧ i = .int .i64 k ∧ sd = .int .i64 (seedK s k) ∧ l = .slice (some ⟨W1.heap.size, 0, none⟩) k n ∧ Hid (wr.ownsRow w.heap.size 2 1 (.slice (some ⟨W1.heap.size, 0, none⟩) k n) k ((coinsK s m k).map (Value.int .i64)) ∧ wr.heap[w.heap.size]? = some (.cells #[.int .i64 0, .int .i64 0, .slice none 0 0] 61) ∧ Below w.heap.size w wr ∧ W1.heap.size < wr.heap.size)) (fun _ _ i _ => n - (intOf i).toNat)
  case atStart =>
    refine ⟨0, Nat.zero_le _, rfl, rfl, rfl, hown2, ?_, HB.out.grown hgrow2 HB.out.size (fun k h => by cases h), (World.ownsRow.lt hown2 _ rfl).2⟩
    rw [hgrow2.block _ hsz (by simp)]; exact hR.out
  case round =>
    obtain ⟨k, hk, rfl, rfl, rfl, hL⟩ := hrel
    have hsb := seedK_bd s (by omega) h2 k
    clear hown2 hgrow2
    by_cases hlt : k < n
    · obtain ⟨hown, hr, hbl, hgt⟩ := hL.out
      clear hL
      have hcb := cstep_bd (seedK s k)
      have hcc := coinsK_succ s m k
      unfold cstep at hcb hcc
      have hcs : seedK s (k + 1) = seedK s k * 48271 % 2147483647 := rfl
      go_wp2_with (at_builtin; refine wpList_append_fits _ rfl (.tmp 26) (.tmp 31) 22 rfl w.heap.size 2 i0 1 Try.underlying22 hi hz1 W1.heap.size k n _ rfl (World.ownsRow.alloc hown _) ⟨wr.heap.size, 0, none⟩ 1 1 [.int .i64 (seedK s k * 48271 % 2147483647 / 64 % m)] rfl rfl (cell_one_new _ _ _) (by simp [Value.oneCell']) (by omega) ?_; intro w3 hown3 hgrow3)
      have hgs := hgrow3.size
      simp at hgs
      have hb3 : ∀ j, j < wr.heap.size → j ≠ W1.heap.size → w3.heap[j]? = wr.heap[j]? := fun j hj hjn => (hgrow3.block j (Nat.lt_of_lt_of_le hj (by simp)) (by simpa using hjn)).trans (Below.heap_alloc wr _ _ hj)
      refine ⟨⟨k + 1, by omega, by go_num, by rw [hcs], rfl, ?_, ?_, ?_, by omega⟩, by simp [intOf]; omega⟩
      · rw [hcc, List.map_append]; exact hown3
      · rw [hb3 _ (by omega) (by omega)]; exact hr
      · exact hbl.trans ⟨hgrow3.os, hgrow3.tape, hgrow3.output, by omega, fun j hj => hb3 j (by omega) (by omega)⟩
    · obtain ⟨hown, hr, hbl, hgt⟩ := hL.out
      have hkn : Hid (k = n) := by unfold Hid; omega
      have r0 : wr.cell? ⟨w.heap.size, 0, none⟩ = some (.int .i64 0) := by simp [World.cell?, hr]
      have r1 : wr.cell? ⟨w.heap.size, 1, none⟩ = some (.int .i64 0) := by simp [World.cell?, hr]
      have r2 : wr.cell? ⟨w.heap.size, 2, none⟩ = some (.slice none 0 0) := by simp [World.cell?, hr]
      have rf0 : wr.frozen? ⟨w.heap.size, 0, none⟩ = false := by simp [World.frozen?, hr]
      have rf1 : wr.frozen? ⟨w.heap.size, 1, none⟩ = false := by simp [World.frozen?, hr]
      have rf2 : wr.frozen? ⟨w.heap.size, 2, none⟩ = false := by simp [World.frozen?, hr]
      have Hown : Hid _ := hown
      have Hbl : Hid _ := hbl
      clear hr hown hbl hL
      go_wp2
      try simp only [Exit.inBlock, Exit.then]
      refine bodyPost_ret (by simp [results, Try.results50, go_sem, r0, r1, r2]; rfl) rfl ⟨W1.heap.size, n, by rw [hkn.out], ?_, ?_⟩
      · have hl := coinsK_length s m k
        rw [← hkn.out]
        refine IS.kept (w := wr) (B := w.heap.size) ?_ ?_
        · unfold IS; rw [hl]; exact hkn.out ▸ Hown.out
        · intro g hg
          cases hg
          rw [heap_setCell_other _ _ _ _ (by simp; omega), heap_setCell_other _ _ _ _ (by simp; omega), heap_setCell_other _ _ _ _ (by simp; omega)]
      · have hB := Hbl.out
        (repeat' (first | (with_reducible exact Below.refl _ _) | (with_reducible assumption) | (with_reducible refine Below.setCell ?_ ?_ _) | (with_reducible refine Below.alloc ?_ ?_ _) | (with_reducible refine below_drewN ?_ _) | (with_reducible refine Below.drew ?_) | (with_reducible exact Nat.le_refl _) | omega | (simp; done) | (simp; omega)))

def coinC (s n m : Int) : Int := if askOk s n m then 0 else 1
def coinX (s n m : Int) : Int := if askOk s n m then seedK s n.toNat else 0
def coinL (s n m : Int) : List Int := if askOk s n m then coinsK s m n.toNat else []
theorem coinL_length (s n m : Int) : (coinL s n m).length ≤ 5000 := by
  unfold coinL
  cases h : askOk s n m with
  | false => simp
  | true =>
    have := askOk_t h
    simp only [if_true, coinsK_length]
    omega

/-- The model's Coins: a code, the seed behind the last coin, and the list of the coins, in memory of its own. -/
theorem spec_coins (s n m : Int) (w : World) : Calls Try.prog 43 #[.int .i64 s, .int .i64 n, .int .i64 m] w fun e w' => ∃ v, e = .returned (.agg #[.int .i64 (coinC s n m), .int .i64 (coinX s n m), v]) ∧ IS w' w.heap.size v (coinL s n m) ∧ Below w.heap.size w w' := by
  unfold coinC coinX coinL
  cases h : askOk s n m with
  | false =>
    refine (spec_coins_bad s n m w (askOk_f h)).mono ?_
    rintro e w' ⟨rfl, hb⟩
    exact ⟨_, rfl, World.ownsRow_nil _ _ _ _, hb⟩
  | true =>
    have ha := askOk_t h
    have hc := spec_coins_ok s m n.toNat w ha.1 ha.2.1 (by omega) ha.2.2.2.2.1 ha.2.2.2.2.2
    rw [Int.toNat_of_nonneg ha.2.2.1] at hc
    exact hc
/-- The program's Coins: likewise. -/
theorem impl_coins (s n m : Int) (w : World) : Calls Try.prog 50 #[.int .i64 s, .int .i64 n, .int .i64 m] w fun e w' => ∃ v, e = .returned (.agg #[.int .i64 (coinC s n m), .int .i64 (coinX s n m), v]) ∧ IS w' w.heap.size v (coinL s n m) ∧ Below w.heap.size w w' := by
  unfold coinC coinX coinL
  cases h : askOk s n m with
  | false =>
    refine (impl_coins_bad s n m w h).mono ?_
    rintro e w' ⟨rfl, hb⟩
    exact ⟨_, rfl, World.ownsRow_nil _ _ _ _, hb⟩
  | true =>
    have ha := askOk_t h
    have hc := impl_coins_ok s m n.toNat w ha.1 ha.2.1 (by omega) ha.2.2.2.2.1 ha.2.2.2.2.2
    rw [Int.toNat_of_nonneg ha.2.2.1] at hc
    refine hc.mono ?_
    rintro e w' ⟨g, cap, rfl, h1, h2⟩
    exact ⟨_, rfl, h1, h2⟩

end Go.Proofs.Ytfjfogiohijkkaa
