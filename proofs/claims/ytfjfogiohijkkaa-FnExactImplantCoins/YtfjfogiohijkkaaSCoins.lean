/- Proved here: the model's Coins, at every three numbers. -/
import Derived.Test.YtfjfogiohijkkaaIntsBase
import Derived.Test.YtfjfogiohijkkaaCoinMath
import Derived.Test.YtfjfogiohijkkaaKept
import Derived.Deep.AppendLies
import Derived.Deep.RegionHeld3
import Derived.Deep.RegionLaw
namespace Go.Proofs.Ytfjfogiohijkkaa
open Go.RowKit
set_option linter.unusedVariables false
set_option linter.unusedSimpArgs false

theorem bcell {W w1 : World} (hb : Below W.heap.size W w1) : (∀ b o, b < W.heap.size → w1.cell? ⟨b, o, none⟩ = W.cell? ⟨b, o, none⟩) ∧ (∀ b o, b < W.heap.size → w1.frozen? ⟨b, o, none⟩ = W.frozen? ⟨b, o, none⟩) :=
  ⟨fun b o h => hb.cell (p := ⟨b, o, none⟩) h, fun b o h => hb.frozen (p := ⟨b, o, none⟩) h⟩

/-- The three numbers are right. -/
def askOk (s n m : Int) : Bool := decide (1 ≤ s ∧ s ≤ 2147483646 ∧ 0 ≤ n ∧ n ≤ 5000 ∧ 1 ≤ m ∧ m ≤ 1000000)
theorem askOk_t {s n m : Int} (h : askOk s n m = true) : 1 ≤ s ∧ s ≤ 2147483646 ∧ 0 ≤ n ∧ n ≤ 5000 ∧ 1 ≤ m ∧ m ≤ 1000000 := by unfold askOk at h; simpa using h
theorem askOk_f {s n m : Int} (h : askOk s n m = false) : ¬ (1 ≤ s ∧ s ≤ 2147483646 ∧ 0 ≤ n ∧ n ≤ 5000 ∧ 1 ≤ m ∧ m ≤ 1000000) := by unfold askOk at h; simpa using h

set_option maxHeartbeats 800000 in
theorem spec_coins_bad (s n m : Int) (w : World) (h : ¬ (1 ≤ s ∧ s ≤ 2147483646 ∧ 0 ≤ n ∧ n ≤ 5000 ∧ 1 ≤ m ∧ m ≤ 1000000)) :
    Calls Try.prog 43 #[.int .i64 s, .int .i64 n, .int .i64 m] w fun e w' => e = .returned (.agg #[.int .i64 1, .int .i64 0, .slice none 0 0]) ∧ Below w.heap.size w w' := by
  go_enter Try.func43, Try.ntmps43
  go_wp2
  all_goals first | (exfalso; omega) | (go_returns; exact ⟨rfl, by (repeat' (first | (with_reducible exact Below.refl _ _) | (with_reducible assumption) | (with_reducible refine Below.setCell ?_ ?_ _) | (with_reducible refine Below.alloc ?_ ?_ _) | (with_reducible refine below_drewN ?_ _) | (with_reducible refine Below.drew ?_) | (with_reducible exact Nat.le_refl _) | omega | (simp; done) | (simp; omega)))⟩)

theorem alloc2 (w : World) (a b : Obj) : ((w.alloc a).alloc b).heap[w.heap.size + 1]? = some b ∧ ((w.alloc a).alloc b).heap[w.heap.size]? = some a := by
  constructor
  · have := heap_alloc_new (w.alloc a) b; simpa using this
  · rw [Below.heap_alloc _ _ _ (by simp)]; exact heap_alloc_new w a

theorem S3_of {w' wr : World} {g o B : Nat} {v : Value} (hb : w'.heap[g]? = wr.heap[g]?) (hs : wr.heap.size ≤ w'.heap.size) (h : wr.cell? ⟨g, o, none⟩ = some v ∧ wr.frozen? ⟨g, o, none⟩ = false ∧ B ≤ wr.heap.size) :
    w'.cell? ⟨g, o, none⟩ = some v ∧ w'.frozen? ⟨g, o, none⟩ = false ∧ B ≤ w'.heap.size :=
  ⟨(World.cell?_of_block (w := wr) hb).trans h.1, (World.frozen?_of_block (w := wr) hb).trans h.2.1, Nat.le_trans h.2.2 hs⟩

set_option maxHeartbeats 1600000 in
theorem spec_coins_ok (s m : Int) (n : Nat) (w : World) (h1 : 1 ≤ s) (h2 : s ≤ 2147483646) (h4 : n ≤ 5000) (h5 : 1 ≤ m) (h6 : m ≤ 1000000) :
    Calls Try.prog 43 #[.int .i64 s, .int .i64 n, .int .i64 m] w fun e w' => ∃ v, e = .returned (.agg #[.int .i64 0, .int .i64 (seedK s n), v]) ∧ IS w' w.heap.size v (coinsK s m n) ∧ Below w.heap.size w w' := by
  obtain ⟨i0, hi, hz0, hz1, hz2⟩ := info_parts info_i64
  have hm0 : (m == 0) = false := by simp; omega
  have hm1 : ¬ m = 0 := by omega
  go_enter Try.func43, Try.ntmps43
  go_wp2
  go_loopw [0, 8] (fun sd i wr => ∃ k : Nat, k ≤ n ∧ i = .int .i64 k ∧ sd = .int .i64 (seedK s k) ∧ Hid (∃ v, wr.heap[w.heap.size + 1]? = some (.cells #[.int .i64 0, .int .i64 0, v] 61) ∧ wr.heap[w.heap.size]? = some (.cells #[.int .i64 0, .int .i64 0, .slice none 0 0] 61) ∧ IS wr (w.heap.size + 2) v (coinsK s m k) ∧ Below w.heap.size w wr ∧ w.heap.size + 2 ≤ wr.heap.size)) (fun _ i _ => n - (intOf i).toNat)
  case atStart => exact ⟨0, Nat.zero_le _, rfl, rfl, _, (alloc2 _ _ _).1, (alloc2 _ _ _).2, World.ownsRow_nil _ _ _ _, by (repeat' (first | (with_reducible exact Below.refl _ _) | (with_reducible assumption) | (with_reducible refine Below.setCell ?_ ?_ _) | (with_reducible refine Below.alloc ?_ ?_ _) | (with_reducible refine below_drewN ?_ _) | (with_reducible refine Below.drew ?_) | (with_reducible exact Nat.le_refl _) | omega | (simp; done) | (simp; omega))), by simp⟩
  case round =>
    obtain ⟨k, hk, rfl, rfl, hR⟩ := hrel
    have hsb := seedK_bd s (by omega) h2 k
    by_cases hlt : k < n
    · obtain ⟨v, ho, hr, hown, hbl, hsz⟩ := hR.out
      clear hR
      have hcv : wr.cell? ⟨w.heap.size + 1, 2, none⟩ = some v := by simp [World.cell?, ho]
      have hfv : wr.frozen? ⟨w.heap.size + 1, 2, none⟩ = false := by simp [World.frozen?, ho]
      have hne : v.ownBlock ≠ some (w.heap.size + 1) := fun e => by have := (hown.lt _ e).1; omega
      have hl := coinsK_length s m k
      go_wp2
      have hcb := cstep_bd (seedK s k)
      have hcc := coinsK_succ s m k
      unfold cstep at hcb hcc
      generalize hc : seedK s k * 48271 % 2147483647 = c at *
      have e1 : IntKind.i64.wrap (c.tdiv 64) = c / 64 := by rw [Int.tdiv_eq_ediv_of_nonneg hcb.1, IntKind.wrap_i64]; omega
      have e2 : (c / 64).tmod m = c / 64 % m := Int.tmod_eq_emod_of_nonneg (by omega)
      have hca : ∀ o, (wr.alloc o).cell? ⟨w.heap.size + 1, 2, none⟩ = some v := fun o => (World.cell?_of_block (w := wr) (Below.heap_alloc wr o _ (Nat.lt_of_lt_of_le (Nat.lt_succ_self _) hsz))).trans hcv
      go_region_law ((refine step_append_lies _ (by rfl) _ _ _ (by rfl) (w.heap.size + 2) 2 i0 (.int .i64 0) 1 8 Try.underlying22 hi hz0 hz1 hz2 rfl (by omega) v _ _ (by rfl) ((World.ownsRow.alloc hown _).drew) ⟨wr.heap.size, 0, none⟩ 1 1 [.int .i64 (c / 64 % m)] (by rfl) (by rfl) (World.news_of_block (cs := #[.int .i64 (c / 64 % m)]) (t := 2) (fr := (0, 0)) (heap_alloc_new wr _)) (by simp [Value.oneCell']) (by omega) (by rw [hl]; unfold maxLen; omega) (by rw [hl]; omega) (by simp; omega) (wr.heap.size + 1) (by simp) ?_; intro gg cap w1 hown1 hgrow hat hlt1; have hS3 := S3_of (wr := wr) (o := 2) ((hgrow.block _ (Nat.lt_of_lt_of_le (Nat.lt_of_lt_of_le (Nat.lt_succ_self _) hsz) (by simp)) (Ne.symm hne)).trans (Below.heap_alloc wr _ _ (Nat.lt_of_lt_of_le (Nat.lt_succ_self _) hsz))) (Nat.le_trans (by simp) hgrow.size) ⟨hcv, hfv, hsz⟩; have hcw := hS3.1; have hfw := hS3.2.1))
      all_goals
        have hgs := hgrow.size
        have hb1 : ∀ j, j < wr.heap.size → some j ≠ v.ownBlock → w1.heap[j]? = wr.heap[j]? := fun j hj hjn => (hgrow.block j (Nat.lt_of_lt_of_le hj (by simp)) hjn).trans (Below.heap_alloc wr _ _ hj)
        have ho1 : w1.heap[w.heap.size + 1]? = some (.cells #[.int .i64 0, .int .i64 0, v] 61) := (hb1 _ (by omega) (Ne.symm hne)).trans ho
        have hr1 : w1.heap[w.heap.size]? = some (.cells #[.int .i64 0, .int .i64 0, .slice none 0 0] 61) := (hb1 _ (by omega) (fun e => by have := (World.ownsRow.lt hown _ e.symm).1; omega)).trans hr
        have hgg : w.heap.size + 2 ≤ gg := (World.ownsRow.lt hown1 gg rfl).1
        have R : Hid (∃ v', (w1.setCell ⟨w.heap.size + 1, 2, none⟩ (.slice (some ⟨gg, 0, none⟩) (k + 1) cap)).heap[w.heap.size + 1]? = some (.cells #[.int .i64 0, .int .i64 0, v'] 61) ∧ (w1.setCell ⟨w.heap.size + 1, 2, none⟩ (.slice (some ⟨gg, 0, none⟩) (k + 1) cap)).heap[w.heap.size]? = some (.cells #[.int .i64 0, .int .i64 0, .slice none 0 0] 61) ∧ IS (w1.setCell ⟨w.heap.size + 1, 2, none⟩ (.slice (some ⟨gg, 0, none⟩) (k + 1) cap)) (w.heap.size + 2) v' (coinsK s m (k + 1)) ∧ Below w.heap.size w (w1.setCell ⟨w.heap.size + 1, 2, none⟩ (.slice (some ⟨gg, 0, none⟩) (k + 1) cap)) ∧ w.heap.size + 2 ≤ (w1.setCell ⟨w.heap.size + 1, 2, none⟩ (.slice (some ⟨gg, 0, none⟩) (k + 1) cap)).heap.size) := by
          refine ⟨_, heap_setCell_same w1 _ 2 _ _ _ ho1, (heap_setCell_other w1 ⟨w.heap.size + 1, 2, none⟩ _ _ (by simp)).trans hr1, ?_, ?_, by simp at hgs; simp; omega⟩
          · refine IS.kept (w := w1) ?_ (fun g hg => heap_setCell_other w1 ⟨w.heap.size + 1, 2, none⟩ _ _ ?_)
            · unfold IS
              rw [hcc, List.length_append, List.map_append, hl]
              have h' := hown1
              rw [hl] at h'
              exact h'
            · cases hg; simp; omega
          · have hB1 : Below w.heap.size w w1 := hbl.trans ⟨hgrow.os, hgrow.tape, hgrow.output, by simp at hgs; omega, fun j hj => hb1 j (by omega) (fun e => by have := (World.ownsRow.lt hown _ e.symm).1; omega)⟩
            exact hB1.setCell (by simp) _
        have hcs : seedK s (k + 1) = c := hc
        clear hown1 hgrow hat hlt1 hS3 hcw hfw hgs hb1 ho1 hr1 hgg hown ho hr hbl hca hcv hfv hne hcc e1 e2 hc
        go_wp2
        go_roundw
        case rel => exact ⟨k + 1, by omega, by go_num, by rw [hcs], R.out⟩
        case measure => simp [intOf]; omega
    · obtain ⟨v, ho, hr, hown, hbl, hsz⟩ := hR.out
      obtain ⟨va, vc, rfl⟩ := hown.form
      have hkn : Hid (k = n) := by unfold Hid; omega
      have o0 : wr.cell? ⟨w.heap.size + 1, 0, none⟩ = some (.int .i64 0) := by simp [World.cell?, ho]
      have o1 : wr.cell? ⟨w.heap.size + 1, 1, none⟩ = some (.int .i64 0) := by simp [World.cell?, ho]
      have o2 : wr.cell? ⟨w.heap.size + 1, 2, none⟩ = some (.slice va (coinsK s m k).length vc) := by simp [World.cell?, ho]
      have of : wr.frozen? ⟨w.heap.size + 1, 1, none⟩ = false := by simp [World.frozen?, ho]
      have r0 : wr.cell? ⟨w.heap.size, 0, none⟩ = some (.int .i64 0) := by simp [World.cell?, hr]
      have r1 : wr.cell? ⟨w.heap.size, 1, none⟩ = some (.int .i64 0) := by simp [World.cell?, hr]
      have r2 : wr.cell? ⟨w.heap.size, 2, none⟩ = some (.slice none 0 0) := by simp [World.cell?, hr]
      have rf0 : wr.frozen? ⟨w.heap.size, 0, none⟩ = false := by simp [World.frozen?, hr]
      have rf1 : wr.frozen? ⟨w.heap.size, 1, none⟩ = false := by simp [World.frozen?, hr]
      have rf2 : wr.frozen? ⟨w.heap.size, 2, none⟩ = false := by simp [World.frozen?, hr]
      have Hown : Hid _ := hown
      have Hbl : Hid _ := hbl
      clear ho hr hown hbl hR
      go_wp2
      try simp only [Exit.inBlock, Exit.then]
      refine bodyPost_ret (by simp [results, Try.results43, go_sem, o0, o1, o2, r0, r1, r2]; rfl) rfl ⟨_, by rw [hkn.out], ?_, ?_⟩
      · rw [← hkn.out]
        refine IS.kept (w := wr) (B := w.heap.size) ?_ ?_
        · refine ⟨Hown.out.1, ?_⟩
          rcases Hown.out.2 with h | ⟨g, cap, cur, hv, hB, hrest⟩
          · exact Or.inl h
          · exact Or.inr ⟨g, cap, cur, hv, by omega, hrest⟩
        · intro g hg
          have := (World.ownsRow.lt Hown.out g hg).1
          rw [heap_setCell_other _ _ _ _ (by simp; omega), heap_setCell_other _ _ _ _ (by simp; omega), heap_setCell_other _ _ _ _ (by simp; omega), heap_setCell_other _ _ _ _ (by simp; omega)]
      · have hB := Hbl.out
        (repeat' (first | (with_reducible exact Below.refl _ _) | (with_reducible assumption) | (with_reducible refine Below.setCell ?_ ?_ _) | (with_reducible refine Below.alloc ?_ ?_ _) | (with_reducible refine below_drewN ?_ _) | (with_reducible refine Below.drew ?_) | (with_reducible exact Nat.le_refl _) | omega | (simp; done) | (simp; omega)))

end Go.Proofs.Ytfjfogiohijkkaa
