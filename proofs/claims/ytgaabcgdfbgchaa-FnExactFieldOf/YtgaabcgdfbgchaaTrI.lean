/- Proved here: the program's turnBy: the turn by value. -/
import Derived.Test.YtgaabcgdfbgchaaTrM
import Derived.Test.YtgaabcgdfbgchaaUrI
import Derived.Test.YtgaabcgdfbgchaaMoI
namespace Go.Proofs.Ytgaabcgdfbgchaa
open Go.RowKit
set_option linter.unusedVariables false
set_option linter.unusedSimpArgs false

theorem index_pair {L : List Value} {k : Nat} {a b : Value} (hk : k < 20) (h0 : L[k * 2]? = some a) (h1 : L[k * 2 + 1]? = some b) (hl : L.length = 40) (W : World) :
    (Instr.index 72 (.agg L.toArray) (.int .i64 (k : Int))).run Try.prog W = .ok (.agg #[a, b]) W := by
  obtain ⟨i, hi⟩ : ∃ i, Try.prog.info? 71 = some i := Option.isSome_iff_exists.1 (by kernel_rfl)
  have hs : i.size = 2 := by
    have : (Try.prog.info? 71).map (·.size) = some 2 := by kernel_rfl
    rw [hi] at this
    simpa using this
  have hb : (0 : Int) ≤ (k : Int) ∧ (k : Int) < 20 := by omega
  have hx : L.toArray.extract (k * 2) (k * 2 + 2) = #[a, b] := by
    apply Array.ext'
    simp only [List.extract_toArray]
    rw [List.extract_eq_take_drop, show k * 2 + 2 - k * 2 = 2 by omega]
    have d0 : L.drop (k * 2) = a :: L.drop (k * 2 + 1) := by
      obtain ⟨hl0, e0⟩ := List.getElem?_eq_some_iff.1 h0
      rw [List.drop_eq_getElem_cons hl0, e0]
    have d1 : L.drop (k * 2 + 1) = b :: L.drop (k * 2 + 2) := by
      obtain ⟨hl0, e0⟩ := List.getElem?_eq_some_iff.1 h1
      rw [List.drop_eq_getElem_cons hl0, e0]
    rw [d0, d1]
    rfl
  have k2 : Try.prog.cellsOf 71 = 2 := by kernel_rfl
  have hx' : List.take 2 (List.drop (k * 2) L) = [a, b] := by simpa using hx
  simp [Instr.index, asIntOf, run_underlying Try.underlying72, part, isAgg, run_underlying Try.underlying71, run_sizeOf W hi, hs, hk, k2, hx']

set_option maxRecDepth 10000 in
set_option maxHeartbeats 3200000 in
theorem impl_turn (p : Int) (w : World) : Calls Try.prog 40 #[.agg (arK 20), .int .i64 p] w fun e w' => ∃ z : Zf, e = .returned (.complex .f64 z.re z.im) ∧ z.v = trV p ∧ Below w.heap.size w w' := by
  obtain ⟨L, hL⟩ : ∃ L, L = (arK 20).toList := ⟨_, rfl⟩
  have hLA : arK 20 = L.toArray := by rw [hL]
  have hL40 : L.length = 40 := by rw [hL]; simp [arK]
  have HL : Hid (∀ c, c < 40 → L[c]? = some (rcK 20 c)) := fun c hc => by
    have := arK_at (i := 20) hc
    rw [hLA] at this
    simpa using this
  rw [hLA]
  clear hL hLA
  obtain ⟨t, ht⟩ : ∃ t, t = (p % 1048576).toNat := ⟨_, rfl⟩
  have htp : p % 1048576 = (t : Int) := by rw [ht]; have := Int.emod_nonneg p (show (1048576 : Int) ≠ 0 by decide); omega
  have htb : t < 1048576 := by have := Int.emod_lt_of_pos p (show (0 : Int) < 1048576 by decide); omega
  have HM : Hid (∀ W, Calls Try.prog 74 #[.int .i64 p, .int .i64 1048576] W fun e w' => e = .returned (.int .i64 t) ∧ w' = W) := fun W => by rw [← htp]; exact impl_mod p 1048576 (by omega) (by omega) W
  have HV : Hid (trV p = trK t 20) := by unfold Hid trV; rw [ht]
  have hinf : (Try.prog.info? 72).map (·.size) = some L.length := by rw [hL40]; kernel_rfl
  clear ht htp
  go_enter Try.func40, Try.ntmps40
  go_wp2_with (fail)
  refine (HM.out _).mono ?_
  rintro e w1 ⟨rfl, hw1⟩
  subst w1
  have hrg : (w.alloc (.cells L.toArray 72)).rangeAt w.heap.size 0 L := by
    intro j v hv
    rw [Nat.zero_add, cell_blk (heap_alloc_new w _)]
    simpa using hv
  go_wp2_with (refine wpList_load_mid rfl 72 _ rfl w.heap.size 0 rfl L _ hrg Try.underlying72 rfl hinf ?_)
  clear hrg hinf HM
  go_loopw [6, 12] (fun c i wr => ∃ (k : Nat) (z : Zf), k ≤ 20 ∧ i = .int .i64 k ∧ c = .complex .f64 z.re z.im ∧ Hid (z.v = trK t k ∧ Below w.heap.size w wr)) (fun _ i _ => 20 - (intOf i).toNat)
  case atStart => exact ⟨0, ⟨4607182418800017408, 0⟩, by omega, rfl, rfl, rfl, by (repeat' (first | (with_reducible exact Below.refl _ _) | (with_reducible assumption) | (with_reducible refine Below.setCell ?_ ?_ _) | (with_reducible refine Below.alloc ?_ ?_ _) | (with_reducible refine below_drewN ?_ _) | (with_reducible refine Below.drew ?_) | (with_reducible exact Nat.le_refl _) | omega | (simp; done) | (simp; omega)))⟩
  case round =>
    obtain ⟨k, z, hk, rfl, rfl, hR⟩ := hrel
    by_cases hlt : k < 20
    · have b0 : (0 : Int) ≤ (k : Int) := by omega
      have b1 : (k : Int) < 20 := by omega
      have hc0 : L[k * 2]? = some (.float .f64 (rtR k)) := by rw [HL.out _ (by omega), rcK, if_pos (by omega), if_pos (by omega), show k * 2 / 2 = k by omega]
      have hc1 : L[k * 2 + 1]? = some (.float .f64 (rtI k)) := by rw [HL.out _ (by omega), rcK, if_pos (by omega), if_neg (by omega), show (k * 2 + 1) / 2 = k by omega]
      have hidx := index_pair hlt hc0 hc1 hL40
      cases hb : t.testBit (19 - k) with
      | false =>
        have hz : bits BinOp.and .i64 (t : Int) ((524288 : Int) / 2 ^ k) = 0 := (bit_impl htb hlt).2 hb
        have HN : Hid (trK t (k + 1) = trK t k) := by unfold Hid; rw [trK, hb]; rfl
        clear hb hc0 hc1
        go_wp2
        exact ⟨⟨k + 1, z, by omega, by go_num, rfl, by rw [HN.out]; exact hR.out.1, hR.out.2.alloc hR.out.2.size _⟩, by simp [intOf]; omega⟩
      | true =>
        have hz : ¬ bits BinOp.and .i64 (t : Int) ((524288 : Int) / 2 ^ k) = 0 := fun e => by rw [(bit_impl htb hlt).1 e] at hb; cases hb
        have hz' : (bits BinOp.and .i64 (t : Int) ((524288 : Int) / 2 ^ k) != 0) = true := by simpa using hz
        have HN : Hid (trK t (k + 1) = mulV (trK t k) ⟨fv (rtR k), fv (rtI k)⟩) := by unfold Hid; rw [trK, hb]; rfl
        clear hb hc0 hc1
        go_wp2_with (fail)
        refine (product_any z ⟨rtR k, rtI k⟩ _).mono ?_
        rintro e w3 ⟨y, rfl, hy, n3, rfl⟩
        have HY : Hid (y.v = trK t (k + 1)) := by unfold Hid; rw [HN.out, hy, hR.out.1]; rfl
        clear hy HN
        go_wp2
        exact ⟨⟨k + 1, y, by omega, by go_num, rfl, HY.out, below_drewN (hR.out.2.alloc hR.out.2.size _) _⟩, by simp [intOf]; omega⟩
    · have b1 : ¬ (k : Int) < 20 := by omega
      have HE : Hid (z.v = trV p ∧ Below w.heap.size w wr) := ⟨by rw [HV.out, hR.out.1, show k = 20 by omega], hR.out.2⟩
      clear hR
      go_wp2
      go_returns
      exact ⟨z, rfl, HE.out⟩

end Go.Proofs.Ytgaabcgdfbgchaa
