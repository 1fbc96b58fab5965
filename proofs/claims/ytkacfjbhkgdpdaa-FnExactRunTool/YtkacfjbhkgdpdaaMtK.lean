/- Proved here: the marks of structs with numbers and texts. (And ahead of it: Proved here: the text that the laws' package makes of a number, to mark with.) -/
import Derived.Test.YtkacfjbhkgdpdaaAtL
import Derived.Test.YtkacfjbhkgdpdaaRows
import Derived.Laws.BytesArg
import Derived.Test.YtkacfjbhkgdpdaaLwS
import Derived.Test.YtkacfjbhkgdpdaaKept
namespace Go.Proofs.Ytkacfjbhkgdpdaa
open Go.RowKit
set_option linter.unusedVariables false
set_option linter.unusedSimpArgs false

/-- The letters of a number, the last first. -/
def mtS : Nat → Nat → ByteArray → ByteArray
  | 0, _, o => o
  | f + 1, k, o => if k = 0 then o else mtS f (k / 10) (strOfNums [48 + ((k % 10 : Nat) : Int)] ++ o)
theorem mtS_zero (f : Nat) (o : ByteArray) : mtS f 0 o = o := by cases f <;> simp [mtS]
def mtT (k : Int) : ByteArray := if k ≤ 0 then ⟨#[109, 48]⟩ else (⟨#[109]⟩ : ByteArray) ++ mtS 20 k.toNat ByteArray.empty
theorem conv_mt {W : World} {L : Nat} {x : Int} (hc : W.cell? ⟨L, 0, none⟩ = some (.int .u8 x)) :
    (convert 105 9 (.slice (some ⟨L, 0, none⟩) 1 1)).run Try.prog W = .ok (.string (strOfNums [x])) W :=
  run_convert_bytes_arg W 105 5 Try.underlying105 Try.underlying5 L 0 1 1 [x] rfl (fun i hi => by
    obtain rfl : i = 0 := by omega
    simpa using hc) 9 Try.underlying9

set_option maxRecDepth 10000 in
set_option maxHeartbeats 3200000 in
theorem mark_text (k0 : Int) (w : World) (h1 : k0 ≤ 1000000000000000) :
    Calls Try.prog 42 #[.int .i64 k0] w fun e w' => e = .returned (.string (mtT k0)) ∧ Below w.heap.size w w' := by
  by_cases hz : k0 ≤ 0
  · have HM : Hid (mtT k0 = ⟨#[109, 48]⟩) := by unfold Hid mtT; rw [if_pos hz]
    go_enter Try.func42, Try.ntmps42
    go_wp2
    go_returns
    exact ⟨by rw [HM.out]; rfl, Below.refl _ _⟩
  obtain ⟨K, hK⟩ : ∃ K : Nat, k0 = (K : Int) := ⟨k0.toNat, by omega⟩
  subst hK
  have HM : Hid (mtT (K : Int) = (⟨#[109]⟩ : ByteArray) ++ mtS 20 K ByteArray.empty) := by unfold Hid mtT; rw [if_neg hz]; rfl
  have HP : Hid (K < 10 ^ 20) := Nat.lt_of_le_of_lt (show K ≤ 1000000000000000 by omega) (by decide)
  have hKb : K ≤ 1000000000000000 := by omega
  obtain ⟨T, hT⟩ : ∃ T, T = mtT (K : Int) := ⟨_, rfl⟩
  rw [← hT] at HM
  rw [← hT]
  clear h1 hT
  go_enter Try.func42, Try.ntmps42
  go_wp2
  go_loopw [0, 3] (fun q o wr => ∃ (k : Nat) (a : ByteArray), q = .int .i64 k ∧ o = .string a ∧ k ≤ 1000000000000000 ∧ a.size ≤ 20 ∧ Hid (Below w.heap.size w wr ∧ ∃ f, f ≤ 20 ∧ k < 10 ^ f ∧ a.size ≤ 20 - f ∧ mtS f k a = mtS 20 K ByteArray.empty)) (fun q _ _ => (intOf q).toNat)
  case atStart => exact ⟨K, ByteArray.empty, rfl, rfl, hKb, by decide, Below.refl _ _, 20, Nat.le_refl _, HP.out, by decide, rfl⟩
  case round =>
    clear HP hKb
    obtain ⟨k, a, rfl, rfl, hkb, hab, hR⟩ := hrel
    by_cases hk : 0 < k
    · have hk2 : (0 : Int) < (k : Int) := by omega
      obtain ⟨d, hd⟩ : ∃ d : Nat, d = k % 10 := ⟨_, rfl⟩
      obtain ⟨k2, hk3⟩ : ∃ d : Nat, d = k / 10 := ⟨_, rfl⟩
      have hd10 : d < 10 := by omega
      have hm1 : (k : Int).tmod 10 = (d : Int) := by rw [Int.tmod_eq_emod_of_nonneg (by omega), hd]; omega
      have hm2 : (k : Int).tdiv 10 = (k2 : Int) := by rw [Int.tdiv_eq_ediv_of_nonneg (by omega), hk3]; omega
      have hk2l : k2 < k := by omega
      have hcv := conv_mt (W := wr.alloc (.cells #[.int .u8 (48 + (d : Int))] 5)) (L := wr.heap.size) (x := 48 + (d : Int)) (by simp)
      obtain ⟨b, hb⟩ : ∃ b, b = strOfNums [48 + (d : Int)] := ⟨_, rfl⟩
      rw [← hb] at hcv
      have hbs : b.size = 1 := by rw [hb, strOfNums_size]; rfl
      have HN : Hid (Below w.heap.size w wr ∧ ∃ f, f ≤ 20 ∧ k2 < 10 ^ f ∧ (b ++ a).size ≤ 20 - f ∧ mtS f k2 (b ++ a) = mtS 20 K ByteArray.empty) := by
        obtain ⟨hB, f, h1, h2, h3, h4⟩ := hR.out
        refine ⟨hB, ?_⟩
        cases f with
        | zero => simp at h2; omega
        | succ f =>
          refine ⟨f, by omega, ?_, ?_, ?_⟩
          · rw [hk3]; exact Nat.div_lt_of_lt_mul (by rw [Nat.pow_succ] at h2; omega)
          · rw [ByteArray.size_append, hbs]; omega
          · rw [← h4, mtS, if_neg (by omega), ← hk3, ← hd, ← hb]
      have has : (b ++ a).size ≤ 20 := by obtain ⟨_, f, _, _, h9, _⟩ := HN.out; omega
      have hsz : b.size + a.size ≤ 40 := by omega
      clear hd hk3 hb hR
      go_wp2
      go_roundw
      case rel => exact ⟨k2, b ++ a, rfl, rfl, by omega, has, (by have h8 := HN.out.1; have h9 := h8.size; (repeat' (first | (with_reducible exact Below.refl _ _) | (with_reducible assumption) | (with_reducible refine Below.setCell ?_ ?_ _) | (with_reducible refine Below.alloc ?_ ?_ _) | (with_reducible refine below_drewN ?_ _) | (with_reducible refine Below.drew ?_) | (with_reducible exact Nat.le_refl _) | omega | (simp; done) | (simp; omega)))), HN.out.2⟩
      case measure => simp [intOf]; omega
    · obtain rfl : k = 0 := by omega
      have HE : Hid (a = mtS 20 K ByteArray.empty ∧ Below w.heap.size w wr) := by
        obtain ⟨hB, f, h1, h2, h3, h4⟩ := hR.out
        rw [mtS_zero] at h4
        exact ⟨h4, hB⟩
      clear hR
      go_wp2
      go_returns
      exact ⟨by rw [HM.out, ← HE.out.1]; rfl, HE.out.2⟩

end Go.Proofs.Ytkacfjbhkgdpdaa

namespace Go.Proofs.Ytkacfjbhkgdpdaa
open Go.RowKit
set_option linter.unusedVariables false
set_option linter.unusedSimpArgs false

/-- The mark at a place; st: is it a text? -/
def mkAt (st : Nat → Bool) (k : Nat) (z : Int) (t : Nat) : Value := if st (t % k) = true then .string (mtT (z + (t : Int))) else .int .i64 (z + (t : Int))
def mkP (st : Nat → Bool) (k : Nat) (z : Int) (n : Nat) : List Value := (List.range n).map (mkAt st k z)
theorem mkP_len (st : Nat → Bool) (k : Nat) (z : Int) (n : Nat) : (mkP st k z n).length = n := by simp [mkP]
theorem mkP_at {st : Nat → Bool} {k : Nat} {z : Int} {n j : Nat} (h : j < n) : (mkP st k z n)[j]? = some (mkAt st k z j) := by simp [mkP, h]
theorem mkP_of {st : Nat → Bool} {k : Nat} {z : Int} {n : Nat} {ys : List Value} (hl : ys.length = n) (h : ∀ t, t < n → ys[t]? = some (mkAt st k z t)) : ys = mkP st k z n := by
  apply List.ext_getElem?
  intro i
  rcases Nat.lt_or_ge i n with h1 | h1
  · rw [h i h1, mkP_at h1]
  · rw [List.getElem?_eq_none (by omega), List.getElem?_eq_none (by rw [mkP_len]; omega)]
theorem mkAt_s {st : Nat → Bool} {k : Nat} {z0 z : Int} {t i : Nat} (h : t % k = i) (hs : st i = true) (hz : z = z0 + (t : Int)) : mkAt st k z0 t = .string (mtT z) := by unfold mkAt; rw [h, if_pos hs, hz]
theorem mkAt_i {st : Nat → Bool} {k : Nat} {z0 z : Int} {t i : Nat} (h : t % k = i) (hs : st i = false) (hz : z = z0 + (t : Int)) : mkAt st k z0 t = .int .i64 z := by unfold mkAt; rw [h, if_neg (by rw [hs]; decide), hz]
theorem Chg.wide {B Z g : Nat} {w w' : World} (h : Chg g (g + 1) w w') (h1 : B ≤ g) (h2 : g < Z) : Chg B Z w w' := ⟨h.os, h.tape, h.output, h.size, fun k hk hb => h.block k hk (by omega)⟩

end Go.Proofs.Ytkacfjbhkgdpdaa
