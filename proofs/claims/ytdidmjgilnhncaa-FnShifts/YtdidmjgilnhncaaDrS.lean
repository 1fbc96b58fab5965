/- Proved here: the draws of ShiftOf: two lists of numbers in memory of the call's own, and a number, all small. -/
import Derived.Test.YtdidmjgilnhncaaDrH
import Derived.Test.YtdidmjgilnhncaaLwS
import Derived.Deep.DeepCutAuto
namespace Go.Proofs.Ytdidmjgilnhncaa
open Go.RowKit
set_option linter.unusedVariables false
set_option linter.unusedSimpArgs false

set_option maxRecDepth 10000 in
set_option maxHeartbeats 6400000 in
theorem ints_any {w : World} {b : Nat} {ca : Option Addr} {n cap : Nat} {bs : Nat → Int} {t : Int} (h : Src w b ca n cap bs t) (h1 : t ≤ 900) :
    Calls Try.prog 36 #[.pointer (some ⟨b, 0, none⟩)] w fun e w' => ∃ v s t', e = .returned v ∧ IS w' w.heap.size v s ∧ 0 < s.length ∧ s.length ≤ 10 ∧ t ≤ t' ∧ t' ≤ t + 11 ∧ DSi w w' b ca n cap bs t' := by
  have H0 : Hid (Src w b ca n cap bs t) := h
  have hb : b < w.heap.size := lt_of_blk h.blk
  have ht0 : 0 ≤ t := h.t0
  clear h
  obtain ⟨i0, hi, hz0, hz1, hz2⟩ := info_parts info_i64
  have D0 : Hid (IS (w.alloc (.cells #[] 2)) w.heap.size (.slice (some ⟨w.heap.size, 0, none⟩) 0 0) [] ∧ DSi w (w.alloc (.cells #[] 2)) b ca n cap bs t) := by
    refine ⟨?_, (DSi.start H0.out).alloc _⟩
    have := World.ownsRow_lit (e := 2) (size := 1) (base := w.heap.size) w #[] 0 (Nat.le_refl _) (by decide) (by simp)
    exact this
  go_enter Try.func36, Try.ntmps36
  go_wp2_with (fail)
  refine (next_any _ D0.out.2.src (by omega) (by omega) (by omega)).mono ?_
  rintro e w1 ⟨r, rfl, r0, r1, hS1, hO1⟩
  have D1 : Hid (IS w1 w.heap.size (.slice (some ⟨w.heap.size, 0, none⟩) 0 0) [] ∧ DSi w w1 b ca n cap bs (t + 1)) := ⟨D0.out.1.saveI hb ((SaveBut.refl _ _).only hO1), D0.out.2.only hS1 hO1⟩
  clear hS1 hO1 D0
  obtain ⟨N, hN⟩ : ∃ N : Nat, 1 + r = (N : Int) := ⟨(1 + r).toNat, by omega⟩
  have hN1 : 0 < N ∧ N ≤ 10 := by omega
  have hwN : IntKind.i64.wrap (1 + r) = (N : Int) := by rw [IntKind.wrap_i64]; omega
  clear hN r0 r1
  go_wp2
  go_loopw [3, 4] (fun vo i wr => ∃ (k : Nat) (s : List Int) (v : Value), k ≤ N ∧ v = vo ∧ i = .int .i64 (k : Int) ∧ s.length + k = N ∧ Hid (IS wr w.heap.size v s ∧ DSi w wr b ca n cap bs (t + 1 + (s.length : Int)))) (fun _ i _ => (intOf i).toNat)
  case atStart => exact ⟨N, [], _, Nat.le_refl _, rfl, rfl, by simp, D1.out.1, by have := D1.out.2; simpa using this⟩
  case round =>
    obtain ⟨k, s, v, hk, rfl, rfl, hl, hR⟩ := hrel
    by_cases hlt : 0 < k
    · have bk : (0 : Int) < (k : Int) := by omega
      obtain ⟨oa, oc, hof⟩ := hR.out.1.form
      subst hof
      obtain ⟨T0, hT0⟩ : ∃ T, T = t + 1 + (s.length : Int) := ⟨_, rfl⟩
      have hTb : T0 + 3 ≤ 920 ∧ 0 ≤ T0 := by rw [hT0]; omega
      have HR : Hid (IS wr w.heap.size (.slice oa s.length oc) s ∧ DSi w wr b ca n cap bs T0 ∧ T0 = t + 1 + (s.length : Int)) := ⟨hR.out.1, by rw [hT0]; exact hR.out.2, hT0⟩
      have hbr : b < wr.heap.size := Nat.lt_of_lt_of_le hb hR.out.2.save.size
      clear hR hT0
      go_wp2_with (fail)
      refine (next_any _ HR.out.2.1.src (by omega) (by omega) (by omega)).mono ?_
      rintro e w3 ⟨r, rfl, r0, r1, hS1, hO1⟩
      have D3 : Hid (IS w3 w.heap.size (.slice oa s.length oc) s ∧ DSi w w3 b ca n cap bs (T0 + 1)) := ⟨HR.out.1.saveI hb ((SaveBut.refl _ _).only hO1), HR.out.2.1.only hS1 hO1⟩
      clear hS1 hO1
      obtain ⟨Y, hY⟩ : ∃ Y, Y = r - 3 := ⟨_, rfl⟩
      have e1 : IntKind.i64.wrap (r - 3) = Y := by rw [hY, IntKind.wrap_i64]; omega
      clear hY
      have hsz3 := D3.out.2.save.size
      go_wp2_with (at_builtin; refine wpList_append_own _ rfl _ _ 24 rfl w.heap.size 2 i0 (.int .i64 0) 1 8 Try.underlying24 hi hz0 hz1 hz2 rfl (by decide) _ _ _ rfl (World.ownsRow.alloc D3.out.1 _) ⟨w3.heap.size, 0, none⟩ 1 1 [.int .i64 Y] rfl rfl (World.news_of_block (cs := #[.int .i64 Y]) (t := 2) (fr := (0, 0)) (heap_alloc_new w3 _)) (by simp [Value.oneCell']) (by unfold maxLen; omega) (by omega) (by simp; omega) ?_; intro v6 w6 hown6 hgrow6 _)
      have R6 : Hid (IS w6 w.heap.size v6 (s ++ [Y]) ∧ DSi w w6 b ca n cap bs (t + 1 + ((s ++ [Y]).length : Int))) := by
        refine ⟨IS.snocD hown6, ?_⟩
        have h9 := D3.out.2.grown H0.out hgrow6 (fun q hq => (World.ownsRow.lt D3.out.1 q hq).1)
        rw [HR.out.2.2] at h9
        rw [List.length_append, show t + 1 + ((s.length + [Y].length : Nat) : Int) = t + 1 + (s.length : Int) + 1 by simp; omega]
        exact h9
      clear hown6 hgrow6 D3
      go_wp2
      go_roundw
      case rel => exact ⟨k - 1, s ++ [Y], v6, by omega, rfl, by go_num, by simp; omega, R6.out⟩
      case measure => simp [intOf]; omega
    · obtain rfl : k = 0 := by omega
      have HE : Hid (IS wr w.heap.size v s ∧ DSi w wr b ca n cap bs (t + 1 + (s.length : Int))) := hR.out
      clear hR
      go_wp2
      go_returns
      exact ⟨_, s, _, rfl, HE.out.1, by omega, by omega, by omega, by omega, HE.out.2⟩

end Go.Proofs.Ytdidmjgilnhncaa
