/- Proved here: DrawRunTalk: a list of at most 201 numbers in memory of the call's own. -/
import Derived.Test.YtejpjbihdclngaaDrH
import Derived.Test.YtejpjbihdclngaaLwS
import Derived.Deep.DeepCutAuto
import Derived.Deep.Cut
namespace Go.Proofs.Ytejpjbihdclngaa
open Go.RowKit
set_option linter.unusedVariables false
set_option linter.unusedSimpArgs false

def lnW : Value → Nat
  | .slice _ n _ => n
  | _ => 0
def tkF (j : Nat) : Int := ([1, 4, 4, 4, 3, 2, 5] : List Int).getD j 0
theorem seven_at {w : World} {k : Nat} {T : TypeId} (h : w.heap[k]? = some (.cells #[.int .i64 1, .int .i64 4, .int .i64 4, .int .i64 4, .int .i64 3, .int .i64 2, .int .i64 5] T)) : ∀ j, j < 7 → w.cell? ⟨k, j, none⟩ = some (.int .i64 (tkF j)) := by
  intro j hj
  simp only [World.cell?, h]
  match j, hj with
  | 0, _ => rfl
  | 1, _ => rfl
  | 2, _ => rfl
  | 3, _ => rfl
  | 4, _ => rfl
  | 5, _ => rfl
  | 6, _ => rfl
set_option maxRecDepth 10000 in
set_option maxHeartbeats 3200000 in
theorem drawTk_any (ca : Option Addr) (n cap : Nat) (bs : Nat → Int) (w : World) (hn : n ≤ 140737488351232) (hb : ∀ j, 0 ≤ bs j ∧ bs j ≤ 255)
    (hl : 0 < n → ∃ g off, ca = some ⟨g, off, none⟩ ∧ g < w.heap.size ∧ ∀ j, j < n → w.cell? ⟨g, off + j, none⟩ = some (.int .u8 (bs j))) :
    Calls Try.prog 10 #[.slice ca n cap] w fun e w' => ∃ v s, e = .returned v ∧ IS w' w.heap.size v s ∧ s.length ≤ 201 ∧ Below w.heap.size w w' := by
  obtain ⟨b, hbb⟩ : ∃ b, b = w.heap.size := ⟨_, rfl⟩
  have S0 : Hid (Src (w.alloc (.cells #[.slice ca n cap, .int .i64 0] 84)) b ca n cap bs 0) := by
    rw [hbb]
    refine ⟨heap_alloc_new _ _, hb, fun hp => ?_, hn, by omega⟩
    obtain ⟨g, off, e, hg, hc⟩ := hl hp
    exact ⟨g, off, e, by omega, fun j hj => (World.cell?_of_block (Below.heap_alloc w _ g hg)).trans (hc j hj)⟩
  clear hl hb
  obtain ⟨i0, hi, hz0, hz1, hz2⟩ := info_parts info_i64
  go_enter Try.func10, Try.ntmps10
  go_wp2_with (fail)
  refine (source_anyI _ _ _ _).mono ?_
  rintro e w0 ⟨rfl, hw0⟩
  have HBB : Hid (b = w.heap.size) := hbb
  rw [← HBB.out]
  have D0 : Hid (Src w0 b ca n cap bs 0 ∧ b < w0.heap.size ∧ Below w.heap.size w w0) := by
    refine ⟨by rw [hw0]; exact S0.out, by rw [hw0, hbb]; simp, by rw [hw0]; exact (Below.refl _ _).alloc (Nat.le_refl _) _⟩
  have hb0 : b < w0.heap.size := D0.out.2.1
  clear hw0 S0 hbb
  have D1 : Hid (IS (w0.alloc (.cells #[] 2)) w0.heap.size (.slice (some ⟨w0.heap.size, 0, none⟩) 0 0) [] ∧ DSi w0 (w0.alloc (.cells #[] 2)) b ca n cap bs 0) := by
    refine ⟨?_, (DSi.start D0.out.1).alloc _⟩
    have := World.ownsRow_lit (e := 2) (size := 1) (base := w0.heap.size) w0 #[] 0 (Nat.le_refl _) (by decide) (by simp)
    exact this
  go_wp2_with (fail)
  refine (next_any _ D1.out.2.src (by omega) (by omega) (by omega)).mono ?_
  rintro e w1 ⟨r, rfl, r0, r1, hS1, hO1⟩
  have D2 : Hid (IS w1 w0.heap.size (.slice (some ⟨w0.heap.size, 0, none⟩) 0 0) [] ∧ DSi w0 w1 b ca n cap bs 1) := ⟨D1.out.1.saveI hb0 ((SaveBut.refl _ _).only hO1), by have := D1.out.2.only hS1 hO1; simpa using this⟩
  clear hS1 hO1 D1
  obtain ⟨N, rfl⟩ : ∃ N : Nat, r = (N : Int) := ⟨r.toNat, by omega⟩
  have hN1 : N ≤ 15 := by omega
  clear r0 r1
  go_wp2
  go_loopw [4, 5] (fun vo i wr => ∃ (k : Nat) (s : List Int) (v : Value), k ≤ N ∧ v = vo ∧ i = .int .i64 (k : Int) ∧ s.length + k = N ∧ Hid (IS wr w0.heap.size v s ∧ DSi w0 wr b ca n cap bs (1 + (s.length : Int)))) (fun _ i _ => (intOf i).toNat)
  case atStart => exact ⟨N, [], _, Nat.le_refl _, rfl, rfl, by simp, D2.out.1, by have := D2.out.2; simpa using this⟩
  case round =>
    obtain ⟨k, s, v, hk, rfl, rfl, hl, hR⟩ := hrel
    by_cases hlt : 0 < k
    · have bk : (0 : Int) < (k : Int) := by omega
      obtain ⟨oa, oc, hof⟩ := hR.out.1.form
      subst hof
      obtain ⟨T0, hT0⟩ : ∃ T, T = 1 + (s.length : Int) := ⟨_, rfl⟩
      have hTb : T0 + 3 ≤ 920 ∧ 0 ≤ T0 := by rw [hT0]; omega
      obtain ⟨WL, hWL⟩ : ∃ W, W = wr.alloc (.cells #[.int .i64 1, .int .i64 4, .int .i64 4, .int .i64 4, .int .i64 3, .int .i64 2, .int .i64 5] 2) := ⟨_, rfl⟩
      obtain ⟨KL, hKL⟩ : ∃ K, K = wr.heap.size := ⟨_, rfl⟩
      have hbr : b < wr.heap.size := Nat.lt_of_lt_of_le hb0 hR.out.2.save.size
      have HR : Hid (IS WL w0.heap.size (.slice oa s.length oc) s ∧ DSi w0 WL b ca n cap bs T0 ∧ T0 = 1 + (s.length : Int) ∧ ∀ j, j < 7 → WL.cell? ⟨KL, j, none⟩ = some (.int .i64 (tkF j))) := by
        rw [hWL, hT0, hKL]
        exact ⟨hR.out.1.kept fun g hg => Below.heap_alloc _ _ _ (World.ownsRow.lt hR.out.1 g hg).2, hR.out.2.alloc _, rfl, seven_at (heap_alloc_new _ _)⟩
      clear hR hT0 D2
      go_wp2_with (fail)
      rw [← hWL, ← hKL]
      have hne : KL ≠ b := by omega
      clear hWL hKL
      refine (pick_in KL 7 7 tkF HR.out.2.1.src (by omega) (by omega) (by omega) hne HR.out.2.2.2).mono ?_
      rintro e w3 ⟨j, hj, rfl, hS1, hO1⟩
      have D3 : Hid (IS w3 w0.heap.size (.slice oa s.length oc) s ∧ DSi w0 w3 b ca n cap bs (T0 + 1)) := ⟨HR.out.1.saveI hb0 ((SaveBut.refl _ _).only hO1), HR.out.2.1.only hS1 hO1⟩
      clear hS1 hO1
      obtain ⟨Y, hY⟩ : ∃ Y, Y = tkF j := ⟨_, rfl⟩
      rw [← hY]
      clear hY
      have hsz3 := D3.out.2.save.size
      go_wp2_with (at_builtin; refine wpList_append_own _ rfl _ _ 24 rfl w0.heap.size 2 i0 (.int .i64 0) 1 8 Try.underlying24 hi hz0 hz1 hz2 rfl (by decide) _ _ _ rfl (World.ownsRow.alloc D3.out.1 _) ⟨w3.heap.size, 0, none⟩ 1 1 [.int .i64 Y] rfl rfl (World.news_of_block (cs := #[.int .i64 Y]) (t := 2) (fr := (0, 0)) (heap_alloc_new w3 _)) (by simp [Value.oneCell']) (by unfold maxLen; omega) (by omega) (by simp; omega) ?_; intro v6 w6 hown6 hgrow6 _)
      have R6 : Hid (IS w6 w0.heap.size v6 (s ++ [Y]) ∧ DSi w0 w6 b ca n cap bs (1 + ((s ++ [Y]).length : Int))) := by
        refine ⟨IS.snocD hown6, ?_⟩
        have h9 := D3.out.2.grown D0.out.1 hgrow6 (fun q hq => (World.ownsRow.lt D3.out.1 q hq).1)
        rw [HR.out.2.2.1] at h9
        rw [List.length_append, show 1 + ((s.length + [Y].length : Nat) : Int) = 1 + (s.length : Int) + 1 by simp; omega]
        exact h9
      clear hown6 hgrow6 D3
      go_wp2
      go_roundw
      case rel => exact ⟨k - 1, s ++ [Y], v6, by omega, rfl, by go_num, by simp; omega, R6.out⟩
      case measure => simp [intOf]; omega
    · obtain rfl : k = 0 := by omega
      have HE : Hid (IS wr w0.heap.size v s ∧ DSi w0 wr b ca n cap bs (1 + (s.length : Int))) := hR.out
      have hsl : s.length ≤ 15 := by omega
      clear hR hl hk D2 hN1
      go_wp2_with (fail)
      refine (chance_any 30 HE.out.2.src (by omega) (by omega) (by omega)).mono ?_
      rintro e w3 ⟨r, rfl, hS3, hO3⟩
      have D3 : Hid (IS w3 w0.heap.size v s ∧ DSi w0 w3 b ca n cap bs (2 + (s.length : Int))) := ⟨HE.out.1.saveI hb0 ((SaveBut.refl _ _).only hO3), by have := HE.out.2.only hS3 hO3; rw [show 2 + (s.length : Int) = 1 + (s.length : Int) + 1 by omega]; exact this⟩
      clear hS3 hO3 HE
      have hs3 := D3.out.2.save.size
      cases r with
      | false =>
        go_wp2
        go_returns
        exact ⟨_, s, rfl, D3.out.1.low D0.out.2.2.size, by omega, D0.out.2.2.trans (D3.out.2.save.below (by rw [← HBB.out]; exact Nat.le_refl _) D0.out.2.2.size)⟩
      | true =>
        go_wp2
        go_loopw [4] (fun vo wr => ∃ (s : List Int) (v : Value), v = vo ∧ s.length ≤ 201 ∧ Hid (IS wr w0.heap.size v s ∧ ∃ T, 0 ≤ T ∧ T ≤ 2 + (s.length : Int) ∧ DSi w0 wr b ca n cap bs T)) (fun vo _ => 201 - lnW vo)
        case atStart => exact ⟨s, v, rfl, by omega, D3.out.1, _, by omega, by omega, D3.out.2⟩
        case round =>
          clear D3 hsl hs3
          obtain ⟨s2, v2, rfl, hl2, hR⟩ := hrel
          obtain ⟨oa, oc, hof⟩ := hR.out.1.form
          subst hof
          obtain ⟨m, hm⟩ : ∃ m, m = s2.length := ⟨_, rfl⟩
          obtain ⟨hI, T, hT0, hT1, hD⟩ := hR.out
          rw [← hm] at hI hl2 hT1 ⊢
          have HI : Hid (IS wr w0.heap.size (.slice oa m oc) s2 ∧ DSi w0 wr b ca n cap bs T ∧ m = s2.length) := ⟨hI, hD, hm⟩
          clear hI hD hR hm
          go_wp2_with (fail)
          refine (next_any _ HI.out.2.1.src (by omega) (by omega) (by omega)).mono ?_
          rintro e w4 ⟨q, rfl, q0, q1, hS4, hO4⟩
          have D4 : Hid (IS w4 w0.heap.size (.slice oa m oc) s2 ∧ DSi w0 w4 b ca n cap bs (T + 1) ∧ m = s2.length) := ⟨HI.out.1.saveI hb0 ((SaveBut.refl _ _).only hO4), HI.out.2.1.only hS4 hO4, HI.out.2.2⟩
          clear hS4 hO4 HI
          have hsz4 := D4.out.2.1.save.size
          obtain ⟨Q, hQ⟩ : ∃ Q, Q = 200 + q := ⟨_, rfl⟩
          have e1 : IntKind.i64.wrap (200 + q) = Q := by rw [hQ, IntKind.wrap_i64]; omega
          have hQb : 200 ≤ Q ∧ Q ≤ 201 := by omega
          clear hQ q0 q1
          by_cases hlt2 : (m : Int) < Q
          · have HOW : Hid (w4.ownsRow w0.heap.size 2 1 (.slice oa m oc) m (s2.map (Value.int .i64))) := by
              have h9 := D4.out.1; unfold IS at h9; rw [← D4.out.2.2] at h9; exact h9
            go_wp2_with (at_builtin; refine wpList_append_own _ rfl _ _ 24 rfl w0.heap.size 2 i0 (.int .i64 0) 1 8 Try.underlying24 hi hz0 hz1 hz2 rfl (by decide) _ _ _ rfl (World.ownsRow.alloc HOW.out _) ⟨w4.heap.size, 0, none⟩ 1 1 [.int .i64 4] rfl rfl (World.news_of_block (cs := #[.int .i64 4]) (t := 2) (fr := (0, 0)) (heap_alloc_new w4 _)) (by simp [Value.oneCell']) (by unfold maxLen; omega) (by omega) (by simp; omega) ?_; intro v6 w6 hown6 hgrow6 _)
            have R6 : Hid (IS w6 w0.heap.size v6 (s2 ++ [4]) ∧ ∃ T, 0 ≤ T ∧ T ≤ 2 + ((s2 ++ [4]).length : Int) ∧ DSi w0 w6 b ca n cap bs T) := by
              refine ⟨IS.snocD (by rw [← D4.out.2.2]; exact hown6), T + 1, by omega, ?_, D4.out.2.1.grown D0.out.1 hgrow6 (fun q hq => (World.ownsRow.lt D4.out.1 q hq).1)⟩
              rw [List.length_append, ← D4.out.2.2, show ((m + [(4 : Int)].length : Nat) : Int) = (m : Int) + 1 by simp]; omega
            have HF6 : Hid (∃ a c, v6 = .slice a (m + 1) c) := by
              rcases hown6.2 with ⟨_, h0⟩ | ⟨g, cap, cur, rfl, _⟩
              · omega
              · exact ⟨_, _, rfl⟩
            have HM : Hid (m = s2.length) := D4.out.2.2
            clear hown6 hgrow6 D4 HOW
            obtain ⟨a6, c6, rfl⟩ := HF6.out
            go_wp2
            go_roundw
            case rel => exact ⟨s2 ++ [4], _, rfl, by rw [List.length_append, ← HM.out]; simp; omega, R6.out⟩
            case measure => simp [lnW]; omega
          · go_wp2
            go_returns
            exact ⟨_, s2, rfl, D4.out.1.low D0.out.2.2.size, by rw [← D4.out.2.2]; omega, D0.out.2.2.trans (D4.out.2.1.save.below (by rw [← HBB.out]; exact Nat.le_refl _) D0.out.2.2.size)⟩

end Go.Proofs.Ytejpjbihdclngaa
