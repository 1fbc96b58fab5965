/- Proved here: lateness and flowed of the program. -/
import Derived.Test.YtecobfhlpjlpkaaDkM
import Derived.Test.YtecobfhlpjlpkaaCeQ
import Derived.Test.YtecobfhlpjlpkaaUnd
import Derived.BigQuiet
namespace Go.Proofs.Ytecobfhlpjlpkaa
open Go.RowKit
set_option linter.unusedVariables false
set_option linter.unusedSimpArgs false


set_option maxRecDepth 10000 in
set_option maxHeartbeats 6400000 in
theorem impl_late {W : World} {v : Value} {l : List Jb} (hn : l.length ≤ 30) (hr : ∀ i (hi : i < l.length), rgJ l[i]) (hs : RG 7 jbC W v l) :
    Calls Try.prog 39 #[v] W fun e w' => e = .returned (.int .i64 (lateV l)) ∧ Below W.heap.size W w' := by
  obtain ⟨a, c, rfl⟩ := hs.form
  obtain ⟨n, hnn⟩ : ∃ n, n = l.length := ⟨_, rfl⟩
  obtain ⟨D, hD⟩ : ∃ D, D = lateV l := ⟨_, rfl⟩
  rw [← hnn] at hn hs ⊢
  rw [← hD]
  have H : Hid (RG 7 jbC W (.slice a n c) l ∧ n = l.length ∧ D = (lat l n).2 ∧ ∀ i (hi : i < l.length), rgJ l[i]) := ⟨hs, hnn, by rw [hD, lateV, ← hnn], hr⟩
  clear hs hnn hD hr
  go_enter Try.func39, Try.ntmps39
  go_wp2
  go_loopw [3, 4, 9] (fun e y i wr => ∃ k : Nat, k ≤ n ∧ i = .int .i64 k ∧ e = .int .i64 (lat l k).1 ∧ y = .int .i64 (lat l k).2 ∧ Hid (Below W.heap.size W wr)) (fun _ _ i _ => n - (intOf i).toNat)
  case atStart => exact ⟨0, Nat.zero_le _, rfl, rfl, rfl, Below.refl _ _⟩
  case round =>
    obtain ⟨k, hk, rfl, rfl, rfl, hR⟩ := hrel
    by_cases hlt : k < n
    · have hkl : k < l.length := by rw [← H.out.2.1]; exact hlt
      obtain ⟨x1, x2, x3, x4⟩ := lat_bnd H.out.2.2.2 k (by omega) (by omega)
      obtain ⟨g, o, c2, he, hg, hj⟩ := (H.out.1.below hR.out).pos (by omega)
      simp only [Value.slice.injEq] at he
      obtain ⟨rfl, hx1, hx2⟩ := he
      clear hx1 hx2
      obtain ⟨c0, c1, c2, c3, c4, c5, c6⟩ := jbC_at (hj k hkl)
      obtain ⟨j, hj2⟩ : ∃ j, j = l[k] := ⟨_, rfl⟩
      rw [← hj2] at c0 c1 c2 c3 c4 c5 c6
      have hrj : rgJ j := by rw [hj2]; exact H.out.2.2.2 k hkl
      obtain ⟨⟨r1, r2, r3⟩, r4, r5, r6⟩ := hrj
      have HE : Hid (l.getD k default = j) := by unfold Hid; rw [hj2]; simp [List.getD, hkl]
      obtain ⟨x, hx⟩ : ∃ x, x = (lat l k).1 := ⟨_, rfl⟩
      obtain ⟨y, hy⟩ : ∃ y, y = (lat l k).2 := ⟨_, rfl⟩
      have HXY : Hid (x = (lat l k).1 ∧ y = (lat l k).2) := ⟨hx, hy⟩
      rw [← hx] at x1 x2 ⊢
      rw [← hy] at x3 x4 ⊢
      have b0 : (0 : Int) ≤ (k : Int) := by omega
      have b1 : (k : Int) < (n : Int) := by omega
      have b9 : (k : Int) ≤ 30 := by omega
      have HB : Hid (Below W.heap.size W (wr.alloc (.cells #[.int .i64 j.id, .int .i64 j.co, .int .i64 j.ti, .int .i64 j.se, .int .i64 j.du, .int .i64 j.we, .int .i64 j.ki] 48))) := by unfold Hid; exact Below.alloc hR.out hR.out.size _
      clear hj hj2 hx hy hR r6
      have hm := mulW (b := max 0 (max x j.co + j.ti - j.du)) r5.1 r5.2 (by omega) (by omega)
      go_wp2
      go_roundw
      case rel => exact ⟨k + 1, by omega, by go_num, by unfold lat; rw [HE.out, ← HXY.out.1]; simp only [mx], by unfold lat; rw [HE.out, ← HXY.out.1, ← HXY.out.2]; simp only [mx, mz]; rw [w64 (x := j.we * _) (by omega), w64 (by omega)], HB.out⟩
      case measure => simp [intOf]; omega
    · obtain rfl : k = n := by omega
      have HN : Hid ((lat l k).2 = D) := H.out.2.2.1.symm
      go_wp2
      go_returns
      exact ⟨by rw [← HN.out]; rfl, hR.out⟩

set_option maxRecDepth 10000 in
set_option maxHeartbeats 6400000 in
theorem impl_flow {W : World} {v : Value} {l : List Jb} (hn : l.length ≤ 30) (hr : ∀ i (hi : i < l.length), rgJ l[i]) (hs : RG 7 jbC W v l) :
    Calls Try.prog 41 #[v] W fun e w' => e = .returned (.int .i64 (floV l)) ∧ Below W.heap.size W w' := by
  obtain ⟨a, c, rfl⟩ := hs.form
  obtain ⟨n, hnn⟩ : ∃ n, n = l.length := ⟨_, rfl⟩
  obtain ⟨D, hD⟩ : ∃ D, D = floV l := ⟨_, rfl⟩
  rw [← hnn] at hn hs ⊢
  rw [← hD]
  have H : Hid (RG 7 jbC W (.slice a n c) l ∧ n = l.length ∧ D = (flo l n).2 ∧ ∀ i (hi : i < l.length), rgJ l[i]) := ⟨hs, hnn, by rw [hD, floV, ← hnn], hr⟩
  clear hs hnn hD hr
  go_enter Try.func41, Try.ntmps41
  go_wp2
  go_loopw [3, 4, 9] (fun e y i wr => ∃ k : Nat, k ≤ n ∧ i = .int .i64 k ∧ e = .int .i64 (flo l k).1 ∧ y = .int .i64 (flo l k).2 ∧ Hid (Below W.heap.size W wr)) (fun _ _ i _ => n - (intOf i).toNat)
  case atStart => exact ⟨0, Nat.zero_le _, rfl, rfl, rfl, Below.refl _ _⟩
  case round =>
    obtain ⟨k, hk, rfl, rfl, rfl, hR⟩ := hrel
    by_cases hlt : k < n
    · have hkl : k < l.length := by rw [← H.out.2.1]; exact hlt
      obtain ⟨x1, x2, x3, x4⟩ := flo_bnd H.out.2.2.2 k (by omega) (by omega)
      obtain ⟨g, o, c2, he, hg, hj⟩ := (H.out.1.below hR.out).pos (by omega)
      simp only [Value.slice.injEq] at he
      obtain ⟨rfl, hx1, hx2⟩ := he
      clear hx1 hx2
      obtain ⟨c0, c1, c2, c3, c4, c5, c6⟩ := jbC_at (hj k hkl)
      obtain ⟨j, hj2⟩ : ∃ j, j = l[k] := ⟨_, rfl⟩
      rw [← hj2] at c0 c1 c2 c3 c4 c5 c6
      have hrj : rgJ j := by rw [hj2]; exact H.out.2.2.2 k hkl
      obtain ⟨⟨r1, r2, r3⟩, r4, r5, r6⟩ := hrj
      have HE : Hid (l.getD k default = j) := by unfold Hid; rw [hj2]; simp [List.getD, hkl]
      obtain ⟨x, hx⟩ : ∃ x, x = (flo l k).1 := ⟨_, rfl⟩
      obtain ⟨y, hy⟩ : ∃ y, y = (flo l k).2 := ⟨_, rfl⟩
      have HXY : Hid (x = (flo l k).1 ∧ y = (flo l k).2) := ⟨hx, hy⟩
      rw [← hx] at x1 x2 ⊢
      rw [← hy] at x3 x4 ⊢
      have b0 : (0 : Int) ≤ (k : Int) := by omega
      have b1 : (k : Int) < (n : Int) := by omega
      have b9 : (k : Int) ≤ 30 := by omega
      have HB : Hid (Below W.heap.size W (wr.alloc (.cells #[.int .i64 j.id, .int .i64 j.co, .int .i64 j.ti, .int .i64 j.se, .int .i64 j.du, .int .i64 j.we, .int .i64 j.ki] 48))) := by unfold Hid; exact Below.alloc hR.out hR.out.size _
      clear hj hj2 hx hy hR r6
      go_wp2
      go_roundw
      case rel => exact ⟨k + 1, by omega, by go_num, by unfold flo; rw [HE.out, ← HXY.out.1], by unfold flo; rw [HE.out, ← HXY.out.1, ← HXY.out.2]; simp only [mx], HB.out⟩
      case measure => simp [intOf]; omega
    · obtain rfl : k = n := by omega
      have HN : Hid ((flo l k).2 = D) := H.out.2.2.1.symm
      go_wp2
      go_returns
      exact ⟨by rw [← HN.out]; rfl, hR.out⟩

end Go.Proofs.Ytecobfhlpjlpkaa
