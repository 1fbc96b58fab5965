/- Proved here: l22Late and l22Flow of the model. -/
import Derived.Test.YtjbghflphngnkaaDkM
import Derived.Test.YtjbghflphngnkaaDjS
import Derived.Test.YtjbghflphngnkaaNlJ
namespace Go.Proofs.Ytjbghflphngnkaa
open Go.RowKit
set_option linter.unusedVariables false
set_option linter.unusedSimpArgs false

theorem spec_mxj (a b : Int) (w : World) : Calls Try.prog 74 #[.int .i64 a, .int .i64 b] w fun e w' => e = .returned (.int .i64 (max a b)) ∧ w' = w := by
  rcases (by omega : b < a ∨ a = b ∨ a < b) with h | h | h
  · rw [show max a b = a by omega]
    go_enter Try.func74, Try.ntmps74
    go_wp2
    go_returns
    exact ⟨rfl, rfl⟩
  · subst h
    rw [show max a a = a by omega]
    go_enter Try.func74, Try.ntmps74
    go_wp2
    go_returns
    exact ⟨rfl, rfl⟩
  · rw [show max a b = b by omega]
    go_enter Try.func74, Try.ntmps74
    go_wp2
    go_returns
    exact ⟨rfl, rfl⟩

set_option maxRecDepth 10000 in
set_option maxHeartbeats 6400000 in
theorem spec_late {W : World} {a : Option Addr} {n c : Nat} {vi : Value} {s : List Jb} {is : List Int} (hn : n ≤ 1048576) (hi : is.length ≤ 30) (hin : ∀ i, i < is.length → 0 ≤ fdI (jdA s) (is.getD i 0) s.length) (hr : ∀ i (hi : i < (pkL s is).length), rgJ (pkL s is)[i]) (hs : RG 7 jbC W (.slice a n c) s) (hv : RdI W vi is) :
    Calls Try.prog 34 #[.slice a n c, vi] W fun e w' => e = .returned (.int .i64 (lateV (pkL s is))) ∧ Below W.heap.size W w' := by
  obtain ⟨b, d, rfl⟩ := hv.form
  obtain ⟨m, hmm⟩ : ∃ n, n = is.length := ⟨_, rfl⟩
  obtain ⟨l, hll⟩ : ∃ l, l = pkL s is := ⟨_, rfl⟩
  obtain ⟨D, hD⟩ : ∃ D, D = lateV l := ⟨_, rfl⟩
  have hml : m = l.length := by rw [hll, pkL_len]; exact hmm
  rw [← hmm] at hi hv ⊢
  rw [← hll] at hr ⊢
  rw [← hD]
  have H : Hid (RG 7 jbC W (.slice a n c) s ∧ RdI W (.slice b m d) is ∧ m = l.length ∧ D = (lat l m).2 ∧ (∀ i (hi : i < l.length), rgJ l[i]) ∧ (∀ i, i < m → l.getD i default = pkJ s (is.getD i 0)) ∧ n = s.length ∧ m = is.length) := ⟨hs, hv, hml, by rw [hD, lateV, ← hml], hr, fun i h => by rw [hll, pkL]; simp [List.getD, hmm ▸ h], hs.len, hmm⟩
  have HIN : Hid (∀ i, i < m → 0 ≤ fdI (jdA s) (is.getD i 0) s.length) := fun i h => hin i (hmm ▸ h)
  clear hs hv hll hml hmm hD hr hin
  go_enter Try.func34, Try.ntmps34
  go_wp2
  go_loopw [5, 6, 7] (fun e y i wr => ∃ k : Nat, k ≤ m ∧ i = .int .i64 k ∧ e = .int .i64 (lat l k).1 ∧ y = .int .i64 (lat l k).2 ∧ Hid (Below W.heap.size W wr)) (fun _ _ i _ => m - (intOf i).toNat)
  case atStart => exact ⟨0, Nat.zero_le _, rfl, rfl, rfl, Below.refl _ _⟩
  case round =>
    obtain ⟨k, hk, rfl, rfl, rfl, hR⟩ := hrel
    by_cases hlt : k < m
    · have hkl : k < l.length := by rw [← H.out.2.2.1]; exact hlt
      obtain ⟨x1, x2, x3, x4⟩ := lat_bnd H.out.2.2.2.2.1 k (by omega) (by omega)
      obtain ⟨gi, oi, rfl, hgi, hci⟩ := rd_at (H.out.2.1.below hR.out) hlt
      obtain ⟨u, hu⟩ : ∃ u, u = is.getD k 0 := ⟨_, rfl⟩
      rw [← hu] at hci
      have h0 := HIN.out k hlt
      rw [← hu] at h0
      obtain ⟨p, hp, hpe, _, _⟩ := fdI_pos h0
      have HF : Hid (∀ X, Below W.heap.size W X → Calls Try.prog 73 #[.slice a n c, .int .i64 u] X fun e w' => e = .returned (.int .i64 (p : Int)) ∧ w' = X) := fun X hb => by
        have := spec_jfd s u (by omega) (H.out.1.below hb)
        rw [H.out.2.2.2.2.2.2.1, hpe] at this
        rw [H.out.2.2.2.2.2.2.1]
        exact this
      have hpn : p < n := by rw [H.out.2.2.2.2.2.2.1]; exact hp
      obtain ⟨g, o, c2, he, hg, hj⟩ := (H.out.1.below hR.out).pos (by omega)
      simp only [Value.slice.injEq] at he
      obtain ⟨rfl, hx1, hx2⟩ := he
      clear hx1 hx2
      obtain ⟨c0, c1, c2, c3, c4, c5, c6⟩ := jbC_at (hj p hp)
      obtain ⟨j, hj2⟩ : ∃ j, j = s[p] := ⟨_, rfl⟩
      rw [← hj2] at c0 c1 c2 c3 c4 c5 c6
      have HE : Hid (l.getD k default = j) := by
        unfold Hid; rw [H.out.2.2.2.2.2.1 k hlt, ← hu, pkJ, hpe, hj2]; simp [List.getD, hp]
      have hrj : rgJ j := by
        have e : l.getD k default = l[k] := by simp [List.getD, hkl]
        rw [← HE.out, e]; exact H.out.2.2.2.2.1 k hkl
      obtain ⟨⟨r1, r2, r3⟩, r4, r5, r6⟩ := hrj
      obtain ⟨x, hx⟩ : ∃ x, x = (lat l k).1 := ⟨_, rfl⟩
      obtain ⟨y, hy⟩ : ∃ y, y = (lat l k).2 := ⟨_, rfl⟩
      have HXY : Hid (x = (lat l k).1 ∧ y = (lat l k).2) := ⟨hx, hy⟩
      rw [← hx] at x1 x2 ⊢
      rw [← hy] at x3 x4 ⊢
      have b0 : (0 : Int) ≤ (k : Int) := by omega
      have b1 : (k : Int) < (m : Int) := by omega
      have b2 : (0 : Int) ≤ (p : Int) := by omega
      have b3 : (p : Int) < (n : Int) := by omega
      have b9 : (k : Int) ≤ 30 := by omega
      obtain ⟨X, hX⟩ : ∃ X, X = wr.alloc (.cells #[.int .i64 j.id, .int .i64 j.co, .int .i64 j.ti, .int .i64 j.se, .int .i64 j.du, .int .i64 j.we, .int .i64 j.ki] 51) := ⟨_, rfl⟩
      have HX : Hid (Below W.heap.size W X ∧ X.heap[wr.heap.size]? = some (.cells #[.int .i64 j.id, .int .i64 j.co, .int .i64 j.ti, .int .i64 j.se, .int .i64 j.du, .int .i64 j.we, .int .i64 j.ki] 51)) := by rw [hX]; exact ⟨Below.alloc hR.out hR.out.size _, heap_alloc_new _ _⟩
      clear hj hj2 hx hy hu h0 hpe r6
      go_wp2_with (fail)
      refine (HF.out _ hR.out).mono ?_
      rintro e w5 ⟨rfl, hw5⟩
      subst w5
      go_wp2_with (fail)
      rw [← hX]
      clear hX hR HF c0 c1 c2 c3 c4 c5 c6 hgi hg hci
      obtain ⟨p0, p1, p2, p3, p4, p5, p6, pl⟩ := jbS_cells HX.out.2
      obtain ⟨e1, he1⟩ : ∃ z, z = max x j.co := ⟨_, rfl⟩
      have HM1 : Hid (∀ Y : Und X.heap.size X, Calls Try.prog 74 #[.int .i64 x, .int .i64 j.co] Y.W fun e w' => e = .returned (.int .i64 e1) ∧ w' = Y.W) := fun Y => by rw [he1]; exact spec_mxj x j.co Y.W
      have z1 : 0 ≤ e1 ∧ e1 ≤ 31000000 := by omega
      have HEE1 : Hid (e1 = max x j.co) := he1
      clear he1
      (refine wp_region_und (by kernel_rfl) (by kernel_rfl) (fun hund => ?_); (repeat (go_big_quiet_step (first | (go_at_call 74; with_reducible refine und_call_same (HM1.out _))))); with_reducible refine wpQuiet_nil ?_; clear hund; intro W1 hb1; obtain ⟨hc1, hf1⟩ := undcell hb1)
      have HX1 : Hid (Below W.heap.size W W1 ∧ W1.heap[wr.heap.size]? = some (.cells #[.int .i64 j.id, .int .i64 j.co, .int .i64 j.ti, .int .i64 j.se, .int .i64 j.du, .int .i64 j.we, .int .i64 j.ki] 51)) := ⟨HX.out.1.trans (hb1.mono HX.out.1.size), (hb1.block _ (ltOfQ HX.out.2)).trans HX.out.2⟩
      clear hb1 hc1 hf1 HX HM1 p0 p1 p2 p3 p4 p5 p6 pl
      obtain ⟨p0, p1, p2, p3, p4, p5, p6, pl⟩ := jbS_cells HX1.out.2
      obtain ⟨e2, he2⟩ : ∃ z, z = max 0 (e1 + j.ti - j.du) := ⟨_, rfl⟩
      have HM2 : Hid (∀ Y : Und W1.heap.size W1, Calls Try.prog 74 #[.int .i64 0, .int .i64 (e1 + j.ti - j.du)] Y.W fun e w' => e = .returned (.int .i64 e2) ∧ w' = Y.W) := fun Y => by rw [he2]; exact spec_mxj 0 (e1 + j.ti - j.du) Y.W
      have hm := mulW (b := e2) r5.1 r5.2 (by omega) (by omega)
      have HEE2 : Hid (e2 = max 0 (e1 + j.ti - j.du)) := he2
      clear he2
      go_wp2_with (fail)
      (refine wp_region_und (by kernel_rfl) (by kernel_rfl) (fun hund => ?_); (repeat (go_big_quiet_step (first | (go_at_call 74; with_reducible refine und_call_same (HM2.out _))))); with_reducible refine wpQuiet_nil ?_; clear hund; intro W2 hb2; obtain ⟨hc2, hf2⟩ := undcell hb2)
      have HX2 : Hid (Below W.heap.size W W2) := HX1.out.1.trans (hb2.mono HX1.out.1.size)
      clear hb2 hc2 hf2 HX1 HM2 p0 p1 p2 p3 p4 p5 p6 pl
      go_wp2
      go_roundw
      case rel => exact ⟨k + 1, by omega, by go_num, by unfold lat; rw [HE.out, ← HXY.out.1]; rw [← HEE1.out], by unfold lat; rw [HE.out, ← HXY.out.1, ← HXY.out.2]; rw [← HEE1.out, ← HEE2.out], HX2.out⟩
      case measure => simp [intOf]; omega
    · obtain rfl : k = m := by omega
      have HN : Hid ((lat l k).2 = D) := H.out.2.2.2.1.symm
      go_wp2
      go_returns
      exact ⟨by rw [← HN.out]; rfl, hR.out⟩

set_option maxRecDepth 10000 in
set_option maxHeartbeats 6400000 in
theorem spec_flow {W : World} {a : Option Addr} {n c : Nat} {vi : Value} {s : List Jb} {is : List Int} (hn : n ≤ 1048576) (hi : is.length ≤ 30) (hin : ∀ i, i < is.length → 0 ≤ fdI (jdA s) (is.getD i 0) s.length) (hr : ∀ i (hi : i < (pkL s is).length), rgJ (pkL s is)[i]) (hs : RG 7 jbC W (.slice a n c) s) (hv : RdI W vi is) :
    Calls Try.prog 52 #[.slice a n c, vi] W fun e w' => e = .returned (.int .i64 (floV (pkL s is))) ∧ Below W.heap.size W w' := by
  obtain ⟨b, d, rfl⟩ := hv.form
  obtain ⟨m, hmm⟩ : ∃ n, n = is.length := ⟨_, rfl⟩
  obtain ⟨l, hll⟩ : ∃ l, l = pkL s is := ⟨_, rfl⟩
  obtain ⟨D, hD⟩ : ∃ D, D = floV l := ⟨_, rfl⟩
  have hml : m = l.length := by rw [hll, pkL_len]; exact hmm
  rw [← hmm] at hi hv ⊢
  rw [← hll] at hr ⊢
  rw [← hD]
  have H : Hid (RG 7 jbC W (.slice a n c) s ∧ RdI W (.slice b m d) is ∧ m = l.length ∧ D = (flo l m).2 ∧ (∀ i (hi : i < l.length), rgJ l[i]) ∧ (∀ i, i < m → l.getD i default = pkJ s (is.getD i 0)) ∧ n = s.length ∧ m = is.length) := ⟨hs, hv, hml, by rw [hD, floV, ← hml], hr, fun i h => by rw [hll, pkL]; simp [List.getD, hmm ▸ h], hs.len, hmm⟩
  have HIN : Hid (∀ i, i < m → 0 ≤ fdI (jdA s) (is.getD i 0) s.length) := fun i h => hin i (hmm ▸ h)
  clear hs hv hll hml hmm hD hr hin
  go_enter Try.func52, Try.ntmps52
  go_wp2
  go_loopw [5, 6, 7] (fun e y i wr => ∃ k : Nat, k ≤ m ∧ i = .int .i64 k ∧ e = .int .i64 (flo l k).1 ∧ y = .int .i64 (flo l k).2 ∧ Hid (Below W.heap.size W wr)) (fun _ _ i _ => m - (intOf i).toNat)
  case atStart => exact ⟨0, Nat.zero_le _, rfl, rfl, rfl, Below.refl _ _⟩
  case round =>
    obtain ⟨k, hk, rfl, rfl, rfl, hR⟩ := hrel
    by_cases hlt : k < m
    · have hkl : k < l.length := by rw [← H.out.2.2.1]; exact hlt
      obtain ⟨x1, x2, x3, x4⟩ := flo_bnd H.out.2.2.2.2.1 k (by omega) (by omega)
      obtain ⟨gi, oi, rfl, hgi, hci⟩ := rd_at (H.out.2.1.below hR.out) hlt
      obtain ⟨u, hu⟩ : ∃ u, u = is.getD k 0 := ⟨_, rfl⟩
      rw [← hu] at hci
      have h0 := HIN.out k hlt
      rw [← hu] at h0
      obtain ⟨p, hp, hpe, _, _⟩ := fdI_pos h0
      have HF : Hid (∀ X, Below W.heap.size W X → Calls Try.prog 73 #[.slice a n c, .int .i64 u] X fun e w' => e = .returned (.int .i64 (p : Int)) ∧ w' = X) := fun X hb => by
        have := spec_jfd s u (by omega) (H.out.1.below hb)
        rw [H.out.2.2.2.2.2.2.1, hpe] at this
        rw [H.out.2.2.2.2.2.2.1]
        exact this
      have hpn : p < n := by rw [H.out.2.2.2.2.2.2.1]; exact hp
      obtain ⟨g, o, c2, he, hg, hj⟩ := (H.out.1.below hR.out).pos (by omega)
      simp only [Value.slice.injEq] at he
      obtain ⟨rfl, hx1, hx2⟩ := he
      clear hx1 hx2
      obtain ⟨c0, c1, c2, c3, c4, c5, c6⟩ := jbC_at (hj p hp)
      obtain ⟨j, hj2⟩ : ∃ j, j = s[p] := ⟨_, rfl⟩
      rw [← hj2] at c0 c1 c2 c3 c4 c5 c6
      have HE : Hid (l.getD k default = j) := by
        unfold Hid; rw [H.out.2.2.2.2.2.1 k hlt, ← hu, pkJ, hpe, hj2]; simp [List.getD, hp]
      have hrj : rgJ j := by
        have e : l.getD k default = l[k] := by simp [List.getD, hkl]
        rw [← HE.out, e]; exact H.out.2.2.2.2.1 k hkl
      obtain ⟨⟨r1, r2, r3⟩, r4, r5, r6⟩ := hrj
      obtain ⟨x, hx⟩ : ∃ x, x = (flo l k).1 := ⟨_, rfl⟩
      obtain ⟨y, hy⟩ : ∃ y, y = (flo l k).2 := ⟨_, rfl⟩
      have HXY : Hid (x = (flo l k).1 ∧ y = (flo l k).2) := ⟨hx, hy⟩
      rw [← hx] at x1 x2 ⊢
      rw [← hy] at x3 x4 ⊢
      have b0 : (0 : Int) ≤ (k : Int) := by omega
      have b1 : (k : Int) < (m : Int) := by omega
      have b2 : (0 : Int) ≤ (p : Int) := by omega
      have b3 : (p : Int) < (n : Int) := by omega
      have b9 : (k : Int) ≤ 30 := by omega
      obtain ⟨X, hX⟩ : ∃ X, X = wr.alloc (.cells #[.int .i64 j.id, .int .i64 j.co, .int .i64 j.ti, .int .i64 j.se, .int .i64 j.du, .int .i64 j.we, .int .i64 j.ki] 51) := ⟨_, rfl⟩
      have HX : Hid (Below W.heap.size W X ∧ X.heap[wr.heap.size]? = some (.cells #[.int .i64 j.id, .int .i64 j.co, .int .i64 j.ti, .int .i64 j.se, .int .i64 j.du, .int .i64 j.we, .int .i64 j.ki] 51)) := by rw [hX]; exact ⟨Below.alloc hR.out hR.out.size _, heap_alloc_new _ _⟩
      clear hj hj2 hx hy hu h0 hpe r6
      go_wp2_with (fail)
      refine (HF.out _ hR.out).mono ?_
      rintro e w5 ⟨rfl, hw5⟩
      subst w5
      go_wp2_with (fail)
      rw [← hX]
      clear hX hR HF c0 c1 c2 c3 c4 c5 c6 hgi hg hci
      obtain ⟨p0, p1, p2, p3, p4, p5, p6, pl⟩ := jbS_cells HX.out.2
      go_wp2_with (fail)
      obtain ⟨e1, he1⟩ : ∃ z, z = max (x + j.ti) y := ⟨_, rfl⟩
      have HM1 : Hid (∀ Y : Und X.heap.size X, Calls Try.prog 74 #[.int .i64 (x + j.ti), .int .i64 y] Y.W fun e w' => e = .returned (.int .i64 e1) ∧ w' = Y.W) := fun Y => by rw [he1]; exact spec_mxj (x + j.ti) y Y.W
      have z1 : 0 ≤ e1 ∧ e1 ≤ 62000000 := by omega
      have HEE1 : Hid (e1 = max (x + j.ti) y) := he1
      clear he1
      (refine wp_region_und (by kernel_rfl) (by kernel_rfl) (fun hund => ?_); (repeat (go_big_quiet_step (first | (go_at_call 74; with_reducible refine und_call_same (HM1.out _))))); with_reducible refine wpQuiet_nil ?_; clear hund; intro W1 hb1; obtain ⟨hc1, hf1⟩ := undcell hb1)
      have HX2 : Hid (Below W.heap.size W W1) := HX.out.1.trans (hb1.mono HX.out.1.size)
      clear hb1 hc1 hf1 HX HM1 p0 p1 p2 p3 p4 p5 p6 pl
      go_wp2
      go_roundw
      case rel => exact ⟨k + 1, by omega, by go_num, by unfold flo; rw [HE.out, ← HXY.out.1], by unfold flo; rw [HE.out, ← HXY.out.1, ← HXY.out.2]; rw [← HEE1.out], HX2.out⟩
      case measure => simp [intOf]; omega
    · obtain rfl : k = m := by omega
      have HN : Hid ((flo l k).2 = D) := H.out.2.2.2.1.symm
      go_wp2
      go_returns
      exact ⟨by rw [← HN.out]; rfl, hR.out⟩

end Go.Proofs.Ytjbghflphngnkaa
