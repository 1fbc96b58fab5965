/- Proved here: turnedBoxes of the program: each box turned, in a list of its own. -/
import Derived.Test.YtokdpgabmifdjabTurnM
namespace Go.Proofs.Ytokdpgabmifdjab
open Go.RowKit
set_option linter.unusedVariables false
set_option linter.unusedSimpArgs false

/-- A list of the call's own. -/
structure TW (w wr : World) (vo : Value) (l : List Bx) : Prop where
  o : BS wr w.heap.size vo l
  bl : Below w.heap.size w wr
theorem TW.next {w wr w' : World} {vo : Value} {l : List Bx} (h : TW w wr vo l) (hb : Below wr.heap.size wr w') : TW w w' vo l := ⟨h.o.below hb, h.bl.trans (hb.mono h.bl.size)⟩
theorem TW.push {w wr w1 : World} {v v' : Value} {l : List Bx} {b : Bx} {ob : Obj} (h : TW w wr v l) (ho : w1.ownsRow w.heap.size 49 4 v' (l.length + 1) (bflat l ++ bcells b)) (hg : (wr.alloc ob).grownBy w1 v.ownBlock) : TW w w1 v' (l ++ [b]) := by
  have hsz := h.bl.size
  refine ⟨?_, (h.bl.alloc h.bl.size ob).grown hg (by simp; omega) (fun k hk => (World.ownsRow.lt h.o k hk).1)⟩
  unfold BS
  rw [bflat_append, List.length_append]
  have e : bflat [b] = bcells b := by simp [bflat]
  rw [e]; exact ho

set_option maxRecDepth 10000 in
set_option maxHeartbeats 4000000 in
theorem impl_turnedB (x : Int) {w : World} {v : Value} {s : List Bx} (hn : s.length ≤ 500000) (h : RB w v s) :
    Calls Try.prog 65 #[v, .int .i64 x] w fun e w' => ∃ vs, e = .returned vs ∧ BS w' w.heap.size vs (trS s (x % 4).toNat) ∧ Below w.heap.size w w' := by
  obtain ⟨a, c, rfl⟩ := h.form
  obtain ⟨q, hq⟩ : ∃ q, q = (x % 4).toNat := ⟨_, rfl⟩
  rw [← hq]
  have H : Hid (RB w (.slice a s.length c) s) := h
  have HC : Hid (∀ (b : Bx) (w : World), Calls Try.prog 83 #[.agg #[.int .i64 b.x0, .int .i64 b.y0, .int .i64 b.x1, .int .i64 b.y1], .int .i64 x] w fun e w' => e = .returned (.agg #[.int .i64 (turnsB q b).x0, .int .i64 (turnsB q b).y0, .int .i64 (turnsB q b).x1, .int .i64 (turnsB q b).y1]) ∧ Below w.heap.size w w') := fun b w => by rw [hq]; exact impl_turned b x w
  clear h hq
  obtain ⟨i0, hi0, hz0', hz1, hz2⟩ := info_parts info_box
  obtain ⟨n, hnn⟩ : ∃ n, n = s.length := ⟨_, rfl⟩
  have HN : Hid (n = s.length) := hnn
  rw [← hnn] at H hn ⊢
  clear hnn
  go_enter Try.func65, Try.ntmps65
  go_wp2_with (at_make; refine wpList_make_own _ rfl _ _ 24 rfl w.heap.size 49 i0 (.agg #[.int .i64 0, .int .i64 0, .int .i64 0, .int .i64 0]) 4 Try.underlying24 hi0 hz0' hz1 _ _ _ n rfl rfl rfl (by rw [hz2]; omega) (by unfold maxLen; omega) (by omega) ?_; intro w2 hown2 hgrow2)
  have M2 : Hid (TW w w2 (.slice (some ⟨w.heap.size, 0, none⟩) 0 n) []) := by
    have hb := (Below.refl w.heap.size w).grown hgrow2 (Nat.le_refl _) (fun k h => by cases h)
    exact ⟨hown2, hb⟩
  clear hown2 hgrow2
  go_loopw [5, 13] (fun vo i wr => ∃ k : Nat, k ≤ n ∧ i = .int .i64 k ∧ Hid (TW w wr vo (trS (s.take k) q))) (fun _ i _ => n - (intOf i).toNat)
  case atStart => exact ⟨0, Nat.zero_le _, rfl, M2.out⟩
  case round =>
    clear M2
    obtain ⟨k, hk, rfl, hR⟩ := hrel
    by_cases hlt : k < n
    · obtain ⟨g, o, c2, he, hg, hj⟩ := (H.out.below hR.out.bl).pos (by rw [← HN.out]; omega)
      simp only [Value.slice.injEq] at he
      obtain ⟨rfl, hx1, hx2⟩ := he
      clear hx1 hx2
      have hkl : k < s.length := by rw [← HN.out]; exact hlt
      obtain ⟨c0, c1, c2, c3⟩ := hj k hkl
      obtain ⟨b, hb⟩ : ∃ b, b = bat s k := ⟨_, rfl⟩
      rw [← hb] at c0 c1 c2 c3
      obtain ⟨oa, oc, hof⟩ := hR.out.o.form
      subst hof
      have hlen : (trS (s.take k) q).length ≤ 500000 := by simp [trS]; omega
      obtain ⟨m, hm⟩ : ∃ m : Bx, m = turnsB q b := ⟨_, rfl⟩
      have HST : Hid (trS (s.take (k + 1)) q = trS (s.take k) q ++ [m]) := by
        unfold Hid trS
        rw [take_bat hkl, ← hb, hm]
        simp
      have hcm : Hid (∀ W, Calls Try.prog 83 #[.agg #[.int .i64 b.x0, .int .i64 b.y0, .int .i64 b.x1, .int .i64 b.y1], .int .i64 x] W fun e w' => e = .returned (.agg #[.int .i64 m.x0, .int .i64 m.y0, .int .i64 m.x1, .int .i64 m.y1]) ∧ Below W.heap.size W w') := fun W => by rw [hm]; exact HC.out b W
      have HM : Hid (TW w wr (.slice oa (trS (s.take k) q).length oc) (trS (s.take k) q)) := hR.out
      clear hb hm hj hR
      generalize (trS (s.take k) q) = out at HM HST hlen ⊢
      have b0 : (0 : Int) ≤ (k : Int) := by omega
      have b1 : (k : Int) < (n : Int) := by omega
      go_wp2_with (fail)
      refine (hcm.out _).mono ?_
      rintro e w4 ⟨rfl, hb4⟩
      have M4 : Hid (TW w w4 (.slice oa out.length oc) out) := HM.out.next (Below.trans (by (repeat' (first | (with_reducible exact Below.refl _ _) | (with_reducible assumption) | (with_reducible refine Below.setCell ?_ ?_ _) | (with_reducible refine Below.alloc ?_ ?_ _) | (with_reducible refine below_drewN ?_ _) | (with_reducible refine Below.drew ?_) | (with_reducible exact Nat.le_refl _) | omega | (simp; done) | (simp; omega)))) (hb4.mono (by simp)))
      have hsz4 := M4.out.bl.size
      clear hb4 HM c0 c1 c2 c3
      go_wp2_with (at_builtin; refine wpList_append_own _ rfl _ _ 24 rfl w.heap.size 49 i0 (.agg #[.int .i64 0, .int .i64 0, .int .i64 0, .int .i64 0]) 4 32 Try.underlying24 hi0 hz0' hz1 hz2 rfl (by decide) _ _ _ rfl (World.ownsRow.alloc M4.out.o _) ⟨w4.heap.size, 0, none⟩ 1 1 (bcells m) rfl rfl (World.news_of_block (cs := #[.int .i64 m.x0, .int .i64 m.y0, .int .i64 m.x1, .int .i64 m.y1]) (t := 49) (fr := (0, 0)) (heap_alloc_new w4 _)) (by simp [bcells, Value.oneCell']) (by unfold maxLen; omega) (by omega) (by simp; omega) ?_; intro v5 w5 hown5 hgrow5 _)
      have R : Hid (TW w w5 v5 (trS (s.take (k + 1)) q)) := by
        unfold Hid
        rw [HST.out]
        exact M4.out.push hown5 hgrow5
      clear hown5 hgrow5 M4 HST
      go_wp2
      go_roundw
      case rel => exact ⟨k + 1, by omega, by go_num, R.out⟩
      case measure => simp [intOf]; omega
    · have M4 : Hid (TW w wr u5 (trS s q)) := by
        have := hR.out
        rwa [List.take_of_length_le (by rw [← HN.out]; omega)] at this
      obtain ⟨oa, oc, hof⟩ := M4.out.o.form
      subst hof
      clear hR
      go_wp2
      go_returns
      exact ⟨_, rfl, M4.out.o, M4.out.bl⟩

end Go.Proofs.Ytokdpgabmifdjab
