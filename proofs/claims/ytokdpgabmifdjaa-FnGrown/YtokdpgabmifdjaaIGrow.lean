/- Proved here: grown, grownBoxes and shrunkBoxes of the program. (And ahead of it: Proved here: oneForm of the program.) -/
import Derived.Test.YtokdpgabmifdjaaISweep
import Derived.Test.YtokdpgabmifdjaaIEdges
import Derived.Test.YtokdpgabmifdjaaIHeights
import Derived.Test.YtokdpgabmifdjaaTurnM
import Derived.Test.YtokdpgabmifdjaaEdBase
namespace Go.Proofs.Ytokdpgabmifdjaa
open Go.RowKit
set_option linter.unusedVariables false
set_option linter.unusedSimpArgs false

theorem BC.kept {w w' : World} {B : Nat} {v : Value} {s : List Bx} (h : BC w B v s) (hb : ∀ g, v.ownBlock = some g → w'.heap[g]? = w.heap[g]?) : BC w' B v s := by
  obtain ⟨a, c, c', rfl, h⟩ := h
  exact ⟨a, c, c', rfl, h.kept fun g hg => hb g (by cases a <;> simp_all [Value.ownBlock])⟩
theorem BC.lt {w : World} {B g : Nat} {v : Value} {s : List Bx} (h : BC w B v s) (hg : v.ownBlock = some g) : B ≤ g := by
  obtain ⟨a, c, c', rfl, h⟩ := h
  exact (World.ownsRow.lt h g (by cases a <;> simp_all [Value.ownBlock])).1
theorem told_bc {w : World} {B : Nat} {v : Value} {s : List Bx} (h : BC w B v s) : BC w B (toldV v s.length) (toldL s) := by
  unfold toldV toldL; split
  · exact h
  · exact (BS.nil _ _).bc

set_option maxHeartbeats 1000000 in
theorem impl_oneForm {w : World} {v : Value} {s : List Bx} (hn : s.length ≤ 100000) (hx : ∀ q ∈ s, q.x0 < q.x1) (h : RB w v s) :
    Calls Try.prog 49 #[v] w fun e w' => ∃ v', e = .returned v' ∧ BC w' w.heap.size v' (opOf (takesK 1) s []) ∧ Below w.heap.size w w' := by
  obtain ⟨a, c, rfl⟩ := h.form
  have H : Hid (∀ w1, Below w.heap.size w w1 → Calls Try.prog 77 #[.slice a s.length c, .slice none 0 0, .func (.func 78) #[] #[]] w1 fun e w' => ∃ v', e = .returned v' ∧ BC w' w1.heap.size v' (opOf (takesK 1) s []) ∧ Below w1.heap.size w1 w') := fun w1 hb => impl_sweep impl_heights impl_edges word_either rfl (by simpa using hn) (h.below hb) (BS.nil w1 0).rb hx (fun q hq => by cases hq)
  clear h hx hn
  go_enter Try.func49, Try.ntmps49
  go_wp2_with (fail)
  refine (H.out w (Below.refl _ _)).mono ?_
  rintro e w1 ⟨v1, rfl, h1, hb1⟩
  obtain ⟨x, y, z, rfl, h2⟩ := h1
  have H1 : Hid (BC w1 w.heap.size (.slice x (opOf (takesK 1) s []).length z) (opOf (takesK 1) s []) ∧ Below w.heap.size w w1) := ⟨⟨x, y, z, rfl, h2⟩, hb1⟩
  clear h2 hb1
  go_wp2
  go_returns
  exact ⟨_, rfl, H1.out.1, H1.out.2⟩

end Go.Proofs.Ytokdpgabmifdjaa

namespace Go.Proofs.Ytokdpgabmifdjaa
open Go.RowKit
set_option linter.unusedVariables false
set_option linter.unusedSimpArgs false

set_option maxHeartbeats 800000 in
theorem impl_grown1 (b : Bx) (d : Int) (w : World) (hd : -1000 ≤ d ∧ d ≤ 1000) (hb : Near b) :
    Calls Try.prog 86 #[.agg #[.int .i64 b.x0, .int .i64 b.y0, .int .i64 b.x1, .int .i64 b.y1], .int .i64 d] w fun e w' => e = .returned (.agg #[.int .i64 (growB d b).x0, .int .i64 (growB d b).y0, .int .i64 (growB d b).x1, .int .i64 (growB d b).y1]) ∧ Below w.heap.size w w' := by
  unfold Near at hb
  unfold growB
  simp only
  have hw1 : IntKind.i64.wrap (b.x0 - d) = b.x0 - d := by rw [IntKind.wrap_i64]; omega
  have hw2 : IntKind.i64.wrap (b.y0 - d) = b.y0 - d := by rw [IntKind.wrap_i64]; omega
  have hw3 : IntKind.i64.wrap (b.x1 + d) = b.x1 + d := by rw [IntKind.wrap_i64]; omega
  have hw4 : IntKind.i64.wrap (b.y1 + d) = b.y1 + d := by rw [IntKind.wrap_i64]; omega
  go_enter Try.func86, Try.ntmps86
  go_wp2
  go_returns
  exact ⟨rfl, by (repeat' (first | (with_reducible exact Below.refl _ _) | (with_reducible assumption) | (with_reducible refine Below.setCell ?_ ?_ _) | (with_reducible refine Below.alloc ?_ ?_ _) | (with_reducible refine below_drewN ?_ _) | (with_reducible refine Below.drew ?_) | (with_reducible exact Nat.le_refl _) | omega | (simp; done) | (simp; omega)))⟩

set_option maxRecDepth 10000 in
set_option maxHeartbeats 4000000 in
theorem impl_grownS {w : World} {v : Value} {l : List Bx} (d : Int) (hd : -1000 ≤ d ∧ d ≤ 1000) (hn : l.length ≤ 1000) (hnear : ∀ b ∈ l, Near b) (h : RB w v l) :
    Calls Try.prog 67 #[v, .int .i64 d] w fun e w' => ∃ v', e = .returned v' ∧ BS w' w.heap.size v' (grS l d) ∧ Below w.heap.size w w' := by
  obtain ⟨a, c, rfl⟩ := h.form
  obtain ⟨n, hnn⟩ : ∃ n, n = l.length := ⟨_, rfl⟩
  have H : Hid (RB w (.slice a n c) l ∧ n = l.length ∧ ∀ b ∈ l, Near b) := by rw [hnn]; exact ⟨h, rfl, hnear⟩
  have hn1 : n ≤ 1000 := by omega
  rw [← hnn]
  clear h hnn hnear hn
  have HC : Hid (∀ (b : Bx) (w : World), Near b → Calls Try.prog 86 #[.agg #[.int .i64 b.x0, .int .i64 b.y0, .int .i64 b.x1, .int .i64 b.y1], .int .i64 d] w fun e w' => e = .returned (.agg #[.int .i64 (growB d b).x0, .int .i64 (growB d b).y0, .int .i64 (growB d b).x1, .int .i64 (growB d b).y1]) ∧ Below w.heap.size w w') := fun b w hb => impl_grown1 b d w hd hb
  obtain ⟨i0, hi0, hz0', hz1, hz2⟩ := info_parts info_box
  clear hd
  go_enter Try.func67, Try.ntmps67
  go_wp2_with (at_make; refine wpList_make_own _ rfl _ _ 27 rfl w.heap.size 56 i0 (.agg #[.int .i64 0, .int .i64 0, .int .i64 0, .int .i64 0]) 4 Try.underlying27 hi0 hz0' hz1 _ _ _ n rfl rfl rfl (by rw [hz2]; omega) (by unfold maxLen; omega) (by omega) ?_; intro w2 hown2 hgrow2)
  have M2 : Hid (BS w2 w.heap.size (.slice (some ⟨w.heap.size, 0, none⟩) 0 n) [] ∧ Below w.heap.size w w2) := ⟨hown2, (Below.refl w.heap.size w).grown hgrow2 (Nat.le_refl _) (fun k h => by cases h)⟩
  clear hown2 hgrow2
  go_loopw [5, 13] (fun vo i wr => ∃ k : Nat, k ≤ n ∧ i = .int .i64 k ∧ Hid (BS wr w.heap.size vo (grS (l.take k) d) ∧ Below w.heap.size w wr)) (fun _ i _ => n - (intOf i).toNat)
  case atStart => exact ⟨0, Nat.zero_le _, rfl, M2.out⟩
  case round =>
    clear M2
    obtain ⟨k, hk, rfl, hR⟩ := hrel
    by_cases hlt : k < n
    · obtain ⟨g, o, c2, he, hg, hj⟩ := (H.out.1.below hR.out.2).pos (by rw [← H.out.2.1]; omega)
      simp only [Value.slice.injEq] at he
      obtain ⟨rfl, hx1, hx2⟩ := he
      clear hx1 hx2
      have hkl : k < l.length := by rw [← H.out.2.1]; exact hlt
      obtain ⟨c0, c1, c2, c3⟩ := hj k hkl
      obtain ⟨b, hb⟩ : ∃ b, b = bat l k := ⟨_, rfl⟩
      rw [← hb] at c0 c1 c2 c3
      have hbn : Near b := by rw [hb, bat_get hkl]; exact H.out.2.2 _ (List.getElem_mem hkl)
      obtain ⟨oa, oc, hof⟩ := hR.out.1.form
      subst hof
      have hlen : (grS (l.take k) d).length ≤ 1000 := by simp [grS]; omega
      obtain ⟨m, hm⟩ : ∃ m : Bx, m = growB d b := ⟨_, rfl⟩
      have HST : Hid (grS (l.take (k + 1)) d = grS (l.take k) d ++ [m]) := by
        unfold Hid grS
        rw [take_bat hkl, ← hb, hm]
        simp
      have hcm : Hid (∀ W, Calls Try.prog 86 #[.agg #[.int .i64 b.x0, .int .i64 b.y0, .int .i64 b.x1, .int .i64 b.y1], .int .i64 d] W fun e w' => e = .returned (.agg #[.int .i64 m.x0, .int .i64 m.y0, .int .i64 m.x1, .int .i64 m.y1]) ∧ Below W.heap.size W w') := fun W => by rw [hm]; exact HC.out b W hbn
      have HM : Hid (BS wr w.heap.size (.slice oa (grS (l.take k) d).length oc) (grS (l.take k) d) ∧ Below w.heap.size w wr) := hR.out
      clear hb hm hj hR hbn
      generalize (grS (l.take k) d) = out at HM HST hlen ⊢
      have b0 : (0 : Int) ≤ (k : Int) := by omega
      have b1 : (k : Int) < (n : Int) := by omega
      go_wp2_with (fail)
      refine (hcm.out _).mono ?_
      rintro e w4 ⟨rfl, hb4⟩
      have hb4' : Below wr.heap.size wr w4 := Below.trans (by (repeat' (first | (with_reducible exact Below.refl _ _) | (with_reducible assumption) | (with_reducible refine Below.setCell ?_ ?_ _) | (with_reducible refine Below.alloc ?_ ?_ _) | (with_reducible refine below_drewN ?_ _) | (with_reducible refine Below.drew ?_) | (with_reducible exact Nat.le_refl _) | omega | (simp; done) | (simp; omega)))) (hb4.mono (by simp))
      have M4 : Hid (BS w4 w.heap.size (.slice oa out.length oc) out ∧ Below w.heap.size w w4) := ⟨HM.out.1.below hb4', HM.out.2.trans (hb4'.mono HM.out.2.size)⟩
      have hsz4 := M4.out.2.size
      clear hb4 hb4' HM c0 c1 c2 c3
      go_wp2_with (at_builtin; refine wpList_append_own _ rfl _ _ 27 rfl w.heap.size 56 i0 (.agg #[.int .i64 0, .int .i64 0, .int .i64 0, .int .i64 0]) 4 32 Try.underlying27 hi0 hz0' hz1 hz2 rfl (by decide) _ _ _ rfl (World.ownsRow.alloc M4.out.1 _) ⟨w4.heap.size, 0, none⟩ 1 1 (bcells m) rfl rfl (World.news_of_block (cs := #[.int .i64 m.x0, .int .i64 m.y0, .int .i64 m.x1, .int .i64 m.y1]) (t := 56) (fr := (0, 0)) (heap_alloc_new w4 _)) (by simp [bcells, Value.oneCell']) (by unfold maxLen; omega) (by omega) (by simp; omega) ?_; intro v5 w5 hown5 hgrow5 hnil5)
      have R : Hid (BS w5 w.heap.size v5 (grS (l.take (k + 1)) d) ∧ Below w.heap.size w w5) := by
        unfold Hid
        rw [HST.out]
        exact push_step (w := w) (B := w.heap.size) M4.out.1 (Nat.le_refl _) M4.out.2 hsz4 hown5 hgrow5
      clear hown5 hgrow5 M4 HST hnil5
      go_wp2
      go_roundw
      case rel => exact ⟨k + 1, by omega, by go_num, R.out⟩
      case measure => simp [intOf]; omega
    · have M4 : Hid (BS wr w.heap.size u5 (grS l d) ∧ Below w.heap.size w wr) := by
        have := hR.out
        rwa [List.take_of_length_le (by rw [← H.out.2.1]; omega)] at this
      clear hR
      go_wp2
      go_returns
      exact ⟨_, rfl, M4.out.1, M4.out.2⟩

end Go.Proofs.Ytokdpgabmifdjaa
