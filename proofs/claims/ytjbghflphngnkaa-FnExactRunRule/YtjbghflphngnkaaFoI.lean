/- Proved here: idsOf of the program. (And ahead of it: Proved here: PickJob of the program: pjC, pjV.) -/
import Derived.Test.YtjbghflphngnkaaPjJ
import Derived.Test.YtjbghflphngnkaaDjI
import Derived.Test.YtjbghflphngnkaaNlJ
import Derived.Test.YtjbghflphngnkaaJoW
import Derived.Deep.AppendLies
import Derived.Deep.Cut
namespace Go.Proofs.Ytjbghflphngnkaa
open Go.RowKit
set_option linter.unusedVariables false
set_option linter.unusedSimpArgs false


theorem impl_pk (rule now : Int) (hr : 1 ≤ rule ∧ rule ≤ 4) {W : World} {a : Option Addr} {c : Nat} {l : List Jb} (hn : l.length ≤ 39) (hpos : 0 < l.length) (hnc : NCj a l.length c) (hs : RG 7 jbC W (.slice a l.length c) l) :
    Calls Try.prog 40 #[.slice a l.length c, .int .i64 rule, .int .i64 now] W fun e w' => ∃ j : Jb, j = jA (stbF (orC rule now) l.length l) 0 ∧ e = .returned (.agg #[.int .i64 j.id, .int .i64 j.co, .int .i64 j.ti, .int .i64 j.se, .int .i64 j.du, .int .i64 j.we, .int .i64 j.ki]) ∧ Below W.heap.size W w' := by
  rcases (by omega : rule = 1 ∨ rule = 2 ∨ rule = 3 ∨ rule = 4) with rfl | rfl | rfl | rfl
  · exact pick_1 now hn hpos hnc hs
  · exact pick_2 now hn hpos hnc hs
  · exact pick_3 now hn hpos hnc hs
  · exact pick_4 now hn hpos hnc hs
theorem pfC_zero {s : List Jb} {rule now : Int} (h : pfC s rule now = 0) : jbF s = 0 ∧ (1 ≤ rule ∧ rule ≤ 4) ∧ (0 ≤ now ∧ now ≤ 1000000000) := by
  unfold pfC at h
  by_cases h1 : jbF s = 0
  · rw [if_neg (fun e => e h1)] at h
    by_cases h2 : 1 ≤ rule ∧ rule ≤ 4
    · rw [if_neg (fun e => e h2)] at h
      by_cases h3 : 0 ≤ now ∧ now ≤ 1000000000
      · exact ⟨h1, h2, h3⟩
      · rw [if_pos h3] at h; cases h
    · rw [if_pos h2] at h; cases h
  · rw [if_pos h1] at h; exact absurd h h1

end Go.Proofs.Ytjbghflphngnkaa

namespace Go.Proofs.Ytjbghflphngnkaa
open Go.RowKit
set_option linter.unusedVariables false
set_option linter.unusedSimpArgs false

theorem IS.s1 {w5 : World} {B : Nat} {v5 : Value} {s : List Int} (p : Int) (ho : w5.ownsRow B 2 1 v5 (s.length + 1) (s.map (Value.int .i64) ++ [.int .i64 p])) : IS w5 B v5 (s ++ [p]) := by
  unfold IS
  rw [List.length_append, List.map_append]
  simpa using ho
theorem IS.al {V : World} {B : Nat} {v : Value} {s : List Int} (h : IS V B v s) (o : Obj) : IS (V.alloc o) B v s := World.ownsRow.alloc h o
set_option maxRecDepth 10000 in
set_option maxHeartbeats 6400000 in
theorem impl_ids {W : World} {v : Value} {l : List Jb} (hn : l.length ≤ 1000) (hs : RG 7 jbC W v l) :
    Calls Try.prog 44 #[v] W fun e w' => ∃ v', e = .returned v' ∧ IS w' W.heap.size v' (l.map Jb.id) ∧ Below W.heap.size W w' := by
  obtain ⟨a, c, rfl⟩ := hs.form
  obtain ⟨i0, hi0, hz0, hz1, hz2⟩ := info_parts info_i64
  obtain ⟨n, hnn⟩ : ∃ n, n = l.length := ⟨_, rfl⟩
  rw [← hnn] at hn hs ⊢
  have H : Hid (RG 7 jbC W (.slice a n c) l ∧ n = l.length) := ⟨hs, hnn⟩
  clear hs hnn
  go_enter Try.func44, Try.ntmps44
  go_wp2_with (at_make; refine wpList_make_own _ rfl _ _ 24 rfl W.heap.size 2 i0 (.int .i64 0) 1 Try.underlying24 hi0 hz0 hz1 _ _ _ n rfl rfl rfl (by rw [hz2]; omega) (by unfold maxLen; omega) (by omega) ?_; intro w2 hown2 hgrow2)
  have M2 : Hid (IS w2 W.heap.size (.slice (some ⟨W.heap.size, 0, none⟩) 0 n) ((l.take 0).map Jb.id) ∧ Below W.heap.size W w2) := ⟨hown2, (Below.refl W.heap.size W).grown hgrow2 (Nat.le_refl _) (fun k h => by cases h)⟩
  clear hown2 hgrow2
  go_loopw [3, 11] (fun v i wr => ∃ k : Nat, k ≤ n ∧ i = .int .i64 k ∧ Hid (IS wr W.heap.size v ((l.take k).map Jb.id) ∧ Below W.heap.size W wr)) (fun _ i _ => n - (intOf i).toNat)
  case atStart => exact ⟨0, Nat.zero_le _, rfl, M2.out⟩
  case round =>
    clear M2
    obtain ⟨k, hk, rfl, hR⟩ := hrel
    by_cases hlt : k < n
    · have hkl : k < l.length := by rw [← H.out.2]; exact hlt
      obtain ⟨g, o, c2, he, hg, hj⟩ := (H.out.1.below hR.out.2).pos (by omega)
      simp only [Value.slice.injEq] at he
      obtain ⟨rfl, hx1, hx2⟩ := he
      clear hx1 hx2
      obtain ⟨c0, c1, c2, c3, c4, c5, c6⟩ := jbC_at (hj k hkl)
      obtain ⟨j, hj2⟩ : ∃ j, j = l[k] := ⟨_, rfl⟩
      rw [← hj2] at c0 c1 c2 c3 c4 c5 c6
      have HST : Hid ((l.take (k + 1)).map Jb.id = (l.take k).map Jb.id ++ [j.id]) := by unfold Hid; rw [hj2, List.take_succ_eq_append_getElem hkl, List.map_append]; rfl
      have hln : ((l.take k).map Jb.id).length = k := by rw [List.length_map, List.length_take]; omega
      obtain ⟨OL, hOL⟩ : ∃ l', l' = (l.take k).map Jb.id := ⟨_, rfl⟩
      rw [← hOL] at hR HST hln
      obtain ⟨va, vc, hvv⟩ := hR.out.1.form
      rw [hln] at hvv
      subst hvv
      have b0 : (0 : Int) ≤ (k : Int) := by omega
      have b1 : (k : Int) < (n : Int) := by omega
      obtain ⟨X, hX⟩ : ∃ X, X = wr.alloc (.cells #[.int .i64 j.id, .int .i64 j.co, .int .i64 j.ti, .int .i64 j.se, .int .i64 j.du, .int .i64 j.we, .int .i64 j.ki] 51) := ⟨_, rfl⟩
      have HX : Hid (IS X W.heap.size (.slice va k vc) OL ∧ Below W.heap.size W X ∧ X.heap[wr.heap.size]? = some (.cells #[.int .i64 j.id, .int .i64 j.co, .int .i64 j.ti, .int .i64 j.se, .int .i64 j.du, .int .i64 j.we, .int .i64 j.ki] 51) ∧ W.heap.size ≤ X.heap.size ∧ OL.length = k) := by
        rw [hX]; exact ⟨hR.out.1.al _, Below.alloc hR.out.2 hR.out.2.size _, heap_alloc_new _ _, by have := hR.out.2.size; simp; omega, hln⟩
      clear hj hj2 hR hOL hln
      go_upto_region 5 with fail
      rw [← hX]
      clear hX c0 c1 c2 c3 c4 c5 c6 hg
      obtain ⟨p0, p1, p2, p3, p4, p5, p6, pl⟩ := jb_cells HX.out.2.2.1
      clear p1 p2 p3 p4 p5 p6
      go_wp2_with (at_builtin; refine wpList_append_own _ rfl _ _ 24 rfl W.heap.size 2 i0 (.int .i64 0) 1 8 Try.underlying24 hi0 hz0 hz1 hz2 rfl (by decide) _ _ _ rfl (World.ownsRow.alloc HX.out.1 _) ⟨X.heap.size, 0, none⟩ 1 1 [.int .i64 j.id] rfl rfl (World.news_of_block (cs := #[.int .i64 j.id]) (t := 2) (fr := (0, 0)) (heap_alloc_new X _)) (by simp [Value.oneCell']) (by have := HX.out.2.2.2.2; unfold maxLen; omega) (by have := HX.out.2.2.2.2; omega) (by have := HX.out.2.2.2.1; simp; omega) ?_; intro v9 w9 hown9 hgrow9 _)
      have HP : Hid (IS w9 W.heap.size v9 ((l.take (k + 1)).map Jb.id) ∧ Below W.heap.size W w9) := by
        rw [HST.out]
        exact ⟨IS.s1 j.id hown9, (Below.alloc HX.out.2.1 HX.out.2.2.2.1 _).grown hgrow9 (by have := HX.out.2.2.2.1; simp; omega) (fun q hq => (IS.lt HX.out.1 q hq).1)⟩
      clear hown9 hgrow9 HX HST p0 pl
      go_wp2
      go_roundw
      case rel => exact ⟨k + 1, by omega, by go_num, HP.out⟩
      case measure => simp [intOf]; omega
    · obtain rfl : k = n := by omega
      have HF : Hid (IS wr W.heap.size u3 (l.map Jb.id) ∧ Below W.heap.size W wr) := by
        have h1 := hR.out
        rw [H.out.2, List.take_length] at h1
        exact h1
      clear hR
      go_wp2
      go_returns
      exact ⟨_, rfl, HF.out⟩

end Go.Proofs.Ytjbghflphngnkaa
