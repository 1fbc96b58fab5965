/- Proved here: the draws l2Far and l2Bent: a list of boxes in memory of the call's own; no old memory is turned but the source's. -/
import Derived.Test.YtokdpgabmifdjabDrawB
namespace Go.Proofs.Ytokdpgabmifdjab
open Go.RowKit
set_option linter.unusedVariables false
set_option linter.unusedSimpArgs false

def slLen : Value → Nat
  | .slice _ n _ => n
  | _ => 0

set_option maxRecDepth 10000 in
set_option maxHeartbeats 6400000 in
theorem farD_any {w : World} {b : Nat} {ca : Option Addr} {n cap : Nat} {bs : Nat → Int} {t : Int} (h : Src w b ca n cap bs t) (h1 : t ≤ 200) :
    Calls Try.prog 79 #[.pointer (some ⟨b, 0, none⟩)] w fun e w' => ∃ v s t', e = .returned v ∧ BS w' w.heap.size v s ∧ s.length ≤ 151 ∧ t ≤ t' ∧ t' ≤ t + 200 ∧ DS w w' b ca n cap bs t' := by
  have H0 : Hid (Src w b ca n cap bs t) := h
  have hb : b < w.heap.size := lt_of_blk h.blk
  clear h
  obtain ⟨i0, hi0, hz0, hz1, hz2⟩ := info_parts info_box
  go_enter Try.func79, Try.ntmps79
  go_wp2_with (fail)
  refine (listD_any H0.out (by omega)).mono ?_
  rintro e w1 ⟨v, s, t1, rfl, hbs, hl, ht, ht2, hD⟩
  obtain ⟨oa, oc, hof⟩ := hbs.form
  subst hof
  have D1 : Hid (BS w1 w.heap.size (.slice oa s.length oc) s ∧ DS w w1 b ca n cap bs t1) := ⟨hbs, hD⟩
  clear hbs hD
  go_wp2_with (fail)
  refine (next_any _ D1.out.2.src (by omega) (by omega) (by omega)).mono ?_
  rintro e w2 ⟨r, rfl, p1, q1, hS, hO⟩
  have D2 : Hid (BS w2 w.heap.size (.slice oa s.length oc) s ∧ DS w w2 b ca n cap bs (t1 + 1)) := ⟨D1.out.1.onlyB hb hO, D1.out.2.only hS hO⟩
  clear hS hO D1
  by_cases e0 : r = 0
  · subst e0
    go_wp2_with (fail)
    refine (next_any _ D2.out.2.src (by omega) (by omega) (by omega)).mono ?_
    rintro e w3 ⟨x, rfl, x0, x1, hS, hO⟩
    have D3 : Hid (BS w3 w.heap.size (.slice oa s.length oc) s ∧ DS w w3 b ca n cap bs (t1 + 1 + 1)) := ⟨D2.out.1.onlyB hb hO, D2.out.2.only hS hO⟩
    clear hS hO D2
    go_wp2_with (fail)
    refine (next_any _ D3.out.2.src (by omega) (by omega) (by omega)).mono ?_
    rintro e w4 ⟨y, rfl, y0, y1, hS, hO⟩
    have M4 : Hid (BS w4 w.heap.size (.slice oa s.length oc) s ∧ DS w w4 b ca n cap bs (t1 + 1 + 1 + 1)) := ⟨D3.out.1.onlyB hb hO, D3.out.2.only hS hO⟩
    have hsz4 := M4.out.2.save.size
    clear hS hO D3

    go_wp2_with (at_builtin; refine wpList_append_own _ rfl _ _ 24 rfl w.heap.size 49 i0 (.agg #[.int .i64 0, .int .i64 0, .int .i64 0, .int .i64 0]) 4 32 Try.underlying24 hi0 hz0 hz1 hz2 rfl (by decide) _ _ _ rfl (World.ownsRow.alloc M4.out.1 _) ⟨w4.heap.size, 0, none⟩ 1 1 (bcells ⟨3, x, 3 + y, 2⟩) rfl rfl (World.news_of_block (cs := #[.int .i64 3, .int .i64 x, .int .i64 (3 + y), .int .i64 2]) (t := 49) (fr := (0, 0)) (heap_alloc_new w4 _)) (by simp [bcells, Value.oneCell']) (by unfold maxLen; omega) (by omega) (by simp; omega) ?_; intro v5 w5 hown5 hgrow5 hnn5)
    have R : Hid (BS w5 w.heap.size v5 (s ++ [⟨3, x, 3 + y, 2⟩]) ∧ DS w w5 b ca n cap bs (t1 + 1 + 1 + 1)) := ⟨BS.snoc hown5, M4.out.2.grown H0.out hgrow5 fun k hk => (World.ownsRow.lt M4.out.1 k hk).1⟩
    clear hown5 hgrow5 hnn5 M4
    go_wp2
    go_returns
    exact ⟨_, _, _, rfl, R.out.1, by simp; omega, by omega, by omega, R.out.2⟩
  by_cases e1 : r = 1
  · subst e1
    go_wp2_with (fail)
    refine (next_any _ D2.out.2.src (by omega) (by omega) (by omega)).mono ?_
    rintro e w3 ⟨x, rfl, x0, x1, hS, hO⟩
    have D3 : Hid (BS w3 w.heap.size (.slice oa s.length oc) s ∧ DS w w3 b ca n cap bs (t1 + 1 + 1)) := ⟨D2.out.1.onlyB hb hO, D2.out.2.only hS hO⟩
    clear hS hO D2
    go_wp2_with (fail)
    refine (next_any _ D3.out.2.src (by omega) (by omega) (by omega)).mono ?_
    rintro e w4 ⟨y, rfl, y0, y1, hS, hO⟩
    have M4 : Hid (BS w4 w.heap.size (.slice oa s.length oc) s ∧ DS w w4 b ca n cap bs (t1 + 1 + 1 + 1)) := ⟨D3.out.1.onlyB hb hO, D3.out.2.only hS hO⟩
    have hsz4 := M4.out.2.save.size
    clear hS hO D3

    go_wp2_with (at_builtin; refine wpList_append_own _ rfl _ _ 24 rfl w.heap.size 49 i0 (.agg #[.int .i64 0, .int .i64 0, .int .i64 0, .int .i64 0]) 4 32 Try.underlying24 hi0 hz0 hz1 hz2 rfl (by decide) _ _ _ rfl (World.ownsRow.alloc M4.out.1 _) ⟨w4.heap.size, 0, none⟩ 1 1 (bcells ⟨-10000 - x, 0, 0, 10000 + y⟩) rfl rfl (World.news_of_block (cs := #[.int .i64 (-10000 - x), .int .i64 0, .int .i64 0, .int .i64 (10000 + y)]) (t := 49) (fr := (0, 0)) (heap_alloc_new w4 _)) (by simp [bcells, Value.oneCell']) (by unfold maxLen; omega) (by omega) (by simp; omega) ?_; intro v5 w5 hown5 hgrow5 hnn5)
    have R : Hid (BS w5 w.heap.size v5 (s ++ [⟨-10000 - x, 0, 0, 10000 + y⟩]) ∧ DS w w5 b ca n cap bs (t1 + 1 + 1 + 1)) := ⟨BS.snoc hown5, M4.out.2.grown H0.out hgrow5 fun k hk => (World.ownsRow.lt M4.out.1 k hk).1⟩
    clear hown5 hgrow5 hnn5 M4
    go_wp2
    go_returns
    exact ⟨_, _, _, rfl, R.out.1, by simp; omega, by omega, by omega, R.out.2⟩
  by_cases e2 : r = 2
  · subst e2
    go_wp2
    go_loopw [3] (fun vo wr => ∃ (t' : Int) (l : List Bx), l.length ≤ 151 ∧ slLen vo = l.length ∧ t1 + 1 ≤ t' ∧ t' + (s.length : Int) ≤ t1 + 1 + l.length ∧ Hid (BS wr w.heap.size vo l ∧ DS w wr b ca n cap bs t')) (fun vo _ => 152 - slLen vo)
    case atStart => exact ⟨t1 + 1, s, by omega, rfl, by omega, by omega, D2.out⟩
    case round =>
      clear D2
      obtain ⟨t', l, hl2, hsl, ht3, ht4, hR⟩ := hrel
      have HR : Hid (BS wr w.heap.size _ l ∧ DS w wr b ca n cap bs t') := hR.out
      obtain ⟨ob, od, hof⟩ := hR.out.1.form
      subst hof
      clear hR
      go_wp2_with (fail)
      refine (next_any _ HR.out.2.src (by omega) (by omega) (by omega)).mono ?_
      rintro e w4 ⟨y, rfl, y0, y1, hS, hO⟩
      have M4 : Hid (BS w4 w.heap.size (.slice ob l.length od) l ∧ DS w w4 b ca n cap bs (t' + 1)) := ⟨HR.out.1.onlyB hb hO, HR.out.2.only hS hO⟩
      have hsz4 := M4.out.2.save.size
      clear hS hO HR
      by_cases hlt : (l.length : Int) < 150 + y
      · go_wp2_with (at_builtin; refine wpList_append_own _ rfl _ _ 24 rfl w.heap.size 49 i0 (.agg #[.int .i64 0, .int .i64 0, .int .i64 0, .int .i64 0]) 4 32 Try.underlying24 hi0 hz0 hz1 hz2 rfl (by decide) _ _ _ rfl (World.ownsRow.alloc M4.out.1 _) ⟨w4.heap.size, 0, none⟩ 1 1 (bcells ⟨2 * (l.length : Int), 0, 2 * (l.length : Int) + 1, 1⟩) rfl rfl (World.news_of_block (cs := #[.int .i64 (2 * (l.length : Int)), .int .i64 0, .int .i64 (2 * (l.length : Int) + 1), .int .i64 1]) (t := 49) (fr := (0, 0)) (heap_alloc_new w4 _)) (by simp [bcells, Value.oneCell']) (by unfold maxLen; omega) (by omega) (by simp; omega) ?_; intro v5 w5 hown5 hgrow5 hnn5)
        have R : Hid (BS w5 w.heap.size v5 (l ++ [⟨2 * (l.length : Int), 0, 2 * (l.length : Int) + 1, 1⟩]) ∧ DS w w5 b ca n cap bs (t' + 1)) := ⟨BS.snoc hown5, M4.out.2.grown H0.out hgrow5 fun k hk => (World.ownsRow.lt M4.out.1 k hk).1⟩
        have hv5 : slLen v5 = l.length + 1 := by obtain ⟨x, y, e⟩ := R.out.1.form; rw [e]; simp [slLen]
        clear hown5 hgrow5 hnn5 M4
        go_wp2
        go_roundw
        case rel => exact ⟨t' + 1, _, by simp; omega, by rw [hv5]; simp, by omega, by simp; omega, R.out⟩
        case measure => rw [hv5]; simp [slLen]; omega
      · go_wp2
        go_returns
        exact ⟨_, _, _, rfl, M4.out.1, hl2, by omega, by omega, M4.out.2⟩
  have n0 : (r == 0) = false := by simpa using e0
  have n1 : (r == 1) = false := by simpa using e1
  have n2 : (r == 2) = false := by simpa using e2
  go_wp2
  go_returns
  exact ⟨_, _, _, rfl, D2.out.1, by omega, by omega, by omega, D2.out.2⟩

end Go.Proofs.Ytokdpgabmifdjab
