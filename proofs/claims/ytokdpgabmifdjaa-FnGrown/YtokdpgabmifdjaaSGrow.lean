/- Proved here: l2Wide of the model. -/
import Derived.Test.YtokdpgabmifdjaaEdBase
import Derived.Test.YtokdpgabmifdjaaSOp
namespace Go.Proofs.Ytokdpgabmifdjaa
open Go.RowKit
set_option linter.unusedVariables false
set_option linter.unusedSimpArgs false

set_option maxRecDepth 10000 in
set_option maxHeartbeats 8000000 in
theorem spec_wide {w : World} {v : Value} {l : List Bx} (d : Int) (hd : 0 ≤ d ∧ d ≤ 1000) (hn : l.length ≤ 1000) (hnear : ∀ b ∈ l, Near b) (h : RB w v l) :
    Calls Try.prog 65 #[v, .int .i64 d] w fun e w' => ∃ v', e = .returned v' ∧ BS w' w.heap.size v' (opOf (takesK 1) (grS l d) []) ∧ Below w.heap.size w w' := by
  obtain ⟨a, c, rfl⟩ := h.form
  obtain ⟨n, hnn⟩ : ∃ n, n = l.length := ⟨_, rfl⟩
  have H : Hid (RB w (.slice a n c) l ∧ n = l.length ∧ ∀ b ∈ l, Near b) := by rw [hnn]; exact ⟨h, rfl, hnear⟩
  have hn1 : n ≤ 1000 := by omega
  obtain ⟨L, hL⟩ : ∃ L, L = opOf (takesK 1) (grS l d) [] := ⟨_, rfl⟩
  have HL : Hid (L = opOf (takesK 1) (grS l d) []) := hL
  rw [← hnn, ← hL]
  clear h hnn hnear hn hL
  obtain ⟨i0, hi0, hz0, hz1, hz2⟩ := info_parts info_box
  go_enter Try.func65, Try.ntmps65
  go_wp2
  go_loopw [5, 6] (fun vo i wr => ∃ k : Nat, k ≤ n ∧ i = .int .i64 k ∧ Hid (BS wr w.heap.size vo (grS (l.take k) d) ∧ vo ≠ .slice none 0 0 ∧ Below w.heap.size w wr)) (fun _ i _ => n - (intOf i).toNat)
  case atStart => exact ⟨0, Nat.zero_le _, rfl, BS.lit0 _ _ (Nat.le_refl _), by simp, (Below.refl _ _).alloc (Nat.le_refl _) _⟩
  case round =>
    obtain ⟨k, hk, rfl, hR⟩ := hrel
    by_cases hlt : k < n
    · obtain ⟨g, o, c2, he, hg, hj⟩ := H.out.1.pos (by rw [← H.out.2.1]; omega)
      simp only [Value.slice.injEq] at he
      obtain ⟨rfl, hx1, hx2⟩ := he
      clear hx1 hx2
      have hkl : k < l.length := by rw [← H.out.2.1]; exact hlt
      obtain ⟨c0, c1, c2, c3⟩ := hj k hkl
      obtain ⟨b, hb⟩ : ∃ b, b = bat l k := ⟨_, rfl⟩
      rw [← hb] at c0 c1 c2 c3
      rw [← hR.out.2.2.cell (p := ⟨g, o + k * 4, none⟩) hg] at c0
      rw [← hR.out.2.2.cell (p := ⟨g, o + k * 4 + 1, none⟩) hg] at c1
      rw [← hR.out.2.2.cell (p := ⟨g, o + k * 4 + 2, none⟩) hg] at c2
      rw [← hR.out.2.2.cell (p := ⟨g, o + k * 4 + 3, none⟩) hg] at c3
      have hbn : Near b := by rw [hb, bat_get hkl]; exact H.out.2.2 _ (List.getElem_mem hkl)
      unfold Near at hbn
      obtain ⟨oa, oc, hof⟩ := hR.out.1.form
      subst hof
      have hlen : (grS (l.take k) d).length ≤ 1000 := by simp [grS]; omega
      have HST : Hid (grS (l.take (k + 1)) d = grS (l.take k) d ++ [⟨b.x0 - d, b.y0 - d, b.x1 + d, b.y1 + d⟩]) := by
        unfold Hid grS
        rw [take_bat hkl, ← hb]
        simp [growB]
      have HM : Hid (BS wr w.heap.size (.slice oa (grS (l.take k) d).length oc) (grS (l.take k) d) ∧ Value.slice oa (grS (l.take k) d).length oc ≠ .slice none 0 0 ∧ Below w.heap.size w wr) := hR.out
      have hgw : g < wr.heap.size := Nat.lt_of_lt_of_le hg hR.out.2.2.size
      have hsz := hR.out.2.2.size
      have hw1 : IntKind.i64.wrap (b.x0 - d) = b.x0 - d := by rw [IntKind.wrap_i64]; omega
      have hw2 : IntKind.i64.wrap (b.y0 - d) = b.y0 - d := by rw [IntKind.wrap_i64]; omega
      have hw3 : IntKind.i64.wrap (b.x1 + d) = b.x1 + d := by rw [IntKind.wrap_i64]; omega
      have hw4 : IntKind.i64.wrap (b.y1 + d) = b.y1 + d := by rw [IntKind.wrap_i64]; omega
      clear hb hj hR hbn
      generalize (grS (l.take k) d) = out at HM HST hlen ⊢
      have b0 : (0 : Int) ≤ (k : Int) := by omega
      have b1 : (k : Int) < (n : Int) := by omega
      go_wp2_with (fail)
      obtain ⟨row, hrow0⟩ : ∃ row, row = (Value.slice oa out.length oc).ownBlock := ⟨_, rfl⟩
      have hgr : ¬ some g = row := by
        rw [hrow0]; intro e
        have h1 := (World.ownsRow.lt HM.out.1 g e.symm).1
        omega
      have HROW : Hid (row = (Value.slice oa out.length oc).ownBlock) := hrow0
      clear hrow0
      have hS0 := KB.start wr row
      refine wp_region_holds (S := KB wr row) (by kernel_rfl) hS0 (fun hS => ?_)
      refine fl_takeS (i := 0) (d := 14) (v := .slice oa out.length oc) rfl rfl rfl (by kernel_rfl) (by kernel_rfl) (by kernel_rfl) hS ?_ ?_
      · intro w' hk; unfold KB at hk; go_simp
      simp only [Act.put, List.setIfInBounds_toArray, List.set_cons_zero, List.set_cons_succ]
      refine fl_takeS (i := 1) (d := 15) (v := .slice (some ⟨g, o, none⟩) n c) rfl rfl rfl (by kernel_rfl) (by kernel_rfl) (by kernel_rfl) hS ?_ ?_
      · intro w' hk; unfold KB at hk; go_simp
      simp only [Act.put, List.setIfInBounds_toArray, List.set_cons_zero, List.set_cons_succ]
      refine fl_takeS (i := 2) (d := 16) (v := .int .i64 k) rfl rfl rfl (by kernel_rfl) (by kernel_rfl) (by kernel_rfl) hS ?_ ?_
      · intro w' hk; unfold KB at hk; go_simp
      simp only [Act.put, List.setIfInBounds_toArray, List.set_cons_zero, List.set_cons_succ]
      refine fl_takeS (i := 3) (d := 17) (v := .pointer (some ⟨g, o + k * 4, none⟩)) rfl rfl rfl (by kernel_rfl) (by kernel_rfl) (by kernel_rfl) hS ?_ ?_
      · intro w' hk; unfold KB at hk; go_simp
      simp only [Act.put, List.setIfInBounds_toArray, List.set_cons_zero, List.set_cons_succ]
      refine fl_takeS (i := 4) (d := 18) (v := .pointer (some ⟨g, o + k * 4, none⟩)) rfl rfl rfl (by kernel_rfl) (by kernel_rfl) (by kernel_rfl) hS ?_ ?_
      · intro w' hk; unfold KB at hk; go_simp
      simp only [Act.put, List.setIfInBounds_toArray, List.set_cons_zero, List.set_cons_succ]
      refine fl_takeS (i := 5) (d := 19) (v := .int .i64 b.x0) rfl rfl rfl (by kernel_rfl) (by kernel_rfl) (by kernel_rfl) hS ?_ ?_
      · intro w' hk; unfold KB at hk; go_simp
      simp only [Act.put, List.setIfInBounds_toArray, List.set_cons_zero, List.set_cons_succ]
      refine fl_takeS (i := 6) (d := 20) (v := .int .i64 d) rfl rfl rfl (by kernel_rfl) (by kernel_rfl) (by kernel_rfl) hS ?_ ?_
      · intro w' hk; unfold KB at hk; go_simp
      simp only [Act.put, List.setIfInBounds_toArray, List.set_cons_zero, List.set_cons_succ]
      refine fl_takeS (i := 7) (d := 21) (v := .int .i64 (b.x0 - d)) rfl rfl rfl (by kernel_rfl) (by kernel_rfl) (by kernel_rfl) hS ?_ ?_
      · intro w' hk; unfold KB at hk; go_simp
      simp only [Act.put, List.setIfInBounds_toArray, List.set_cons_zero, List.set_cons_succ]
      refine fl_takeS (i := 8) (d := 22) (v := .slice (some ⟨g, o, none⟩) n c) rfl rfl rfl (by kernel_rfl) (by kernel_rfl) (by kernel_rfl) hS ?_ ?_
      · intro w' hk; unfold KB at hk; go_simp
      simp only [Act.put, List.setIfInBounds_toArray, List.set_cons_zero, List.set_cons_succ]
      refine fl_takeS (i := 9) (d := 23) (v := .int .i64 k) rfl rfl rfl (by kernel_rfl) (by kernel_rfl) (by kernel_rfl) hS ?_ ?_
      · intro w' hk; unfold KB at hk; go_simp
      simp only [Act.put, List.setIfInBounds_toArray, List.set_cons_zero, List.set_cons_succ]
      refine fl_takeS (i := 10) (d := 24) (v := .pointer (some ⟨g, o + k * 4, none⟩)) rfl rfl rfl (by kernel_rfl) (by kernel_rfl) (by kernel_rfl) hS ?_ ?_
      · intro w' hk; unfold KB at hk; go_simp
      simp only [Act.put, List.setIfInBounds_toArray, List.set_cons_zero, List.set_cons_succ]
      refine fl_takeS (i := 11) (d := 25) (v := .pointer (some ⟨g, o + k * 4 + 1, none⟩)) rfl rfl rfl (by kernel_rfl) (by kernel_rfl) (by kernel_rfl) hS ?_ ?_
      · intro w' hk; unfold KB at hk; go_simp
      simp only [Act.put, List.setIfInBounds_toArray, List.set_cons_zero, List.set_cons_succ]
      refine fl_takeS (i := 12) (d := 26) (v := .int .i64 b.y0) rfl rfl rfl (by kernel_rfl) (by kernel_rfl) (by kernel_rfl) hS ?_ ?_
      · intro w' hk; unfold KB at hk; go_simp
      simp only [Act.put, List.setIfInBounds_toArray, List.set_cons_zero, List.set_cons_succ]
      refine fl_takeS (i := 13) (d := 27) (v := .int .i64 d) rfl rfl rfl (by kernel_rfl) (by kernel_rfl) (by kernel_rfl) hS ?_ ?_
      · intro w' hk; unfold KB at hk; go_simp
      simp only [Act.put, List.setIfInBounds_toArray, List.set_cons_zero, List.set_cons_succ]
      refine fl_takeS (i := 14) (d := 28) (v := .int .i64 (b.y0 - d)) rfl rfl rfl (by kernel_rfl) (by kernel_rfl) (by kernel_rfl) hS ?_ ?_
      · intro w' hk; unfold KB at hk; go_simp
      simp only [Act.put, List.setIfInBounds_toArray, List.set_cons_zero, List.set_cons_succ]
      refine fl_takeS (i := 15) (d := 29) (v := .slice (some ⟨g, o, none⟩) n c) rfl rfl rfl (by kernel_rfl) (by kernel_rfl) (by kernel_rfl) hS ?_ ?_
      · intro w' hk; unfold KB at hk; go_simp
      simp only [Act.put, List.setIfInBounds_toArray, List.set_cons_zero, List.set_cons_succ]
      refine fl_takeS (i := 16) (d := 30) (v := .int .i64 k) rfl rfl rfl (by kernel_rfl) (by kernel_rfl) (by kernel_rfl) hS ?_ ?_
      · intro w' hk; unfold KB at hk; go_simp
      simp only [Act.put, List.setIfInBounds_toArray, List.set_cons_zero, List.set_cons_succ]
      refine fl_takeS (i := 17) (d := 31) (v := .pointer (some ⟨g, o + k * 4, none⟩)) rfl rfl rfl (by kernel_rfl) (by kernel_rfl) (by kernel_rfl) hS ?_ ?_
      · intro w' hk; unfold KB at hk; go_simp
      simp only [Act.put, List.setIfInBounds_toArray, List.set_cons_zero, List.set_cons_succ]
      refine fl_takeS (i := 18) (d := 32) (v := .pointer (some ⟨g, o + k * 4 + 2, none⟩)) rfl rfl rfl (by kernel_rfl) (by kernel_rfl) (by kernel_rfl) hS ?_ ?_
      · intro w' hk; unfold KB at hk; go_simp
      simp only [Act.put, List.setIfInBounds_toArray, List.set_cons_zero, List.set_cons_succ]
      refine fl_takeS (i := 19) (d := 33) (v := .int .i64 b.x1) rfl rfl rfl (by kernel_rfl) (by kernel_rfl) (by kernel_rfl) hS ?_ ?_
      · intro w' hk; unfold KB at hk; go_simp
      simp only [Act.put, List.setIfInBounds_toArray, List.set_cons_zero, List.set_cons_succ]
      refine fl_takeS (i := 20) (d := 34) (v := .int .i64 d) rfl rfl rfl (by kernel_rfl) (by kernel_rfl) (by kernel_rfl) hS ?_ ?_
      · intro w' hk; unfold KB at hk; go_simp
      simp only [Act.put, List.setIfInBounds_toArray, List.set_cons_zero, List.set_cons_succ]
      refine fl_takeS (i := 21) (d := 35) (v := .int .i64 (b.x1 + d)) rfl rfl rfl (by kernel_rfl) (by kernel_rfl) (by kernel_rfl) hS ?_ ?_
      · intro w' hk; unfold KB at hk; go_simp
      simp only [Act.put, List.setIfInBounds_toArray, List.set_cons_zero, List.set_cons_succ]
      refine fl_takeS (i := 22) (d := 36) (v := .slice (some ⟨g, o, none⟩) n c) rfl rfl rfl (by kernel_rfl) (by kernel_rfl) (by kernel_rfl) hS ?_ ?_
      · intro w' hk; unfold KB at hk; go_simp
      simp only [Act.put, List.setIfInBounds_toArray, List.set_cons_zero, List.set_cons_succ]
      refine fl_takeS (i := 23) (d := 37) (v := .int .i64 k) rfl rfl rfl (by kernel_rfl) (by kernel_rfl) (by kernel_rfl) hS ?_ ?_
      · intro w' hk; unfold KB at hk; go_simp
      simp only [Act.put, List.setIfInBounds_toArray, List.set_cons_zero, List.set_cons_succ]
      refine fl_takeS (i := 24) (d := 38) (v := .pointer (some ⟨g, o + k * 4, none⟩)) rfl rfl rfl (by kernel_rfl) (by kernel_rfl) (by kernel_rfl) hS ?_ ?_
      · intro w' hk; unfold KB at hk; go_simp
      simp only [Act.put, List.setIfInBounds_toArray, List.set_cons_zero, List.set_cons_succ]
      refine fl_takeS (i := 25) (d := 39) (v := .pointer (some ⟨g, o + k * 4 + 3, none⟩)) rfl rfl rfl (by kernel_rfl) (by kernel_rfl) (by kernel_rfl) hS ?_ ?_
      · intro w' hk; unfold KB at hk; go_simp
      simp only [Act.put, List.setIfInBounds_toArray, List.set_cons_zero, List.set_cons_succ]
      refine fl_takeS (i := 26) (d := 40) (v := .int .i64 b.y1) rfl rfl rfl (by kernel_rfl) (by kernel_rfl) (by kernel_rfl) hS ?_ ?_
      · intro w' hk; unfold KB at hk; go_simp
      simp only [Act.put, List.setIfInBounds_toArray, List.set_cons_zero, List.set_cons_succ]
      refine fl_takeS (i := 27) (d := 41) (v := .int .i64 d) rfl rfl rfl (by kernel_rfl) (by kernel_rfl) (by kernel_rfl) hS ?_ ?_
      · intro w' hk; unfold KB at hk; go_simp
      simp only [Act.put, List.setIfInBounds_toArray, List.set_cons_zero, List.set_cons_succ]
      refine fl_takeS (i := 28) (d := 42) (v := .int .i64 (b.y1 + d)) rfl rfl rfl (by kernel_rfl) (by kernel_rfl) (by kernel_rfl) hS ?_ ?_
      · intro w' hk; unfold KB at hk; go_simp
      simp only [Act.put, List.setIfInBounds_toArray, List.set_cons_zero, List.set_cons_succ]
      refine fl_takeS (i := 29) (d := 43) (v := .agg #[.int .i64 (b.x0 - d), .int .i64 (b.y0 - d), .int .i64 (b.x1 + d), .int .i64 (b.y1 + d)]) rfl rfl rfl (by kernel_rfl) (by kernel_rfl) (by kernel_rfl) hS ?_ ?_
      · intro w' hk; unfold KB at hk; go_simp
      simp only [Act.put, List.setIfInBounds_toArray, List.set_cons_zero, List.set_cons_succ]
      refine wpAnyH_all (rs := [30]) (by kernel_rfl) (by simp) ?_
      intro i hi
      obtain rfl : i = 30 := by simpa using hi
      refine op_val (d := 44) (v := .slice (some ⟨wr.heap.size, 0, none⟩) 1 1) (w' := (wr.alloc (.cells #[.int .i64 (b.x0 - d), .int .i64 (b.y0 - d), .int .i64 (b.x1 + d), .int .i64 (b.y1 + d)] 56)).drew) rfl rfl rfl (by go_simp; try rfl) ?_
      simp only [Act.put, List.setIfInBounds_toArray, List.set_cons_zero, List.set_cons_succ]
      have hk3 : KB wr row (wr.alloc (.cells #[.int .i64 (b.x0 - d), .int .i64 (b.y0 - d), .int .i64 (b.x1 + d), .int .i64 (b.y1 + d)] 56)).drew := KB.of fun b hb _ => Below.heap_alloc wr _ _ hb
      have hnw : ∀ j u, (bcells ⟨b.x0 - d, b.y0 - d, b.x1 + d, b.y1 + d⟩)[j]? = some u → (wr.alloc (.cells #[.int .i64 (b.x0 - d), .int .i64 (b.y0 - d), .int .i64 (b.x1 + d), .int .i64 (b.y1 + d)] 56)).drew.cell? ((⟨wr.heap.size, 0, none⟩ : Addr).add j) = some u := World.news_of_block (cs := #[.int .i64 (b.x0 - d), .int .i64 (b.y0 - d), .int .i64 (b.x1 + d), .int .i64 (b.y1 + d)]) (t := 56) (fr := (0, 0)) (heap_alloc_new wr _)
      refine ⟨hk3, wpAnyH_all (rs := [31]) (by kernel_rfl) (by simp) ?_⟩
      intro i hi
      obtain rfl : i = 31 := by simpa using hi
      refine op_append (dd := 45) rfl rfl rfl (.tmp 14) (.tmp 44) 27 rfl w.heap.size 56 i0 (.agg #[.int .i64 0, .int .i64 0, .int .i64 0, .int .i64 0]) 4 32 Try.underlying27 hi0 hz0 hz1 hz2 rfl (by decide) (.slice oa out.length oc) out.length (bflat out) rfl ((World.ownsRow.alloc HM.out.1 _).drew) ⟨wr.heap.size, 0, none⟩ 1 1 (bcells ⟨b.x0 - d, b.y0 - d, b.x1 + d, b.y1 + d⟩) rfl rfl hnw (by simp [bcells, Value.oneCell']) (by unfold maxLen; omega) (by omega) (by simp; omega) ?_
      intro v4 w4 hown4 hgrow4 hv4
      have hg4 := undrew hgrow4
      have hp4 := push_step (w := w) (B := w.heap.size) HM.out.1 (Nat.le_refl _) HM.out.2.2 hsz hown4 hg4
      have hk4 : KB wr row w4 := KB.of fun b hb hr => (hg4.block b (by simp; omega) (by rw [← HROW.out]; exact hr)).trans (Below.heap_alloc wr _ _ hb)
      have R : Hid (BS w4 w.heap.size v4 (grS (l.take (k + 1)) d) ∧ v4 ≠ .slice none 0 0 ∧ Below w.heap.size w w4) := by
        unfold Hid
        rw [HST.out]
        exact ⟨hp4.1, hv4 HM.out.2.1, hp4.2⟩
      simp only [Act.put, List.setIfInBounds_toArray, List.set_cons_zero, List.set_cons_succ]
      refine ⟨hk4, wpAnyH_all (rs := [32]) (by kernel_rfl) (by simp) ?_⟩
      intro i hi
      obtain rfl : i = 32 := by simpa using hi
      refine op_val (d := 5) (v := v4) (w' := w4) rfl rfl rfl (by go_simp) ?_
      simp only [Act.put, List.setIfInBounds_toArray, List.set_cons_zero, List.set_cons_succ]
      refine ⟨hk4, wpAnyH_done (by kernel_rfl) (NoPanic.normal ?_) _⟩
      clear hown4 hgrow4 hv4 hg4 hp4 hnw hk3 hk4 hS HST HM
      go_wp2
      go_roundw
      case rel => exact ⟨k + 1, by omega, by go_num, R.out⟩
      case measure => simp [intOf]; omega
    · have M4 : Hid (BS wr w.heap.size u5 (grS l d) ∧ Below w.heap.size w wr) := by
        have := hR.out
        rw [List.take_of_length_le (by rw [← H.out.2.1]; omega)] at this
        exact ⟨this.1, this.2.2⟩
      obtain ⟨oa, oc, hof⟩ := M4.out.1.form
      subst hof
      have HOP : Hid (Calls Try.prog 47 #[.int .i64 1, .slice oa (grS l d).length oc, .slice none 0 0] wr fun e w' => ∃ v', e = .returned v' ∧ BS w' wr.heap.size v' L ∧ Below wr.heap.size wr w') := by
        have h2 := spec_op 1 oa none oc 0 (grS l d) [] wr (by simp [grS]; rw [← H.out.2.1]; omega) M4.out.1.rb (BS.nil wr 0).rb
        rw [← HL.out] at h2
        refine h2.mono ?_
        rintro e w' ⟨v', rfl, ho, _, hb⟩
        exact ⟨v', rfl, ho, hb⟩
      clear hR
      go_wp2_with (fail)
      refine HOP.out.mono ?_
      rintro e w5 ⟨v', rfl, ho, hb5⟩
      obtain ⟨a2, c2, rfl⟩ := ho.form
      have HO : Hid (BS w5 w.heap.size (.slice a2 L.length c2) L ∧ Below w.heap.size w w5) := ⟨ho.low M4.out.2.size, M4.out.2.trans (hb5.mono M4.out.2.size)⟩
      clear ho hb5 HOP
      go_wp2
      go_returns
      exact ⟨_, rfl, HO.out.1, HO.out.2⟩

end Go.Proofs.Ytokdpgabmifdjaa
