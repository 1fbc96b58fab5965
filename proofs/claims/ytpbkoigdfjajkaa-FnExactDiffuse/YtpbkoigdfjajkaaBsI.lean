/- Proved here: the places beside one, of the program. -/
import Derived.Test.YtpbkoigdfjajkaaBsM
import Derived.Test.YtpbkoigdfjajkaaGtB
namespace Go.Proofs.Ytpbkoigdfjajkaa
open Go.RowKit
set_option linter.unusedVariables false
set_option linter.unusedSimpArgs false

theorem info_pt : (Try.prog.info? 48).map (fun i => (i.zero, i.size, i.bytes)) = some (some (.agg #[.int .i64 0, .int .i64 0]), 2, 16) := by kernel_rfl
def nb1 (n W i k : Int) : List (Int × Int) := [] ++ (if 0 < k then [(i, k - 1)] else [])
def nb2 (n W i k : Int) : List (Int × Int) := nb1 n W i k ++ (if k + 1 < W then [(i, k + 1)] else [])
def nb3 (n W i k : Int) : List (Int × Int) := nb2 n W i k ++ (if 0 < i then [(i - 1, k)] else [])
def nb4 (n W i k : Int) : List (Int × Int) := nb3 n W i k ++ (if i + 1 < n then [(i + 1, k)] else [])
/-- The first j of the places left, right, above and below that are in the grid. -/
def nbJ (n W i k : Int) (j : Nat) : List (Int × Int) :=
  match j with
  | 0 => []
  | 1 => nb1 n W i k
  | 2 => nb2 n W i k
  | 3 => nb3 n W i k
  | _ => nb4 n W i k
theorem nbJ_all (n W i k : Int) : nbJ n W i k 4 = nbI n W i k := by
  simp [nbJ, nb4, nb3, nb2, nb1, nbI]
theorem nbJ_len (n W i k : Int) (j : Nat) : (nbJ n W i k j).length ≤ 4 := by
  have h1 := if_len (c := 0 < i) (x := (i - 1, k))
  have h2 := if_len (c := i + 1 < n) (x := (i + 1, k))
  have h3 := if_len (c := 0 < k) (x := (i, k - 1))
  have h4 := if_len (c := k + 1 < W) (x := (i, k + 1))
  unfold nbJ
  split <;> simp only [nb4, nb3, nb2, nb1, List.length_append, List.length_nil] <;> omega
theorem ix_pt (c0 c1 c2 c3 c4 c5 c6 c7 : Int) (j : Nat) (hj : j < 4) (w : World) : (Instr.index 51 (.agg #[.int .i64 c0, .int .i64 c1, .int .i64 c2, .int .i64 c3, .int .i64 c4, .int .i64 c5, .int .i64 c6, .int .i64 c7]) (.int .i64 j)).run Try.prog w = .ok (if j = 0 then .agg #[.int .i64 c0, .int .i64 c1] else if j = 1 then .agg #[.int .i64 c2, .int .i64 c3] else if j = 2 then .agg #[.int .i64 c4, .int .i64 c5] else .agg #[.int .i64 c6, .int .i64 c7]) w := by
  have hu : Try.prog.underlying 51 = some (.array 4 48) := by kernel_rfl
  obtain ⟨i0, hi0, hz0, hz1, hz2⟩ := info_parts info_pt
  rcases (by omega : j = 0 ∨ j = 1 ∨ j = 2 ∨ j = 3) with rfl | rfl | rfl | rfl <;> simp [Instr.index, go_sem, hu, hi0, hz0, hz1, part]

set_option maxRecDepth 10000 in
set_option maxHeartbeats 25600000 in
theorem impl_beside {w : World} {v : Value} {L : List (List Int)} {n wd i k : Nat} (hn : n ≤ 16) (hW : wd ≤ 16) (hi : i < n) (hk : k < wd) (hS : Sh n wd L) (h : RdR w v L) :
    Calls Try.prog 34 #[v, .agg #[.int .i64 k, .int .i64 i]] w fun e w' => ∃ v', e = .returned v' ∧ OG 48 2 ptE w' w.heap.size v' (nbI n wd i k) ∧ Below w.heap.size w w' := by
  obtain ⟨a, c, rfl⟩ := h.form
  obtain ⟨i0, hi0, hz0, hz1, hz2⟩ := info_parts info_pt
  have hl := hS.len
  rw [hl] at h ⊢
  obtain ⟨g, o, ua, un, uc, rfl, hg, c0, hun, hrd⟩ := h.at hi
  have HR : Hid (RdR w (.slice (some ⟨g, o, none⟩) n c) L ∧ Sh n wd L) := ⟨h, hS⟩
  clear h hrd hl hS hun c0 hg ua un uc
  have w1 : IntKind.i64.wrap ((i : Int) - 1) = (i : Int) - 1 := by rw [IntKind.wrap_i64]; omega
  have w2 : IntKind.i64.wrap ((i : Int) + 1) = (i : Int) + 1 := by rw [IntKind.wrap_i64]; omega
  have w3 : IntKind.i64.wrap ((k : Int) - 1) = (k : Int) - 1 := by rw [IntKind.wrap_i64]; omega
  have w4 : IntKind.i64.wrap ((k : Int) + 1) = (k : Int) + 1 := by rw [IntKind.wrap_i64]; omega
  have HB0 : Hid (Below w.heap.size w (w.alloc (.cells #[.int .i64 k, .int .i64 i] 48)) ∧ w.heap.size ≤ (w.alloc (.cells #[.int .i64 k, .int .i64 i] 48)).heap.size) := ⟨by (repeat' (first | (with_reducible exact Below.refl _ _) | (with_reducible assumption) | (with_reducible refine Below.setCell ?_ ?_ _) | (with_reducible refine Below.alloc ?_ ?_ _) | (with_reducible refine below_drewN ?_ _) | (with_reducible refine Below.drew ?_) | (with_reducible exact Nat.le_refl _) | omega | (simp; done) | (simp; omega))), by simp⟩
  go_enter Try.func34, Try.ntmps34
  go_wp2
  go_loopw [5, 33] (fun q t wr => ∃ (j : Nat) (oa : Option Addr) (m oc : Nat), j ≤ 4 ∧ t = .int .i64 j ∧ q = .slice oa m oc ∧ Hid (m = (nbJ n wd i k j).length ∧ OG 48 2 ptE wr w.heap.size (.slice oa m oc) (nbJ n wd i k j) ∧ Below w.heap.size w wr ∧ w.heap.size ≤ wr.heap.size)) (fun _ t _ => 4 - (intOf t).toNat)
  case atStart => exact ⟨0, none, 0, 0, by omega, rfl, rfl, rfl, World.ownsRow_nil _ _ _ _, HB0.out.1, HB0.out.2⟩
  case round =>
    clear HB0
    obtain ⟨j, oa, m, oc, hj, rfl, rfl, hR⟩ := hrel
    by_cases hlt : j < 4
    · obtain ⟨LL, hLL⟩ : ∃ LL, LL = nbJ n wd i k j := ⟨_, rfl⟩
      rw [← hLL] at hR
      have HLL : Hid (LL = nbJ n wd i k j) := hLL
      have HL4 : Hid (LL.length ≤ 4) := by unfold Hid; rw [hLL]; exact nbJ_len _ _ _ _ _
      have HM : Hid (m = LL.length) := hR.out.1
      have HQ : Hid (OG 48 2 ptE wr w.heap.size (.slice oa m oc) LL ∧ Below w.heap.size w wr ∧ w.heap.size ≤ wr.heap.size) := hR.out.2
      clear hLL hR
      rcases (by omega : j = 0 ∨ j = 1 ∨ j = 2 ∨ j = 3) with rfl | rfl | rfl | rfl
      · have HN : Hid (nbJ n wd i k (0 + 1) = nbJ n wd i k 0 ++ (if (0 : Int) < (k : Int) then [((i : Int), (k : Int) - 1)] else [])) := rfl
        have qI : ∀ W : World, (Instr.index 51 (.agg #[.int .i64 ((k : Int) - 1), .int .i64 (i : Int), .int .i64 ((k : Int) + 1), .int .i64 (i : Int), .int .i64 (k : Int), .int .i64 ((i : Int) - 1), .int .i64 (k : Int), .int .i64 ((i : Int) + 1)]) (.int .i64 0)).run Try.prog W = .ok (.agg #[.int .i64 ((k : Int) - 1), .int .i64 ((i : Int))]) W := fun W => ix_pt _ _ _ _ _ _ _ _ 0 (by omega) W
        by_cases hc : (0 : Int) < (k : Int)
        · go_wp2_with (fail)
          obtain ⟨V, hV⟩ : ∃ V, V = wr.alloc (.cells #[.int .i64 ((k : Int) - 1), .int .i64 ((i : Int))] 48) := ⟨_, rfl⟩
          rw [← hV]
          have hbV : Below wr.heap.size wr V := by rw [hV]; (repeat' (first | (with_reducible exact Below.refl _ _) | (with_reducible assumption) | (with_reducible refine Below.setCell ?_ ?_ _) | (with_reducible refine Below.alloc ?_ ?_ _) | (with_reducible refine below_drewN ?_ _) | (with_reducible refine Below.drew ?_) | (with_reducible exact Nat.le_refl _) | omega | (simp; done) | (simp; omega)))
          have hkV : V.heap[wr.heap.size]? = some (.cells #[.int .i64 ((k : Int) - 1), .int .i64 ((i : Int))] 48) := by rw [hV]; exact heap_alloc_new wr _
          clear hV
          obtain ⟨u0, u1, uf0, uf1, ul⟩ := two_of hkV
          have HQV : Hid (OG 48 2 ptE V w.heap.size (.slice oa m oc) LL ∧ Below w.heap.size w V ∧ w.heap.size ≤ V.heap.size ∧ m = LL.length) := ⟨OG.below HQ.out.1 hbV, HQ.out.2.1.trans (hbV.mono HQ.out.2.1.size), by have := hbV.size; have := HQ.out.2.2; omega, HM.out⟩
          obtain ⟨xn, hx⟩ : ∃ x : Nat, (k : Int) - 1 = (x : Int) := ⟨((k : Int) - 1).toNat, by omega⟩
          obtain ⟨yn, hy⟩ : ∃ y : Nat, (i : Int) = (y : Int) := ⟨((i : Int)).toNat, by omega⟩
          have hyn : yn < n := by omega
          have hxn : xn < wd := by omega
          obtain ⟨g', o', ub, um, ud, he, hg', c0', hun', hrd'⟩ := (HR.out.1.below HQV.out.2.1).at hyn
          injection he with he1
          injection he1 with he2 he3
          subst he2 he3
          rw [HR.out.2.wd yn hyn] at hun'
          subst hun'
          clear hrd'
          rw [hx] at u0
          rw [hy] at u1
          have z1 : (0 : Int) ≤ (yn : Int) := by omega
          have z2 : (yn : Int) < (n : Int) := by omega
          have z3 : (0 : Int) ≤ (xn : Int) := by omega
          have z4 : (xn : Int) < (um : Int) := by omega
          have HXY : Hid ((k : Int) - 1 = (xn : Int) ∧ (i : Int) = (yn : Int)) := ⟨hx, hy⟩
          clear hx hy
          clear hkV hbV
          (refine wp_region_und (by kernel_rfl) (by kernel_rfl) (fun hund => ?_); (repeat (go_big_quiet_step (fail))); with_reducible refine wpQuiet_nil ?_; clear hund; intro W1 hb1; obtain ⟨hc1, hf1⟩ := undcell hb1)
          have HQ1 : Hid (OG 48 2 ptE W1 w.heap.size (.slice oa m oc) LL ∧ Below w.heap.size w W1 ∧ w.heap.size ≤ W1.heap.size) := ⟨OG.below HQV.out.1 hb1, HQV.out.2.1.trans (hb1.mono HQV.out.2.1.size), by have := hb1.size; have := HQV.out.2.2.1; omega⟩
          have v0 := (hb1.cell (p := ⟨wr.heap.size, 0, none⟩) ul).trans u0
          have v1 := (hb1.cell (p := ⟨wr.heap.size, 1, none⟩) ul).trans u1
          have vl : wr.heap.size < W1.heap.size := Nat.lt_of_lt_of_le ul hb1.size
          clear HQ HQV hb1 hc1 hf1 u0 u1 uf0 uf1 ul c0'
          have HQ := HQ1
          clear HQ1
          go_wp2_with (at_builtin; refine wpList_append_own _ rfl _ _ 45 rfl w.heap.size 48 i0 (.agg #[.int .i64 0, .int .i64 0]) 2 16 Try.underlying45 hi0 hz0 hz1 hz2 rfl (by decide) (.slice oa m oc) LL.length (LL.flatMap ptE) rfl (World.ownsRow.alloc HQ.out.1 _) ⟨_, 0, none⟩ 1 1 [.int .i64 _, .int .i64 _] rfl rfl (World.news_of_block (new_at (by simp))) (by simp [Value.oneCell']) (by have := HL4.out; unfold maxLen; omega) (by have := HL4.out; omega) (by have := HQ.out.2.2; simp; omega) ?_; intro v5 w5 hown5 hgrow5 _)
          have HP := og_step ((((yn : Nat) : Int), ((xn : Nat) : Int)) : Int × Int) HQ hown5 hgrow5
          clear hown5 hgrow5 v0 v1 vl HQ
          obtain ⟨oa5, oc5, hv5⟩ := og_form HP.out.1
          obtain ⟨m5, hm5⟩ : ∃ x, x = (LL ++ [((((yn : Nat) : Int), ((xn : Nat) : Int)) : Int × Int)]).length := ⟨_, rfl⟩
          rw [← hm5] at hv5
          subst hv5
          have HP2 : Hid (m5 = (nbJ n um i k (0 + 1)).length ∧ OG 48 2 ptE w5 w.heap.size (.slice oa5 m5 oc5) (nbJ n um i k (0 + 1)) ∧ Below w.heap.size w w5 ∧ w.heap.size ≤ w5.heap.size) := by
            have e : nbJ n um i k (0 + 1) = LL ++ [((((yn : Nat) : Int), ((xn : Nat) : Int)) : Int × Int)] := by rw [HN.out, if_pos hc, ← HLL.out, ← HXY.out.1, ← HXY.out.2]
            rw [e]
            exact ⟨hm5, HP.out⟩
          clear HP hm5
          go_wp2
          go_roundw
          case rel => exact ⟨1, oa5, m5, oc5, by omega, by rfl, rfl, HP2.out⟩
          case measure => simp [intOf]
        · go_wp2_with (fail)
          obtain ⟨V, hV⟩ : ∃ V, V = wr.alloc (.cells #[.int .i64 ((k : Int) - 1), .int .i64 ((i : Int))] 48) := ⟨_, rfl⟩
          rw [← hV]
          have hbV : Below wr.heap.size wr V := by rw [hV]; (repeat' (first | (with_reducible exact Below.refl _ _) | (with_reducible assumption) | (with_reducible refine Below.setCell ?_ ?_ _) | (with_reducible refine Below.alloc ?_ ?_ _) | (with_reducible refine below_drewN ?_ _) | (with_reducible refine Below.drew ?_) | (with_reducible exact Nat.le_refl _) | omega | (simp; done) | (simp; omega)))
          have hkV : V.heap[wr.heap.size]? = some (.cells #[.int .i64 ((k : Int) - 1), .int .i64 ((i : Int))] 48) := by rw [hV]; exact heap_alloc_new wr _
          clear hV
          obtain ⟨u0, u1, uf0, uf1, ul⟩ := two_of hkV
          have HQV : Hid (OG 48 2 ptE V w.heap.size (.slice oa m oc) LL ∧ Below w.heap.size w V ∧ w.heap.size ≤ V.heap.size ∧ m = LL.length) := ⟨OG.below HQ.out.1 hbV, HQ.out.2.1.trans (hbV.mono HQ.out.2.1.size), by have := hbV.size; have := HQ.out.2.2; omega, HM.out⟩
          obtain ⟨X, hx⟩ : ∃ x : Int, (k : Int) - 1 = x := ⟨_, rfl⟩
          obtain ⟨Y, hy⟩ : ∃ y : Int, (i : Int) = y := ⟨_, rfl⟩
          rw [hx] at u0
          rw [hy] at u1
          have z1 : (0 : Int) ≤ Y := by omega
          have z2 : Y < (n : Int) := by omega
          have z3 : ¬ (0 : Int) ≤ X := by omega
          clear hx hy
          clear hkV hbV
          (refine wp_region_und (by kernel_rfl) (by kernel_rfl) (fun hund => ?_); (repeat (go_big_quiet_step (fail))); with_reducible refine wpQuiet_nil ?_; clear hund; intro W1 hb1; obtain ⟨hc1, hf1⟩ := undcell hb1)
          have HP2 : Hid (m = (nbJ n wd i k (0 + 1)).length ∧ OG 48 2 ptE W1 w.heap.size (.slice oa m oc) (nbJ n wd i k (0 + 1)) ∧ Below w.heap.size w W1 ∧ w.heap.size ≤ W1.heap.size) := by
            have e : nbJ n wd i k (0 + 1) = LL := by rw [HN.out, if_neg (by omega), ← HLL.out, List.append_nil]
            rw [e]
            exact ⟨HQV.out.2.2.2, OG.below HQV.out.1 hb1, HQV.out.2.1.trans (hb1.mono HQV.out.2.1.size), by have := hb1.size; have := HQV.out.2.2.1; omega⟩
          clear HQ HQV hb1 hc1 hf1 u0 u1 uf0 uf1 ul
          go_wp2
          go_roundw
          case rel => exact ⟨1, oa, m, oc, by omega, by rfl, rfl, HP2.out⟩
          case measure => simp [intOf]
      · have HN : Hid (nbJ n wd i k (1 + 1) = nbJ n wd i k 1 ++ (if (k : Int) + 1 < (wd : Int) then [((i : Int), (k : Int) + 1)] else [])) := rfl
        have qI : ∀ W : World, (Instr.index 51 (.agg #[.int .i64 ((k : Int) - 1), .int .i64 (i : Int), .int .i64 ((k : Int) + 1), .int .i64 (i : Int), .int .i64 (k : Int), .int .i64 ((i : Int) - 1), .int .i64 (k : Int), .int .i64 ((i : Int) + 1)]) (.int .i64 1)).run Try.prog W = .ok (.agg #[.int .i64 ((k : Int) + 1), .int .i64 ((i : Int))]) W := fun W => ix_pt _ _ _ _ _ _ _ _ 1 (by omega) W
        by_cases hc : (k : Int) + 1 < (wd : Int)
        · go_wp2_with (fail)
          obtain ⟨V, hV⟩ : ∃ V, V = wr.alloc (.cells #[.int .i64 ((k : Int) + 1), .int .i64 ((i : Int))] 48) := ⟨_, rfl⟩
          rw [← hV]
          have hbV : Below wr.heap.size wr V := by rw [hV]; (repeat' (first | (with_reducible exact Below.refl _ _) | (with_reducible assumption) | (with_reducible refine Below.setCell ?_ ?_ _) | (with_reducible refine Below.alloc ?_ ?_ _) | (with_reducible refine below_drewN ?_ _) | (with_reducible refine Below.drew ?_) | (with_reducible exact Nat.le_refl _) | omega | (simp; done) | (simp; omega)))
          have hkV : V.heap[wr.heap.size]? = some (.cells #[.int .i64 ((k : Int) + 1), .int .i64 ((i : Int))] 48) := by rw [hV]; exact heap_alloc_new wr _
          clear hV
          obtain ⟨u0, u1, uf0, uf1, ul⟩ := two_of hkV
          have HQV : Hid (OG 48 2 ptE V w.heap.size (.slice oa m oc) LL ∧ Below w.heap.size w V ∧ w.heap.size ≤ V.heap.size ∧ m = LL.length) := ⟨OG.below HQ.out.1 hbV, HQ.out.2.1.trans (hbV.mono HQ.out.2.1.size), by have := hbV.size; have := HQ.out.2.2; omega, HM.out⟩
          obtain ⟨xn, hx⟩ : ∃ x : Nat, (k : Int) + 1 = (x : Int) := ⟨((k : Int) + 1).toNat, by omega⟩
          obtain ⟨yn, hy⟩ : ∃ y : Nat, (i : Int) = (y : Int) := ⟨((i : Int)).toNat, by omega⟩
          have hyn : yn < n := by omega
          have hxn : xn < wd := by omega
          obtain ⟨g', o', ub, um, ud, he, hg', c0', hun', hrd'⟩ := (HR.out.1.below HQV.out.2.1).at hyn
          injection he with he1
          injection he1 with he2 he3
          subst he2 he3
          rw [HR.out.2.wd yn hyn] at hun'
          subst hun'
          clear hrd'
          rw [hx] at u0
          rw [hy] at u1
          have z1 : (0 : Int) ≤ (yn : Int) := by omega
          have z2 : (yn : Int) < (n : Int) := by omega
          have z3 : (0 : Int) ≤ (xn : Int) := by omega
          have z4 : (xn : Int) < (um : Int) := by omega
          have HXY : Hid ((k : Int) + 1 = (xn : Int) ∧ (i : Int) = (yn : Int)) := ⟨hx, hy⟩
          clear hx hy
          clear hkV hbV
          (refine wp_region_und (by kernel_rfl) (by kernel_rfl) (fun hund => ?_); (repeat (go_big_quiet_step (fail))); with_reducible refine wpQuiet_nil ?_; clear hund; intro W1 hb1; obtain ⟨hc1, hf1⟩ := undcell hb1)
          have HQ1 : Hid (OG 48 2 ptE W1 w.heap.size (.slice oa m oc) LL ∧ Below w.heap.size w W1 ∧ w.heap.size ≤ W1.heap.size) := ⟨OG.below HQV.out.1 hb1, HQV.out.2.1.trans (hb1.mono HQV.out.2.1.size), by have := hb1.size; have := HQV.out.2.2.1; omega⟩
          have v0 := (hb1.cell (p := ⟨wr.heap.size, 0, none⟩) ul).trans u0
          have v1 := (hb1.cell (p := ⟨wr.heap.size, 1, none⟩) ul).trans u1
          have vl : wr.heap.size < W1.heap.size := Nat.lt_of_lt_of_le ul hb1.size
          clear HQ HQV hb1 hc1 hf1 u0 u1 uf0 uf1 ul c0'
          have HQ := HQ1
          clear HQ1
          go_wp2_with (at_builtin; refine wpList_append_own _ rfl _ _ 45 rfl w.heap.size 48 i0 (.agg #[.int .i64 0, .int .i64 0]) 2 16 Try.underlying45 hi0 hz0 hz1 hz2 rfl (by decide) (.slice oa m oc) LL.length (LL.flatMap ptE) rfl (World.ownsRow.alloc HQ.out.1 _) ⟨_, 0, none⟩ 1 1 [.int .i64 _, .int .i64 _] rfl rfl (World.news_of_block (new_at (by simp))) (by simp [Value.oneCell']) (by have := HL4.out; unfold maxLen; omega) (by have := HL4.out; omega) (by have := HQ.out.2.2; simp; omega) ?_; intro v5 w5 hown5 hgrow5 _)
          have HP := og_step ((((yn : Nat) : Int), ((xn : Nat) : Int)) : Int × Int) HQ hown5 hgrow5
          clear hown5 hgrow5 v0 v1 vl HQ
          obtain ⟨oa5, oc5, hv5⟩ := og_form HP.out.1
          obtain ⟨m5, hm5⟩ : ∃ x, x = (LL ++ [((((yn : Nat) : Int), ((xn : Nat) : Int)) : Int × Int)]).length := ⟨_, rfl⟩
          rw [← hm5] at hv5
          subst hv5
          have HP2 : Hid (m5 = (nbJ n um i k (1 + 1)).length ∧ OG 48 2 ptE w5 w.heap.size (.slice oa5 m5 oc5) (nbJ n um i k (1 + 1)) ∧ Below w.heap.size w w5 ∧ w.heap.size ≤ w5.heap.size) := by
            have e : nbJ n um i k (1 + 1) = LL ++ [((((yn : Nat) : Int), ((xn : Nat) : Int)) : Int × Int)] := by rw [HN.out, if_pos hc, ← HLL.out, ← HXY.out.1, ← HXY.out.2]
            rw [e]
            exact ⟨hm5, HP.out⟩
          clear HP hm5
          go_wp2
          go_roundw
          case rel => exact ⟨2, oa5, m5, oc5, by omega, by rfl, rfl, HP2.out⟩
          case measure => simp [intOf]
        · go_wp2_with (fail)
          obtain ⟨V, hV⟩ : ∃ V, V = wr.alloc (.cells #[.int .i64 ((k : Int) + 1), .int .i64 ((i : Int))] 48) := ⟨_, rfl⟩
          rw [← hV]
          have hbV : Below wr.heap.size wr V := by rw [hV]; (repeat' (first | (with_reducible exact Below.refl _ _) | (with_reducible assumption) | (with_reducible refine Below.setCell ?_ ?_ _) | (with_reducible refine Below.alloc ?_ ?_ _) | (with_reducible refine below_drewN ?_ _) | (with_reducible refine Below.drew ?_) | (with_reducible exact Nat.le_refl _) | omega | (simp; done) | (simp; omega)))
          have hkV : V.heap[wr.heap.size]? = some (.cells #[.int .i64 ((k : Int) + 1), .int .i64 ((i : Int))] 48) := by rw [hV]; exact heap_alloc_new wr _
          clear hV
          obtain ⟨u0, u1, uf0, uf1, ul⟩ := two_of hkV
          have HQV : Hid (OG 48 2 ptE V w.heap.size (.slice oa m oc) LL ∧ Below w.heap.size w V ∧ w.heap.size ≤ V.heap.size ∧ m = LL.length) := ⟨OG.below HQ.out.1 hbV, HQ.out.2.1.trans (hbV.mono HQ.out.2.1.size), by have := hbV.size; have := HQ.out.2.2; omega, HM.out⟩
          obtain ⟨X, hx⟩ : ∃ x : Int, (k : Int) + 1 = x := ⟨_, rfl⟩
          obtain ⟨Y, hy⟩ : ∃ y : Int, (i : Int) = y := ⟨_, rfl⟩
          rw [hx] at u0
          rw [hy] at u1
          obtain ⟨yn, hyn⟩ : ∃ y : Nat, Y = (y : Int) := ⟨Y.toNat, by omega⟩
          rw [hyn] at u1
          have hynn : yn < n := by omega
          obtain ⟨g', o', ub, um, ud, he, hg', c0', hun', hrd'⟩ := (HR.out.1.below HQV.out.2.1).at hynn
          injection he with he1
          injection he1 with he2 he3
          subst he2 he3
          rw [HR.out.2.wd yn hynn] at hun'
          subst hun'
          clear hrd'
          have z1 : (0 : Int) ≤ (yn : Int) := by omega
          have z2 : (yn : Int) < (n : Int) := by omega
          have z3 : (0 : Int) ≤ X := by omega
          have z4 : ¬ X < (um : Int) := by omega
          clear hx hy hyn
          clear hkV hbV
          (refine wp_region_und (by kernel_rfl) (by kernel_rfl) (fun hund => ?_); (repeat (go_big_quiet_step (fail))); with_reducible refine wpQuiet_nil ?_; clear hund; intro W1 hb1; obtain ⟨hc1, hf1⟩ := undcell hb1)
          have HP2 : Hid (m = (nbJ n um i k (1 + 1)).length ∧ OG 48 2 ptE W1 w.heap.size (.slice oa m oc) (nbJ n um i k (1 + 1)) ∧ Below w.heap.size w W1 ∧ w.heap.size ≤ W1.heap.size) := by
            have e : nbJ n um i k (1 + 1) = LL := by rw [HN.out, if_neg (by omega), ← HLL.out, List.append_nil]
            rw [e]
            exact ⟨HQV.out.2.2.2, OG.below HQV.out.1 hb1, HQV.out.2.1.trans (hb1.mono HQV.out.2.1.size), by have := hb1.size; have := HQV.out.2.2.1; omega⟩
          clear HQ HQV hb1 hc1 hf1 u0 u1 uf0 uf1 ul
          go_wp2
          go_roundw
          case rel => exact ⟨2, oa, m, oc, by omega, by rfl, rfl, HP2.out⟩
          case measure => simp [intOf]
      · have HN : Hid (nbJ n wd i k (2 + 1) = nbJ n wd i k 2 ++ (if (0 : Int) < (i : Int) then [((i : Int) - 1, (k : Int))] else [])) := rfl
        have qI : ∀ W : World, (Instr.index 51 (.agg #[.int .i64 ((k : Int) - 1), .int .i64 (i : Int), .int .i64 ((k : Int) + 1), .int .i64 (i : Int), .int .i64 (k : Int), .int .i64 ((i : Int) - 1), .int .i64 (k : Int), .int .i64 ((i : Int) + 1)]) (.int .i64 2)).run Try.prog W = .ok (.agg #[.int .i64 ((k : Int)), .int .i64 ((i : Int) - 1)]) W := fun W => ix_pt _ _ _ _ _ _ _ _ 2 (by omega) W
        by_cases hc : (0 : Int) < (i : Int)
        · go_wp2_with (fail)
          obtain ⟨V, hV⟩ : ∃ V, V = wr.alloc (.cells #[.int .i64 ((k : Int)), .int .i64 ((i : Int) - 1)] 48) := ⟨_, rfl⟩
          rw [← hV]
          have hbV : Below wr.heap.size wr V := by rw [hV]; (repeat' (first | (with_reducible exact Below.refl _ _) | (with_reducible assumption) | (with_reducible refine Below.setCell ?_ ?_ _) | (with_reducible refine Below.alloc ?_ ?_ _) | (with_reducible refine below_drewN ?_ _) | (with_reducible refine Below.drew ?_) | (with_reducible exact Nat.le_refl _) | omega | (simp; done) | (simp; omega)))
          have hkV : V.heap[wr.heap.size]? = some (.cells #[.int .i64 ((k : Int)), .int .i64 ((i : Int) - 1)] 48) := by rw [hV]; exact heap_alloc_new wr _
          clear hV
          obtain ⟨u0, u1, uf0, uf1, ul⟩ := two_of hkV
          have HQV : Hid (OG 48 2 ptE V w.heap.size (.slice oa m oc) LL ∧ Below w.heap.size w V ∧ w.heap.size ≤ V.heap.size ∧ m = LL.length) := ⟨OG.below HQ.out.1 hbV, HQ.out.2.1.trans (hbV.mono HQ.out.2.1.size), by have := hbV.size; have := HQ.out.2.2; omega, HM.out⟩
          obtain ⟨xn, hx⟩ : ∃ x : Nat, (k : Int) = (x : Int) := ⟨((k : Int)).toNat, by omega⟩
          obtain ⟨yn, hy⟩ : ∃ y : Nat, (i : Int) - 1 = (y : Int) := ⟨((i : Int) - 1).toNat, by omega⟩
          have hyn : yn < n := by omega
          have hxn : xn < wd := by omega
          obtain ⟨g', o', ub, um, ud, he, hg', c0', hun', hrd'⟩ := (HR.out.1.below HQV.out.2.1).at hyn
          injection he with he1
          injection he1 with he2 he3
          subst he2 he3
          rw [HR.out.2.wd yn hyn] at hun'
          subst hun'
          clear hrd'
          rw [hx] at u0
          rw [hy] at u1
          have z1 : (0 : Int) ≤ (yn : Int) := by omega
          have z2 : (yn : Int) < (n : Int) := by omega
          have z3 : (0 : Int) ≤ (xn : Int) := by omega
          have z4 : (xn : Int) < (um : Int) := by omega
          have HXY : Hid ((k : Int) = (xn : Int) ∧ (i : Int) - 1 = (yn : Int)) := ⟨hx, hy⟩
          clear hx hy
          clear hkV hbV
          (refine wp_region_und (by kernel_rfl) (by kernel_rfl) (fun hund => ?_); (repeat (go_big_quiet_step (fail))); with_reducible refine wpQuiet_nil ?_; clear hund; intro W1 hb1; obtain ⟨hc1, hf1⟩ := undcell hb1)
          have HQ1 : Hid (OG 48 2 ptE W1 w.heap.size (.slice oa m oc) LL ∧ Below w.heap.size w W1 ∧ w.heap.size ≤ W1.heap.size) := ⟨OG.below HQV.out.1 hb1, HQV.out.2.1.trans (hb1.mono HQV.out.2.1.size), by have := hb1.size; have := HQV.out.2.2.1; omega⟩
          have v0 := (hb1.cell (p := ⟨wr.heap.size, 0, none⟩) ul).trans u0
          have v1 := (hb1.cell (p := ⟨wr.heap.size, 1, none⟩) ul).trans u1
          have vl : wr.heap.size < W1.heap.size := Nat.lt_of_lt_of_le ul hb1.size
          clear HQ HQV hb1 hc1 hf1 u0 u1 uf0 uf1 ul c0'
          have HQ := HQ1
          clear HQ1
          go_wp2_with (at_builtin; refine wpList_append_own _ rfl _ _ 45 rfl w.heap.size 48 i0 (.agg #[.int .i64 0, .int .i64 0]) 2 16 Try.underlying45 hi0 hz0 hz1 hz2 rfl (by decide) (.slice oa m oc) LL.length (LL.flatMap ptE) rfl (World.ownsRow.alloc HQ.out.1 _) ⟨_, 0, none⟩ 1 1 [.int .i64 _, .int .i64 _] rfl rfl (World.news_of_block (new_at (by simp))) (by simp [Value.oneCell']) (by have := HL4.out; unfold maxLen; omega) (by have := HL4.out; omega) (by have := HQ.out.2.2; simp; omega) ?_; intro v5 w5 hown5 hgrow5 _)
          have HP := og_step ((((yn : Nat) : Int), ((xn : Nat) : Int)) : Int × Int) HQ hown5 hgrow5
          clear hown5 hgrow5 v0 v1 vl HQ
          obtain ⟨oa5, oc5, hv5⟩ := og_form HP.out.1
          obtain ⟨m5, hm5⟩ : ∃ x, x = (LL ++ [((((yn : Nat) : Int), ((xn : Nat) : Int)) : Int × Int)]).length := ⟨_, rfl⟩
          rw [← hm5] at hv5
          subst hv5
          have HP2 : Hid (m5 = (nbJ n um i k (2 + 1)).length ∧ OG 48 2 ptE w5 w.heap.size (.slice oa5 m5 oc5) (nbJ n um i k (2 + 1)) ∧ Below w.heap.size w w5 ∧ w.heap.size ≤ w5.heap.size) := by
            have e : nbJ n um i k (2 + 1) = LL ++ [((((yn : Nat) : Int), ((xn : Nat) : Int)) : Int × Int)] := by rw [HN.out, if_pos hc, ← HLL.out, ← HXY.out.1, ← HXY.out.2]
            rw [e]
            exact ⟨hm5, HP.out⟩
          clear HP hm5
          go_wp2
          go_roundw
          case rel => exact ⟨3, oa5, m5, oc5, by omega, by rfl, rfl, HP2.out⟩
          case measure => simp [intOf]
        · go_wp2_with (fail)
          obtain ⟨V, hV⟩ : ∃ V, V = wr.alloc (.cells #[.int .i64 ((k : Int)), .int .i64 ((i : Int) - 1)] 48) := ⟨_, rfl⟩
          rw [← hV]
          have hbV : Below wr.heap.size wr V := by rw [hV]; (repeat' (first | (with_reducible exact Below.refl _ _) | (with_reducible assumption) | (with_reducible refine Below.setCell ?_ ?_ _) | (with_reducible refine Below.alloc ?_ ?_ _) | (with_reducible refine below_drewN ?_ _) | (with_reducible refine Below.drew ?_) | (with_reducible exact Nat.le_refl _) | omega | (simp; done) | (simp; omega)))
          have hkV : V.heap[wr.heap.size]? = some (.cells #[.int .i64 ((k : Int)), .int .i64 ((i : Int) - 1)] 48) := by rw [hV]; exact heap_alloc_new wr _
          clear hV
          obtain ⟨u0, u1, uf0, uf1, ul⟩ := two_of hkV
          have HQV : Hid (OG 48 2 ptE V w.heap.size (.slice oa m oc) LL ∧ Below w.heap.size w V ∧ w.heap.size ≤ V.heap.size ∧ m = LL.length) := ⟨OG.below HQ.out.1 hbV, HQ.out.2.1.trans (hbV.mono HQ.out.2.1.size), by have := hbV.size; have := HQ.out.2.2; omega, HM.out⟩
          obtain ⟨X, hx⟩ : ∃ x : Int, (k : Int) = x := ⟨_, rfl⟩
          obtain ⟨Y, hy⟩ : ∃ y : Int, (i : Int) - 1 = y := ⟨_, rfl⟩
          rw [hx] at u0
          rw [hy] at u1
          have z1 : ¬ (0 : Int) ≤ Y := by omega
          clear hx hy
          clear hkV hbV
          (refine wp_region_und (by kernel_rfl) (by kernel_rfl) (fun hund => ?_); (repeat (go_big_quiet_step (fail))); with_reducible refine wpQuiet_nil ?_; clear hund; intro W1 hb1; obtain ⟨hc1, hf1⟩ := undcell hb1)
          have HP2 : Hid (m = (nbJ n wd i k (2 + 1)).length ∧ OG 48 2 ptE W1 w.heap.size (.slice oa m oc) (nbJ n wd i k (2 + 1)) ∧ Below w.heap.size w W1 ∧ w.heap.size ≤ W1.heap.size) := by
            have e : nbJ n wd i k (2 + 1) = LL := by rw [HN.out, if_neg (by omega), ← HLL.out, List.append_nil]
            rw [e]
            exact ⟨HQV.out.2.2.2, OG.below HQV.out.1 hb1, HQV.out.2.1.trans (hb1.mono HQV.out.2.1.size), by have := hb1.size; have := HQV.out.2.2.1; omega⟩
          clear HQ HQV hb1 hc1 hf1 u0 u1 uf0 uf1 ul
          go_wp2
          go_roundw
          case rel => exact ⟨3, oa, m, oc, by omega, by rfl, rfl, HP2.out⟩
          case measure => simp [intOf]
      · have HN : Hid (nbJ n wd i k (3 + 1) = nbJ n wd i k 3 ++ (if (i : Int) + 1 < (n : Int) then [((i : Int) + 1, (k : Int))] else [])) := rfl
        have qI : ∀ W : World, (Instr.index 51 (.agg #[.int .i64 ((k : Int) - 1), .int .i64 (i : Int), .int .i64 ((k : Int) + 1), .int .i64 (i : Int), .int .i64 (k : Int), .int .i64 ((i : Int) - 1), .int .i64 (k : Int), .int .i64 ((i : Int) + 1)]) (.int .i64 3)).run Try.prog W = .ok (.agg #[.int .i64 ((k : Int)), .int .i64 ((i : Int) + 1)]) W := fun W => ix_pt _ _ _ _ _ _ _ _ 3 (by omega) W
        by_cases hc : (i : Int) + 1 < (n : Int)
        · go_wp2_with (fail)
          obtain ⟨V, hV⟩ : ∃ V, V = wr.alloc (.cells #[.int .i64 ((k : Int)), .int .i64 ((i : Int) + 1)] 48) := ⟨_, rfl⟩
          rw [← hV]
          have hbV : Below wr.heap.size wr V := by rw [hV]; (repeat' (first | (with_reducible exact Below.refl _ _) | (with_reducible assumption) | (with_reducible refine Below.setCell ?_ ?_ _) | (with_reducible refine Below.alloc ?_ ?_ _) | (with_reducible refine below_drewN ?_ _) | (with_reducible refine Below.drew ?_) | (with_reducible exact Nat.le_refl _) | omega | (simp; done) | (simp; omega)))
          have hkV : V.heap[wr.heap.size]? = some (.cells #[.int .i64 ((k : Int)), .int .i64 ((i : Int) + 1)] 48) := by rw [hV]; exact heap_alloc_new wr _
          clear hV
          obtain ⟨u0, u1, uf0, uf1, ul⟩ := two_of hkV
          have HQV : Hid (OG 48 2 ptE V w.heap.size (.slice oa m oc) LL ∧ Below w.heap.size w V ∧ w.heap.size ≤ V.heap.size ∧ m = LL.length) := ⟨OG.below HQ.out.1 hbV, HQ.out.2.1.trans (hbV.mono HQ.out.2.1.size), by have := hbV.size; have := HQ.out.2.2; omega, HM.out⟩
          obtain ⟨xn, hx⟩ : ∃ x : Nat, (k : Int) = (x : Int) := ⟨((k : Int)).toNat, by omega⟩
          obtain ⟨yn, hy⟩ : ∃ y : Nat, (i : Int) + 1 = (y : Int) := ⟨((i : Int) + 1).toNat, by omega⟩
          have hyn : yn < n := by omega
          have hxn : xn < wd := by omega
          obtain ⟨g', o', ub, um, ud, he, hg', c0', hun', hrd'⟩ := (HR.out.1.below HQV.out.2.1).at hyn
          injection he with he1
          injection he1 with he2 he3
          subst he2 he3
          rw [HR.out.2.wd yn hyn] at hun'
          subst hun'
          clear hrd'
          rw [hx] at u0
          rw [hy] at u1
          have z1 : (0 : Int) ≤ (yn : Int) := by omega
          have z2 : (yn : Int) < (n : Int) := by omega
          have z3 : (0 : Int) ≤ (xn : Int) := by omega
          have z4 : (xn : Int) < (um : Int) := by omega
          have HXY : Hid ((k : Int) = (xn : Int) ∧ (i : Int) + 1 = (yn : Int)) := ⟨hx, hy⟩
          clear hx hy
          clear hkV hbV
          (refine wp_region_und (by kernel_rfl) (by kernel_rfl) (fun hund => ?_); (repeat (go_big_quiet_step (fail))); with_reducible refine wpQuiet_nil ?_; clear hund; intro W1 hb1; obtain ⟨hc1, hf1⟩ := undcell hb1)
          have HQ1 : Hid (OG 48 2 ptE W1 w.heap.size (.slice oa m oc) LL ∧ Below w.heap.size w W1 ∧ w.heap.size ≤ W1.heap.size) := ⟨OG.below HQV.out.1 hb1, HQV.out.2.1.trans (hb1.mono HQV.out.2.1.size), by have := hb1.size; have := HQV.out.2.2.1; omega⟩
          have v0 := (hb1.cell (p := ⟨wr.heap.size, 0, none⟩) ul).trans u0
          have v1 := (hb1.cell (p := ⟨wr.heap.size, 1, none⟩) ul).trans u1
          have vl : wr.heap.size < W1.heap.size := Nat.lt_of_lt_of_le ul hb1.size
          clear HQ HQV hb1 hc1 hf1 u0 u1 uf0 uf1 ul c0'
          have HQ := HQ1
          clear HQ1
          go_wp2_with (at_builtin; refine wpList_append_own _ rfl _ _ 45 rfl w.heap.size 48 i0 (.agg #[.int .i64 0, .int .i64 0]) 2 16 Try.underlying45 hi0 hz0 hz1 hz2 rfl (by decide) (.slice oa m oc) LL.length (LL.flatMap ptE) rfl (World.ownsRow.alloc HQ.out.1 _) ⟨_, 0, none⟩ 1 1 [.int .i64 _, .int .i64 _] rfl rfl (World.news_of_block (new_at (by simp))) (by simp [Value.oneCell']) (by have := HL4.out; unfold maxLen; omega) (by have := HL4.out; omega) (by have := HQ.out.2.2; simp; omega) ?_; intro v5 w5 hown5 hgrow5 _)
          have HP := og_step ((((yn : Nat) : Int), ((xn : Nat) : Int)) : Int × Int) HQ hown5 hgrow5
          clear hown5 hgrow5 v0 v1 vl HQ
          obtain ⟨oa5, oc5, hv5⟩ := og_form HP.out.1
          obtain ⟨m5, hm5⟩ : ∃ x, x = (LL ++ [((((yn : Nat) : Int), ((xn : Nat) : Int)) : Int × Int)]).length := ⟨_, rfl⟩
          rw [← hm5] at hv5
          subst hv5
          have HP2 : Hid (m5 = (nbJ n um i k (3 + 1)).length ∧ OG 48 2 ptE w5 w.heap.size (.slice oa5 m5 oc5) (nbJ n um i k (3 + 1)) ∧ Below w.heap.size w w5 ∧ w.heap.size ≤ w5.heap.size) := by
            have e : nbJ n um i k (3 + 1) = LL ++ [((((yn : Nat) : Int), ((xn : Nat) : Int)) : Int × Int)] := by rw [HN.out, if_pos hc, ← HLL.out, ← HXY.out.1, ← HXY.out.2]
            rw [e]
            exact ⟨hm5, HP.out⟩
          clear HP hm5
          go_wp2
          go_roundw
          case rel => exact ⟨4, oa5, m5, oc5, by omega, by rfl, rfl, HP2.out⟩
          case measure => simp [intOf]
        · go_wp2_with (fail)
          obtain ⟨V, hV⟩ : ∃ V, V = wr.alloc (.cells #[.int .i64 ((k : Int)), .int .i64 ((i : Int) + 1)] 48) := ⟨_, rfl⟩
          rw [← hV]
          have hbV : Below wr.heap.size wr V := by rw [hV]; (repeat' (first | (with_reducible exact Below.refl _ _) | (with_reducible assumption) | (with_reducible refine Below.setCell ?_ ?_ _) | (with_reducible refine Below.alloc ?_ ?_ _) | (with_reducible refine below_drewN ?_ _) | (with_reducible refine Below.drew ?_) | (with_reducible exact Nat.le_refl _) | omega | (simp; done) | (simp; omega)))
          have hkV : V.heap[wr.heap.size]? = some (.cells #[.int .i64 ((k : Int)), .int .i64 ((i : Int) + 1)] 48) := by rw [hV]; exact heap_alloc_new wr _
          clear hV
          obtain ⟨u0, u1, uf0, uf1, ul⟩ := two_of hkV
          have HQV : Hid (OG 48 2 ptE V w.heap.size (.slice oa m oc) LL ∧ Below w.heap.size w V ∧ w.heap.size ≤ V.heap.size ∧ m = LL.length) := ⟨OG.below HQ.out.1 hbV, HQ.out.2.1.trans (hbV.mono HQ.out.2.1.size), by have := hbV.size; have := HQ.out.2.2; omega, HM.out⟩
          obtain ⟨X, hx⟩ : ∃ x : Int, (k : Int) = x := ⟨_, rfl⟩
          obtain ⟨Y, hy⟩ : ∃ y : Int, (i : Int) + 1 = y := ⟨_, rfl⟩
          rw [hx] at u0
          rw [hy] at u1
          have z1 : (0 : Int) ≤ Y := by omega
          have z2 : ¬ Y < (n : Int) := by omega
          clear hx hy
          clear hkV hbV
          (refine wp_region_und (by kernel_rfl) (by kernel_rfl) (fun hund => ?_); (repeat (go_big_quiet_step (fail))); with_reducible refine wpQuiet_nil ?_; clear hund; intro W1 hb1; obtain ⟨hc1, hf1⟩ := undcell hb1)
          have HP2 : Hid (m = (nbJ n wd i k (3 + 1)).length ∧ OG 48 2 ptE W1 w.heap.size (.slice oa m oc) (nbJ n wd i k (3 + 1)) ∧ Below w.heap.size w W1 ∧ w.heap.size ≤ W1.heap.size) := by
            have e : nbJ n wd i k (3 + 1) = LL := by rw [HN.out, if_neg (by omega), ← HLL.out, List.append_nil]
            rw [e]
            exact ⟨HQV.out.2.2.2, OG.below HQV.out.1 hb1, HQV.out.2.1.trans (hb1.mono HQV.out.2.1.size), by have := hb1.size; have := HQV.out.2.2.1; omega⟩
          clear HQ HQV hb1 hc1 hf1 u0 u1 uf0 uf1 ul
          go_wp2
          go_roundw
          case rel => exact ⟨4, oa, m, oc, by omega, by rfl, rfl, HP2.out⟩
          case measure => simp [intOf]
    · have ej : j = 4 := by omega
      subst ej
      have HP : Hid (OG 48 2 ptE wr w.heap.size (.slice oa m oc) (nbI n wd i k) ∧ Below w.heap.size w wr) := by
        rw [← nbJ_all]; exact ⟨hR.out.2.1, hR.out.2.2.1⟩
      clear hR
      go_wp2
      go_returns
      exact ⟨_, rfl, HP.out.1, HP.out.2⟩

end Go.Proofs.Ytpbkoigdfjajkaa
