/- Proved here: l12Copy of the model. -/
import Derived.Test.YtceljakmjddgbabCoM
import Derived.Test.YtceljakmjddgbabLyM
import Derived.Test.YtceljakmjddgbabFiO
import Derived.Test.YtceljakmjddgbabLwS
import Derived.Deep.AppendLies
namespace Go.Proofs.Ytceljakmjddgbab
open Go.RowKit
set_option linter.unusedVariables false
set_option linter.unusedSimpArgs false

/-- Where a copy of columns stands. -/
structure CP (w wr : World) (a : Option Addr) (n c : Nat) (oa : Option Addr) (on oc : Nat) (ls : List (List Flm)) (j : Nat) (vs : List Value) : Prop where
  k0 : wr.heap[w.heap.size]? = some (.cells #[.slice a n c] 30)
  k1 : wr.heap[w.heap.size + 1]? = some (.cells #[.slice none 0 0] 30)
  k2 : wr.heap[w.heap.size + 2]? = some (.cells #[.slice oa on oc] 30)
  ro : RoF wr (w.heap.size + 3) (.slice oa on oc) (ls.take j) vs
  bl : Below w.heap.size w wr
  sz : w.heap.size + 3 ≤ wr.heap.size
/-- The same, the new list not yet laid into its variable. -/
structure CO (w w6 : World) (a : Option Addr) (n c : Nat) (oa : Option Addr) (on oc : Nat) (v6 : Value) (ls : List (List Flm)) (j : Nat) : Prop where
  k0 : w6.heap[w.heap.size]? = some (.cells #[.slice a n c] 30)
  k1 : w6.heap[w.heap.size + 1]? = some (.cells #[.slice none 0 0] 30)
  ro : ∃ vs, RoF w6 (w.heap.size + 3) v6 (ls.take j) vs
  bl : Below w.heap.size w w6
  sz : w.heap.size + 3 ≤ w6.heap.size
  jl : j ≤ ls.length
theorem CO.form {w w6 : World} {a : Option Addr} {n c : Nat} {oa : Option Addr} {on oc : Nat} {v6 : Value} {ls : List (List Flm)} {j : Nat} (h : CO w w6 a n c oa on oc v6 ls j) : ∃ na nc, v6 = .slice na j nc := by
  obtain ⟨vs, hro⟩ := h.ro
  obtain ⟨x, y, e⟩ := hro.form
  rw [List.length_take, Nat.min_eq_left h.jl] at e
  exact ⟨x, y, e⟩
theorem CO.push {w wr z1 w6 : World} {a : Option Addr} {n c : Nat} {oa : Option Addr} {oc j un vc : Nat} {va : Option Addr} {v6 : Value} {ls : List (List Flm)} {vs : List Value} {col : List Flm} (h : CP w wr a n c oa j oc ls j vs) (htl : (ls.take j).length = j) (hj : j < ls.length ∧ col = ls.getD j []) (hu : OG 76 2 flC z1 wr.heap.size (.slice va un vc) col) (hb : Below wr.heap.size wr z1)
    (ho : w6.ownsRow (w.heap.size + 3) 62 1 v6 (j + 1) (vs ++ [.slice va un vc])) (hg : (z1.alloc (.cells #[.slice va un vc] 62)).grownBy w6 (Value.slice oa j oc).ownBlock) :
    CO w w6 a n c oa j oc v6 ls (j + 1) ∧ w6.heap[w.heap.size + 2]? = some (.cells #[.slice oa j oc] 30) := by
  have hba : Below wr.heap.size wr (z1.alloc (.cells #[.slice va un vc] 62)) := hb.alloc hb.size _
  have hP := h.ro.push hb h.sz hu (by rw [htl]; exact ho) hg
  have e1 : ls.take (j + 1) = ls.take j ++ [col] := by
    obtain ⟨hj1, hj2⟩ := hj
    rw [List.take_succ_eq_append_getElem hj1, hj2]
    simp [hj1]
  rw [← e1] at hP
  have hold : ∀ q, q < w.heap.size + 3 → w6.heap[q]? = wr.heap[q]? := fun q hq => by
    rw [hg.block q (by have := hba.size; have := h.sz; omega) ?_]
    · exact hba.block q (by have := h.sz; omega)
    · intro e
      have := (rowBlk h.ro.o e.symm).1
      omega
  refine ⟨⟨(hold _ (by omega)).trans h.k0, (hold _ (by omega)).trans h.k1, ⟨_, hP⟩, ?_, ?_, by omega⟩, (hold _ (by omega)).trans h.k2⟩
  · exact (h.bl.trans (hba.mono h.bl.size)).grown hg (Nat.le_trans h.bl.size hba.size) fun q hq => by have := (rowBlk h.ro.o hq).1; omega
  · have := hg.size; have := hba.size; have := h.sz; omega
theorem CO.set {w w6 : World} {a : Option Addr} {n c : Nat} {oa na : Option Addr} {on oc j nc : Nat} {ls : List (List Flm)} (h : CO w w6 a n c oa on oc (.slice na j nc) ls j) (hk : w6.heap[w.heap.size + 2]? = some (.cells #[.slice oa on oc] 30)) :
    ∃ vs, CP w (w6.setCell ⟨w.heap.size + 2, 0, none⟩ (.slice na j nc)) a n c na j nc ls j vs := by
  obtain ⟨vs, hro⟩ := h.ro
  have ho : ∀ q, q ≠ w.heap.size + 2 → (w6.setCell ⟨w.heap.size + 2, 0, none⟩ (.slice na j nc)).heap[q]? = w6.heap[q]? := fun q hq => heap_setCell_other _ _ _ _ (by simpa using hq)
  refine ⟨vs, (ho _ (by omega)).trans h.k0, (ho _ (by omega)).trans h.k1, ?_, hro.kept (fun q hq => ho q ?_) (fun i hi q hq => ho q ?_), h.bl.setCell (by simp) _, by simpa using h.sz⟩
  · have := heap_setCell_same _ _ 0 _ _ (.slice na j nc) hk
    simpa using this
  · have := (rowBlk hro.o hq).1; omega
  · have := (rowBlk (hro.bx i hi) hq).1; omega

set_option maxRecDepth 10000 in
set_option maxHeartbeats 25600000 in
theorem spec_copy12 {w : World} {v : Value} {ls : List (List Flm)} (hG : GS ls) (h : RsC w v ls) :
    Calls Try.prog 38 #[.agg #[v]] w fun e w' => ∃ v' vs, e = .returned (.agg #[v']) ∧ RoF w' w.heap.size v' ls vs ∧ Below w.heap.size w w' := by
  obtain ⟨a, c, rfl⟩ := h.form
  obtain ⟨i0, hi0, hz0, hz1, hz2⟩ := info_parts info_rowF
  obtain ⟨i1, hi1, hy0, hy1, hy2⟩ := info_parts info_Film
  obtain ⟨n, hnn⟩ : ∃ n, n = ls.length := ⟨_, rfl⟩
  have HN : Hid (n = ls.length ∧ GS ls) := ⟨hnn, hG⟩
  have hn' : n ≤ 16 := by rw [hnn]; exact hG.len
  rw [← hnn] at h ⊢
  have H : Hid (RsC w (.slice a n c) ls) := h
  clear hnn h hG
  obtain ⟨w1, hw1⟩ : ∃ x, x = ((w.alloc (.cells #[.slice a n c] 30)).alloc (.cells #[.slice none 0 0] 30)).alloc (.cells #[.slice none 0 0] 30) := ⟨_, rfl⟩
  have HS : Hid (CP w w1 a n c none 0 0 ls 0 []) := by
    refine ⟨?_, ?_, ?_, by rw [List.take_zero]; exact RoF.nil _ _, by rw [hw1]; (repeat' (first | (with_reducible exact Below.refl _ _) | (with_reducible assumption) | (with_reducible refine Below.setCell ?_ ?_ _) | (with_reducible refine Below.alloc ?_ ?_ _) | (with_reducible refine below_drewN ?_ _) | (with_reducible refine Below.drew ?_) | (with_reducible exact Nat.le_refl _) | omega | (simp; done) | (simp; omega))), by rw [hw1]; simp⟩
    · rw [hw1]; exact (Below.heap_alloc _ _ _ (by simp <;> omega)).trans ((Below.heap_alloc _ _ _ (by simp)).trans (heap_alloc_new w _))
    · rw [hw1]; refine (Below.heap_alloc _ _ _ (by simp)).trans ?_; have := heap_alloc_new (w.alloc (.cells #[.slice a n c] 30)) (.cells #[.slice none 0 0] 30); simpa using this
    · rw [hw1]; have := heap_alloc_new ((w.alloc (.cells #[.slice a n c] 30)).alloc (.cells #[.slice none 0 0] 30)) (.cells #[.slice none 0 0] 30); simpa using this
  go_enter Try.func38, Try.ntmps38
  go_wp2
  rw [← hw1]
  clear hw1
  go_loopw [4] (fun i wr => ∃ j : Nat, j ≤ n ∧ i = .int .i64 j ∧ ∃ oa oc, Hid (∃ vs, CP w wr a n c oa j oc ls j vs)) (fun i _ => n - (intOf i).toNat)
  case atStart => exact ⟨0, Nat.zero_le _, rfl, none, 0, [], HS.out⟩
  case round =>
    clear HS
    obtain ⟨j, hjn, rfl, oa, oc, hR⟩ := hrel
    obtain ⟨vs, hCP⟩ := hR.out
    have HR : Hid (CP w wr a n c oa j oc ls j vs) := hCP
    have s0 := cellOf hCP.k0 0 rfl
    have s1 := ltOf hCP.k0
    clear hR
    by_cases hlt : j < n
    · obtain ⟨g, o, ua, un, uc, rfl, hg, c0, hun, hrd, hnil⟩ := (H.out.below hCP.bl).at hlt
      have hgw : g < w.heap.size := by
        obtain ⟨g', o', _, _, _, he, hg', _⟩ := H.out.at hlt
        injection he with he1
        injection he1 with he2
        rw [he2]; exact hg'
      have hgc := HN.out.2.col j (by rw [← HN.out.1]; exact hlt)
      obtain ⟨col, hcol⟩ : ∃ col, col = ls.getD j [] := ⟨_, rfl⟩
      rw [← hcol] at hun hrd hgc
      have hu24 : un ≤ 24 := by rw [hun]; exact hgc.len
      have HU : Hid (RG 2 flC wr (.slice ua un uc) col ∧ un = col.length ∧ (ua = none → un = 0 ∧ uc = 0)) := ⟨hrd, hun, hnil⟩
      have HLJ : Hid (j < ls.length ∧ col = ls.getD j []) := ⟨by rw [← HN.out.1]; exact hlt, hcol⟩
      have HTL : Hid ((ls.take j).length = j) := by unfold Hid; rw [List.length_take, ← HN.out.1]; omega
      have HC0 : Hid (∀ W, Below w.heap.size w W → W.cell? ⟨g, o + j, none⟩ = some (.slice ua un uc)) := fun W hW => by
        obtain ⟨g', o', xa, xn, xc, he, hg', c0', _⟩ := H.out.at hlt
        injection he with he1
        injection he1 with he2 he3
        subst he2 he3
        have e1 := (hCP.bl.cell (p := ⟨g, o + j, none⟩) hg').trans c0'
        rw [c0] at e1
        rw [(hW.cell (p := ⟨g, o + j, none⟩) hg').trans c0', ← e1]
      clear hrd hun hnil hgc hcol hCP
      have b0 : (0 : Int) ≤ (j : Int) := by omega
      have b1 : (j : Int) < (n : Int) := by omega
      go_wp2_with (fail)
      clear s0 s1 c0 hg
      have hS0 : Below wr.heap.size wr wr.drew := (Below.refl _ _).drew
      refine wp_region_holdsA (S := fun w' => Below w.heap.size w w' ∧ w'.heap[w.heap.size]? = some (.cells #[.slice (some ⟨g, o, none⟩) n c] 30)) (by kernel_rfl) ⟨HR.out.bl.trans (hS0.mono HR.out.bl.size), HR.out.k0⟩ (fun hS => ?_)
      refine fl_takeA (i := 0) (d := 13) (v := .pointer (some ⟨w.heap.size + 2, 0, none⟩)) rfl rfl rfl (by kernel_rfl) (by kernel_rfl) (by kernel_rfl) hS ?_ ?_
      · intro w' hk; obtain ⟨hk0, hk1⟩ := hk; have x0 := cellOf hk1 0 rfl; have x1 := ltOf hk1; have x2 := HC0.out w' hk0; have x3 : g < w'.heap.size := Nat.lt_of_lt_of_le hgw hk0.size; go_simp
      simp only [Act.put, List.setIfInBounds_toArray, List.set_cons_zero, List.set_cons_succ]
      refine fl_takeA (i := 3) (d := 16) (v := .pointer (some ⟨w.heap.size, 0, none⟩)) rfl rfl rfl (by kernel_rfl) (by kernel_rfl) (by kernel_rfl) hS ?_ ?_
      · intro w' hk; obtain ⟨hk0, hk1⟩ := hk; have x0 := cellOf hk1 0 rfl; have x1 := ltOf hk1; have x2 := HC0.out w' hk0; have x3 : g < w'.heap.size := Nat.lt_of_lt_of_le hgw hk0.size; go_simp
      simp only [Act.put, List.setIfInBounds_toArray, List.set_cons_zero, List.set_cons_succ]
      refine fl_takeA (i := 4) (d := 17) (v := .slice (some ⟨g, o, none⟩) n c) rfl rfl rfl (by kernel_rfl) (by kernel_rfl) (by kernel_rfl) hS ?_ ?_
      · intro w' hk; obtain ⟨hk0, hk1⟩ := hk; have x0 := cellOf hk1 0 rfl; have x1 := ltOf hk1; have x2 := HC0.out w' hk0; have x3 : g < w'.heap.size := Nat.lt_of_lt_of_le hgw hk0.size; go_simp
      simp only [Act.put, List.setIfInBounds_toArray, List.set_cons_zero, List.set_cons_succ]
      refine fl_takeA (i := 5) (d := 18) (v := .int .i64 j) rfl rfl rfl (by kernel_rfl) (by kernel_rfl) (by kernel_rfl) hS ?_ ?_
      · intro w' hk; obtain ⟨hk0, hk1⟩ := hk; have x0 := cellOf hk1 0 rfl; have x1 := ltOf hk1; have x2 := HC0.out w' hk0; have x3 : g < w'.heap.size := Nat.lt_of_lt_of_le hgw hk0.size; go_simp
      simp only [Act.put, List.setIfInBounds_toArray, List.set_cons_zero, List.set_cons_succ]
      refine fl_takeA (i := 6) (d := 19) (v := .pointer (some ⟨g, o + j, none⟩)) rfl rfl rfl (by kernel_rfl) (by kernel_rfl) (by kernel_rfl) hS ?_ ?_
      · intro w' hk; obtain ⟨hk0, hk1⟩ := hk; have x0 := cellOf hk1 0 rfl; have x1 := ltOf hk1; have x2 := HC0.out w' hk0; have x3 : g < w'.heap.size := Nat.lt_of_lt_of_le hgw hk0.size; go_simp
      simp only [Act.put, List.setIfInBounds_toArray, List.set_cons_zero, List.set_cons_succ]
      refine fl_takeA (i := 7) (d := 20) (v := .slice ua un uc) rfl rfl rfl (by kernel_rfl) (by kernel_rfl) (by kernel_rfl) hS ?_ ?_
      · intro w' hk; obtain ⟨hk0, hk1⟩ := hk; have x0 := cellOf hk1 0 rfl; have x1 := ltOf hk1; have x2 := HC0.out w' hk0; have x3 : g < w'.heap.size := Nat.lt_of_lt_of_le hgw hk0.size; go_simp
      simp only [Act.put, List.setIfInBounds_toArray, List.set_cons_zero, List.set_cons_succ]
      refine wpAnyH_all (rs := [1, 2]) (by kernel_rfl) (by simp) ?_
      intro i hi
      rcases (by simpa using hi : i = 1 ∨ i = 2) with rfl | rfl
      · clear hi
        have cb1 : wr.drew.cell? ⟨w.heap.size + 2, 0, none⟩ = some (.slice oa j oc) := cellOf (((hS0).block _ (ltOf HR.out.k2)).trans HR.out.k2) 0 rfl
        have lb1 : w.heap.size + 2 < wr.drew.heap.size := ltOf (((hS0).block _ (ltOf HR.out.k2)).trans HR.out.k2)
        refine op_val (d := 14) (v := .slice oa j oc) (w' := wr.drew) rfl rfl rfl (by go_simp) ?_
        simp only [Act.put, List.setIfInBounds_toArray, List.set_cons_zero, List.set_cons_succ]
        refine ⟨⟨HR.out.bl.trans ((hS0).mono HR.out.bl.size), ((hS0).block _ (ltOf HR.out.k0)).trans HR.out.k0⟩, ?_⟩
        refine wpAnyH_all (rs := [2]) (by kernel_rfl) (by simp) ?_
        intro i hi
        obtain rfl : i = 2 := by simpa using hi
        clear hi
        refine op_val (d := 15) (v := .slice (some ⟨wr.drew.heap.size, 0, none⟩) 0 0) (w' := wr.drew.alloc (.cells #[] 76)) rfl rfl rfl (by go_simp; try rfl) ?_
        simp only [Act.put, List.setIfInBounds_toArray, List.set_cons_zero, List.set_cons_succ]
        have hl12 : (wr.drew.alloc (.cells #[] 76)).ownsRow wr.heap.size 76 2 (.slice (some ⟨wr.drew.heap.size, 0, none⟩) 0 0) 0 [] := World.ownsRow_lit wr.drew #[] 0 (hS0).size (by decide) (by simp)
        have hk12 : Below wr.heap.size wr (wr.drew.alloc (.cells #[] 76)) := (hS0).alloc (hS0).size _
        obtain ⟨y12, hy12⟩ : ∃ y, y = wr.drew.alloc (.cells #[] 76) := ⟨_, rfl⟩
        rw [← hy12] at hl12 hk12 ⊢
        clear hy12
        refine ⟨⟨HR.out.bl.trans (hk12.mono HR.out.bl.size), (hk12.block _ (ltOf HR.out.k0)).trans HR.out.k0⟩, ?_⟩
        refine wpAnyH_all (rs := [8]) (by kernel_rfl) (by simp) ?_
        intro i hi
        obtain rfl : i = 8 := by simpa using hi
        clear hi
        refine op_appA rfl rfl rfl _ _ 62 rfl wr.heap.size 76 i1 (.agg #[.int .i64 0, .int .i64 0]) 2 16 Try.underlying62 hi1 hy0 hy1 hy2 rfl (by decide) (.slice (some ⟨wr.drew.heap.size, 0, none⟩) 0 0) 0 [] rfl hl12 ua un uc (col.flatMap flC) rfl (by rw [fm_length flC_len, HU.out.2.1]) HU.out.2.2 (row_newsF (HU.out.1.below hk12)) (flC_ones col) (by unfold maxLen; omega) (by omega) (hk12).size ?_
        intro v128 z128 hown128 hgrow128
        have hk128 : Below wr.heap.size wr z128 := (hk12).grown hgrow128 (hk12).size (fun q hq => (World.ownsRow.lt hl12 q hq).1)
        have ho128 : OG 76 2 flC z128 wr.heap.size v128 col := by
          unfold OG; rw [← HU.out.2.1]; rw [Nat.zero_add, List.nil_append] at hown128; exact hown128
        obtain ⟨va128, vc128, hve128⟩ := ho128.form
        rw [← HU.out.2.1] at hve128
        subst hve128
        clear hown128 hgrow128
        simp only [Act.put, List.setIfInBounds_toArray, List.set_cons_zero, List.set_cons_succ]
        refine ⟨⟨HR.out.bl.trans (hk128.mono HR.out.bl.size), (hk128.block _ (ltOf HR.out.k0)).trans HR.out.k0⟩, ?_⟩
        refine wpAnyH_all (rs := [9]) (by kernel_rfl) (by simp) ?_
        intro i hi
        obtain rfl : i = 9 := by simpa using hi
        clear hi
        refine op_val (d := 22) (v := .slice (some ⟨z128.heap.size, 0, none⟩) 1 1) (w' := z128.alloc (.cells #[.slice va128 un vc128] 62)) rfl rfl rfl (by go_simp; try rfl) ?_
        simp only [Act.put, List.setIfInBounds_toArray, List.set_cons_zero, List.set_cons_succ]
        have hk1289 : Below wr.heap.size wr (z128.alloc (.cells #[.slice va128 un vc128] 62)) := (hk128).alloc (hk128).size _
        have hn1289 := heap_alloc_new z128 (.cells #[.slice va128 un vc128] 62)
        refine ⟨⟨HR.out.bl.trans (hk1289.mono HR.out.bl.size), (hk1289.block _ (ltOf HR.out.k0)).trans HR.out.k0⟩, ?_⟩
        refine wpAnyH_all (rs := [10]) (by kernel_rfl) (by simp) ?_
        intro i hi
        obtain rfl : i = 10 := by simpa using hi
        clear hi
        have hoR : (z128.alloc (.cells #[.slice va128 un vc128] 62)).ownsRow (w.heap.size + 3) 62 1 (.slice oa j oc) j vs := by
          have h1 := (HR.out.ro.below hk1289).o
          rw [HTL.out] at h1
          exact h1
        refine op_appA rfl rfl rfl _ _ 28 rfl (w.heap.size + 3) 62 i0 (.slice none 0 0) 1 24 Try.underlying28 hi0 hz0 hz1 hz2 rfl (by decide) (.slice oa j oc) j vs rfl hoR (some ⟨z128.heap.size, 0, none⟩) 1 1 [.slice va128 un vc128] rfl rfl (fun h => by cases h) (fun ad h => by injection h with h; subst h; exact World.news_of_block (cs := #[.slice va128 un vc128]) (t := 62) (fr := (0, 0)) hn1289) (by simp [Value.oneCell']) (by unfold maxLen; omega) (by omega) (Nat.le_trans HR.out.sz (hk1289).size) ?_
        intro v6 w6 hown6 hgrow6
        have hCO : CO w w6 (some ⟨g, o, none⟩) n c oa j oc v6 ls (j + 1) ∧ w6.heap[w.heap.size + 2]? = some (.cells #[.slice oa j oc] 30) := CO.push HR.out HTL.out HLJ.out ho128 hk128 hown6 hgrow6
        simp only [Act.put, List.setIfInBounds_toArray, List.set_cons_zero, List.set_cons_succ]
        refine ⟨⟨hCO.1.bl, hCO.1.k0⟩, wpAnyH_all (rs := [11]) (by kernel_rfl) (by simp) ?_⟩
        intro i hi
        obtain rfl : i = 11 := by simpa using hi
        clear hi
        refine op_val (d := 24) (v := .pointer (some ⟨w.heap.size + 2, 0, none⟩)) (w' := w6) rfl rfl rfl (by go_simp; try rfl) ?_
        simp only [Act.put, List.setIfInBounds_toArray, List.set_cons_zero, List.set_cons_succ]
        refine ⟨⟨hCO.1.bl, hCO.1.k0⟩, wpAnyH_all (rs := [12]) (by kernel_rfl) (by simp) ?_⟩
        intro i hi
        obtain rfl : i = 12 := by simpa using hi
        clear hi
        obtain ⟨na, nc, hv6⟩ := hCO.1.form
        subst hv6
        have e0 := cellOf hCO.2 0 rfl
        have e1 := frozOf hCO.2 0
        have e2 := ltOf hCO.2
        refine op_skipN (w' := w6.setCell ⟨w.heap.size + 2, 0, none⟩ (.slice na (j + 1) nc)) rfl rfl (by go_simp) ?_
        have HNX : Hid (∃ vs, CP w (w6.setCell ⟨w.heap.size + 2, 0, none⟩ (.slice na (j + 1) nc)) (some ⟨g, o, none⟩) n c na (j + 1) nc ls (j + 1) vs) := CO.set hCO.1 hCO.2
        refine ⟨⟨by obtain ⟨_, h9⟩ := HNX.out; exact h9.bl, by obtain ⟨_, h9⟩ := HNX.out; exact h9.k0⟩, wpAnyH_done (by kernel_rfl) (NoPanic.normal ?_) _⟩
        clear hCO e0 e1 e2
        go_wp2
        go_roundw
        case rel => exact ⟨j + 1, by omega, by go_num, na, nc, HNX.out⟩
        case measure => simp [intOf]; omega
      · clear hi
        refine op_val (d := 15) (v := .slice (some ⟨wr.drew.heap.size, 0, none⟩) 0 0) (w' := wr.drew.alloc (.cells #[] 76)) rfl rfl rfl (by go_simp; try rfl) ?_
        simp only [Act.put, List.setIfInBounds_toArray, List.set_cons_zero, List.set_cons_succ]
        have hl2 : (wr.drew.alloc (.cells #[] 76)).ownsRow wr.heap.size 76 2 (.slice (some ⟨wr.drew.heap.size, 0, none⟩) 0 0) 0 [] := World.ownsRow_lit wr.drew #[] 0 (hS0).size (by decide) (by simp)
        have hk2 : Below wr.heap.size wr (wr.drew.alloc (.cells #[] 76)) := (hS0).alloc (hS0).size _
        obtain ⟨y2, hy2⟩ : ∃ y, y = wr.drew.alloc (.cells #[] 76) := ⟨_, rfl⟩
        rw [← hy2] at hl2 hk2 ⊢
        clear hy2
        refine ⟨⟨HR.out.bl.trans (hk2.mono HR.out.bl.size), (hk2.block _ (ltOf HR.out.k0)).trans HR.out.k0⟩, ?_⟩
        refine wpAnyH_all (rs := [1, 8]) (by kernel_rfl) (by simp) ?_
        intro i hi
        rcases (by simpa using hi : i = 1 ∨ i = 8) with rfl | rfl
        · clear hi
          have cb21 : y2.cell? ⟨w.heap.size + 2, 0, none⟩ = some (.slice oa j oc) := cellOf (((hk2).block _ (ltOf HR.out.k2)).trans HR.out.k2) 0 rfl
          have lb21 : w.heap.size + 2 < y2.heap.size := ltOf (((hk2).block _ (ltOf HR.out.k2)).trans HR.out.k2)
          refine op_val (d := 14) (v := .slice oa j oc) (w' := y2) rfl rfl rfl (by go_simp) ?_
          simp only [Act.put, List.setIfInBounds_toArray, List.set_cons_zero, List.set_cons_succ]
          refine ⟨⟨HR.out.bl.trans ((hk2).mono HR.out.bl.size), ((hk2).block _ (ltOf HR.out.k0)).trans HR.out.k0⟩, ?_⟩
          refine wpAnyH_all (rs := [8]) (by kernel_rfl) (by simp) ?_
          intro i hi
          obtain rfl : i = 8 := by simpa using hi
          clear hi
          refine op_appA rfl rfl rfl _ _ 62 rfl wr.heap.size 76 i1 (.agg #[.int .i64 0, .int .i64 0]) 2 16 Try.underlying62 hi1 hy0 hy1 hy2 rfl (by decide) (.slice (some ⟨wr.drew.heap.size, 0, none⟩) 0 0) 0 [] rfl hl2 ua un uc (col.flatMap flC) rfl (by rw [fm_length flC_len, HU.out.2.1]) HU.out.2.2 (row_newsF (HU.out.1.below hk2)) (flC_ones col) (by unfold maxLen; omega) (by omega) (hk2).size ?_
          intro v218 z218 hown218 hgrow218
          have hk218 : Below wr.heap.size wr z218 := (hk2).grown hgrow218 (hk2).size (fun q hq => (World.ownsRow.lt hl2 q hq).1)
          have ho218 : OG 76 2 flC z218 wr.heap.size v218 col := by
            unfold OG; rw [← HU.out.2.1]; rw [Nat.zero_add, List.nil_append] at hown218; exact hown218
          obtain ⟨va218, vc218, hve218⟩ := ho218.form
          rw [← HU.out.2.1] at hve218
          subst hve218
          clear hown218 hgrow218
          simp only [Act.put, List.setIfInBounds_toArray, List.set_cons_zero, List.set_cons_succ]
          refine ⟨⟨HR.out.bl.trans (hk218.mono HR.out.bl.size), (hk218.block _ (ltOf HR.out.k0)).trans HR.out.k0⟩, ?_⟩
          refine wpAnyH_all (rs := [9]) (by kernel_rfl) (by simp) ?_
          intro i hi
          obtain rfl : i = 9 := by simpa using hi
          clear hi
          refine op_val (d := 22) (v := .slice (some ⟨z218.heap.size, 0, none⟩) 1 1) (w' := z218.alloc (.cells #[.slice va218 un vc218] 62)) rfl rfl rfl (by go_simp; try rfl) ?_
          simp only [Act.put, List.setIfInBounds_toArray, List.set_cons_zero, List.set_cons_succ]
          have hk2189 : Below wr.heap.size wr (z218.alloc (.cells #[.slice va218 un vc218] 62)) := (hk218).alloc (hk218).size _
          have hn2189 := heap_alloc_new z218 (.cells #[.slice va218 un vc218] 62)
          refine ⟨⟨HR.out.bl.trans (hk2189.mono HR.out.bl.size), (hk2189.block _ (ltOf HR.out.k0)).trans HR.out.k0⟩, ?_⟩
          refine wpAnyH_all (rs := [10]) (by kernel_rfl) (by simp) ?_
          intro i hi
          obtain rfl : i = 10 := by simpa using hi
          clear hi
          have hoR : (z218.alloc (.cells #[.slice va218 un vc218] 62)).ownsRow (w.heap.size + 3) 62 1 (.slice oa j oc) j vs := by
            have h1 := (HR.out.ro.below hk2189).o
            rw [HTL.out] at h1
            exact h1
          refine op_appA rfl rfl rfl _ _ 28 rfl (w.heap.size + 3) 62 i0 (.slice none 0 0) 1 24 Try.underlying28 hi0 hz0 hz1 hz2 rfl (by decide) (.slice oa j oc) j vs rfl hoR (some ⟨z218.heap.size, 0, none⟩) 1 1 [.slice va218 un vc218] rfl rfl (fun h => by cases h) (fun ad h => by injection h with h; subst h; exact World.news_of_block (cs := #[.slice va218 un vc218]) (t := 62) (fr := (0, 0)) hn2189) (by simp [Value.oneCell']) (by unfold maxLen; omega) (by omega) (Nat.le_trans HR.out.sz (hk2189).size) ?_
          intro v6 w6 hown6 hgrow6
          have hCO : CO w w6 (some ⟨g, o, none⟩) n c oa j oc v6 ls (j + 1) ∧ w6.heap[w.heap.size + 2]? = some (.cells #[.slice oa j oc] 30) := CO.push HR.out HTL.out HLJ.out ho218 hk218 hown6 hgrow6
          simp only [Act.put, List.setIfInBounds_toArray, List.set_cons_zero, List.set_cons_succ]
          refine ⟨⟨hCO.1.bl, hCO.1.k0⟩, wpAnyH_all (rs := [11]) (by kernel_rfl) (by simp) ?_⟩
          intro i hi
          obtain rfl : i = 11 := by simpa using hi
          clear hi
          refine op_val (d := 24) (v := .pointer (some ⟨w.heap.size + 2, 0, none⟩)) (w' := w6) rfl rfl rfl (by go_simp; try rfl) ?_
          simp only [Act.put, List.setIfInBounds_toArray, List.set_cons_zero, List.set_cons_succ]
          refine ⟨⟨hCO.1.bl, hCO.1.k0⟩, wpAnyH_all (rs := [12]) (by kernel_rfl) (by simp) ?_⟩
          intro i hi
          obtain rfl : i = 12 := by simpa using hi
          clear hi
          obtain ⟨na, nc, hv6⟩ := hCO.1.form
          subst hv6
          have e0 := cellOf hCO.2 0 rfl
          have e1 := frozOf hCO.2 0
          have e2 := ltOf hCO.2
          refine op_skipN (w' := w6.setCell ⟨w.heap.size + 2, 0, none⟩ (.slice na (j + 1) nc)) rfl rfl (by go_simp) ?_
          have HNX : Hid (∃ vs, CP w (w6.setCell ⟨w.heap.size + 2, 0, none⟩ (.slice na (j + 1) nc)) (some ⟨g, o, none⟩) n c na (j + 1) nc ls (j + 1) vs) := CO.set hCO.1 hCO.2
          refine ⟨⟨by obtain ⟨_, h9⟩ := HNX.out; exact h9.bl, by obtain ⟨_, h9⟩ := HNX.out; exact h9.k0⟩, wpAnyH_done (by kernel_rfl) (NoPanic.normal ?_) _⟩
          clear hCO e0 e1 e2
          go_wp2
          go_roundw
          case rel => exact ⟨j + 1, by omega, by go_num, na, nc, HNX.out⟩
          case measure => simp [intOf]; omega
        · clear hi
          refine op_appA rfl rfl rfl _ _ 62 rfl wr.heap.size 76 i1 (.agg #[.int .i64 0, .int .i64 0]) 2 16 Try.underlying62 hi1 hy0 hy1 hy2 rfl (by decide) (.slice (some ⟨wr.drew.heap.size, 0, none⟩) 0 0) 0 [] rfl hl2 ua un uc (col.flatMap flC) rfl (by rw [fm_length flC_len, HU.out.2.1]) HU.out.2.2 (row_newsF (HU.out.1.below hk2)) (flC_ones col) (by unfold maxLen; omega) (by omega) (hk2).size ?_
          intro v28 z28 hown28 hgrow28
          have hk28 : Below wr.heap.size wr z28 := (hk2).grown hgrow28 (hk2).size (fun q hq => (World.ownsRow.lt hl2 q hq).1)
          have ho28 : OG 76 2 flC z28 wr.heap.size v28 col := by
            unfold OG; rw [← HU.out.2.1]; rw [Nat.zero_add, List.nil_append] at hown28; exact hown28
          obtain ⟨va28, vc28, hve28⟩ := ho28.form
          rw [← HU.out.2.1] at hve28
          subst hve28
          clear hown28 hgrow28
          simp only [Act.put, List.setIfInBounds_toArray, List.set_cons_zero, List.set_cons_succ]
          refine ⟨⟨HR.out.bl.trans (hk28.mono HR.out.bl.size), (hk28.block _ (ltOf HR.out.k0)).trans HR.out.k0⟩, ?_⟩
          refine wpAnyH_all (rs := [1, 9]) (by kernel_rfl) (by simp) ?_
          intro i hi
          rcases (by simpa using hi : i = 1 ∨ i = 9) with rfl | rfl
          · clear hi
            have cb281 : z28.cell? ⟨w.heap.size + 2, 0, none⟩ = some (.slice oa j oc) := cellOf (((hk28).block _ (ltOf HR.out.k2)).trans HR.out.k2) 0 rfl
            have lb281 : w.heap.size + 2 < z28.heap.size := ltOf (((hk28).block _ (ltOf HR.out.k2)).trans HR.out.k2)
            refine op_val (d := 14) (v := .slice oa j oc) (w' := z28) rfl rfl rfl (by go_simp) ?_
            simp only [Act.put, List.setIfInBounds_toArray, List.set_cons_zero, List.set_cons_succ]
            refine ⟨⟨HR.out.bl.trans ((hk28).mono HR.out.bl.size), ((hk28).block _ (ltOf HR.out.k0)).trans HR.out.k0⟩, ?_⟩
            refine wpAnyH_all (rs := [9]) (by kernel_rfl) (by simp) ?_
            intro i hi
            obtain rfl : i = 9 := by simpa using hi
            clear hi
            refine op_val (d := 22) (v := .slice (some ⟨z28.heap.size, 0, none⟩) 1 1) (w' := z28.alloc (.cells #[.slice va28 un vc28] 62)) rfl rfl rfl (by go_simp; try rfl) ?_
            simp only [Act.put, List.setIfInBounds_toArray, List.set_cons_zero, List.set_cons_succ]
            have hk2819 : Below wr.heap.size wr (z28.alloc (.cells #[.slice va28 un vc28] 62)) := (hk28).alloc (hk28).size _
            have hn2819 := heap_alloc_new z28 (.cells #[.slice va28 un vc28] 62)
            refine ⟨⟨HR.out.bl.trans (hk2819.mono HR.out.bl.size), (hk2819.block _ (ltOf HR.out.k0)).trans HR.out.k0⟩, ?_⟩
            refine wpAnyH_all (rs := [10]) (by kernel_rfl) (by simp) ?_
            intro i hi
            obtain rfl : i = 10 := by simpa using hi
            clear hi
            have hoR : (z28.alloc (.cells #[.slice va28 un vc28] 62)).ownsRow (w.heap.size + 3) 62 1 (.slice oa j oc) j vs := by
              have h1 := (HR.out.ro.below hk2819).o
              rw [HTL.out] at h1
              exact h1
            refine op_appA rfl rfl rfl _ _ 28 rfl (w.heap.size + 3) 62 i0 (.slice none 0 0) 1 24 Try.underlying28 hi0 hz0 hz1 hz2 rfl (by decide) (.slice oa j oc) j vs rfl hoR (some ⟨z28.heap.size, 0, none⟩) 1 1 [.slice va28 un vc28] rfl rfl (fun h => by cases h) (fun ad h => by injection h with h; subst h; exact World.news_of_block (cs := #[.slice va28 un vc28]) (t := 62) (fr := (0, 0)) hn2819) (by simp [Value.oneCell']) (by unfold maxLen; omega) (by omega) (Nat.le_trans HR.out.sz (hk2819).size) ?_
            intro v6 w6 hown6 hgrow6
            have hCO : CO w w6 (some ⟨g, o, none⟩) n c oa j oc v6 ls (j + 1) ∧ w6.heap[w.heap.size + 2]? = some (.cells #[.slice oa j oc] 30) := CO.push HR.out HTL.out HLJ.out ho28 hk28 hown6 hgrow6
            simp only [Act.put, List.setIfInBounds_toArray, List.set_cons_zero, List.set_cons_succ]
            refine ⟨⟨hCO.1.bl, hCO.1.k0⟩, wpAnyH_all (rs := [11]) (by kernel_rfl) (by simp) ?_⟩
            intro i hi
            obtain rfl : i = 11 := by simpa using hi
            clear hi
            refine op_val (d := 24) (v := .pointer (some ⟨w.heap.size + 2, 0, none⟩)) (w' := w6) rfl rfl rfl (by go_simp; try rfl) ?_
            simp only [Act.put, List.setIfInBounds_toArray, List.set_cons_zero, List.set_cons_succ]
            refine ⟨⟨hCO.1.bl, hCO.1.k0⟩, wpAnyH_all (rs := [12]) (by kernel_rfl) (by simp) ?_⟩
            intro i hi
            obtain rfl : i = 12 := by simpa using hi
            clear hi
            obtain ⟨na, nc, hv6⟩ := hCO.1.form
            subst hv6
            have e0 := cellOf hCO.2 0 rfl
            have e1 := frozOf hCO.2 0
            have e2 := ltOf hCO.2
            refine op_skipN (w' := w6.setCell ⟨w.heap.size + 2, 0, none⟩ (.slice na (j + 1) nc)) rfl rfl (by go_simp) ?_
            have HNX : Hid (∃ vs, CP w (w6.setCell ⟨w.heap.size + 2, 0, none⟩ (.slice na (j + 1) nc)) (some ⟨g, o, none⟩) n c na (j + 1) nc ls (j + 1) vs) := CO.set hCO.1 hCO.2
            refine ⟨⟨by obtain ⟨_, h9⟩ := HNX.out; exact h9.bl, by obtain ⟨_, h9⟩ := HNX.out; exact h9.k0⟩, wpAnyH_done (by kernel_rfl) (NoPanic.normal ?_) _⟩
            clear hCO e0 e1 e2
            go_wp2
            go_roundw
            case rel => exact ⟨j + 1, by omega, by go_num, na, nc, HNX.out⟩
            case measure => simp [intOf]; omega
          · clear hi
            refine op_val (d := 22) (v := .slice (some ⟨z28.heap.size, 0, none⟩) 1 1) (w' := z28.alloc (.cells #[.slice va28 un vc28] 62)) rfl rfl rfl (by go_simp; try rfl) ?_
            simp only [Act.put, List.setIfInBounds_toArray, List.set_cons_zero, List.set_cons_succ]
            have hk289 : Below wr.heap.size wr (z28.alloc (.cells #[.slice va28 un vc28] 62)) := (hk28).alloc (hk28).size _
            have hn289 := heap_alloc_new z28 (.cells #[.slice va28 un vc28] 62)
            refine ⟨⟨HR.out.bl.trans (hk289.mono HR.out.bl.size), (hk289.block _ (ltOf HR.out.k0)).trans HR.out.k0⟩, ?_⟩
            refine wpAnyH_all (rs := [1]) (by kernel_rfl) (by simp) ?_
            intro i hi
            obtain rfl : i = 1 := by simpa using hi
            clear hi
            have cb2891 : (z28.alloc (.cells #[.slice va28 un vc28] 62)).cell? ⟨w.heap.size + 2, 0, none⟩ = some (.slice oa j oc) := cellOf (((hk289).block _ (ltOf HR.out.k2)).trans HR.out.k2) 0 rfl
            have lb2891 : w.heap.size + 2 < (z28.alloc (.cells #[.slice va28 un vc28] 62)).heap.size := ltOf (((hk289).block _ (ltOf HR.out.k2)).trans HR.out.k2)
            refine op_val (d := 14) (v := .slice oa j oc) (w' := (z28.alloc (.cells #[.slice va28 un vc28] 62))) rfl rfl rfl (by go_simp) ?_
            simp only [Act.put, List.setIfInBounds_toArray, List.set_cons_zero, List.set_cons_succ]
            refine ⟨⟨HR.out.bl.trans ((hk289).mono HR.out.bl.size), ((hk289).block _ (ltOf HR.out.k0)).trans HR.out.k0⟩, ?_⟩
            refine wpAnyH_all (rs := [10]) (by kernel_rfl) (by simp) ?_
            intro i hi
            obtain rfl : i = 10 := by simpa using hi
            clear hi
            have hoR : (z28.alloc (.cells #[.slice va28 un vc28] 62)).ownsRow (w.heap.size + 3) 62 1 (.slice oa j oc) j vs := by
              have h1 := (HR.out.ro.below hk289).o
              rw [HTL.out] at h1
              exact h1
            refine op_appA rfl rfl rfl _ _ 28 rfl (w.heap.size + 3) 62 i0 (.slice none 0 0) 1 24 Try.underlying28 hi0 hz0 hz1 hz2 rfl (by decide) (.slice oa j oc) j vs rfl hoR (some ⟨z28.heap.size, 0, none⟩) 1 1 [.slice va28 un vc28] rfl rfl (fun h => by cases h) (fun ad h => by injection h with h; subst h; exact World.news_of_block (cs := #[.slice va28 un vc28]) (t := 62) (fr := (0, 0)) hn289) (by simp [Value.oneCell']) (by unfold maxLen; omega) (by omega) (Nat.le_trans HR.out.sz (hk289).size) ?_
            intro v6 w6 hown6 hgrow6
            have hCO : CO w w6 (some ⟨g, o, none⟩) n c oa j oc v6 ls (j + 1) ∧ w6.heap[w.heap.size + 2]? = some (.cells #[.slice oa j oc] 30) := CO.push HR.out HTL.out HLJ.out ho28 hk28 hown6 hgrow6
            simp only [Act.put, List.setIfInBounds_toArray, List.set_cons_zero, List.set_cons_succ]
            refine ⟨⟨hCO.1.bl, hCO.1.k0⟩, wpAnyH_all (rs := [11]) (by kernel_rfl) (by simp) ?_⟩
            intro i hi
            obtain rfl : i = 11 := by simpa using hi
            clear hi
            refine op_val (d := 24) (v := .pointer (some ⟨w.heap.size + 2, 0, none⟩)) (w' := w6) rfl rfl rfl (by go_simp; try rfl) ?_
            simp only [Act.put, List.setIfInBounds_toArray, List.set_cons_zero, List.set_cons_succ]
            refine ⟨⟨hCO.1.bl, hCO.1.k0⟩, wpAnyH_all (rs := [12]) (by kernel_rfl) (by simp) ?_⟩
            intro i hi
            obtain rfl : i = 12 := by simpa using hi
            clear hi
            obtain ⟨na, nc, hv6⟩ := hCO.1.form
            subst hv6
            have e0 := cellOf hCO.2 0 rfl
            have e1 := frozOf hCO.2 0
            have e2 := ltOf hCO.2
            refine op_skipN (w' := w6.setCell ⟨w.heap.size + 2, 0, none⟩ (.slice na (j + 1) nc)) rfl rfl (by go_simp) ?_
            have HNX : Hid (∃ vs, CP w (w6.setCell ⟨w.heap.size + 2, 0, none⟩ (.slice na (j + 1) nc)) (some ⟨g, o, none⟩) n c na (j + 1) nc ls (j + 1) vs) := CO.set hCO.1 hCO.2
            refine ⟨⟨by obtain ⟨_, h9⟩ := HNX.out; exact h9.bl, by obtain ⟨_, h9⟩ := HNX.out; exact h9.k0⟩, wpAnyH_done (by kernel_rfl) (NoPanic.normal ?_) _⟩
            clear hCO e0 e1 e2
            go_wp2
            go_roundw
            case rel => exact ⟨j + 1, by omega, by go_num, na, nc, HNX.out⟩
            case measure => simp [intOf]; omega
    · have hjn' : j = n := by omega
      have k1 := HR.out.k1
      have k2 := HR.out.k2
      have p0 := cellOf k2 0 rfl
      have p1 := ltOf k2
      have t0 := cellOf k1 0 rfl
      have t1 := frozOf k1 0
      have t2 := ltOf k1
      obtain ⟨W, hW⟩ : ∃ W, W = wr.setCell ⟨w.heap.size + 1, 0, none⟩ (.slice oa j oc) := ⟨_, rfl⟩
      have HF : Hid (RoF W w.heap.size (.slice oa j oc) ls vs ∧ Below w.heap.size w W) := by
        have h1 := HR.out.ro
        rw [show ls.take j = ls by rw [show j = ls.length by rw [← HN.out.1]; exact hjn']; exact List.take_length] at h1
        have ho : ∀ q, w.heap.size + 3 ≤ q → W.heap[q]? = wr.heap[q]? := fun q hq => by rw [hW, heap_setCell_other _ _ _ _ (by simp; omega)]
        refine ⟨(h1.kept (fun q hq => ho q (rowBlk h1.o hq).1) (fun i hi q hq => ho q (rowBlk (h1.bx i hi) hq).1)).low (by omega), ?_⟩
        rw [hW]; have := HR.out.bl; (repeat' (first | (with_reducible exact Below.refl _ _) | (with_reducible assumption) | (with_reducible refine Below.setCell ?_ ?_ _) | (with_reducible refine Below.alloc ?_ ?_ _) | (with_reducible refine below_drewN ?_ _) | (with_reducible refine Below.drew ?_) | (with_reducible exact Nat.le_refl _) | omega | (simp; done) | (simp; omega)))
      have HWW : Hid _ := hW
      clear hW k1 k2 hCP hjn'
      go_wp2
      rw [← HWW.out]
      refine bodyPost_ret (by rw [HWW.out]; simp [results, Try.results38, go_sem, t0, t2]; try rfl) rfl ?_
      first | exact ⟨_, vs, rfl, HF.out.1, HF.out.2⟩ | exact ⟨_, rfl, ⟨vs, HF.out.1⟩, HF.out.2⟩

end Go.Proofs.Ytceljakmjddgbab
