/- Proved here: afterStep of the program, whatever its step. -/
import Derived.Test.YtceljakmjddgbabAfM
import Derived.Test.YtceljakmjddgbabLyB
import Derived.Test.YtceljakmjddgbabLyP
import Derived.Test.YtceljakmjddgbabLyW
import Derived.Test.YtceljakmjddgbabInsC
import Derived.Laws.OwnMore
namespace Go.Proofs.Ytceljakmjddgbab
open Go.RowKit
set_option linter.unusedVariables false
set_option linter.unusedSimpArgs false

set_option maxRecDepth 10000 in
set_option maxHeartbeats 25600000 in
theorem impl_after {F : Nat} {caps : Array Value} {w : World} {v : Value} {s : List (List Flm)} {lays : Nat → List Lay} (hn : s.length ≤ 16) (hst : StepOk F caps w s lays) (h : RsF w v s) :
    Calls Try.prog 45 #[.agg #[v], .func (.func F) #[] caps] w fun e w' => ∃ u vs gG, e = .returned (.agg #[.int .i64 0, u, .slice (some ⟨gG, 0, none⟩) 12 12]) ∧ RoF w' w.heap.size u (aftS lays s.length) vs ∧ IS w' w.heap.size (.slice (some ⟨gG, 0, none⟩) 12 12) (goA lays s.length) ∧ Below w.heap.size w w' := by
  obtain ⟨a, c, rfl⟩ := h.form
  obtain ⟨n, hnn⟩ : ∃ n, n = s.length := ⟨_, rfl⟩
  rw [← hnn] at h hn ⊢
  have hent := hst.enter
  have HST : Hid (StepOk F caps w s lays) := hst
  have HN : Hid (n = s.length) := hnn
  have H : Hid (RsF w (.slice a n c) s) := h
  clear h hnn hst
  obtain ⟨i0, hi0, hz0, hz1, hz2⟩ := info_parts info_rowF
  obtain ⟨i1, hi1, hy0, hy1, hy2⟩ := info_parts info_i64
  obtain ⟨V, hV⟩ : ∃ V, V = (w.alloc (.cells #[.slice a n c] 30)).alloc (.cells #[.int .i64 0, .slice none 0 0, .slice none 0 0] 32) := ⟨_, rfl⟩
  have hbV : Below w.heap.size w V := by rw [hV]; (repeat' (first | (with_reducible exact Below.refl _ _) | (with_reducible assumption) | (with_reducible refine Below.setCell ?_ ?_ _) | (with_reducible refine Below.alloc ?_ ?_ _) | (with_reducible refine below_drewN ?_ _) | (with_reducible refine Below.drew ?_) | (with_reducible exact Nat.le_refl _) | omega | (simp; done) | (simp; omega)))
  have k0 : V.heap[w.heap.size]? = some (.cells #[.slice a n c] 30) := by rw [hV]; exact (Below.heap_alloc _ _ _ (by simp)).trans (heap_alloc_new w _)
  have k1 : V.heap[w.heap.size + 1]? = some (.cells #[.int .i64 0, .slice none 0 0, .slice none 0 0] 32) := by rw [hV]; have := heap_alloc_new (w.alloc (.cells #[.slice a n c] 30)) (.cells #[.int .i64 0, .slice none 0 0, .slice none 0 0] 32); simpa using this
  have hVs : V.heap.size = w.heap.size + 2 := by rw [hV]; simp
  have HV : Hid (Below w.heap.size w V ∧ V.heap[w.heap.size]? = some (.cells #[.slice a n c] 30) ∧ V.heap[w.heap.size + 1]? = some (.cells #[.int .i64 0, .slice none 0 0, .slice none 0 0] 32) ∧ V.heap.size = w.heap.size + 2) := ⟨hbV, k0, k1, hVs⟩
  have q0 : V.cell? ⟨w.heap.size, 0, none⟩ = some (.slice a n c) := by simp [World.cell?, k0]
  have q1 : w.heap.size < V.heap.size := by omega
  clear hbV k0 k1 hVs
  go_enter Try.func45, Try.ntmps45
  go_upto_region 1 with fail
  rw [← hV]
  clear hV
  go_cut [5, 6] from 11 (fun r5 r6 wx => ∃ gC gG, r5 = .slice (some ⟨gC, 0, none⟩) n n ∧ r6 = .slice (some ⟨gG, 0, none⟩) 12 12 ∧ Hid (AS V gC gG n (aftK lays n 0 0) (List.replicate 12 0) wx))
  case first =>
    refine wp_region_float (by kernel_rfl) (fun hS => ?_)
    refine fl_take (i := 0) (d := 11) (v := .pointer (some ⟨w.heap.size, 0, none⟩)) rfl rfl rfl (by kernel_rfl) (by kernel_rfl) (by kernel_rfl) hS ?_ ?_
    · intro w' hk; go_simp
    simp only [Act.put, List.setIfInBounds_toArray, List.set_cons_zero, List.set_cons_succ]
    refine fl_take (i := 1) (d := 12) (v := .slice a n c) rfl rfl rfl (by kernel_rfl) (by kernel_rfl) (by kernel_rfl) hS ?_ ?_
    · intro w' hk; go_simp
    simp only [Act.put, List.setIfInBounds_toArray, List.set_cons_zero, List.set_cons_succ]
    refine fl_take (i := 2) (d := 13) (v := .int .i64 n) rfl rfl rfl (by kernel_rfl) (by kernel_rfl) (by kernel_rfl) hS ?_ ?_
    · intro w' hk; go_simp
    simp only [Act.put, List.setIfInBounds_toArray, List.set_cons_zero, List.set_cons_succ]
    refine wpAnyH_all (rs := [3, 4]) (by kernel_rfl) (by simp) ?_
    intro i hi
    rcases (by simpa using hi : i = 3 ∨ i = 4) with rfl | rfl
    · clear hi
      obtain ⟨y3, hr3, hown3, hgrow3⟩ := run_make_full (P := Try.prog) V.drew V.heap.size 28 62 i0 (.slice none 0 0) 1 Try.underlying28 hi0 hz0 hz1 .i64 .i64 n (by rw [hz2]; omega) (by unfold maxLen; omega) (hS.2).size
      rw [show (Value.slice none 0 0).cells = #[Value.slice none 0 0] from rfl, toList_madeCells_one, Nat.mul_one] at hown3
      have hbb3 : Below V.drew.heap.size V.drew y3 := (Below.refl _ _).grown hgrow3 (Nat.le_refl _) (fun k h => by cases h)
      have hk3 : Below V.heap.size V y3 := (hS.2).trans (hbb3.mono (hS.2).size)
      refine op_val (d := 14) (v := .slice (some ⟨V.drew.heap.size, 0, none⟩) n n) (w' := y3) rfl rfl rfl (by go_simp) ?_
      simp only [Act.put, List.setIfInBounds_toArray, List.set_cons_zero, List.set_cons_succ]
      refine ⟨KS.of hk3, ?_⟩
      refine wpAnyH_all (rs := [4, 5]) (by kernel_rfl) (by simp) ?_
      intro i hi
      rcases (by simpa using hi : i = 4 ∨ i = 5) with rfl | rfl
      · clear hi
        obtain ⟨y3_4, hr3_4, hown3_4, hgrow3_4⟩ := run_make_full (P := Try.prog) y3 V.heap.size 25 2 i1 (.int .i64 0) 1 Try.underlying25 hi1 hy0 hy1 .i64 .i64 12 (by rw [hy2]; omega) (by unfold maxLen; omega) (hk3).size
        rw [show (Value.int IntKind.i64 0).cells = #[Value.int IntKind.i64 0] from rfl, toList_madeCells_one, Nat.mul_one] at hown3_4
        have hr3_4 : (Instr.makeSlice 25 (.int .i64 12) (.int .i64 12)).run Try.prog y3 = .ok (.slice (some ⟨y3.heap.size, 0, none⟩) 12 12) y3_4 := hr3_4
        have hbb3_4 : Below y3.heap.size y3 y3_4 := (Below.refl _ _).grown hgrow3_4 (Nat.le_refl _) (fun k h => by cases h)
        have hk3_4 : Below V.heap.size V y3_4 := (hk3).trans (hbb3_4.mono (hk3).size)
        have oC3_4 := rowKept hown3 (fun q hq => hbb3_4.block q (rowBlk hown3 hq).2.1)
        refine op_val (d := 15) (v := .slice (some ⟨y3.heap.size, 0, none⟩) 12 12) (w' := y3_4) rfl rfl rfl (by go_simp) ?_
        simp only [Act.put, List.setIfInBounds_toArray, List.set_cons_zero, List.set_cons_succ]
        refine ⟨KS.of hk3_4, ?_⟩
        refine wpAnyH_all (rs := [5]) (by kernel_rfl) (by simp) ?_
        intro i hi
        obtain rfl : i = 5 := by simpa using hi
        clear hi
        refine op_val (d := 5) (v := .slice (some ⟨V.drew.heap.size, 0, none⟩) n n) (w' := y3_4) rfl rfl rfl (by go_simp; try rfl) ?_
        simp only [Act.put, List.setIfInBounds_toArray, List.set_cons_zero, List.set_cons_succ]
        refine ⟨KS.of hk3_4, ?_⟩
        refine wpAnyH_all (rs := [6]) (by kernel_rfl) (by simp) ?_
        intro i hi
        obtain rfl : i = 6 := by simpa using hi
        clear hi
        refine op_val (d := 6) (v := .slice (some ⟨y3.heap.size, 0, none⟩) 12 12) (w' := y3_4) rfl rfl rfl (by go_simp; try rfl) ?_
        simp only [Act.put, List.setIfInBounds_toArray, List.set_cons_zero, List.set_cons_succ]
        refine ⟨KS.of hk3_4, wpAnyH_done (by kernel_rfl) (NoPanic.normal ?_) _⟩
        go_wp2_with (fail)
        go_meet
        exact ⟨V.drew.heap.size, y3.heap.size, rfl, rfl, ⟨_, by rw [aftK_zero]; exact RoF.empt oC3_4⟩, book_made hown3_4, hk3_4⟩
      · clear hi
        refine op_val (d := 5) (v := .slice (some ⟨V.drew.heap.size, 0, none⟩) n n) (w' := y3) rfl rfl rfl (by go_simp; try rfl) ?_
        simp only [Act.put, List.setIfInBounds_toArray, List.set_cons_zero, List.set_cons_succ]
        refine ⟨KS.of hk3, ?_⟩
        refine wpAnyH_all (rs := [4]) (by kernel_rfl) (by simp) ?_
        intro i hi
        obtain rfl : i = 4 := by simpa using hi
        clear hi
        obtain ⟨y3_5_4, hr3_5_4, hown3_5_4, hgrow3_5_4⟩ := run_make_full (P := Try.prog) y3 V.heap.size 25 2 i1 (.int .i64 0) 1 Try.underlying25 hi1 hy0 hy1 .i64 .i64 12 (by rw [hy2]; omega) (by unfold maxLen; omega) (hk3).size
        rw [show (Value.int IntKind.i64 0).cells = #[Value.int IntKind.i64 0] from rfl, toList_madeCells_one, Nat.mul_one] at hown3_5_4
        have hr3_5_4 : (Instr.makeSlice 25 (.int .i64 12) (.int .i64 12)).run Try.prog y3 = .ok (.slice (some ⟨y3.heap.size, 0, none⟩) 12 12) y3_5_4 := hr3_5_4
        have hbb3_5_4 : Below y3.heap.size y3 y3_5_4 := (Below.refl _ _).grown hgrow3_5_4 (Nat.le_refl _) (fun k h => by cases h)
        have hk3_5_4 : Below V.heap.size V y3_5_4 := (hk3).trans (hbb3_5_4.mono (hk3).size)
        have oC3_5_4 := rowKept hown3 (fun q hq => hbb3_5_4.block q (rowBlk hown3 hq).2.1)
        refine op_val (d := 15) (v := .slice (some ⟨y3.heap.size, 0, none⟩) 12 12) (w' := y3_5_4) rfl rfl rfl (by go_simp) ?_
        simp only [Act.put, List.setIfInBounds_toArray, List.set_cons_zero, List.set_cons_succ]
        refine ⟨KS.of hk3_5_4, ?_⟩
        refine wpAnyH_all (rs := [6]) (by kernel_rfl) (by simp) ?_
        intro i hi
        obtain rfl : i = 6 := by simpa using hi
        clear hi
        refine op_val (d := 6) (v := .slice (some ⟨y3.heap.size, 0, none⟩) 12 12) (w' := y3_5_4) rfl rfl rfl (by go_simp; try rfl) ?_
        simp only [Act.put, List.setIfInBounds_toArray, List.set_cons_zero, List.set_cons_succ]
        refine ⟨KS.of hk3_5_4, wpAnyH_done (by kernel_rfl) (NoPanic.normal ?_) _⟩
        go_wp2_with (fail)
        go_meet
        exact ⟨V.drew.heap.size, y3.heap.size, rfl, rfl, ⟨_, by rw [aftK_zero]; exact RoF.empt oC3_5_4⟩, book_made hown3_5_4, hk3_5_4⟩
    · clear hi
      obtain ⟨y4, hr4, hown4, hgrow4⟩ := run_make_full (P := Try.prog) V.drew V.heap.size 25 2 i1 (.int .i64 0) 1 Try.underlying25 hi1 hy0 hy1 .i64 .i64 12 (by rw [hy2]; omega) (by unfold maxLen; omega) (hS.2).size
      rw [show (Value.int IntKind.i64 0).cells = #[Value.int IntKind.i64 0] from rfl, toList_madeCells_one, Nat.mul_one] at hown4
      have hr4 : (Instr.makeSlice 25 (.int .i64 12) (.int .i64 12)).run Try.prog V.drew = .ok (.slice (some ⟨V.drew.heap.size, 0, none⟩) 12 12) y4 := hr4
      have hbb4 : Below V.drew.heap.size V.drew y4 := (Below.refl _ _).grown hgrow4 (Nat.le_refl _) (fun k h => by cases h)
      have hk4 : Below V.heap.size V y4 := (hS.2).trans (hbb4.mono (hS.2).size)
      refine op_val (d := 15) (v := .slice (some ⟨V.drew.heap.size, 0, none⟩) 12 12) (w' := y4) rfl rfl rfl (by go_simp) ?_
      simp only [Act.put, List.setIfInBounds_toArray, List.set_cons_zero, List.set_cons_succ]
      refine ⟨KS.of hk4, ?_⟩
      refine wpAnyH_all (rs := [3]) (by kernel_rfl) (by simp) ?_
      intro i hi
      obtain rfl : i = 3 := by simpa using hi
      clear hi
      obtain ⟨y4_3, hr4_3, hown4_3, hgrow4_3⟩ := run_make_full (P := Try.prog) y4 V.heap.size 28 62 i0 (.slice none 0 0) 1 Try.underlying28 hi0 hz0 hz1 .i64 .i64 n (by rw [hz2]; omega) (by unfold maxLen; omega) (hk4).size
      rw [show (Value.slice none 0 0).cells = #[Value.slice none 0 0] from rfl, toList_madeCells_one, Nat.mul_one] at hown4_3
      have hbb4_3 : Below y4.heap.size y4 y4_3 := (Below.refl _ _).grown hgrow4_3 (Nat.le_refl _) (fun k h => by cases h)
      have hk4_3 : Below V.heap.size V y4_3 := (hk4).trans (hbb4_3.mono (hk4).size)
      have oG4_3 := rowKept hown4 (fun q hq => hbb4_3.block q (rowBlk hown4 hq).2.1)
      refine op_val (d := 14) (v := .slice (some ⟨y4.heap.size, 0, none⟩) n n) (w' := y4_3) rfl rfl rfl (by go_simp) ?_
      simp only [Act.put, List.setIfInBounds_toArray, List.set_cons_zero, List.set_cons_succ]
      refine ⟨KS.of hk4_3, ?_⟩
      refine wpAnyH_all (rs := [5]) (by kernel_rfl) (by simp) ?_
      intro i hi
      obtain rfl : i = 5 := by simpa using hi
      clear hi
      refine op_val (d := 5) (v := .slice (some ⟨y4.heap.size, 0, none⟩) n n) (w' := y4_3) rfl rfl rfl (by go_simp; try rfl) ?_
      simp only [Act.put, List.setIfInBounds_toArray, List.set_cons_zero, List.set_cons_succ]
      refine ⟨KS.of hk4_3, ?_⟩
      refine wpAnyH_all (rs := [6]) (by kernel_rfl) (by simp) ?_
      intro i hi
      obtain rfl : i = 6 := by simpa using hi
      clear hi
      refine op_val (d := 6) (v := .slice (some ⟨V.drew.heap.size, 0, none⟩) 12 12) (w' := y4_3) rfl rfl rfl (by go_simp; try rfl) ?_
      simp only [Act.put, List.setIfInBounds_toArray, List.set_cons_zero, List.set_cons_succ]
      refine ⟨KS.of hk4_3, wpAnyH_done (by kernel_rfl) (NoPanic.normal ?_) _⟩
      go_wp2_with (fail)
      go_meet
      exact ⟨y4.heap.size, V.drew.heap.size, rfl, rfl, ⟨_, by rw [aftK_zero]; exact RoF.empt hown4_3⟩, book_made oG4_3, hk4_3⟩
  case rest =>
    obtain ⟨gC, gG, rfl, rfl, hR0⟩ := hcut
    have HR0 : Hid (AS V gC gG n (aftK lays n 0 0) (goA lays 0) wc) := hR0.out
    have q0' : wc.cell? ⟨w.heap.size, 0, none⟩ = some (.slice a n c) := (HR0.out.bl.cell (p := ⟨w.heap.size, 0, none⟩) q1).trans q0
    have q1' : w.heap.size < wc.heap.size := Nat.lt_of_lt_of_le q1 HR0.out.bl.size
    clear hR0 q0 q1
    go_wp2
    clear q0' q1'
    go_loopw [19] (fun i wr => ∃ j : Nat, j ≤ n ∧ i = .int .i64 j ∧ Hid (AS V gC gG n (aftK lays n j 0) (goA lays j) wr)) (fun i _ => n - (intOf i).toNat)
    case atStart => exact ⟨0, Nat.zero_le _, rfl, HR0.out⟩
    case round =>
      clear HR0
      obtain ⟨j, hjn, rfl, hR⟩ := hrel
      by_cases hlt : j < n
      · have hbw : Below w.heap.size w wr := HV.out.1.trans (hR.out.bl.mono HV.out.1.size)
        obtain ⟨g, o, ua, un, uc, rfl, hg, c0, hun, hrd⟩ := (H.out.below hbw).at hlt
        have hjs : j < s.length := by rw [← HN.out]; exact hlt
        have HC : Hid (Calls Try.prog F (#[.int .i64 j, .slice ua un uc] ++ caps) wr fun e w' => ∃ u, e = .returned u ∧ OG 88 1 layC w' wr.heap.size u (lays j) ∧ Below wr.heap.size wr w') := HST.out.calls wr j ua un uc hbw hjs hrd
        have HLA : Hid ((lays j).length ≤ 25 ∧ ∀ k, k < (lays j).length → okL (lat (lays j) k)) := HST.out.ok j hjs
        have HB0 : Hid (BM 100000000 (goA lays j)) := (BM.go (lays := lays) (n := n) (fun i hi => HST.out.ok i (by rw [← HN.out]; exact hi)) (Nat.le_of_lt hlt)).up (by omega)
        clear hrd hun hbw hjs
        have b0 : (0 : Int) ≤ (j : Int) := by omega
        have b1 : (j : Int) < (n : Int) := by omega
        go_wp2_with (fail)
        refine HC.out.mono ?_
        rintro e w5 ⟨u, rfl, hu, hb5⟩
        obtain ⟨la, lc, hue⟩ := hu.form
        obtain ⟨m, hm⟩ : ∃ m, m = (lays j).length := ⟨_, rfl⟩
        rw [← hm] at hue
        subst hue
        have HM : Hid (m = (lays j).length) := hm
        have hm25 : m ≤ 25 := by rw [hm]; exact HLA.out.1
        have HU : Hid (OG 88 1 layC w5 V.heap.size (.slice la m lc) (lays j)) := hu.low hR.out.bl.size
        have HA5 : Hid (AS V gC gG n (aftK lays n j 0) (bkA (goA lays j) (lays j) 0) w5) := hR.out.below hb5
        clear hu hb5 hR hm HC c0 hg
        go_wp2
        go_loopw [29] (fun i wq => ∃ k : Nat, k ≤ m ∧ i = .int .i64 k ∧ Hid (AS V gC gG n (aftK lays n j k) (bkA (goA lays j) (lays j) k) wq ∧ OG 88 1 layC wq V.heap.size (.slice la m lc) (lays j))) (fun i _ => m - (intOf i).toNat)
        case atStart => exact ⟨0, Nat.zero_le _, rfl, HA5.out, HU.out⟩
        case round =>
          clear HA5 HU
          obtain ⟨k, hkm, rfl, hR⟩ := hrel
          by_cases hlt2 : k < m
          · have hAS := hR.out.1
            obtain ⟨vs, hro⟩ := hAS.ro
            obtain ⟨gl, ol, rfl, hgl, d0⟩ := la_at (OG.rg layC_len hR.out.2) hlt2
            obtain ⟨l, hl⟩ : ∃ l, l = lat (lays j) k := ⟨_, rfl⟩
            rw [← hl] at d0
            have hkl : k < (lays j).length := by rw [← HM.out]; exact hlt2
            have hok : okL l := by rw [hl]; exact HLA.out.2 k hkl
            have hjl : j < (aftK lays n j k).length := by rw [aftK_len]; exact hlt
            obtain ⟨gc', cc, he, _, hgcl, hcc⟩ := hro.pos (by omega)
            injection he with he1 he2 he3
            injection he1 with he4
            injection he4 with he5
            subst he5
            have c0 := hcc j hjl
            have fz : wr.frozen? ⟨gC, j, none⟩ = false := World.ownsRow.frozenAt (show wr.ownsRow V.heap.size 62 1 (.slice (some ⟨gC, 0, none⟩) n n) n vs by have := hro.o; rw [aftK_len] at this; exact this) j
            have hrow := hro.bx j hjl
            rw [aftK_at lays hlt] at hrow
            obtain ⟨xv, hxv⟩ : ∃ x, x = rat vs j := ⟨_, rfl⟩
            rw [← hxv] at c0
            have HK : Hid (AS V gC gG n (aftK lays n j k) (bkA (goA lays j) (lays j) k) wr ∧ RoF wr V.heap.size (.slice (some ⟨gC, 0, none⟩) n n) (aftK lays n j k) vs ∧ OG 76 2 flC wr V.heap.size (rat vs j) (putA (lays j) k) ∧ OG 88 1 layC wr V.heap.size (.slice (some ⟨gl, ol, none⟩) m lc) (lays j) ∧ xv = rat vs j ∧ l = lat (lays j) k ∧ okL l ∧ j < (aftK lays n j k).length ∧ k < (lays j).length) := ⟨hAS, hro, hrow, hR.out.2, hxv, hl, hok, hjl, hkl⟩
            have hlf := hok.left
            obtain ⟨lm, hlm⟩ : ∃ x, x = (leftL l).m := ⟨_, rfl⟩
            obtain ⟨lt, hlt9⟩ : ∃ x, x = (leftL l).t := ⟨_, rfl⟩
            have HLL : Hid (leftL l = ⟨lm, lt⟩) := by unfold Hid; rw [hlm, hlt9]
            have HLF : Hid (∀ W : World, Calls Try.prog (leftN l) #[payL l] W fun e w' => e = .returned (.agg #[.int .i64 lm, .int .i64 lt]) ∧ Below W.heap.size W w') := fun W => by rw [hlm, hlt9]; exact impl_left l hok W
            have HLB : Hid (-1000000000 ≤ lt ∧ lt ≤ 1000000000) := by rw [hlt9]; unfold Hid; omega
            have HPB : Hid ((putA (lays j) k).length ≤ 1000 ∧ ∀ q, q < (putA (lays j) k).length → -1000000000 ≤ (fat (putA (lays j) k) q).t ∧ (fat (putA (lays j) k) q).t ≤ 1000000000) := by
              have h1 := putA_len (lays j) k
              have h2 := putA_bound HLA.out.2 (Nat.le_of_lt hkl)
              have h3 := HLA.out.1
              refine ⟨by omega, fun q hq => ?_⟩
              have h4 := h2.1 q hq
              have h5 := top_part h2.1 hq
              have h6 := h2.2
              omega
            have HBB : Hid (BM 1000000000 (bkA (goA lays j) (lays j) k)) := (HB0.out.bk HLA.out.2 (Nat.le_of_lt hkl)).up (by have := HLA.out.1; omega)
            have hb2 : (0 : Int) ≤ (k : Int) := by omega
            have hb3 : (k : Int) < (m : Int) := by omega
            clear hR hAS hro hrow hcc he2 he3 hl hok hlf hlm hlt9 hxv hkl hjl
            go_wp2_with (fail)
            clear d0 hgl
            refine wp_region_holdsA (S := fun _ => True) (by kernel_rfl) trivial (fun hS => ?_)
            refine fl_takeA (i := 0) (d := 33) (v := .slice (some ⟨gC, 0, none⟩) n n) rfl rfl rfl (by kernel_rfl) (by kernel_rfl) (by kernel_rfl) hS ?_ ?_
            · intro w' hk; go_simp
            simp only [Act.put, List.setIfInBounds_toArray, List.set_cons_zero, List.set_cons_succ]
            refine fl_takeA (i := 1) (d := 34) (v := .int .i64 j) rfl rfl rfl (by kernel_rfl) (by kernel_rfl) (by kernel_rfl) hS ?_ ?_
            · intro w' hk; go_simp
            simp only [Act.put, List.setIfInBounds_toArray, List.set_cons_zero, List.set_cons_succ]
            refine fl_takeA (i := 2) (d := 35) (v := .slice (some ⟨gC, 0, none⟩) n n) rfl rfl rfl (by kernel_rfl) (by kernel_rfl) (by kernel_rfl) hS ?_ ?_
            · intro w' hk; go_simp
            simp only [Act.put, List.setIfInBounds_toArray, List.set_cons_zero, List.set_cons_succ]
            refine fl_takeA (i := 3) (d := 36) (v := .int .i64 j) rfl rfl rfl (by kernel_rfl) (by kernel_rfl) (by kernel_rfl) hS ?_ ?_
            · intro w' hk; go_simp
            simp only [Act.put, List.setIfInBounds_toArray, List.set_cons_zero, List.set_cons_succ]
            refine fl_takeA (i := 4) (d := 37) (v := .pointer (some ⟨gC, j, none⟩)) rfl rfl rfl (by kernel_rfl) (by kernel_rfl) (by kernel_rfl) hS ?_ ?_
            · intro w' hk; go_simp
            simp only [Act.put, List.setIfInBounds_toArray, List.set_cons_zero, List.set_cons_succ]
            refine fl_takeA (i := 6) (d := 39) (v := layV l) rfl rfl rfl (by kernel_rfl) (by kernel_rfl) (by kernel_rfl) hS ?_ ?_
            · intro w' hk; go_simp
            simp only [Act.put, List.setIfInBounds_toArray, List.set_cons_zero, List.set_cons_succ]
            refine wpAnyH_all (rs := [5, 7]) (by kernel_rfl) (by simp) ?_
            intro i hi
            rcases (by simpa using hi : i = 5 ∨ i = 7) with rfl | rfl
            · clear hi
              refine op_val (d := 38) (v := xv) (w' := wr.drew) rfl rfl rfl (by go_simp) ?_
              simp only [Act.put, List.setIfInBounds_toArray, List.set_cons_zero, List.set_cons_succ]
              refine ⟨trivial, wpAnyH_all (rs := [7]) (by kernel_rfl) (by simp) ?_⟩
              intro i hi
              obtain rfl : i = 7 := by simpa using hi
              clear hi
              have inv9 := inv_left l
              refine op_call (d := 40) rfl rfl rfl (by go_simp; exact inv9 _) ((HLF.out _).mono ?_)
              rintro e y1 ⟨rfl, hy1⟩
              have hby : Below wr.heap.size wr y1 := ((Below.refl _ _).drew).trans hy1
              refine ⟨_, rfl, trivial, ?_⟩
              simp only [Act.put, List.setIfInBounds_toArray, List.set_cons_zero, List.set_cons_succ]
              refine wpAnyH_all (rs := [8]) (by kernel_rfl) (by simp) ?_
              intro i hi
              obtain rfl : i = 8 := by simpa using hi
              clear hi
              have hog : OG 76 2 flC y1 V.heap.size xv (putA (lays j) k) := by rw [HK.out.2.2.2.2.1]; exact HK.out.2.2.1.below hby
              refine op_call (d := 41) rfl rfl rfl (by go_simp) ((impl_put lm lt (Nat.le_trans HK.out.1.bl.size hby.size) HPB.out.1 HLB.out HPB.out.2 hog).mono ?_)
              rintro e y2 ⟨v2, rfl, hpf⟩
              obtain ⟨xa, xc, hvf⟩ := hpf.o.form
              obtain ⟨xn, hxn⟩ : ∃ x, x = (putF (putA (lays j) k) ⟨lm, lt⟩).length := ⟨_, rfl⟩
              rw [← hxn] at hvf
              subst hvf
              clear hxn
              have hAS2 : AS V gC gG n (aftK lays n j (k + 1)) (bkA (goA lays j) (lays j) k) (y2.setCell ⟨gC, j, none⟩ (.slice xa xn xc)) ∧ OG 88 1 layC (y2.setCell ⟨gC, j, none⟩ (.slice xa xn xc)) V.heap.size (.slice (some ⟨gl, ol, none⟩) m lc) (lays j) ∧ y2.cell? ⟨gC, j, none⟩ = some xv ∧ y2.frozen? ⟨gC, j, none⟩ = false ∧ gC < y2.heap.size := by
                have hv1 := HK.out.2.1.below hby
                have ha1 := HK.out.1.below hby
                have hpf2 : PF V.heap.size y1 y2 (rat vs j) (.slice xa xn xc) (putA (lays j) (k + 1)) := by rw [← HK.out.2.2.2.2.1, putA, ← HK.out.2.2.2.2.2.1, HLL.out]; exact hpf
                have hjl := HK.out.2.2.2.2.2.2.2.1
                have h1 := ha1.swap hv1 hjl hpf2
                rw [aftK_set lays hlt] at h1
                have hbk : y2.heap[gC]? = y1.heap[gC]? := by
                  have hgB := rowBlk hv1.o (show (Value.slice (some ⟨gC, 0, none⟩) n n).ownBlock = some gC from rfl)
                  exact hpf2.g.block gC hgB.2.1 fun e => hv1.rowNot (show (Value.slice (some ⟨gC, 0, none⟩) n n).ownBlock = some gC from rfl) (hv1.bx j hjl) e.symm rfl
                have hcell : y1.cell? ⟨gC, j, none⟩ = some xv := (hby.cell (p := ⟨gC, j, none⟩) hgcl).trans c0
                have hfr : y1.frozen? ⟨gC, j, none⟩ = false := (hby.frozen (p := ⟨gC, j, none⟩) hgcl).trans fz
                refine ⟨h1, ?_, ?_, ?_, Nat.lt_of_lt_of_le (Nat.lt_of_lt_of_le hgcl hby.size) hpf2.g.size⟩
                · have hlay := HK.out.2.2.2.1.below hby
                  refine hlay.kept fun q hq => ?_
                  obtain ⟨_, _, cs, hc⟩ := rowBlk hlay hq
                  exact AS.swap_other hv1 hjl hpf2 hc (by decide) (by decide)
                · rw [← hcell]; simp [World.cell?, hbk]
                · rw [← hfr]; simp [World.frozen?, hbk]
              clear hpf hog
              refine ⟨_, rfl, trivial, ?_⟩
              simp only [Act.put, List.setIfInBounds_toArray, List.set_cons_zero, List.set_cons_succ]
              refine wpAnyH_all (rs := [9]) (by kernel_rfl) (by simp) ?_
              intro i hi
              obtain rfl : i = 9 := by simpa using hi
              clear hi
              refine op_val (d := 42) (v := .pointer (some ⟨gC, j, none⟩)) (w' := y2) rfl rfl rfl (by go_simp) ?_
              simp only [Act.put, List.setIfInBounds_toArray, List.set_cons_zero, List.set_cons_succ]
              refine ⟨trivial, wpAnyH_all (rs := [10]) (by kernel_rfl) (by simp) ?_⟩
              intro i hi
              obtain rfl : i = 10 := by simpa using hi
              clear hi
              obtain ⟨hA2, hL2, e0, e1, e2⟩ := hAS2
              refine op_skipN (w' := y2.setCell ⟨gC, j, none⟩ (.slice xa xn xc)) rfl rfl (by go_simp) ?_
              refine ⟨trivial, wpAnyH_done (by kernel_rfl) (NoPanic.normal ?_) _⟩
              have HA2 : Hid (AS V gC gG n (aftK lays n j (k + 1)) (bkA (goA lays j) (lays j) k) (y2.setCell ⟨gC, j, none⟩ (.slice xa xn xc)) ∧ OG 88 1 layC (y2.setCell ⟨gC, j, none⟩ (.slice xa xn xc)) V.heap.size (.slice (some ⟨gl, ol, none⟩) m lc) (lays j)) := ⟨hA2, hL2⟩
              obtain ⟨y3, hy3⟩ : ∃ y, y = y2.setCell ⟨gC, j, none⟩ (.slice xa xn xc) := ⟨_, rfl⟩
              rw [← hy3] at HA2 ⊢
              clear hA2 hL2 e0 e1 e2 hy3 hby hy1 c0 fz hgcl
              go_wp2_with (fail)
              refine (impl_book l HK.out.2.2.2.2.2.2.1 HBB.out HA2.out.1.bk).mono ?_
              rintro e y4 ⟨rfl, hI4, hg4⟩
              have HX : Hid (AS V gC gG n (aftK lays n j (k + 1)) (bkA (goA lays j) (lays j) (k + 1)) y4 ∧ OG 88 1 layC y4 V.heap.size (.slice (some ⟨gl, ol, none⟩) m lc) (lays j)) := by
                refine ⟨HA2.out.1.book (by rw [bkA, ← HK.out.2.2.2.2.2.1]; exact hI4) hg4, ?_⟩
                refine HA2.out.2.kept fun q hq => ?_
                obtain ⟨_, hql, cs, hc⟩ := rowBlk HA2.out.2 hq
                refine hg4.block q hql fun e => ?_
                obtain ⟨_, _, ds, hd⟩ := rowBlk HA2.out.1.bk (show (Value.slice (some ⟨gG, 0, none⟩) 12 12).ownBlock = some q from by injection e with e; rw [e]; rfl)
                exact kindsR hc hd (by decide)
              clear hI4 hg4 HA2 HK
              go_wp2
              go_roundw
              case rel => exact ⟨k + 1, by omega, by go_num, HX.out⟩
              case measure => simp [intOf]; omega
            · clear hi
              have inv9 := inv_left l
              refine op_call (d := 40) rfl rfl rfl (by go_simp; exact inv9 _) ((HLF.out _).mono ?_)
              rintro e y1 ⟨rfl, hy1⟩
              have hby : Below wr.heap.size wr y1 := ((Below.refl _ _).drew).trans hy1
              refine ⟨_, rfl, trivial, ?_⟩
              simp only [Act.put, List.setIfInBounds_toArray, List.set_cons_zero, List.set_cons_succ]
              refine wpAnyH_all (rs := [5]) (by kernel_rfl) (by simp) ?_
              intro i hi
              obtain rfl : i = 5 := by simpa using hi
              clear hi
              have c1 : y1.cell? ⟨gC, j, none⟩ = some xv := (hby.cell (p := ⟨gC, j, none⟩) hgcl).trans c0
              have c2 : gC < y1.heap.size := Nat.lt_of_lt_of_le hgcl hby.size
              refine op_val (d := 38) (v := xv) (w' := y1) rfl rfl rfl (by go_simp) ?_
              simp only [Act.put, List.setIfInBounds_toArray, List.set_cons_zero, List.set_cons_succ]
              refine ⟨trivial, ?_⟩
              refine wpAnyH_all (rs := [8]) (by kernel_rfl) (by simp) ?_
              intro i hi
              obtain rfl : i = 8 := by simpa using hi
              clear hi
              have hog : OG 76 2 flC y1 V.heap.size xv (putA (lays j) k) := by rw [HK.out.2.2.2.2.1]; exact HK.out.2.2.1.below hby
              refine op_call (d := 41) rfl rfl rfl (by go_simp) ((impl_put lm lt (Nat.le_trans HK.out.1.bl.size hby.size) HPB.out.1 HLB.out HPB.out.2 hog).mono ?_)
              rintro e y2 ⟨v2, rfl, hpf⟩
              obtain ⟨xa, xc, hvf⟩ := hpf.o.form
              obtain ⟨xn, hxn⟩ : ∃ x, x = (putF (putA (lays j) k) ⟨lm, lt⟩).length := ⟨_, rfl⟩
              rw [← hxn] at hvf
              subst hvf
              clear hxn
              have hAS2 : AS V gC gG n (aftK lays n j (k + 1)) (bkA (goA lays j) (lays j) k) (y2.setCell ⟨gC, j, none⟩ (.slice xa xn xc)) ∧ OG 88 1 layC (y2.setCell ⟨gC, j, none⟩ (.slice xa xn xc)) V.heap.size (.slice (some ⟨gl, ol, none⟩) m lc) (lays j) ∧ y2.cell? ⟨gC, j, none⟩ = some xv ∧ y2.frozen? ⟨gC, j, none⟩ = false ∧ gC < y2.heap.size := by
                have hv1 := HK.out.2.1.below hby
                have ha1 := HK.out.1.below hby
                have hpf2 : PF V.heap.size y1 y2 (rat vs j) (.slice xa xn xc) (putA (lays j) (k + 1)) := by rw [← HK.out.2.2.2.2.1, putA, ← HK.out.2.2.2.2.2.1, HLL.out]; exact hpf
                have hjl := HK.out.2.2.2.2.2.2.2.1
                have h1 := ha1.swap hv1 hjl hpf2
                rw [aftK_set lays hlt] at h1
                have hbk : y2.heap[gC]? = y1.heap[gC]? := by
                  have hgB := rowBlk hv1.o (show (Value.slice (some ⟨gC, 0, none⟩) n n).ownBlock = some gC from rfl)
                  exact hpf2.g.block gC hgB.2.1 fun e => hv1.rowNot (show (Value.slice (some ⟨gC, 0, none⟩) n n).ownBlock = some gC from rfl) (hv1.bx j hjl) e.symm rfl
                have hcell : y1.cell? ⟨gC, j, none⟩ = some xv := (hby.cell (p := ⟨gC, j, none⟩) hgcl).trans c0
                have hfr : y1.frozen? ⟨gC, j, none⟩ = false := (hby.frozen (p := ⟨gC, j, none⟩) hgcl).trans fz
                refine ⟨h1, ?_, ?_, ?_, Nat.lt_of_lt_of_le (Nat.lt_of_lt_of_le hgcl hby.size) hpf2.g.size⟩
                · have hlay := HK.out.2.2.2.1.below hby
                  refine hlay.kept fun q hq => ?_
                  obtain ⟨_, _, cs, hc⟩ := rowBlk hlay hq
                  exact AS.swap_other hv1 hjl hpf2 hc (by decide) (by decide)
                · rw [← hcell]; simp [World.cell?, hbk]
                · rw [← hfr]; simp [World.frozen?, hbk]
              clear hpf hog
              refine ⟨_, rfl, trivial, ?_⟩
              simp only [Act.put, List.setIfInBounds_toArray, List.set_cons_zero, List.set_cons_succ]
              refine wpAnyH_all (rs := [9]) (by kernel_rfl) (by simp) ?_
              intro i hi
              obtain rfl : i = 9 := by simpa using hi
              clear hi
              refine op_val (d := 42) (v := .pointer (some ⟨gC, j, none⟩)) (w' := y2) rfl rfl rfl (by go_simp) ?_
              simp only [Act.put, List.setIfInBounds_toArray, List.set_cons_zero, List.set_cons_succ]
              refine ⟨trivial, wpAnyH_all (rs := [10]) (by kernel_rfl) (by simp) ?_⟩
              intro i hi
              obtain rfl : i = 10 := by simpa using hi
              clear hi
              obtain ⟨hA2, hL2, e0, e1, e2⟩ := hAS2
              refine op_skipN (w' := y2.setCell ⟨gC, j, none⟩ (.slice xa xn xc)) rfl rfl (by go_simp) ?_
              refine ⟨trivial, wpAnyH_done (by kernel_rfl) (NoPanic.normal ?_) _⟩
              have HA2 : Hid (AS V gC gG n (aftK lays n j (k + 1)) (bkA (goA lays j) (lays j) k) (y2.setCell ⟨gC, j, none⟩ (.slice xa xn xc)) ∧ OG 88 1 layC (y2.setCell ⟨gC, j, none⟩ (.slice xa xn xc)) V.heap.size (.slice (some ⟨gl, ol, none⟩) m lc) (lays j)) := ⟨hA2, hL2⟩
              obtain ⟨y3, hy3⟩ : ∃ y, y = y2.setCell ⟨gC, j, none⟩ (.slice xa xn xc) := ⟨_, rfl⟩
              rw [← hy3] at HA2 ⊢
              clear hA2 hL2 e0 e1 e2 hy3 hby hy1 c0 fz hgcl
              go_wp2_with (fail)
              refine (impl_book l HK.out.2.2.2.2.2.2.1 HBB.out HA2.out.1.bk).mono ?_
              rintro e y4 ⟨rfl, hI4, hg4⟩
              have HX : Hid (AS V gC gG n (aftK lays n j (k + 1)) (bkA (goA lays j) (lays j) (k + 1)) y4 ∧ OG 88 1 layC y4 V.heap.size (.slice (some ⟨gl, ol, none⟩) m lc) (lays j)) := by
                refine ⟨HA2.out.1.book (by rw [bkA, ← HK.out.2.2.2.2.2.1]; exact hI4) hg4, ?_⟩
                refine HA2.out.2.kept fun q hq => ?_
                obtain ⟨_, hql, cs, hc⟩ := rowBlk HA2.out.2 hq
                refine hg4.block q hql fun e => ?_
                obtain ⟨_, _, ds, hd⟩ := rowBlk HA2.out.1.bk (show (Value.slice (some ⟨gG, 0, none⟩) 12 12).ownBlock = some q from by injection e with e; rw [e]; rfl)
                exact kindsR hc hd (by decide)
              clear hI4 hg4 HA2 HK
              go_wp2
              go_roundw
              case rel => exact ⟨k + 1, by omega, by go_num, HX.out⟩
              case measure => simp [intOf]; omega
          · have HX : Hid (AS V gC gG n (aftK lays n (j + 1) 0) (goA lays (j + 1)) wr) := by
              have h1 := hR.out.1
              rw [show k = (lays j).length by rw [← HM.out]; omega, aftK_next] at h1
              exact h1
            clear hR
            go_wp2
            go_roundw
            case rel => exact ⟨j + 1, by omega, by go_num, HX.out⟩
            case measure => simp [intOf]; omega
      · have HX : Hid (AS V gC gG n (aftS lays n) (goA lays n) wr) := by
          have h1 := hR.out
          rw [show j = n by omega, aftK_done] at h1
          exact h1
        clear hR
        obtain ⟨l0, l1, l2, l3⟩ := HV.out
        have hb5 := HX.out.bl
        have k1 : wr.heap[w.heap.size + 1]? = some (.cells #[.int .i64 0, .slice none 0 0, .slice none 0 0] 32) := (hb5.block _ (by omega)).trans l2
        have r0 : w.heap.size + 1 < wr.heap.size := by have := hb5.size; omega
        have p0 : wr.cell? ⟨w.heap.size + 1, 0, none⟩ = some (.int .i64 0) := by simp [World.cell?, k1]
        have p1 : wr.cell? ⟨w.heap.size + 1, 1, none⟩ = some (.slice none 0 0) := by simp [World.cell?, k1]
        have p2 : wr.cell? ⟨w.heap.size + 1, 2, none⟩ = some (.slice none 0 0) := by simp [World.cell?, k1]
        have f0 : wr.frozen? ⟨w.heap.size + 1, 0, none⟩ = false := by simp [World.frozen?, k1]
        have f1 : wr.frozen? ⟨w.heap.size + 1, 1, none⟩ = false := by simp [World.frozen?, k1]
        have f2 : wr.frozen? ⟨w.heap.size + 1, 2, none⟩ = false := by simp [World.frozen?, k1]
        obtain ⟨W, hW⟩ : ∃ W, W = ((wr.setCell ⟨w.heap.size + 1, 0, none⟩ (.int .i64 0)).setCell ⟨w.heap.size + 1, 1, none⟩ (.slice (some ⟨gC, 0, none⟩) n n)).setCell ⟨w.heap.size + 1, 2, none⟩ (.slice (some ⟨gG, 0, none⟩) 12 12) := ⟨_, rfl⟩
        have ho : ∀ q, w.heap.size + 2 ≤ q → W.heap[q]? = wr.heap[q]? := fun q hq => by
          rw [hW, heap_setCell_other _ _ _ _ (by simp; omega), heap_setCell_other _ _ _ _ (by simp; omega), heap_setCell_other _ _ _ _ (by simp; omega)]
        have HF : Hid (∃ vs, RoF W w.heap.size (.slice (some ⟨gC, 0, none⟩) n n) (aftS lays n) vs ∧ IS W w.heap.size (.slice (some ⟨gG, 0, none⟩) 12 12) (goA lays n) ∧ Below w.heap.size w W) := by
          obtain ⟨vs, hro⟩ := HX.out.ro
          refine ⟨vs, (hro.kept (fun q hq => ho q ?_) (fun i hi q hq => ho q ?_)).low (by omega), rowLow (IS.kept (w' := W) HX.out.bk (fun q hq => ho q ?_)) (by omega), ?_⟩
          · have := (rowBlk hro.o hq).1; omega
          · have := (rowBlk (hro.bx i hi) hq).1; omega
          · have := (rowBlk HX.out.bk hq).1; omega
          · rw [hW]
            have := l0.trans (hb5.mono l0.size)
            (repeat' (first | (with_reducible exact Below.refl _ _) | (with_reducible assumption) | (with_reducible refine Below.setCell ?_ ?_ _) | (with_reducible refine Below.alloc ?_ ?_ _) | (with_reducible refine below_drewN ?_ _) | (with_reducible refine Below.drew ?_) | (with_reducible exact Nat.le_refl _) | omega | (simp; done) | (simp; omega)))
        have HWW : Hid _ := hW
        clear hb5 l0 l1 l2 l3 hW HX k1 ho
        go_wp2
        rw [← HWW.out]
        obtain ⟨vs, z1, z2, z3⟩ := HF.out
        refine bodyPost_ret (by rw [HWW.out]; simp [results, Try.results45, go_sem, r0, p0, p1, p2]; try rfl) rfl ⟨_, vs, gG, rfl, z1, z2, z3⟩

end Go.Proofs.Ytceljakmjddgbab
