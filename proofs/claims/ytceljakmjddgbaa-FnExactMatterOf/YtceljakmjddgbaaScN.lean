/- Proved here: MatterOf of the program. -/
import Derived.Test.YtceljakmjddgbaaScB
import Derived.Test.YtceljakmjddgbaaScI
import Derived.StillTail
namespace Go.Proofs.Ytceljakmjddgbaa
open Go.RowKit
set_option linter.unusedVariables false
set_option linter.unusedSimpArgs false

theorem kn_at1' (w : World) (a b : Obj) : ((w.alloc a).alloc b).heap[w.heap.size + 1]? = some b := by have := heap_alloc_new (w.alloc a) b; simpa using this

theorem rowLt {w : World} {B q : Nat} {v : Value} {xs : List Int} (h : IS w B v xs) (hq : v.ownBlock = some q) : q < w.heap.size := (World.ownsRow.lt h q hq).2

set_option maxRecDepth 10000 in
set_option maxHeartbeats 12800000 in
theorem impl_matter {w : World} {v : Value} {s : List (List Flm)} (hn : SmF s) (h : RsF w v s) :
    Calls Try.prog 31 #[.agg #[v]] w fun e w' => ∃ u, e = .returned (.agg #[.int .i64 (secF s), u]) ∧ IS w' w.heap.size u (mtL s) ∧ Below w.heap.size w w' := by
  obtain ⟨a, c, rfl⟩ := h.form
  obtain ⟨n, hnn⟩ : ∃ n, n = s.length := ⟨_, rfl⟩
  obtain ⟨C, hC⟩ : ∃ C, C = secF s := ⟨_, rfl⟩
  rw [← hnn] at h ⊢
  rw [← hC]
  have hn' : n ≤ 1048576 := by rw [hnn]; exact hn.len
  have HA : Hid (∀ W, Below w.heap.size w W → Calls Try.prog 25 #[.agg #[.slice a n c]] W fun e w' => e = .returned (.int .i64 C) ∧ Below W.heap.size W w') := fun W hW => by rw [hC]; exact impl_secF hn (h.below hW)
  have H : Hid (RsF w (.slice a n c) s ∧ C = secF s) := ⟨h, hC⟩
  have HN : Hid (n = s.length) := hnn
  clear h hnn hn hC
  obtain ⟨i1, hi1, hy0, hy1, hy2⟩ := info_parts info_i64
  go_enter Try.func31, Try.ntmps31
  go_wp2_with (fail)
  refine (HA.out _ (by (repeat' (first | (with_reducible exact Below.refl _ _) | (with_reducible assumption) | (with_reducible refine Below.setCell ?_ ?_ _) | (with_reducible refine Below.alloc ?_ ?_ _) | (with_reducible refine below_drewN ?_ _) | (with_reducible refine Below.drew ?_) | (with_reducible exact Nat.le_refl _) | omega | (simp; done) | (simp; omega))))).mono ?_
  rintro e w1 ⟨rfl, hb1⟩
  have k0 := (hb1.block w.heap.size (by simp; omega)).trans ((Below.heap_alloc _ _ _ (by simp)).trans (heap_alloc_new w _))
  have k1 := (hb1.block (w.heap.size + 1) (by simp)).trans (kn_at1' w _ _)
  have q0 : w1.cell? ⟨w.heap.size, 0, none⟩ = some (.slice a n c) := by simp [World.cell?, k0]
  have p0 : w1.cell? ⟨w.heap.size + 1, 0, none⟩ = some (.int .i64 0) := by simp [World.cell?, k1]
  have p1 : w1.cell? ⟨w.heap.size + 1, 1, none⟩ = some (.slice none 0 0) := by simp [World.cell?, k1]
  have f0 : w1.frozen? ⟨w.heap.size + 1, 0, none⟩ = false := by simp [World.frozen?, k1]
  have f1 : w1.frozen? ⟨w.heap.size + 1, 1, none⟩ = false := by simp [World.frozen?, k1]
  have q1 : w.heap.size + 1 < w1.heap.size := by have := hb1.size; simp at this; omega
  have HB : Hid (Below w.heap.size w w1) := (show Below w.heap.size w _ from by (repeat' (first | (with_reducible exact Below.refl _ _) | (with_reducible assumption) | (with_reducible refine Below.setCell ?_ ?_ _) | (with_reducible refine Below.alloc ?_ ?_ _) | (with_reducible refine below_drewN ?_ _) | (with_reducible refine Below.drew ?_) | (with_reducible exact Nat.le_refl _) | omega | (simp; done) | (simp; omega)))).trans (hb1.mono (by simp; omega))
  have q2 : w.heap.size < w1.heap.size := by omega
  clear hb1 k0 k1 HA
  by_cases hF : C = 0
  · have HG : Hid (GS s) := secF_zero.1 (H.out.2 ▸ hF)
    have hn16 : n ≤ 16 := by rw [HN.out]; exact HG.out.len
    have HW : Hid (Below w.heap.size w w1 ∧ w.heap.size + 1 < w1.heap.size ∧ w1.cell? ⟨w.heap.size + 1, 0, none⟩ = some (.int .i64 0) ∧ w1.cell? ⟨w.heap.size + 1, 1, none⟩ = some (.slice none 0 0) ∧ w1.frozen? ⟨w.heap.size + 1, 0, none⟩ = false ∧ w1.frozen? ⟨w.heap.size + 1, 1, none⟩ = false) := ⟨HB.out, q1, p0, p1, f0, f1⟩
    have HC0 : Hid (secF s = 0) := H.out.2 ▸ hF
    subst hF
    go_wp2_with (at_make; refine wpList_make_full _ rfl _ _ 56 rfl w1.heap.size 2 i1 (.int .i64 0) 1 Try.underlying56 hi1 hy0 hy1 _ _ _ _ 12 rfl rfl rfl rfl (by rw [hy2]; omega) (by unfold maxLen; omega) (Nat.le_refl _) ?_; intro w2 hown2 hgrow2; have q0' : w2.cell? ⟨w.heap.size, 0, none⟩ = some (.slice a n c) := ((Below.refl w1.heap.size w1).grown hgrow2 (Nat.le_refl _) (fun k h => by cases h)).cell (p := ⟨w.heap.size, 0, none⟩) q2 |>.trans q0; have q2' : w.heap.size < w2.heap.size := Nat.lt_of_lt_of_le q2 ((Below.refl w1.heap.size w1).grown hgrow2 (Nat.le_refl _) (fun k h => by cases h)).size)
    have hb2 : Below w1.heap.size w1 w2 := (Below.refl _ _).grown hgrow2 (Nat.le_refl _) (fun k h => by cases h)
    have HS : Hid (Below w1.heap.size w1 w2 ∧ IS w2 w1.heap.size (.slice (some ⟨w1.heap.size, 0, none⟩) 12 12) (mtS s 0)) := by
      rw [show (Value.int IntKind.i64 0).cells = #[Value.int IntKind.i64 0] from rfl, toList_madeCells_one] at hown2
      exact ⟨hb2, book_made hown2⟩
    clear hown2 hgrow2 hb2 q0 q1 q2 p0 p1 f0 f1 q0' q2'
    go_loopw [19] (fun i wr => ∃ j : Nat, j ≤ n ∧ i = .int .i64 j ∧ Hid (Below w1.heap.size w1 wr ∧ IS wr w1.heap.size (.slice (some ⟨w1.heap.size, 0, none⟩) 12 12) (mtS s j))) (fun i _ => n - (intOf i).toNat)
    case atStart => exact ⟨0, Nat.zero_le _, rfl, HS.out⟩
    case round =>
      clear HS
      obtain ⟨j, hjn, rfl, hR⟩ := hrel
      by_cases hlt : j < n
      · obtain ⟨g, o, ua, un, uc, rfl, hg, c0, hun, hrd⟩ := (H.out.1.below (HW.out.1.trans (hR.out.1.mono HW.out.1.size))).at hlt
        obtain ⟨g', o', ua', un', uc', he', hg', c0', hun', hrd'⟩ := H.out.1.at hlt
        obtain ⟨col, hcol⟩ : ∃ x, x = s.getD j [] := ⟨_, rfl⟩
        injection he' with he1
        injection he1 with he2 he3
        subst he2 he3
        have hcc := (((HW.out.1.trans (hR.out.1.mono HW.out.1.size)).cell (p := ⟨g, o + j, none⟩) hg').trans c0').symm.trans c0
        simp only [Option.some.injEq, Value.slice.injEq] at hcc
        obtain ⟨rfl, rfl, rfl⟩ := hcc
        rw [← hcol] at hun' hrd'
        have hgc := HG.out.col j (by rw [← HN.out]; exact hlt)
        rw [← hcol] at hgc
        have HD : Hid (RG 2 flC w (.slice ua' un' uc') col ∧ un' = col.length ∧ WC col) := ⟨hrd', hun', hgc.wc⟩
        have HCOL : Hid (col = s.getD j []) := hcol
        have hu24 : un' ≤ 24 := by rw [hun']; exact hgc.len
        have HR0 : Hid (Below w1.heap.size w1 wr ∧ IS wr w1.heap.size (.slice (some ⟨w1.heap.size, 0, none⟩) 12 12) (mtC (mtS s j) col 0)) := hR.out
        clear hrd hrd' hun hun' hcol hgc hR c0' hg'
        obtain ⟨un, hune⟩ : ∃ x, x = un' := ⟨_, rfl⟩
        subst hune
        have b0 : (0 : Int) ≤ (j : Int) := by omega
        have b1 : (j : Int) < (n : Int) := by omega
        go_wp2
        clear c0 hg
        go_loopw [25] (fun i wr => ∃ k : Nat, k ≤ un ∧ i = .int .i64 k ∧ Hid (Below w1.heap.size w1 wr ∧ IS wr w1.heap.size (.slice (some ⟨w1.heap.size, 0, none⟩) 12 12) (mtC (mtS s j) col k))) (fun i _ => un - (intOf i).toNat)
        case atStart => exact ⟨0, Nat.zero_le _, rfl, HR0.out⟩
        case round =>
          clear HR0
          obtain ⟨k, hkn, rfl, hR2⟩ := hrel
          by_cases hlt2 : k < un
          · obtain ⟨g2, o2, rfl, hg2, d0, d1⟩ := fl_at (HD.out.1.below (HW.out.1.trans (hR2.out.1.mono HW.out.1.size))) hlt2
            have hkl : k < col.length := by rw [← HD.out.2.1]; exact hlt2
            have hmm := HD.out.2.2.mt k hkl
            obtain ⟨p, hp⟩ : ∃ p : Nat, (fat col k).m = (p : Int) + 1 := ⟨((fat col k).m - 1).toNat, by omega⟩
            obtain ⟨x, hxx⟩ : ∃ x, x = (fat col k).t := ⟨_, rfl⟩
            have hp12 : p < 12 := by omega
            rw [hp] at d0
            rw [← hxx] at d1
            have hx0 := HD.out.2.2.t hkl
            rw [← hxx] at hx0
            obtain ⟨xs, hxs⟩ : ∃ xs, xs = mtC (mtS s j) col k := ⟨_, rfl⟩
            have hBM : BM 2000000 xs := by
              rw [hxs]
              refine ((BM.sec HG.out.ws (show j ≤ s.length by rw [← HN.out]; omega)).col HD.out.2.2.mt (show k ≤ col.length by omega)).up ?_
              have := HD.out.2.2.upto (show k ≤ col.length by omega)
              omega
            have hy1 := hBM.lo p
            have hy2 := hBM.hi p
            have hIS := hR2.out.2
            rw [← hxs] at hIS
            obtain ⟨V, hV⟩ : ∃ V, V = wr.alloc (.cells #[.int .i64 ((p : Int) + 1), .int .i64 x] 86) := ⟨_, rfl⟩
            have hbV : Below wr.heap.size wr V := by rw [hV]; (repeat' (first | (with_reducible exact Below.refl _ _) | (with_reducible assumption) | (with_reducible refine Below.setCell ?_ ?_ _) | (with_reducible refine Below.alloc ?_ ?_ _) | (with_reducible refine below_drewN ?_ _) | (with_reducible refine Below.drew ?_) | (with_reducible exact Nat.le_refl _) | omega | (simp; done) | (simp; omega)))
            have hkV : V.heap[wr.heap.size]? = some (.cells #[.int .i64 ((p : Int) + 1), .int .i64 x] 86) := by rw [hV]; exact heap_alloc_new _ _
            have m0 : V.cell? ⟨wr.heap.size, 0, none⟩ = some (.int .i64 ((p : Int) + 1)) := by simp [World.cell?, hkV]
            have m1 : V.cell? ⟨wr.heap.size, 1, none⟩ = some (.int .i64 x) := by simp [World.cell?, hkV]
            have m2 : wr.heap.size < V.heap.size := by rw [hV]; simp
            have hIV := IS.kept hIS (fun q hq => hbV.block q (rowLt hIS hq))
            obtain ⟨n0, n1, n2⟩ := hIV.bookAt hBM.len hp12
            obtain ⟨y, hy⟩ : ∃ y, y = xs.getD p 0 := ⟨_, rfl⟩
            rw [← hy] at n0 hy1 hy2
            have HX : Hid (Below w1.heap.size w1 (V.drew.setCell ⟨w1.heap.size, p, none⟩ (.int .i64 (y + x))) ∧ IS (V.drew.setCell ⟨w1.heap.size, p, none⟩ (.int .i64 (y + x))) w1.heap.size (.slice (some ⟨w1.heap.size, 0, none⟩) 12 12) (mtC (mtS s j) col (k + 1))) := by
              refine ⟨((hR2.out.1.trans (hbV.mono hR2.out.1.size)).drew).setCell (Nat.le_refl _) _, ?_⟩
              have h9 : IS V.drew w1.heap.size (.slice (some ⟨w1.heap.size, 0, none⟩) 12 12) xs := hIV
              have := h9.bookSet hBM.len p (y + x)
              rw [mtC, ← hxs, hp, ← hxx, addM, show (((p : Int) + 1) - 1).toNat = p by omega, ← hy]
              exact this
            have HV : Hid (V = wr.alloc (.cells #[.int .i64 ((p : Int) + 1), .int .i64 x] 86)) := hV
            have hw1' : IntKind.i64.wrap ((p : Int) + 1 - 1) = (p : Int) := by rw [IntKind.wrap_i64]; omega
            have hw2' : (p : Int) + 1 - 1 = (p : Int) := by omega
            have hw3' : IntKind.i64.wrap (p : Int) = (p : Int) := by rw [IntKind.wrap_i64]; omega
            have hpi0 : (0 : Int) ≤ (p : Int) := by omega
            have hpi1 : (p : Int) < 12 := by omega
            have hyx : IntKind.i64.wrap (y + x) = y + x := by rw [IntKind.wrap_i64]; omega
            clear hxs hIS hIV hBM hR2 hbV hkV hV hkl hmm hp hxx hy
            have b2 : (0 : Int) ≤ (k : Int) := by omega
            have b3 : (k : Int) < (un : Int) := by omega
            go_wp2_with (fail)
            rw [← HV.out]
            refine wp_region_still_tail 10 (by kernel_rfl) (by kernel_rfl) ?_
            have hdw : ({ V with drawn := V.drawn + 1 } : World) = V.drew := rfl
            rw [hdw]
            clear hdw
            simp only [List.take_succ_cons, List.take_zero, List.drop_succ_cons, List.drop_zero]
            iterate 10 still_step
            refine wpStill_nil ?_
            go_wp2
            go_roundw
            case rel => exact ⟨k + 1, by omega, by go_num, HX.out⟩
            case measure => simp [intOf]; omega
          · have HX : Hid (Below w1.heap.size w1 wr ∧ IS wr w1.heap.size (.slice (some ⟨w1.heap.size, 0, none⟩) 12 12) (mtS s (j + 1))) := by
              have h1 := hR2.out
              rw [show k = col.length by rw [← HD.out.2.1]; omega] at h1
              unfold Hid; rw [mtS, ← HCOL.out]; exact h1
            clear hR2
            go_wp2
            go_roundw
            case rel => exact ⟨j + 1, by omega, by go_num, HX.out⟩
            case measure => simp [intOf]; omega
      · have HX : Hid (Below w1.heap.size w1 wr ∧ IS wr w1.heap.size (.slice (some ⟨w1.heap.size, 0, none⟩) 12 12) (mtL s)) := by
          have h1 := hR.out
          rw [show j = s.length by rw [← HN.out]; omega] at h1
          unfold Hid; rw [mtL, if_pos HC0.out]; exact h1
        obtain ⟨l0, l1, l2, l3, l4, l5⟩ := HW.out
        have hb5 := HX.out.1
        have r1 : w.heap.size + 1 < wr.heap.size := Nat.lt_of_lt_of_le l1 hb5.size
        have r2 : wr.cell? ⟨w.heap.size + 1, 0, none⟩ = some (.int .i64 0) := (hb5.cell (p := ⟨w.heap.size + 1, 0, none⟩) l1).trans l2
        have r3 : wr.cell? ⟨w.heap.size + 1, 1, none⟩ = some (.slice none 0 0) := (hb5.cell (p := ⟨w.heap.size + 1, 1, none⟩) l1).trans l3
        have r4 : wr.frozen? ⟨w.heap.size + 1, 0, none⟩ = false := (hb5.frozen (p := ⟨w.heap.size + 1, 0, none⟩) l1).trans l4
        have r5 : wr.frozen? ⟨w.heap.size + 1, 1, none⟩ = false := (hb5.frozen (p := ⟨w.heap.size + 1, 1, none⟩) l1).trans l5
        obtain ⟨W, hW⟩ : ∃ W, W = (wr.setCell ⟨w.heap.size + 1, 0, none⟩ (.int .i64 0)).setCell ⟨w.heap.size + 1, 1, none⟩ (.slice (some ⟨w1.heap.size, 0, none⟩) 12 12) := ⟨_, rfl⟩
        have HF : Hid (IS W w.heap.size (.slice (some ⟨w1.heap.size, 0, none⟩) 12 12) (mtL s) ∧ Below w.heap.size w W) := by
          refine ⟨rowLow (IS.kept (w' := W) HX.out.2 (fun q hq => ?_)) (by omega), ?_⟩
          · have hq' : w1.heap.size = q := by injection hq
            rw [hW, heap_setCell_other _ _ _ _ (by simp; omega), heap_setCell_other _ _ _ _ (by simp; omega)]
          · rw [hW]
            have := l0.trans (hb5.mono l0.size)
            (repeat' (first | (with_reducible exact Below.refl _ _) | (with_reducible assumption) | (with_reducible refine Below.setCell ?_ ?_ _) | (with_reducible refine Below.alloc ?_ ?_ _) | (with_reducible refine below_drewN ?_ _) | (with_reducible refine Below.drew ?_) | (with_reducible exact Nat.le_refl _) | omega | (simp; done) | (simp; omega)))
        have HWW : Hid _ := hW
        clear hR hb5 l0 l1 l2 l3 l4 l5 hW HX
        go_wp2
        rw [← HWW.out]
        refine bodyPost_ret (by rw [HWW.out]; simp [results, Try.results31, go_sem, r1, r2, r3]; try rfl) rfl ⟨_, rfl, HF.out.1, HF.out.2⟩
  · have HL : Hid (mtL s = []) := by unfold Hid; rw [mtL, if_neg (H.out.2 ▸ hF)]
    have hF' : (C == 0) = false := by simpa using hF
    have HB2 : Hid (Below w.heap.size w ((w1.setCell ⟨w.heap.size + 1, 0, none⟩ (.int .i64 C)).setCell ⟨w.heap.size + 1, 1, none⟩ (.slice none 0 0))) := by
      have := HB.out; unfold Hid; (repeat' (first | (with_reducible exact Below.refl _ _) | (with_reducible assumption) | (with_reducible refine Below.setCell ?_ ?_ _) | (with_reducible refine Below.alloc ?_ ?_ _) | (with_reducible refine below_drewN ?_ _) | (with_reducible refine Below.drew ?_) | (with_reducible exact Nat.le_refl _) | omega | (simp; done) | (simp; omega)))
    go_wp2
    refine bodyPost_ret (by simp [results, Try.results31, go_sem, p0, p1, q1]; try rfl) rfl ⟨_, rfl, by rw [HL.out]; exact World.ownsRow_nil _ _ _ _, HB2.out⟩

end Go.Proofs.Ytceljakmjddgbaa
