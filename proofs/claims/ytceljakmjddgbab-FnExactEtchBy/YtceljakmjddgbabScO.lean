/- Proved here: books of matter, of the model. -/
import Derived.Test.YtceljakmjddgbabScB
import Derived.Test.YtceljakmjddgbabScS
import Derived.StillTail
namespace Go.Proofs.Ytceljakmjddgbab
open Go.RowKit
set_option linter.unusedVariables false
set_option linter.unusedSimpArgs false

theorem kn_at1' (w : World) (a b : Obj) : ((w.alloc a).alloc b).heap[w.heap.size + 1]? = some b := by have := heap_alloc_new (w.alloc a) b; simpa using this

theorem rowLt {w : World} {B q : Nat} {v : Value} {xs : List Int} (h : IS w B v xs) (hq : v.ownBlock = some q) : q < w.heap.size := (World.ownsRow.lt h q hq).2

set_option maxRecDepth 10000 in
set_option maxHeartbeats 12800000 in
theorem spec_mt {w : World} {v : Value} {s : List (List Flm)} (hs : WS s) (h : RsF w v s) :
    Calls Try.prog 72 #[.agg #[v]] w fun e w' => ∃ g, e = .returned (.slice (some ⟨g, 0, none⟩) 12 12) ∧ IS w' w.heap.size (.slice (some ⟨g, 0, none⟩) 12 12) (mtS s s.length) ∧ Below w.heap.size w w' := by
  obtain ⟨a, c, rfl⟩ := h.form
  obtain ⟨n, hnn⟩ : ∃ n, n = s.length := ⟨_, rfl⟩
  rw [← hnn] at h ⊢
  have hn16 : n ≤ 16 := by rw [hnn]; exact hs.len
  have HG : Hid (WS s) := hs
  have HN : Hid (n = s.length) := hnn
  have H : Hid (RsF w (.slice a n c) s) := h
  clear h hnn hs
  obtain ⟨i1, hi1, hy0, hy1, hy2⟩ := info_parts info_i64
  obtain ⟨w1, hw1⟩ : ∃ x, x = w.alloc (.cells #[.slice a n c] 30) := ⟨_, rfl⟩
  have hb1 : Below w.heap.size w w1 := by rw [hw1]; (repeat' (first | (with_reducible exact Below.refl _ _) | (with_reducible assumption) | (with_reducible refine Below.setCell ?_ ?_ _) | (with_reducible refine Below.alloc ?_ ?_ _) | (with_reducible refine below_drewN ?_ _) | (with_reducible refine Below.drew ?_) | (with_reducible exact Nat.le_refl _) | omega | (simp; done) | (simp; omega)))
  have hk1 : w1.heap[w.heap.size]? = some (.cells #[.slice a n c] 30) := by rw [hw1]; exact heap_alloc_new _ _
  have HW : Hid (Below w.heap.size w w1 ∧ w.heap.size < w1.heap.size ∧ w1.cell? ⟨w.heap.size, 0, none⟩ = some (.slice a n c)) := ⟨hb1, by rw [hw1]; simp, by simp [World.cell?, hk1]⟩
  have hsz : w1.heap.size = w.heap.size + 1 := by rw [hw1]; simp
  go_enter Try.func72, Try.ntmps72
  go_wp2_with (at_make; refine wpList_make_full _ rfl _ _ 25 rfl (w.heap.size + 1) 2 i1 (.int .i64 0) 1 Try.underlying25 hi1 hy0 hy1 _ _ _ _ 12 rfl rfl rfl rfl (by rw [hy2]; omega) (by unfold maxLen; omega) (by simp) ?_; intro w2 hown2 hgrow2)
  rw [← hw1] at hgrow2 hown2
  rw [← hsz] at hown2 ⊢
  clear hw1 hb1 hk1
  have hb2 : Below w1.heap.size w1 w2 := (Below.refl _ _).grown hgrow2 (Nat.le_refl _) (fun k h => by cases h)
  have HS : Hid (Below w1.heap.size w1 w2 ∧ IS w2 w1.heap.size (.slice (some ⟨w1.heap.size, 0, none⟩) 12 12) (mtS s 0)) := by
    rw [show (Value.int IntKind.i64 0).cells = #[Value.int IntKind.i64 0] from rfl, toList_madeCells_one] at hown2
    exact ⟨hb2, book_made hown2⟩
  clear hown2 hgrow2 hb2 hsz
  go_loopw [4] (fun i wr => ∃ j : Nat, j ≤ n ∧ i = .int .i64 j ∧ Hid (Below w1.heap.size w1 wr ∧ IS wr w1.heap.size (.slice (some ⟨w1.heap.size, 0, none⟩) 12 12) (mtS s j))) (fun i _ => n - (intOf i).toNat)
  case atStart => exact ⟨0, Nat.zero_le _, rfl, HS.out⟩
  case round =>
      clear HS
      obtain ⟨j, hjn, rfl, hR⟩ := hrel
      have q0 : wr.cell? ⟨w.heap.size, 0, none⟩ = some (.slice a n c) := (hR.out.1.cell (p := ⟨w.heap.size, 0, none⟩) HW.out.2.1).trans HW.out.2.2
      have q1 : w.heap.size < wr.heap.size := Nat.lt_of_lt_of_le HW.out.2.1 hR.out.1.size
      by_cases hlt : j < n
      · obtain ⟨g, o, ua, un, uc, rfl, hg, c0, hun, hrd⟩ := H.out.at hlt
        obtain ⟨col, hcol⟩ : ∃ x, x = s.getD j [] := ⟨_, rfl⟩
        rw [← hcol] at hun hrd
        have hgc := HG.out.col j (by rw [← HN.out]; exact hlt)
        rw [← hcol] at hgc
        have HD : Hid (RG 2 flC w (.slice ua un uc) col ∧ un = col.length ∧ WC col) := ⟨hrd, hun, hgc⟩
        have HY : Hid (g < w.heap.size ∧ w.cell? ⟨g, o + j, none⟩ = some (.slice ua un uc)) := ⟨hg, c0⟩
        have HCOL : Hid (col = s.getD j []) := hcol
        have hu24 : un ≤ 24 := by rw [hun]; exact hgc.len
        have HR0 : Hid (Below w1.heap.size w1 wr ∧ IS wr w1.heap.size (.slice (some ⟨w1.heap.size, 0, none⟩) 12 12) (mtC (mtS s j) col 0)) := hR.out
        clear hrd hun hcol hgc hR c0 hg
        have b0 : (0 : Int) ≤ (j : Int) := by omega
        have b1 : (j : Int) < (n : Int) := by omega
        go_wp2
        clear q0 q1
        go_loopw [5] (fun i wr => ∃ k : Nat, k ≤ un ∧ i = .int .i64 k ∧ Hid (Below w1.heap.size w1 wr ∧ IS wr w1.heap.size (.slice (some ⟨w1.heap.size, 0, none⟩) 12 12) (mtC (mtS s j) col k))) (fun i _ => un - (intOf i).toNat)
        case atStart => exact ⟨0, Nat.zero_le _, rfl, HR0.out⟩
        case round =>
          clear HR0
          obtain ⟨k, hkn, rfl, hR2⟩ := hrel
          have hbw : Below w.heap.size w wr := HW.out.1.trans (hR2.out.1.mono HW.out.1.size)
          have q0 : wr.cell? ⟨w.heap.size, 0, none⟩ = some (.slice (some ⟨g, o, none⟩) n c) := (hR2.out.1.cell (p := ⟨w.heap.size, 0, none⟩) HW.out.2.1).trans HW.out.2.2
          have q1 : w.heap.size < wr.heap.size := Nat.lt_of_lt_of_le HW.out.2.1 hR2.out.1.size
          have c0 : wr.cell? ⟨g, o + j, none⟩ = some (.slice ua un uc) := (hbw.cell (p := ⟨g, o + j, none⟩) HY.out.1).trans HY.out.2
          have hg : g < wr.heap.size := Nat.lt_of_lt_of_le HY.out.1 hbw.size
          clear hbw
          by_cases hlt2 : k < un
          · obtain ⟨g2, o2, rfl, hg2, d0, d1⟩ := fl_at (HD.out.1.below (HW.out.1.trans (hR2.out.1.mono HW.out.1.size))) hlt2
            have hkl : k < col.length := by rw [← HD.out.2.1]; exact hlt2
            have hmm := HD.out.2.2.mt k hkl
            obtain ⟨p, hp⟩ : ∃ p : Nat, (fat col k).m = (p : Int) + 1 := ⟨((fat col k).m - 1).toNat, by omega⟩
            obtain ⟨x, hxx⟩ : ∃ x, x = (fat col k).t := ⟨_, rfl⟩
            have hp12 : p < 12 := by omega
            rw [hp] at d0
            rw [← hxx] at d1
            have hx0 := HD.out.2.2.t hkl
            rw [← hxx] at hx0
            obtain ⟨xs, hxs⟩ : ∃ xs, xs = mtC (mtS s j) col k := ⟨_, rfl⟩
            have hBM : BM 2000000 xs := by
              rw [hxs]
              refine ((BM.sec HG.out (show j ≤ s.length by rw [← HN.out]; omega)).col HD.out.2.2.mt (show k ≤ col.length by omega)).up ?_
              have := HD.out.2.2.upto (show k ≤ col.length by omega)
              omega
            have hy1 := hBM.lo p
            have hy2 := hBM.hi p
            have hIS := hR2.out.2
            rw [← hxs] at hIS
            obtain ⟨V, hV⟩ : ∃ V, V = wr.alloc (.cells #[.int .i64 ((p : Int) + 1), .int .i64 x] 76) := ⟨_, rfl⟩
            have hbV : Below wr.heap.size wr V := by rw [hV]; (repeat' (first | (with_reducible exact Below.refl _ _) | (with_reducible assumption) | (with_reducible refine Below.setCell ?_ ?_ _) | (with_reducible refine Below.alloc ?_ ?_ _) | (with_reducible refine below_drewN ?_ _) | (with_reducible refine Below.drew ?_) | (with_reducible exact Nat.le_refl _) | omega | (simp; done) | (simp; omega)))
            have hkV : V.heap[wr.heap.size]? = some (.cells #[.int .i64 ((p : Int) + 1), .int .i64 x] 76) := by rw [hV]; exact heap_alloc_new _ _
            have m0 : V.cell? ⟨wr.heap.size, 0, none⟩ = some (.int .i64 ((p : Int) + 1)) := by simp [World.cell?, hkV]
            have m1 : V.cell? ⟨wr.heap.size, 1, none⟩ = some (.int .i64 x) := by simp [World.cell?, hkV]
            have m2 : wr.heap.size < V.heap.size := by rw [hV]; simp
            have hIV := IS.kept hIS (fun q hq => hbV.block q (rowLt hIS hq))
            obtain ⟨n0, n1, n2⟩ := hIV.bookAt hBM.len hp12
            obtain ⟨y, hy⟩ : ∃ y, y = xs.getD p 0 := ⟨_, rfl⟩
            rw [← hy] at n0 hy1 hy2
            have HX : Hid (Below w1.heap.size w1 (V.drew.setCell ⟨w1.heap.size, p, none⟩ (.int .i64 (y + x))) ∧ IS (V.drew.setCell ⟨w1.heap.size, p, none⟩ (.int .i64 (y + x))) w1.heap.size (.slice (some ⟨w1.heap.size, 0, none⟩) 12 12) (mtC (mtS s j) col (k + 1))) := by
              refine ⟨((hR2.out.1.trans (hbV.mono hR2.out.1.size)).drew).setCell (Nat.le_refl _) _, ?_⟩
              have h9 : IS V.drew w1.heap.size (.slice (some ⟨w1.heap.size, 0, none⟩) 12 12) xs := hIV
              have := h9.bookSet hBM.len p (y + x)
              rw [mtC, ← hxs, hp, ← hxx, addM, show (((p : Int) + 1) - 1).toNat = p by omega, ← hy]
              exact this
            have HV : Hid (V = wr.alloc (.cells #[.int .i64 ((p : Int) + 1), .int .i64 x] 76)) := hV
            have hw1' : IntKind.i64.wrap ((p : Int) + 1 - 1) = (p : Int) := by rw [IntKind.wrap_i64]; omega
            have hw2' : (p : Int) + 1 - 1 = (p : Int) := by omega
            have hw3' : IntKind.i64.wrap (p : Int) = (p : Int) := by rw [IntKind.wrap_i64]; omega
            have hpi0 : (0 : Int) ≤ (p : Int) := by omega
            have hpi1 : (p : Int) < 12 := by omega
            have hyx : IntKind.i64.wrap (y + x) = y + x := by rw [IntKind.wrap_i64]; omega
            clear hxs hIS hIV hBM hR2 hbV hkV hV hkl hmm hp hxx hy
            have b2 : (0 : Int) ≤ (k : Int) := by omega
            have b3 : (k : Int) < (un : Int) := by omega
            go_wp2_with (fail)
            rw [← HV.out]
            refine wp_region_still_tail 14 (by kernel_rfl) (by kernel_rfl) ?_
            have hdw : ({ V with drawn := V.drawn + 1 } : World) = V.drew := rfl
            rw [hdw]
            clear hdw
            simp only [List.take_succ_cons, List.take_zero, List.drop_succ_cons, List.drop_zero]
            iterate 14 still_step
            refine wpStill_nil ?_
            go_wp2
            go_roundw
            case rel => exact ⟨k + 1, by omega, by go_num, HX.out⟩
            case measure => simp [intOf]; omega
          · have HX : Hid (Below w1.heap.size w1 wr ∧ IS wr w1.heap.size (.slice (some ⟨w1.heap.size, 0, none⟩) 12 12) (mtS s (j + 1))) := by
              have h1 := hR2.out
              rw [show k = col.length by rw [← HD.out.2.1]; omega] at h1
              unfold Hid; rw [mtS, ← HCOL.out]; exact h1
            clear hR2
            go_wp2
            go_roundw
            case rel => exact ⟨j + 1, by omega, by go_num, HX.out⟩
            case measure => simp [intOf]; omega
      · have HX : Hid (Below w.heap.size w wr ∧ IS wr w.heap.size (.slice (some ⟨w1.heap.size, 0, none⟩) 12 12) (mtS s n)) := by
          have h1 := hR.out
          rw [show j = n by omega] at h1
          exact ⟨HW.out.1.trans (h1.1.mono HW.out.1.size), rowLow h1.2 (Nat.le_of_lt HW.out.2.1)⟩
        clear hR
        go_wp2
        go_returns
        exact ⟨_, rfl, HX.out.2, HX.out.1⟩

end Go.Proofs.Ytceljakmjddgbab
