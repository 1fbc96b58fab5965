/- Proved here: l6Map of the model: mapV. -/
import Derived.Test.YtmpbcdolikafpaaSpM
import Derived.Deep.AppendLies
import Derived.Laws.AppendOwnNone
namespace Go.Proofs.Ytmpbcdolikafpaa
open Go.RowKit
set_option linter.unusedVariables false
set_option linter.unusedSimpArgs false

theorem wt_fourL {w : World} {k : Nat} {a b c d : Value} {T : TypeId} (h : w.heap[k]? = some (.cells #[a, b, c, d] T)) :
    w.cell? ⟨k, 0, none⟩ = some a ∧ w.cell? ⟨k, 1, none⟩ = some b ∧ w.cell? ⟨k, 2, none⟩ = some c ∧ w.cell? ⟨k, 3, none⟩ = some d ∧ k < w.heap.size := by
  obtain ⟨h0, h1, h2, h3, _, hl⟩ := wt_four h
  exact ⟨h0, h1, h2, h3, hl⟩

set_option maxRecDepth 10000 in
set_option maxHeartbeats 8000000 in
theorem spec_map (l : List Sh) (f : Bx) {w : World} {v : Value} (hl : l.length ≤ 40) (hd : ∀ x ∈ l, 0 ≤ x.d ∧ x.d ≤ 1000) (hf : frF f = 0) (h : RG 5 shC w v l) :
    Calls Try.prog 44 #[v, .agg #[.int .i64 f.x0, .int .i64 f.y0, .int .i64 f.x1, .int .i64 f.y1]] w fun e w' => ∃ v' vs, e = .returned v' ∧ RI w' w.heap.size v' (mapV l f) vs ∧ Below w.heap.size w w' := by
  obtain ⟨a, c, rfl⟩ := h.form
  obtain ⟨n, hnn⟩ : ∃ n, n = l.length := ⟨_, rfl⟩
  rw [← hnn] at h hl ⊢
  have H : Hid (RG 5 shC w (.slice a n c) l ∧ n = l.length ∧ (∀ x ∈ l, 0 ≤ x.d ∧ x.d ≤ 1000)) := ⟨h, hnn, hd⟩
  have HSM : Hid (∀ (k : Nat) (x y : Int), 0 ≤ sumD (l.take k) x y ∧ sumD (l.take k) x y ≤ 40000) := fun k x y => sumD_small (by rw [← hnn]; exact hl) hd k x y
  have hfb := frF_box hf
  obtain ⟨wd, hwd⟩ : ∃ wd, wd = wdN f := ⟨_, rfl⟩
  obtain ⟨ht, hht⟩ : ∃ ht, ht = htN f := ⟨_, rfl⟩
  have hw1 : f.x1 = f.x0 + (wd : Int) := by rw [hwd]; unfold wdN; omega
  have hh1 : f.y1 = f.y0 + (ht : Int) := by rw [hht]; unfold htN; omega
  have HF : Hid (wd = wdN f ∧ ht = htN f ∧ f.x1 = f.x0 + (wd : Int) ∧ f.y1 = f.y0 + (ht : Int) ∧ wd ≤ 24 ∧ ht ≤ 24 ∧ -10000 ≤ f.x0 ∧ f.x0 ≤ 10000 ∧ -10000 ≤ f.y0 ∧ f.y0 ≤ 10000) := ⟨hwd, hht, hw1, hh1, by omega, by omega, by omega, by omega, by omega, by omega⟩
  clear h hnn hd hf hfb hwd hht hw1 hh1
  obtain ⟨i0, hi0, hz0, hz1, hz2⟩ := info_parts info_row
  obtain ⟨i1, hi1, hy0, hy1, hy2⟩ := info_parts info_i64
  have HS0 : Hid (RI ((w.alloc (.cells #[.int .i64 f.x0, .int .i64 f.y0, .int .i64 f.x1, .int .i64 f.y1] 34)).alloc (.cells #[] 29)) (w.heap.size + 1) (.slice (some ⟨w.heap.size + 1, 0, none⟩) 0 0) (gridL (mapG l f) 0 wd) [] ∧ ((w.alloc (.cells #[.int .i64 f.x0, .int .i64 f.y0, .int .i64 f.x1, .int .i64 f.y1] 34)).alloc (.cells #[] 29)).heap[w.heap.size]? = some (.cells #[.int .i64 f.x0, .int .i64 f.y0, .int .i64 f.x1, .int .i64 f.y1] 34) ∧ Below w.heap.size w ((w.alloc (.cells #[.int .i64 f.x0, .int .i64 f.y0, .int .i64 f.x1, .int .i64 f.y1] 34)).alloc (.cells #[] 29))) := by
    have h1 := RI.lit0 (w.alloc (.cells #[.int .i64 f.x0, .int .i64 f.y0, .int .i64 f.x1, .int .i64 f.y1] 34)) (w.heap.size + 1) (by simp)
    simp only [World.size_alloc] at h1
    exact ⟨h1, (Below.heap_alloc _ _ _ (by simp)).trans (heap_alloc_new w _), by (repeat' (first | (with_reducible exact Below.refl _ _) | (with_reducible assumption) | (with_reducible refine Below.setCell ?_ ?_ _) | (with_reducible refine Below.alloc ?_ ?_ _) | (with_reducible refine below_drewN ?_ _) | (with_reducible refine Below.drew ?_) | (with_reducible exact Nat.le_refl _) | omega | (simp; done) | (simp; omega)))⟩
  go_enter Try.func44, Try.ntmps44
  go_wp2
  go_loopw [5, 6] (fun vr y wr => ∃ (j : Nat) (vs : List Value), j ≤ ht ∧ y = .int .i64 (f.y0 + (j : Int)) ∧ Hid (RI wr (w.heap.size + 1) vr (gridL (mapG l f) j wd) vs ∧ wr.heap[w.heap.size]? = some (.cells #[.int .i64 f.x0, .int .i64 f.y0, .int .i64 f.x1, .int .i64 f.y1] 34) ∧ Below w.heap.size w wr)) (fun _ y _ => (f.y1 - intOf y).toNat)
  case atStart => exact ⟨0, [], Nat.zero_le _, by simp, HS0.out⟩
  case round =>
    clear HS0
    obtain ⟨j, vs, hj, rfl, hR⟩ := hrel
    obtain ⟨p0, p1, p2, p3, pl⟩ := wt_fourL hR.out.2.1
    have hF := HF.out
    obtain ⟨y, hy⟩ : ∃ y, y = f.y0 + (j : Int) := ⟨_, rfl⟩
    rw [← hy]
    have hyb : -10000 ≤ y ∧ y ≤ 10100 := by omega
    by_cases hlt : j < ht
    · have hly : y < f.y1 := by omega
      have hwy : IntKind.i64.wrap (y + 1) = y + 1 := by rw [IntKind.wrap_i64]; omega
      have HY : Hid (y = f.y0 + (j : Int) ∧ y + 1 = f.y0 + ((j + 1 : Nat) : Int) ∧ -10000 ≤ y ∧ y ≤ 10100) := ⟨hy, by omega, hyb.1, hyb.2⟩
      have HRO : Hid (RI wr (w.heap.size + 1) u5 (gridL (mapG l f) j wd) vs ∧ wr.heap[w.heap.size]? = some (.cells #[.int .i64 f.x0, .int .i64 f.y0, .int .i64 f.x1, .int .i64 f.y1] 34) ∧ Below w.heap.size w wr) := hR.out
      have hszo := hR.out.2.2.size
      have HQ0 : Hid (IS (wr.alloc (.cells #[] 2)) wr.heap.size (.slice (some ⟨wr.heap.size, 0, none⟩) 0 0) (rowG (mapG l f j) 0) ∧ Below wr.heap.size wr (wr.alloc (.cells #[] 2))) := ⟨IS.lit0 _ _ (Nat.le_refl _), (Below.refl _ _).alloc (Nat.le_refl _) _⟩
      obtain ⟨wo, hwo⟩ : ∃ wo, wo = wr := ⟨_, rfl⟩
      rw [← hwo] at HRO HQ0 hszo
      have HWO : Hid (w.heap.size < wo.heap.size) := by unfold Hid; rw [hwo]; exact pl
      clear hR hF hy hj
      go_wp2
      clear p0 p1 p2 p3 pl
      go_loopw [7, 8] (fun vo x wr => ∃ i : Nat, i ≤ wd ∧ x = .int .i64 (f.x0 + (i : Int)) ∧ Hid (IS wr wo.heap.size vo (rowG (mapG l f j) i) ∧ Below wo.heap.size wo wr)) (fun _ x _ => (f.x1 - intOf x).toNat)
      case atStart => rw [← hwo]; exact ⟨0, Nat.zero_le _, by simp, HQ0.out⟩
      case round =>
        clear HQ0 hwo
        obtain ⟨i, hi, rfl, hQ⟩ := hrel
        have hblk : wr.heap[w.heap.size]? = some (.cells #[.int .i64 f.x0, .int .i64 f.y0, .int .i64 f.x1, .int .i64 f.y1] 34) := (hQ.out.2.block _ HWO.out).trans HRO.out.2.1
        obtain ⟨p0, p1, p2, p3, pl⟩ := wt_fourL hblk
        have hF := HF.out
        obtain ⟨x, hx⟩ : ∃ x, x = f.x0 + (i : Int) := ⟨_, rfl⟩
        rw [← hx]
        have hxb : -10000 ≤ x ∧ x ≤ 10100 := by omega
        by_cases hlx : i < wd
        · have hlx' : x < f.x1 := by omega
          have hwx : IntKind.i64.wrap (x + 1) = x + 1 := by rw [IntKind.wrap_i64]; omega
          have HX : Hid (x = f.x0 + (i : Int) ∧ x + 1 = f.x0 + ((i + 1 : Nat) : Int) ∧ -10000 ≤ x ∧ x ≤ 10100) := ⟨hx, by omega, hxb.1, hxb.2⟩
          have HQ : Hid (IS wr wo.heap.size u7 (rowG (mapG l f j) i) ∧ Below wo.heap.size wo wr) := hQ.out
          obtain ⟨wm, hwm⟩ : ∃ wm, wm = wr := ⟨_, rfl⟩
          rw [← hwm] at HQ
          clear hQ hF hx hi hblk
          go_wp2
          clear p0 p1 p2 p3 pl
          go_loopw [9, 10] (fun sm i wr => ∃ k : Nat, k ≤ n ∧ i = .int .i64 k ∧ sm = .int .i64 (sumD (l.take k) x y) ∧ Hid (Below wm.heap.size wm wr)) (fun _ i _ => n - (intOf i).toNat)
          case atStart => rw [← hwm]; exact ⟨0, Nat.zero_le _, rfl, rfl, Below.refl _ _⟩
          case round =>
            clear hwm
            obtain ⟨k, hk, rfl, rfl, hK⟩ := hrel
            have HBW : Hid (Below w.heap.size w wr) := HRO.out.2.2.trans ((HQ.out.2.mono hszo).trans (hK.out.mono (Nat.le_trans hszo HQ.out.2.size)))
            by_cases hlk : k < n
            · have hkl : k < l.length := by rw [← H.out.2.1]; exact hlk
              obtain ⟨g, o, c2, he, hg, hj⟩ := (H.out.1.below HBW.out).pos (by omega)
              simp only [Value.slice.injEq] at he
              obtain ⟨rfl, hx1, hx2⟩ := he
              clear hx1 hx2
              obtain ⟨c0, c1, c2, c3, c4⟩ := shC_at (hj k hkl)
              obtain ⟨q, hq⟩ : ∃ q, q = l[k] := ⟨_, rfl⟩
              rw [← hq] at c0 c1 c2 c3 c4
              have hqd := H.out.2.2 q (by rw [hq]; exact List.getElem_mem hkl)
              have HST : Hid (sumD (l.take (k + 1)) x y = sumD (l.take k) x y + (if inB q.b x y then q.d else 0)) := by unfold Hid; rw [sumD_take hkl, ← hq]
              have hsm := HSM.out k x y
              generalize sumD (l.take k) x y = S at HST hsm ⊢
              have hws : IntKind.i64.wrap (S + q.d) = S + q.d := by rw [IntKind.wrap_i64]; omega
              have hszr := hK.out.size
              clear hq hj
              have b0 : (0 : Int) ≤ (k : Int) := by omega
              have b1 : (k : Int) < (n : Int) := by omega
              have HNX : Hid (∀ W, Below wr.heap.size wr W → Below wm.heap.size wm W) := fun W hW => hK.out.trans (hW.mono hszr)
              clear hK
              by_cases q1 : q.b.x0 ≤ x
              case neg =>
                have HE : Hid (sumD (l.take (k + 1)) x y = S) := by unfold Hid; rw [HST.out, if_neg (fun e => by unfold inB at e; omega)]; omega
                clear HST
                go_wp2
                go_roundw
                case rel => exact ⟨k + 1, by omega, by go_num, by rw [HE.out], HNX.out _ (by (repeat' (first | (with_reducible exact Below.refl _ _) | (with_reducible assumption) | (with_reducible refine Below.setCell ?_ ?_ _) | (with_reducible refine Below.alloc ?_ ?_ _) | (with_reducible refine below_drewN ?_ _) | (with_reducible refine Below.drew ?_) | (with_reducible exact Nat.le_refl _) | omega | (simp; done) | (simp; omega))))⟩
                case measure => simp [intOf]; omega
              by_cases q2 : x < q.b.x1
              case neg =>
                have HE : Hid (sumD (l.take (k + 1)) x y = S) := by unfold Hid; rw [HST.out, if_neg (fun e => by unfold inB at e; omega)]; omega
                clear HST
                go_wp2
                go_roundw
                case rel => exact ⟨k + 1, by omega, by go_num, by rw [HE.out], HNX.out _ (by (repeat' (first | (with_reducible exact Below.refl _ _) | (with_reducible assumption) | (with_reducible refine Below.setCell ?_ ?_ _) | (with_reducible refine Below.alloc ?_ ?_ _) | (with_reducible refine below_drewN ?_ _) | (with_reducible refine Below.drew ?_) | (with_reducible exact Nat.le_refl _) | omega | (simp; done) | (simp; omega))))⟩
                case measure => simp [intOf]; omega
              by_cases q3 : q.b.y0 ≤ y
              case neg =>
                have HE : Hid (sumD (l.take (k + 1)) x y = S) := by unfold Hid; rw [HST.out, if_neg (fun e => by unfold inB at e; omega)]; omega
                clear HST
                go_wp2
                go_roundw
                case rel => exact ⟨k + 1, by omega, by go_num, by rw [HE.out], HNX.out _ (by (repeat' (first | (with_reducible exact Below.refl _ _) | (with_reducible assumption) | (with_reducible refine Below.setCell ?_ ?_ _) | (with_reducible refine Below.alloc ?_ ?_ _) | (with_reducible refine below_drewN ?_ _) | (with_reducible refine Below.drew ?_) | (with_reducible exact Nat.le_refl _) | omega | (simp; done) | (simp; omega))))⟩
                case measure => simp [intOf]; omega
              by_cases q4 : y < q.b.y1
              case neg =>
                have HE : Hid (sumD (l.take (k + 1)) x y = S) := by unfold Hid; rw [HST.out, if_neg (fun e => by unfold inB at e; omega)]; omega
                clear HST
                go_wp2
                go_roundw
                case rel => exact ⟨k + 1, by omega, by go_num, by rw [HE.out], HNX.out _ (by (repeat' (first | (with_reducible exact Below.refl _ _) | (with_reducible assumption) | (with_reducible refine Below.setCell ?_ ?_ _) | (with_reducible refine Below.alloc ?_ ?_ _) | (with_reducible refine below_drewN ?_ _) | (with_reducible refine Below.drew ?_) | (with_reducible exact Nat.le_refl _) | omega | (simp; done) | (simp; omega))))⟩
                case measure => simp [intOf]; omega
              have HE : Hid (sumD (l.take (k + 1)) x y = S + q.d) := by unfold Hid; rw [HST.out, if_pos ⟨q1, q2, q3, q4⟩]
              clear HST
              go_wp2
              go_roundw
              case rel => exact ⟨k + 1, by omega, by go_num, by rw [HE.out], HNX.out _ (by (repeat' (first | (with_reducible exact Below.refl _ _) | (with_reducible assumption) | (with_reducible refine Below.setCell ?_ ?_ _) | (with_reducible refine Below.alloc ?_ ?_ _) | (with_reducible refine below_drewN ?_ _) | (with_reducible refine Below.drew ?_) | (with_reducible exact Nat.le_refl _) | omega | (simp; done) | (simp; omega))))⟩
              case measure => simp [intOf]; omega
            · have e : sumD (l.take k) x y = mapG l f j i := by
                unfold mapG
                rw [List.take_of_length_le (by rw [← H.out.2.1]; omega), ← HX.out.1, ← HY.out.1]
              rw [e]
              obtain ⟨S, hS⟩ : ∃ S, S = mapG l f j i := ⟨_, rfl⟩
              rw [← hS]
              have HST : Hid (rowG (mapG l f j) (i + 1) = rowG (mapG l f j) i ++ [S]) := by unfold Hid; rw [rowG_succ, hS]
              have hlen : (rowG (mapG l f j) i).length ≤ 24 := by rw [rowG_len]; have := HF.out; omega
              have h5 := HQ.out.1.below' hK.out
              obtain ⟨oa, oc, hof⟩ := h5.form
              subst hof
              have HQ5 : Hid (IS wr wo.heap.size (.slice oa (rowG (mapG l f j) i).length oc) (rowG (mapG l f j) i) ∧ Below wo.heap.size wo wr) := ⟨h5, HQ.out.2.trans (hK.out.mono HQ.out.2.size)⟩
              have hsz5 := HQ5.out.2.size
              clear h5 hK e hS
              generalize rowG (mapG l f j) i = out at HQ5 HST hlen ⊢
              go_wp2_with (at_builtin; refine wpList_append_own _ rfl _ _ 29 rfl wo.heap.size 2 i1 (.int .i64 0) 1 8 Try.underlying29 hi1 hy0 hy1 hy2 rfl (by decide) _ _ _ rfl (World.ownsRow.alloc HQ5.out.1 _) ⟨wr.heap.size, 0, none⟩ 1 1 [.int .i64 S] rfl rfl (World.news_of_block (cs := #[.int .i64 S]) (t := 2) (fr := (0, 0)) (heap_alloc_new wr _)) (by simp [Value.oneCell']) (by unfold maxLen; omega) (by omega) (by simp; omega) ?_; intro v6 w6 hown6 hgrow6 _)
              have R : Hid (IS w6 wo.heap.size v6 (rowG (mapG l f j) (i + 1)) ∧ Below wo.heap.size wo w6) := by
                unfold Hid
                rw [HST.out]
                exact ⟨IS.snocR hown6, (HQ5.out.2.alloc hsz5 _).grown hgrow6 (by simp; omega) (fun k hk => (World.ownsRow.lt HQ5.out.1 k hk).1)⟩
              clear hown6 hgrow6 HQ5 HST HQ HBW
              go_wp2
              go_roundw
              case rel => exact ⟨i + 1, by omega, by rw [← HX.out.2.1], R.out⟩
              case measure => have := HX.out; simp [intOf]; omega
        · have hlx' : ¬ x < f.x1 := by omega
          have e : i = wd := by omega
          obtain ⟨qa, qc, hqf⟩ := hQ.out.1.form
          obtain ⟨ra, rc, hrf⟩ := HRO.out.1.form
          rw [rowG_len] at hqf
          rw [gridL_len] at hrf
          subst hqf hrf
          have HQ5 : Hid (IS wr wo.heap.size (.slice qa i qc) (rowG (mapG l f j) wd) ∧ Below wo.heap.size wo wr) := by rw [← e]; exact hQ.out
          have hRI := HRO.out.1.below HQ5.out.2
          have HRR : Hid (RI wr (w.heap.size + 1) (.slice ra j rc) (gridL (mapG l f) j wd) vs) := hRI
          have hgl : (gridL (mapG l f) j wd).length = j := gridL_len _ _ _
          have HST : Hid (gridL (mapG l f) (j + 1) wd = gridL (mapG l f) j wd ++ [rowG (mapG l f j) wd]) := gridL_succ _ _ _
          have hsz5 := HQ5.out.2.size
          have hj24 : j < 24 := by omega
          clear hQ hF hx hRI e
          go_wp2_with (at_builtin; refine wpList_append_own _ rfl _ _ 64 rfl (w.heap.size + 1) 29 i0 (.slice none 0 0) 1 24 Try.underlying64 hi0 hz0 hz1 hz2 rfl (by decide) _ _ _ rfl (World.ownsRow.alloc HRR.out.o _) ⟨wr.heap.size, 0, none⟩ 1 1 [.slice qa i qc] rfl rfl (World.news_of_block (cs := #[.slice qa i qc]) (t := 29) (fr := (0, 0)) (heap_alloc_new wr _)) (by simp [Value.oneCell']) (by rw [hgl]; unfold maxLen; omega) (by rw [hgl]; omega) (by have := HWO.out; simp; omega) ?_; intro v6 w6 hown6 hgrow6 _)
          have R : Hid (RI w6 (w.heap.size + 1) v6 (gridL (mapG l f) (j + 1) wd) (vs ++ [.slice qa i qc]) ∧ w6.heap[w.heap.size]? = some (.cells #[.int .i64 f.x0, .int .i64 f.y0, .int .i64 f.x1, .int .i64 f.y1] 34) ∧ Below w.heap.size w w6) := by
            have hne : ∀ k, k < w.heap.size + 1 → some k ≠ (Value.slice ra j rc).ownBlock := fun k hk e => by have := (rowBlk HRR.out.o e.symm).1; omega
            have hw0 := HWO.out
            refine ⟨?_, ?_, ?_⟩
            · rw [HST.out]
              exact HRO.out.1.push HQ5.out.2 (by omega) HQ5.out.1 hown6 hgrow6
            · exact (hgrow6.block _ (by simp; omega) (hne _ (by omega))).trans ((Below.heap_alloc wr _ _ (by omega)).trans ((HQ5.out.2.block _ hw0).trans HRO.out.2.1))
            · exact (HRO.out.2.2.trans (HQ5.out.2.mono hszo)).trans ⟨hgrow6.os, hgrow6.tape, hgrow6.output, by have := hgrow6.size; simp at this; omega, fun k hk => (hgrow6.block k (by simp; omega) (hne k (by omega))).trans (Below.heap_alloc wr _ _ (by omega))⟩
          clear hown6 hgrow6 HQ5 HRR HST p0 p1 p2 p3 pl hgl
          go_wp2
          go_roundw
          case rel => exact ⟨j + 1, _, by omega, by rw [← HY.out.2.1], R.out⟩
          case measure => have := HY.out; simp [intOf]; omega
    · have hly : ¬ y < f.y1 := by omega
      have e : j = ht := by omega
      obtain ⟨ra, rc, hrf⟩ := hR.out.1.form
      rw [gridL_len] at hrf
      subst hrf
      have HE : Hid (RI wr w.heap.size (.slice ra j rc) (mapV l f) vs ∧ Below w.heap.size w wr) := by
        have h1 := hR.out.1
        refine ⟨?_, hR.out.2.2⟩
        unfold mapV
        rw [← HF.out.1, ← HF.out.2.1, ← e]
        exact h1.low (by omega)
      clear hR hF hy e
      go_wp2
      go_returns
      exact ⟨_, rfl, ⟨vs, HE.out.1⟩, HE.out.2⟩

end Go.Proofs.Ytmpbcdolikafpaa
