/- Proved here: waferLotsOf of the program: in which lot each wafer stands, or the first fault. -/
import Derived.Test.YtcfjanignfbidaaQbJ
namespace Go.Proofs.Ytcfjanignfbidaa
open Go.RowKit Go.Maps
set_option linter.unusedVariables false
set_option linter.unusedSimpArgs false

theorem lk_make (w : World) : (Instr.makeMap 74 none).run Try.prog w = .ok (.map (some w.heap.size)) (w.alloc (.map #[] 0)) := by
  have h := run_underlying Try.underlying74 w
  simp [Instr.makeMap, h]
/-- Where each wafer of the first n lots stands. -/
def whL (ls : List Lo) : Nat → Int → Option Int
  | 0 => fun _ => none
  | n + 1 => putW (whL ls n) (idA ls n) (ls.getD n lo0).ws
def whF (b : Bk) : Int → Option Int := putW (whL b.ls b.ls.length) 0 b.sc
theorem whL_some {ls : List Lo} : ∀ {n : Nat}, n ≤ ls.length → ∀ x, (whL ls n x).isSome = decide (x ∈ preL ls n) := by
  intro n
  induction n with
  | zero => intro _ x; simp [whL, preL]
  | succ n ih =>
    intro hn x
    have h9 : (ls.getD n lo0) = ls[n] := by simp [List.getD, show n < ls.length by omega]
    rw [preL_step (by omega), whL, h9]
    unfold putW
    by_cases e : x ∈ ls[n].ws
    · rw [if_pos e]; simp [e]
    · rw [if_neg e, ih (by omega) x]; simp [e]
/-- The sizes of a book whose wafers can be laid into a map. -/
structure WBk (b : Bk) : Prop where
  ls : b.ls.length ≤ 30
  id : ∀ j (h : j < b.ls.length), (Lit.int .i64 b.ls[j].id).wf = true
  ws : ∀ j (h : j < b.ls.length), b.ls[j].ws.length ≤ 25
  sc : b.sc.length ≤ 200
theorem GBk.wbk {b : Bk} (h : GBk b) : WBk b := ⟨h.ls, fun j hj => wf64 (by have := h.id j hj; omega), h.ws, h.sc⟩
theorem dropS {ls : List Lo} {j : Nat} (h : j < ls.length) (s : List Int) : (ls.drop j).flatMap Lo.ws ++ s = ls[j].ws ++ ((ls.drop (j + 1)).flatMap Lo.ws ++ s) := by
  rw [List.drop_eq_getElem_cons h, List.flatMap_cons, List.append_assoc]

set_option maxRecDepth 10000 in
set_option maxHeartbeats 6400000 in
theorem impl_wlo (st : Int) {w : World} {vw vl vs : Value} {b : Bk} (hs : WBk b) (h : RdBk w vw vl vs b) :
    Calls Try.prog 44 #[.agg #[.int .i64 st, vw, vl, vs]] w fun e w' => ∃ bm : Nat, e = .returned (.tuple #[.map (some bm), .int .i64 (wfC [] (alL b))]) ∧ (wfC [] (alL b) = 0 → IM 2 w' bm 1000 (whF b)) ∧ w.heap.size ≤ bm ∧ Below w.heap.size w w' := by
  obtain ⟨wa, wc, e1⟩ := h.wn.form
  obtain ⟨la, lc, e2⟩ := h.ls.form
  obtain ⟨xa, xc, e3⟩ := h.sc.form
  subst e1 e2 e3
  obtain ⟨wn, hwn⟩ : ∃ n, n = b.wn.length := ⟨_, rfl⟩
  obtain ⟨ln, hln⟩ : ∃ n, n = b.ls.length := ⟨_, rfl⟩
  obtain ⟨xn, hxn⟩ : ∃ n, n = b.sc.length := ⟨_, rfl⟩
  rw [← hwn, ← hln, ← hxn] at h ⊢
  obtain ⟨K, hK⟩ : ∃ K, K = wfC [] (alL b) := ⟨_, rfl⟩
  rw [← hK]
  have H : Hid (RdBk w (.slice wa wn wc) (.slice la ln lc) (.slice xa xn xc) b ∧ WBk b ∧ ln = b.ls.length ∧ xn = b.sc.length ∧ K = wfC [] (alL b)) := ⟨h, hs, hln, hxn, hK⟩
  have hl30 : ln ≤ 30 := by rw [hln]; exact hs.ls
  have hmk := lk_make
  obtain ⟨W, hW⟩ : ∃ W, W = (w.alloc (.cells #[.int .i64 st, .slice wa wn wc, .slice la ln lc, .slice xa xn xc] 31)).alloc (.map #[] 0) := ⟨_, rfl⟩
  have HW : Hid (Below w.heap.size w W ∧ W.heap[w.heap.size]? = some (.cells #[.int .i64 st, .slice wa wn wc, .slice la ln lc, .slice xa xn xc] 31) ∧ IM 2 W (w.heap.size + 1) 0 (whL b.ls 0)) := by
    rw [hW]
    refine ⟨by (repeat' (first | (with_reducible exact Below.refl _ _) | (with_reducible assumption) | (with_reducible refine Below.setCell ?_ ?_ _) | (with_reducible refine Below.alloc ?_ ?_ _) | (with_reducible refine below_drewN ?_ _) | (with_reducible refine Below.drew ?_) | (with_reducible exact Nat.le_refl _) | omega | (simp; done) | (simp; omega))), (Below.heap_alloc _ _ _ (by simp)).trans (heap_alloc_new w _), ?_⟩
    have := IM.made 2 (w.alloc (.cells #[.int .i64 st, .slice wa wn wc, .slice la ln lc, .slice xa xn xc] 31))
    rw [show (w.alloc (.cells #[.int .i64 st, .slice wa wn wc, .slice la ln lc, .slice xa xn xc] 31)).heap.size = w.heap.size + 1 from by simp] at this
    exact this
  clear h hs hwn hln hxn hK
  go_enter Try.func44, Try.ntmps44
  go_wp2
  rw [← hW]
  clear hW hmk
  go_loopw [12] (fun i wr => ∃ j : Nat, j ≤ ln ∧ i = .int .i64 j ∧ Hid (wfC (preL b.ls j) ((b.ls.drop j).flatMap Lo.ws ++ b.sc) = K ∧ wfC [] (preL b.ls j) = 0 ∧ IM 2 wr (w.heap.size + 1) (25 * j) (whL b.ls j) ∧ wr.heap[w.heap.size]? = some (.cells #[.int .i64 st, .slice wa wn wc, .slice la ln lc, .slice xa xn xc] 31) ∧ Below w.heap.size w wr)) (fun i _ => ln - (intOf i).toNat)
  case atStart => exact ⟨0, Nat.zero_le _, rfl, by rw [H.out.2.2.2.2]; simp [preL, alL], by simp [preL, wfC], HW.out.2.2, HW.out.2.1, HW.out.1⟩
  case round =>
    clear HW
    obtain ⟨j, hjn, rfl, hR⟩ := hrel
    by_cases hlt : j < ln
    · have hjl : j < b.ls.length := by rw [← H.out.2.2.1]; exact hlt
      obtain ⟨g, o, c2, he, hg0, x, hx, z0, z1, z2, z3, z4⟩ := H.out.1.ls.at hjl
      simp only [Value.slice.injEq] at he
      obtain ⟨rfl, hx1, hx2⟩ := he
      have hbl := hR.out.2.2.2.2
      have c0 := (hbl.cell (p := ⟨g, o + j * 5, none⟩) hg0).trans z0
      have c1 := (hbl.cell (p := ⟨g, o + j * 5 + 1, none⟩) hg0).trans z1
      have c2' := (hbl.cell (p := ⟨g, o + j * 5 + 2, none⟩) hg0).trans z2
      have c3 := (hbl.cell (p := ⟨g, o + j * 5 + 3, none⟩) hg0).trans z3
      have c4 := (hbl.cell (p := ⟨g, o + j * 5 + 4, none⟩) hg0).trans z4
      have hg : g < wr.heap.size := Nat.lt_of_lt_of_le hg0 hbl.size
      clear hx1 hx2 z0 z1 z2 z3 z4 hg0 hbl
      obtain ⟨l, hl⟩ : ∃ l, l = b.ls[j] := ⟨_, rfl⟩
      rw [← hl] at hx
      obtain ⟨c, hc⟩ : ∃ c, c = wfC (preL b.ls j) l.ws := ⟨_, rfl⟩
      have hxid : (Lit.int .i64 x.id).wf = true := by rw [hx.id, hl]; exact H.out.2.1.id j hjl
      have hws : l.ws.length ≤ 25 := by rw [hl]; exact H.out.2.1.ws j hjl
      have hblk : ∀ g o, x.wa = some ⟨g, o, none⟩ → 0 < l.ws.length → g ≠ w.heap.size + 1 := by
        intro g o e hp
        have h9 := hx.ws
        rw [e] at h9
        obtain ⟨g2, o2, c3, e2, hg2, _⟩ := h9.ri hp
        injection e2 with e2
        injection e2 with e2
        injection e2 with e2
        omega
      have HC : Hid (∀ V, Below wr.heap.size wr V → Calls Try.prog 45 #[.map (some (w.heap.size + 1)), .slice x.wa x.wn x.wc, .int .i64 x.id] V fun e w' => e = .returned (.int .i64 c) ∧ (c = 0 → IM 2 w' (w.heap.size + 1) (25 * j + l.ws.length) (putW (whL b.ls j) x.id l.ws)) ∧ V.grownBy w' (some (w.heap.size + 1))) := fun V hV => by
        rw [hc]
        exact impl_put (pre := preL b.ls j) hxid (by omega) (by omega) (whL_some (by omega)) ((hx.ws.below hR.out.2.2.2.2).below hV) (hR.out.2.2.1.below hV) hblk
      have HX : Hid (x.id = l.id ∧ l = b.ls[j] ∧ c = wfC (preL b.ls j) l.ws ∧ l.ws.length ≤ 25 ∧ j < b.ls.length) := ⟨hx.id, hl, hc, hws, hjl⟩
      have p2 := cellOfQ hR.out.2.2.2.1 2 rfl
      have pl := ltOfQ hR.out.2.2.2.1
      clear hx hl hc hxid hws hblk
      have b0 : (0 : Int) ≤ (j : Int) := by omega
      have b1 : (j : Int) < (ln : Int) := by omega
      go_wp2_with (fail)
      obtain ⟨V, hV⟩ : ∃ V, V = wr.alloc (.cells #[.int .i64 x.id, .int .i64 x.pa, .slice x.wa x.wn x.wc, .bool x.hd, .slice x.da x.dn x.dc] 61) := ⟨_, rfl⟩
      have HV : Hid (Below wr.heap.size wr V) := by unfold Hid; rw [hV]; (repeat' (first | (with_reducible exact Below.refl _ _) | (with_reducible assumption) | (with_reducible refine Below.setCell ?_ ?_ _) | (with_reducible refine Below.alloc ?_ ?_ _) | (with_reducible refine below_drewN ?_ _) | (with_reducible refine Below.drew ?_) | (with_reducible exact Nat.le_refl _) | omega | (simp; done) | (simp; omega)))
      have HVS : Hid (V.heap.size = wr.heap.size + 1) := by unfold Hid; rw [hV]; simp
      rw [← hV]
      clear hV
      refine (HC.out _ HV.out).mono ?_
      rintro e w3 ⟨rfl, hi3, hg3⟩
      have HB3 : Hid (Below w.heap.size w w3 ∧ w3.heap[w.heap.size]? = some (.cells #[.int .i64 st, .slice wa wn wc, .slice (some ⟨g, o, none⟩) ln lc, .slice xa xn xc] 31)) := by
        have hbV : Below w.heap.size w V := hR.out.2.2.2.2.trans (HV.out.mono hR.out.2.2.2.2.size)
        refine ⟨hbV.grown hg3 hbV.size (fun q hq => by injection hq with hq; omega), ?_⟩
        have k1 := (HV.out.block _ (ltOfQ hR.out.2.2.2.1)).trans hR.out.2.2.2.1
        exact (hg3.block _ (ltOfQ k1) (fun e => by injection e with e; omega)).trans k1
      by_cases hc0 : c = 0
      · have HN : Hid (wfC (preL b.ls (j + 1)) ((b.ls.drop (j + 1)).flatMap Lo.ws ++ b.sc) = K ∧ wfC [] (preL b.ls (j + 1)) = 0 ∧ IM 2 w3 (w.heap.size + 1) (25 * (j + 1)) (whL b.ls (j + 1)) ∧ w3.heap[w.heap.size]? = some (.cells #[.int .i64 st, .slice wa wn wc, .slice (some ⟨g, o, none⟩) ln lc, .slice xa xn xc] 31) ∧ Below w.heap.size w w3) := by
          obtain ⟨x1, x2, x3, x4, x5⟩ := HX.out
          have e0 : wfC (preL b.ls j) b.ls[j].ws = 0 := by rw [← x2, ← x3]; exact hc0
          refine ⟨?_, ?_, ?_, HB3.out.2, HB3.out.1⟩
          · have e1 := hR.out.1
            rw [dropS x5, wfC_miss _ e0, ← preL_step x5] at e1
            exact e1
          · rw [preL_step x5, wfC_miss _ hR.out.2.1]
            simpa using e0
          · have e2 := hi3 hc0
            rw [x1, x2] at e2
            have e3 : whL b.ls (j + 1) = putW (whL b.ls j) b.ls[j].id b.ls[j].ws := by
              rw [whL, idA_at x5, show b.ls.getD j lo0 = b.ls[j] from by simp [List.getD, x5]]
            rw [e3]
            exact e2.mono (by rw [x2] at x4; omega)
        subst hc0
        clear hi3 hg3 hR HC HV HVS HX HB3 c0 c1 c2' c3 c4 p2 pl hg
        go_wp2
        go_roundw
        case rel => exact ⟨j + 1, by omega, by go_num, HN.out⟩
        case measure => simp [intOf]; omega
      · have HN : Hid (c = K ∧ K ≠ 0 ∧ Below w.heap.size w w3) := by
          obtain ⟨x1, x2, x3, x4, x5⟩ := HX.out
          have e0 : wfC (preL b.ls j) b.ls[j].ws ≠ 0 := by rw [← x2, ← x3]; exact hc0
          have e1 := hR.out.1
          rw [dropS x5, wfC_hit _ e0, ← x2, ← x3] at e1
          exact ⟨e1, by rw [← e1]; exact hc0, HB3.out.1⟩
        clear hi3 hg3 hR HC HV HVS HX HB3 c0 c1 c2' c3 c4 p2 pl hg
        go_wp2
        go_returns
        exact ⟨w.heap.size + 1, by rw [← HN.out.1]; rfl, fun e => absurd e HN.out.2.1, by omega, HN.out.2.2⟩
    · obtain rfl : j = ln := by omega
      have hall : preL b.ls j = b.ls.flatMap Lo.ws := by rw [H.out.2.2.1]; exact preL_all _
      have hKs : wfC (preL b.ls j) b.sc = K := by
        have e1 := hR.out.1
        rw [show b.ls.drop j = [] from by rw [H.out.2.2.1]; exact List.drop_length] at e1
        simpa using e1
      have HC : Hid (Calls Try.prog 45 #[.map (some (w.heap.size + 1)), .slice xa xn xc, .int .i64 0] wr fun e w' => e = .returned (.int .i64 K) ∧ (K = 0 → IM 2 w' (w.heap.size + 1) (25 * j + b.sc.length) (putW (whL b.ls j) 0 b.sc)) ∧ wr.grownBy w' (some (w.heap.size + 1))) := by
        rw [← hKs]
        refine impl_put (pre := preL b.ls j) (wf64 (by omega)) (by have := H.out.2.1.sc; omega) (by omega) (whL_some (by rw [← H.out.2.2.1]; omega)) (H.out.1.sc.below hR.out.2.2.2.2) hR.out.2.2.1 ?_
        intro g o e hp
        have h9 := H.out.1.sc
        rw [e] at h9
        obtain ⟨g2, o2, c3, e2, hg2, _⟩ := h9.ri hp
        injection e2 with e2
        injection e2 with e2
        injection e2 with e2
        omega
      have p3 := cellOfQ hR.out.2.2.2.1 3 rfl
      have pl := ltOfQ hR.out.2.2.2.1
      have HB : Hid (Below w.heap.size w wr) := hR.out.2.2.2.2
      clear hR hall hKs
      go_wp2_with (fail)
      refine HC.out.mono ?_
      rintro e w3 ⟨rfl, hi3, hg3⟩
      have HN : Hid ((K = 0 → IM 2 w3 (w.heap.size + 1) 1000 (whF b)) ∧ Below w.heap.size w w3) := by
        refine ⟨fun e => ?_, HB.out.grown hg3 HB.out.size (fun q hq => by injection hq with hq; omega)⟩
        have e2 := hi3 e
        unfold whF
        rw [← H.out.2.2.1]
        exact e2.mono (by have := H.out.2.1.sc; omega)
      clear hi3 hg3 HC p3 pl HB
      go_wp2
      go_returns
      exact ⟨w.heap.size + 1, rfl, HN.out.1, by omega, HN.out.2⟩

end Go.Proofs.Ytcfjanignfbidaa
