/- Proved here: the answer of an open book. -/
import Derived.Test.YtcfjanignfbidaaQaH
import Derived.Test.YtcfjanignfbidaaQoL
namespace Go.Proofs.Ytcfjanignfbidaa
open Go.RowKit Go.Maps
set_option linter.unusedVariables false
set_option linter.unusedSimpArgs false

theorem sl_zeroA (w : World) : (zeroValue 24).run Try.prog w = .ok (.slice none 0 0) w := by kernel_rfl
set_option maxRecDepth 20000 in
set_option maxHeartbeats 3200000 in
theorem impl_ans {w : World} {B K bp bm G c n : Nat} {vw vs : Value} {f : Lit → Option Sv} {b : Bk} {rs : List Lr} (st : Int) (hst : b.st = st) (hn : n = b.ls.length) (hp : 0 < n) (h : OB w B K bp bm vw (.slice (some ⟨G, 0, none⟩) n c) vs f b rs) :
    Calls Try.prog 47 #[.pointer (some ⟨K, 0, none⟩)] w fun e w' => e = .returned (.agg #[.int .i64 0, .int .i64 0, .int .i64 st, vw, .slice (some ⟨G, 0, none⟩) n c, vs]) ∧ PB w' B vw (.slice (some ⟨G, 0, none⟩) n c) vs (wvO (rsW f b.ls rs b.ls.length)) b (rsW f b.ls rs b.ls.length) ∧ Below B w w' := by
  obtain ⟨wa, wc, ew⟩ := (OG.rg wdC_len h.pb.wn).form
  obtain ⟨xa, xc, ex⟩ := h.pb.sc.form
  obtain ⟨wn, hwn⟩ : ∃ n, n = b.wn.length := ⟨_, rfl⟩
  obtain ⟨xn, hxn⟩ : ∃ n, n = b.sc.length := ⟨_, rfl⟩
  rw [← hwn] at ew
  rw [← hxn] at ex
  subst ew ex
  clear hwn hxn
  obtain ⟨g9, c9, hv9, hGB, hGl, hat⟩ := h.row (by omega)
  injection hv9 with e1 e2 e3
  injection e1 with e1
  injection e1 with e1 e4 e5
  subst e1
  clear e2 e3 e4 e5
  obtain ⟨m, hm, htm⟩ := h.tm
  have hl30 : n ≤ 31 := by have := h.ln; omega
  have hkb := h.kb
  have hGK : G ≠ K := (h.nk (Or.inr (Or.inl rfl))).1
  have hGm : G ≠ bm := (h.nk (Or.inr (Or.inl rfl))).2.2
  have hbx := h.bx
  rw [hst] at hbx
  obtain ⟨W, hW⟩ : ∃ W, W = w.alloc (.cells #[.int .i64 0, .int .i64 0, .int .i64 0, .slice none 0 0, .slice none 0 0, .slice none 0 0] 33) := ⟨_, rfl⟩
  have hbW : Below w.heap.size w W := by rw [hW]; (repeat' (first | (with_reducible exact Below.refl _ _) | (with_reducible assumption) | (with_reducible refine Below.setCell ?_ ?_ _) | (with_reducible refine Below.alloc ?_ ?_ _) | (with_reducible refine below_drewN ?_ _) | (with_reducible refine Below.drew ?_) | (with_reducible exact Nat.le_refl _) | omega | (simp; done) | (simp; omega)))
  have H : Hid (PB w B (.slice wa wn wc) (.slice (some ⟨G, 0, none⟩) n c) (.slice xa xn xc) (wvM f b.ls) b rs ∧ n = b.ls.length ∧ (∀ j (hj : j < b.ls.length), 1 ≤ idA b.ls j ∧ idA b.ls j ≤ 1000000) ∧ B ≤ w.heap.size ∧ rs.length = n ∧ B ≤ K ∧ K < w.heap.size ∧ bm < w.heap.size ∧ B ≤ bm) := ⟨h.pb, hn, fun j hj => by rw [idA_at hj]; exact h.id j hj, h.lo.2.2.2, by rw [h.pb.len, hn], h.lo.1, hkb.2.2.1, hkb.2.2.2.2, h.lo.2.2.1⟩
  have HW : Hid (W.heap[w.heap.size]? = some (.cells #[.int .i64 0, .int .i64 0, .int .i64 0, .slice none 0 0, .slice none 0 0, .slice none 0 0] 33) ∧ W.heap[K]? = some (.cells #[.int .i64 st, .slice wa wn wc, .slice (some ⟨G, 0, none⟩) n c, .slice xa xn xc, .map (some bp), .map (some bm)] 71) ∧ Below w.heap.size w W ∧ OG 61 5 lrC W B (.slice (some ⟨G, 0, none⟩) n c) (rsW f b.ls rs 0) ∧ TM W 2 bm m f) := by
    refine ⟨by rw [hW]; exact heap_alloc_new _ _, (hbW.block K hkb.2.2.1).trans hbx, hbW, ?_, htm.below hbW⟩
    rw [rsW_zero]
    exact ownsRow_keep h.pb.row fun q hq => hbW.block q (World.ownsRow.lt h.pb.row q hq).2
  have HK : Hid (G ≠ K ∧ G ≠ bm ∧ G < w.heap.size ∧ B ≤ G) := ⟨hGK, hGm, hGl, hGB⟩
  obtain ⟨p0, p1, p2, p3, p4, p5, pl⟩ := six_of hbx
  clear h hn hkb hbx hbW hGK hGm hGl hGB hat htm hm hst
  go_enter Try.func47, Try.ntmps47
  go_wp2
  rw [← hW]
  clear hW p0 p1 p2 p3 p4 p5 pl
  go_loopw [11] (fun i wr => ∃ j : Nat, j ≤ n ∧ i = .int .i64 j ∧ Hid (OG 61 5 lrC wr B (.slice (some ⟨G, 0, none⟩) n c) (rsW f b.ls rs j) ∧ (∀ q, q < W.heap.size → q ≠ G → wr.heap[q]? = W.heap[q]?) ∧ W.heap.size ≤ wr.heap.size ∧ Below B W wr)) (fun i _ => n - (intOf i).toNat)
  case atStart => exact ⟨0, Nat.zero_le _, rfl, HW.out.2.2.2.1, fun _ _ _ => rfl, Nat.le_refl _, Below.refl _ _⟩
  case round =>
    obtain ⟨j, hjn, rfl, hR⟩ := hrel
    have hsz : w.heap.size < W.heap.size := ltOfQ HW.out.1
    have hKr := (hR.out.2.1 K (by have := H.out.2.2.2.2.2.2.1; omega) (fun e => HK.out.1 e.symm)).trans HW.out.2.1
    have hrr := (hR.out.2.1 w.heap.size hsz (by have := HK.out.2.2.1; omega)).trans HW.out.1
    by_cases hlt : j < n
    · have hjr : j < rs.length := by rw [H.out.2.2.2.2.1]; exact hlt
      have hjl : j < b.ls.length := by rw [← H.out.2.1]; exact hlt
      obtain ⟨g', o', c', e, hgw, hc⟩ := (OG.rg lrC_len hR.out.1).pos (by rw [rsW_len]; omega)
      injection e with e1 e2 e3
      injection e1 with e1
      injection e1 with e1 e4 e5
      subst e1 e4
      have hc5 := lrC_at (hc j (by rw [rsW_len]; exact hjr))
      obtain ⟨x, hx⟩ : ∃ x, x = (rsW f b.ls rs j)[j]'(by rw [rsW_len]; exact hjr) := ⟨_, rfl⟩
      rw [← hx] at hc5
      simp only [Nat.zero_add] at hc5
      obtain ⟨c0, c1, c2, c3, c4⟩ := hc5
      have hxr : x = rs[j] := by rw [hx, rsW_at hjr (by rw [rsW_len]; exact hjr), if_neg (by omega)]
      obtain ⟨y, hy⟩ : ∃ y, y = idA b.ls j := ⟨_, rfl⟩
      have hxi : x.id = y := by rw [hxr, hy, idA_at hjl]; exact (H.out.1.nm j hjr hjl).1
      obtain ⟨s, hs⟩ : ∃ s, s = svM f b.ls j := ⟨_, rfl⟩
      have HS : Hid (s = (f (ikI y)).getD svN) := by rw [hs, hy]; rfl
      have hyw : (Lit.int .i64 y).wf = true := wf64 (by rw [hy]; have := H.out.2.2.1 j hjl; omega)
      obtain ⟨X, hX⟩ : ∃ X, X = wr.heap.size := ⟨_, rfl⟩
      obtain ⟨V, hV⟩ : ∃ V, V = wr.alloc (.cells #[.int .i64 x.id, .int .i64 x.pa, .slice x.wa x.wn x.wc, .bool x.hd, .slice x.da x.dn x.dc] 61) := ⟨_, rfl⟩
      have hbV : Below wr.heap.size wr V := by rw [hV]; (repeat' (first | (with_reducible exact Below.refl _ _) | (with_reducible assumption) | (with_reducible refine Below.setCell ?_ ?_ _) | (with_reducible refine Below.alloc ?_ ?_ _) | (with_reducible refine below_drewN ?_ _) | (with_reducible refine Below.drew ?_) | (with_reducible exact Nat.le_refl _) | omega | (simp; done) | (simp; omega)))
      have hxV : V.heap[X]? = some (.cells #[.int .i64 x.id, .int .i64 x.pa, .slice x.wa x.wn x.wc, .bool x.hd, .slice x.da x.dn x.dc] 61) := by rw [hV, hX]; exact heap_alloc_new _ _
      have hTV : TM V 2 bm m f := (HW.out.2.2.2.2.block (hR.out.2.1 bm (by have := H.out.2.2.2.2.2.2.2.1; omega) (fun e => HK.out.2.1 e.symm))).below hbV
      have hKV := (hbV.block K (ltOf hKr)).trans hKr
      have hOV : OG 61 5 lrC V B (.slice (some ⟨G, 0, none⟩) n c) (rsW f b.ls rs j) := ownsRow_keep hR.out.1 fun q hq => hbV.block q (World.ownsRow.lt hR.out.1 q hq).2
      have hxc := cellOf hxV 0 rfl
      rw [hxi] at hxc
      have hSV : (fun u : World => u.cell? ⟨K, 2, none⟩ = some (.slice (some ⟨G, 0, none⟩) n c) ∧ u.cell? ⟨K, 5, none⟩ = some (.map (some bm)) ∧ u.cell? ⟨X, 0, none⟩ = some (.int .i64 y) ∧ TM u 2 bm m f ∧ True) V := ⟨cellOf hKV 2 rfl, cellOf hKV 5 rfl, hxc, hTV, trivial⟩
      have HO : Hid (OG 61 5 lrC (V.drew.setCell ⟨G, j * 5 + 2, none⟩ s.v) B (.slice (some ⟨G, 0, none⟩) n c) (rsW f b.ls rs (j + 1))) := by
        have hOD : OG 61 5 lrC V.drew B (.slice (some ⟨G, 0, none⟩) n c) (rsW f b.ls rs j) := ownsRow_keep hOV fun q hq => rfl
        have := og_set lrC_len hOD (j := j) (i := 2) (by rw [rsW_len]; exact hjr) (by decide) (lrW rs[j] s) s.v (by rw [← hx, hxr]; rfl)
        rw [hs, rsW_next hjr] at this
        rw [hs]; exact this
      have hgG : G < V.heap.size := Nat.lt_of_lt_of_le hgw hbV.size
      have k2 : V.cell? ⟨G, j * 5 + 2, none⟩ = some (.slice x.wa x.wn x.wc) := (hbV.cell (p := ⟨G, j * 5 + 2, none⟩) hgw).trans c2
      have kf : V.frozen? ⟨G, j * 5 + 2, none⟩ = false := by
        have h9 := hOV
        unfold OG at h9
        rw [rsW_len, H.out.2.2.2.2.1] at h9
        exact World.ownsRow.frozenAt h9 (j * 5 + 2)
      have hGX : G ≠ X := by omega
      have HV : Hid ((∀ q, q < W.heap.size → q ≠ G → V.heap[q]? = W.heap[q]?) ∧ W.heap.size ≤ V.heap.size ∧ Below B W V ∧ G ≠ X) := ⟨fun q h1 h2 => (hbV.block q (by have := hR.out.2.2.1; omega)).trans (hR.out.2.1 q h1 h2), Nat.le_trans hR.out.2.2.1 hbV.size, hR.out.2.2.2.trans (hbV.mono (by have := H.out.2.2.2.1; have := hR.out.2.2.1; omega)), hGX⟩
      have hS8 : (fun u : World => u.cell? ⟨K, 2, none⟩ = some (.slice (some ⟨G, 0, none⟩) n c) ∧ u.cell? ⟨K, 5, none⟩ = some (.map (some bm)) ∧ u.cell? ⟨X, 0, none⟩ = some (.int .i64 y) ∧ TM u 2 bm m f ∧ True) (V.drew.setCell ⟨G, j * 5 + 2, none⟩ s.v) := by
        have hoff : ∀ q, q ≠ G → (V.drew.setCell ⟨G, j * 5 + 2, none⟩ s.v).heap[q]? = V.heap[q]? := fun q hq => heap_setCell_other _ _ _ _ (by simpa using hq)
        exact ⟨cellOf ((hoff K (fun e => HK.out.1 e.symm)).trans hKV) 2 rfl, cellOf ((hoff K (fun e => HK.out.1 e.symm)).trans hKV) 5 rfl, by rw [← hxi]; exact cellOf ((hoff X (fun e => hGX e.symm)).trans hxV) 0 rfl, hTV.block (hoff bm (fun e => HK.out.2.1 e.symm)), trivial⟩
      have b0 : (0 : Int) ≤ (j : Int) := by omega
      have b1 : (j : Int) < (n : Int) := by omega
      obtain ⟨r0, r1, r2, r3, r4, r5, rl⟩ := six_of hKr
      clear hc hx hxr hxi hy hs hjl hjr hbV hxV hTV hKV hOV hxc hR hKr hrr hsz hgw e5 e2 e3 hGX
      go_wp2
      rw [← hV, ← hX]
      clear hV hX c0 c1 c2 c3 c4 r0 r1 r2 r3 r4 r5 rl
      refine wp_region_holdsA (S := fun u : World => u.cell? ⟨K, 2, none⟩ = some (.slice (some ⟨G, 0, none⟩) n c) ∧ u.cell? ⟨K, 5, none⟩ = some (.map (some bm)) ∧ u.cell? ⟨X, 0, none⟩ = some (.int .i64 y) ∧ TM u 2 bm m f ∧ True) (by kernel_rfl) ⟨hSV.1, hSV.2.1, hSV.2.2.1, hSV.2.2.2.1.block rfl, trivial⟩ (fun hS => ?_)
      refine fl_takeA (i := 0) (d := 16) (v := .pointer (some ⟨K, 0, none⟩)) rfl rfl rfl (by kernel_rfl) (by kernel_rfl) (by kernel_rfl) hS ?_ ?_
      · intro w' hk; obtain ⟨hk0, hk1, hk2, hk3, hk4⟩ := hk; go_simp
      simp only [Act.put, List.setIfInBounds_toArray, List.set_cons_zero, List.set_cons_succ]
      refine fl_takeA (i := 1) (d := 17) (v := .pointer (some ⟨K, 0, none⟩)) rfl rfl rfl (by kernel_rfl) (by kernel_rfl) (by kernel_rfl) hS ?_ ?_
      · intro w' hk; obtain ⟨hk0, hk1, hk2, hk3, hk4⟩ := hk; go_simp
      simp only [Act.put, List.setIfInBounds_toArray, List.set_cons_zero, List.set_cons_succ]
      refine fl_takeA (i := 2) (d := 18) (v := .pointer (some ⟨K, 0, none⟩)) rfl rfl rfl (by kernel_rfl) (by kernel_rfl) (by kernel_rfl) hS ?_ ?_
      · intro w' hk; obtain ⟨hk0, hk1, hk2, hk3, hk4⟩ := hk; go_simp
      simp only [Act.put, List.setIfInBounds_toArray, List.set_cons_zero, List.set_cons_succ]
      refine fl_takeA (i := 3) (d := 19) (v := .pointer (some ⟨K, 2, none⟩)) rfl rfl rfl (by kernel_rfl) (by kernel_rfl) (by kernel_rfl) hS ?_ ?_
      · intro w' hk; obtain ⟨hk0, hk1, hk2, hk3, hk4⟩ := hk; go_simp
      simp only [Act.put, List.setIfInBounds_toArray, List.set_cons_zero, List.set_cons_succ]
      refine fl_takeA (i := 4) (d := 20) (v := .slice (some ⟨G, 0, none⟩) n c) rfl rfl rfl (by kernel_rfl) (by kernel_rfl) (by kernel_rfl) hS ?_ ?_
      · intro w' hk; obtain ⟨hk0, hk1, hk2, hk3, hk4⟩ := hk; go_simp
      simp only [Act.put, List.setIfInBounds_toArray, List.set_cons_zero, List.set_cons_succ]
      refine fl_takeA (i := 5) (d := 21) (v := .int .i64 (j : Int)) rfl rfl rfl (by kernel_rfl) (by kernel_rfl) (by kernel_rfl) hS ?_ ?_
      · intro w' hk; obtain ⟨hk0, hk1, hk2, hk3, hk4⟩ := hk; go_simp
      simp only [Act.put, List.setIfInBounds_toArray, List.set_cons_zero, List.set_cons_succ]
      refine fl_takeA (i := 6) (d := 22) (v := .pointer (some ⟨K, 0, none⟩)) rfl rfl rfl (by kernel_rfl) (by kernel_rfl) (by kernel_rfl) hS ?_ ?_
      · intro w' hk; obtain ⟨hk0, hk1, hk2, hk3, hk4⟩ := hk; go_simp
      simp only [Act.put, List.setIfInBounds_toArray, List.set_cons_zero, List.set_cons_succ]
      refine fl_takeA (i := 7) (d := 23) (v := .pointer (some ⟨K, 0, none⟩)) rfl rfl rfl (by kernel_rfl) (by kernel_rfl) (by kernel_rfl) hS ?_ ?_
      · intro w' hk; obtain ⟨hk0, hk1, hk2, hk3, hk4⟩ := hk; go_simp
      simp only [Act.put, List.setIfInBounds_toArray, List.set_cons_zero, List.set_cons_succ]
      refine fl_takeA (i := 8) (d := 24) (v := .pointer (some ⟨K, 5, none⟩)) rfl rfl rfl (by kernel_rfl) (by kernel_rfl) (by kernel_rfl) hS ?_ ?_
      · intro w' hk; obtain ⟨hk0, hk1, hk2, hk3, hk4⟩ := hk; go_simp
      simp only [Act.put, List.setIfInBounds_toArray, List.set_cons_zero, List.set_cons_succ]
      refine fl_takeA (i := 9) (d := 25) (v := .map (some bm)) rfl rfl rfl (by kernel_rfl) (by kernel_rfl) (by kernel_rfl) hS ?_ ?_
      · intro w' hk; obtain ⟨hk0, hk1, hk2, hk3, hk4⟩ := hk; go_simp
      simp only [Act.put, List.setIfInBounds_toArray, List.set_cons_zero, List.set_cons_succ]
      refine fl_takeA (i := 10) (d := 26) (v := .pointer (some ⟨X, 0, none⟩)) rfl rfl rfl (by kernel_rfl) (by kernel_rfl) (by kernel_rfl) hS ?_ ?_
      · intro w' hk; obtain ⟨hk0, hk1, hk2, hk3, hk4⟩ := hk; go_simp
      simp only [Act.put, List.setIfInBounds_toArray, List.set_cons_zero, List.set_cons_succ]
      refine fl_takeA (i := 11) (d := 27) (v := .int .i64 y) rfl rfl rfl (by kernel_rfl) (by kernel_rfl) (by kernel_rfl) hS ?_ ?_
      · intro w' hk; obtain ⟨hk0, hk1, hk2, hk3, hk4⟩ := hk; go_simp
      simp only [Act.put, List.setIfInBounds_toArray, List.set_cons_zero, List.set_cons_succ]
      refine fl_takeA (i := 12) (d := 28) (v := s.v) rfl rfl rfl (by kernel_rfl) (by kernel_rfl) (by kernel_rfl) hS ?_ ?_
      · intro w' hk; obtain ⟨hk0, hk1, hk2, hk3, hk4⟩ := hk; have hl := hk3.look ik_lawQ wm_ty (sl_zeroA w') (kI_key hyw); rw [← HS.out] at hl; go_simp
      simp only [Act.put, List.setIfInBounds_toArray, List.set_cons_zero, List.set_cons_succ]
      refine fl_takeA (i := 13) (d := 29) (v := .pointer (some ⟨G, j * 5, none⟩)) rfl rfl rfl (by kernel_rfl) (by kernel_rfl) (by kernel_rfl) hS ?_ ?_
      · intro w' hk; obtain ⟨hk0, hk1, hk2, hk3, hk4⟩ := hk; go_simp
      simp only [Act.put, List.setIfInBounds_toArray, List.set_cons_zero, List.set_cons_succ]
      refine fl_takeA (i := 14) (d := 30) (v := .pointer (some ⟨G, j * 5 + 2, none⟩)) rfl rfl rfl (by kernel_rfl) (by kernel_rfl) (by kernel_rfl) hS ?_ ?_
      · intro w' hk; obtain ⟨hk0, hk1, hk2, hk3, hk4⟩ := hk; go_simp
      simp only [Act.put, List.setIfInBounds_toArray, List.set_cons_zero, List.set_cons_succ]
      refine wpAnyH_all (rs := [15]) (by kernel_rfl) (by simp) ?_
      intro i' hi'
      obtain rfl : i' = 15 := by simpa using hi'
      clear hi'
      refine op_skipN (w' := V.drew.setCell ⟨G, j * 5 + 2, none⟩ s.v) rfl rfl (by go_simp; try rfl) ?_
      refine ⟨hS8, wpAnyH_done (by kernel_rfl) (NoPanic.normal ?_) _⟩
      have R : Hid (OG 61 5 lrC (V.drew.setCell ⟨G, j * 5 + 2, none⟩ s.v) B (.slice (some ⟨G, 0, none⟩) n c) (rsW f b.ls rs (j + 1)) ∧ (∀ q, q < W.heap.size → q ≠ G → (V.drew.setCell ⟨G, j * 5 + 2, none⟩ s.v).heap[q]? = W.heap[q]?) ∧ W.heap.size ≤ (V.drew.setCell ⟨G, j * 5 + 2, none⟩ s.v).heap.size ∧ Below B W (V.drew.setCell ⟨G, j * 5 + 2, none⟩ s.v)) := by
        refine ⟨HO.out, fun q h1 h2 => (heap_setCell_other _ _ _ _ (by simpa using h2)).trans (HV.out.1 q h1 h2), by simp; exact HV.out.2.1, ?_⟩
        have hbd := HV.out.2.2.1
        have hGB := HK.out.2.2.2
        have hdr := hbd.drew
        (repeat' (first | (with_reducible exact Below.refl _ _) | (with_reducible assumption) | (with_reducible refine Below.setCell ?_ ?_ _) | (with_reducible refine Below.alloc ?_ ?_ _) | (with_reducible refine below_drewN ?_ _) | (with_reducible refine Below.drew ?_) | (with_reducible exact Nat.le_refl _) | omega | (simp; done) | (simp; omega)))
      clear hS hSV hS8 HO HV k2 kf hgG hyw
      go_wp2
      go_roundw
      case rel => exact ⟨j + 1, by omega, by go_num, R.out⟩
      case measure => simp [intOf]; omega
    · obtain rfl : j = n := by omega
      obtain ⟨r0, r1, r2, r3, r4, r5, rl⟩ := six_of hrr
      obtain ⟨p0, p1, p2, p3, p4, p5, pl⟩ := six_of hKr
      have qf := fun i => frozOf hrr i
      have qf0 := qf 0
      have qf1 := qf 1
      have qf2 := qf 2
      have qf3 := qf 3
      have qf4 := qf 4
      have qf5 := qf 5
      have HE : Hid (Below w.heap.size w W ∧ Below B W wr ∧ B ≤ w.heap.size ∧ PB wr B (.slice wa wn wc) (.slice (some ⟨G, 0, none⟩) j c) (.slice xa xn xc) (wvO (rsW f b.ls rs b.ls.length)) b (rsW f b.ls rs b.ls.length) ∧ ∀ q, PBk (.slice wa wn wc) (.slice (some ⟨G, 0, none⟩) j c) (.slice xa xn xc) (wvO (rsW f b.ls rs b.ls.length)) (rsW f b.ls rs b.ls.length) q → q < w.heap.size) := by
        refine ⟨HW.out.2.2.1, hR.out.2.2.2, H.out.2.2.2.1, H.out.1.done (by rw [← H.out.2.1]; exact hR.out.1) fun q h1 h2 => (hR.out.2.1 q (by omega) (fun e => h2 (by rw [e]; rfl))).trans (HW.out.2.2.1.block q h1), fun q hq => ?_⟩
        rw [rsW_wv H.out.1.len] at hq
        unfold PBk at hq
        rw [rsW_dv] at hq
        exact (H.out.1.blk hq).2
      clear qf hR hKr hrr hsz
      go_wp2
      try simp only [Exit.inBlock, Exit.then]
      refine bodyPost_ret (by simp [results, Try.results47, go_sem, r0, r1, r2, r3, r4, r5, rl, qf0, qf1, qf2, qf3, qf4, qf5]; try rfl) rfl ⟨by rfl, ?_, ?_⟩
      · refine HE.out.2.2.2.1.keep fun q hq => ?_
        have h1 := HE.out.2.2.2.2 q hq
        have hoff : ∀ (u : World) k v, (u.setCell ⟨w.heap.size, k, none⟩ v).heap[q]? = u.heap[q]? := fun u k v => heap_setCell_other _ _ _ _ (by simp; omega)
        rw [hoff, hoff, hoff, hoff, hoff, hoff]
      · have hb : Below B w wr := (HE.out.1.mono HE.out.2.2.1).trans HE.out.2.1
        have hBw := HE.out.2.2.1
        (repeat' (first | (with_reducible exact Below.refl _ _) | (with_reducible assumption) | (with_reducible refine Below.setCell ?_ ?_ _) | (with_reducible refine Below.alloc ?_ ?_ _) | (with_reducible refine below_drewN ?_ _) | (with_reducible refine Below.drew ?_) | (with_reducible exact Nat.le_refl _) | omega | (simp; done) | (simp; omega)))

end Go.Proofs.Ytcfjanignfbidaa
