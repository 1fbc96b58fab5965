/- Proved here: how the laws' package marks lists of lots, and what is held then. -/
import Derived.Test.YtcfjanignfbidaaQmM
import Derived.Test.YtcfjanignfbidaaMkI
namespace Go.Proofs.Ytcfjanignfbidaa
open Go.RowKit
set_option linter.unusedVariables false
set_option linter.unusedSimpArgs false

set_option maxRecDepth 10000 in
set_option maxHeartbeats 6400000 in
theorem markLotS_to {w : World} {B : Nat} {vl : Value} {ns : List (Nat × Nat)} {rs : List Lr} (z : Int) (hn : ns.length ≤ 1048576) (hz : 0 ≤ z ∧ z ≤ 10000000) (hb : ∀ i (h : i < ns.length), ns[i].1 ≤ 1048576 ∧ ns[i].2 ≤ 1048576) (hzb : zS ns ns.length ≤ 10000000) (h : LM w B vl ns z 0 rs) :
    Calls Try.prog 51 #[vl, .int .i64 z] w fun e w' => e = .returned (.int .i64 (z + (zS ns ns.length : Int))) ∧ ∃ rs', LM w' B vl ns z ns.length rs' ∧ (wvO rs' = wvO rs ∧ dvO rs' = dvO rs ∧ rs'.length = rs.length) ∧ Tn (LBk vl rs) w w' := by
  obtain ⟨a, c, e⟩ := (OG.rg lrC_len h.row).form
  rw [h.len] at e
  subst e
  obtain ⟨n, hnn⟩ : ∃ n, n = ns.length := ⟨_, rfl⟩
  obtain ⟨Z, hZ⟩ : ∃ Z, Z = zS ns ns.length := ⟨_, rfl⟩
  have H : Hid (LM w B (.slice a n c) ns z 0 rs ∧ n = ns.length ∧ (∀ i (h : i < ns.length), ns[i].1 ≤ 1048576 ∧ ns[i].2 ≤ 1048576) ∧ Z = zS ns ns.length ∧ (∀ i, i ≤ ns.length → zS ns i ≤ zS ns ns.length)) := by
    refine ⟨by rw [hnn]; exact h, hnn, hb, hZ, fun i hi => ?_⟩
    have mono : ∀ k, i + k ≤ ns.length → zS ns i ≤ zS ns (i + k) := by
      intro k
      induction k with
      | zero => intro _; exact Nat.le_refl _
      | succ k ih => intro hk; exact Nat.le_trans (ih (by omega)) (by show zS ns (i + k) ≤ zS ns (i + k) + _; omega)
    have := mono (ns.length - i) (by omega)
    rwa [show i + (ns.length - i) = ns.length by omega] at this
  rw [← hnn] at hn ⊢
  rw [hnn, ← hZ]
  rw [← hnn]
  rw [← hZ] at hzb
  clear h hnn hZ hb
  go_enter Try.func51, Try.ntmps51
  go_wp2
  go_loopw [1, 5] (fun q i wr => ∃ (j : Nat) (y : Nat), j ≤ n ∧ i = .int .i64 j ∧ q = .int .i64 (z + (y : Int)) ∧ y ≤ 10000000 ∧ Hid (y = zS ns j ∧ ∃ rs', LM wr B (.slice a n c) ns z j rs' ∧ (wvO rs' = wvO rs ∧ dvO rs' = dvO rs ∧ rs'.length = rs.length) ∧ Tn (LBk (.slice a n c) rs) w wr)) (fun _ i _ => n - (intOf i).toNat)
  case atStart => exact ⟨0, 0, Nat.zero_le _, rfl, by simp, by omega, rfl, rs, H.out.1, ⟨rfl, rfl, rfl⟩, Tn.refl _ _⟩
  case round =>
    obtain ⟨j, y, hjn, rfl, rfl, hy, hR0⟩ := hrel
    obtain ⟨hyz, rs', hlm, hsame, htn⟩ := hR0.out
    clear hR0
    have HR : Hid (y = zS ns j ∧ LM wr B (.slice a n c) ns z j rs' ∧ (wvO rs' = wvO rs ∧ dvO rs' = dvO rs ∧ rs'.length = rs.length) ∧ Tn (LBk (.slice a n c) rs) w wr) := ⟨hyz, hlm, hsame, htn⟩
    by_cases hlt : j < n
    · have hjl : j < ns.length := by rw [← H.out.2.1]; exact hlt
      have hjr : j < rs'.length := by rw [hlm.len]; exact hjl
      have hlb : LBk (.slice a n c) rs' = LBk (.slice a n c) rs := by unfold LBk; rw [hsame.1, hsame.2.1]
      rcases hlm.row.2 with ⟨_, h0⟩ | ⟨g, cap, cur, e, hB, _⟩
      · omega
      injection e with e1 e2 e3
      clear e2
      subst e1 e3
      obtain ⟨x, hx⟩ : ∃ x, x = rs'[j] := ⟨_, rfl⟩
      obtain ⟨n1, hn1⟩ : ∃ x, x = ns[j].1 := ⟨_, rfl⟩
      obtain ⟨n2, hn2⟩ : ∃ x, x = ns[j].2 := ⟨_, rfl⟩
      have hb1 := H.out.2.2.1 j hjl
      rw [← hn1, ← hn2] at hb1
      obtain ⟨xw, hxw, _⟩ := hlm.ws j hjr hjl
      obtain ⟨xd, hxd, _⟩ := hlm.dn j hjr hjl
      rw [← hx, ← hn1] at hxw
      rw [← hx, ← hn2] at hxd
      have hrg := (OG.rg lrC_len hlm.row).pos (by omega)
      obtain ⟨g', o', c', he', hgl, hcell⟩ := hrg
      injection he' with he1 hx2 hx3
      injection he1 with he1
      injection he1 with he1 he2
      clear hx2 hx3
      subst he1 he2
      obtain ⟨c0, c1, c2', c3, c4⟩ := lrC_at (hcell j hjr)
      rw [← hx] at c0 c1 c2' c3 c4
      simp only [Nat.zero_add] at c0 c1 c2' c3 c4
      obtain ⟨x1, hx1⟩ : ∃ y : Lr, y = { x with id := z + (zS ns j : Int), pa := z + (zS ns j : Int) + 1 } := ⟨_, rfl⟩
      have h1 := og_set lrC_len hlm.row hjr (i := 0) (by omega) { x with id := z + (y : Int) } (.int .i64 (z + (y : Int))) (by rw [← hx]; rfl)
      have h2 := og_set lrC_len h1 (j := j) (by rw [List.length_set]; exact hjr) (i := 1) (by omega) { x with id := z + (y : Int), pa := z + (y : Int) + 1 } (.int .i64 (z + (y : Int) + 1)) (by rw [List.getElem_set_self]; rfl)
      simp only [List.set_set, Nat.add_zero] at h1 h2
      obtain ⟨W1, hW1⟩ : ∃ W, W = (wr.setCell ⟨g, j * 5, none⟩ (.int .i64 (z + (y : Int)))).setCell ⟨g, j * 5 + 1, none⟩ (.int .i64 (z + (y : Int) + 1)) := ⟨_, rfl⟩
      rw [← hW1] at h2
      have hgF : LBk (.slice (some ⟨g, 0, none⟩) n c) rs g := Or.inl rfl
      have oth1 : ∀ q, q ≠ g → W1.heap[q]? = wr.heap[q]? := fun q hq => by rw [hW1, heap_setCell_other _ _ _ _ (by simpa using hq), heap_setCell_other _ _ _ _ (by simpa using hq)]
      have hwg : ∀ q, x.wv.ownBlock = some q → q ≠ g := fun q hq e => hlm.rowNe (q := q) (by rw [e]; rfl) (.w j) (by show (wvO rs' j).ownBlock = _; rw [wvO_lt hjr, ← hx]; exact hq)
      have hdg : ∀ q, x.dv.ownBlock = some q → q ≠ g := fun q hq e => hlm.rowNe (q := q) (by rw [e]; rfl) (.d j) (by show (dvO rs' j).ownBlock = _; rw [dvO_lt hjr, ← hx]; exact hq)
      have hwd : ∀ q, x.wv.ownBlock = some q → x.dv.ownBlock ≠ some q := fun q h1 => by rw [hx] at h1 ⊢; exact (hlm.ne hjr hjr).2.2 h1
      have hwF : ∀ q, x.wv.ownBlock = some q → LBk (.slice (some ⟨g, 0, none⟩) n c) rs q := fun q hq => by rw [← hlb]; exact Or.inr ⟨.w j, by show (wvO rs' j).ownBlock = _; rw [wvO_lt hjr, ← hx]; exact hq⟩
      have hdF : ∀ q, x.dv.ownBlock = some q → LBk (.slice (some ⟨g, 0, none⟩) n c) rs q := fun q hq => by rw [← hlb]; exact Or.inr ⟨.d j, by show (dvO rs' j).ownBlock = _; rw [dvO_lt hjr, ← hx]; exact hq⟩
      have hxw1 : W1.ownsRow B 2 1 x.wv n1 xw := ownsRow_keep hxw fun q hq => oth1 q (hwg q hq)
      have hxd1 : W1.ownsRow B 2 1 x.dv n2 xd := ownsRow_keep hxd fun q hq => oth1 q (hdg q hq)
      obtain ⟨z2, hz2⟩ : ∃ u, u = z + (y : Int) + 1 + 1 := ⟨_, rfl⟩
      have hT1 : Tn (LBk (.slice (some ⟨g, 0, none⟩) n c) rs) wr W1 := by rw [hW1]; exact (Tn.set _ _ hgF).trans (Tn.set _ _ hgF)
      have HW1 : Hid (OG 61 5 lrC W1 B (.slice (some ⟨g, 0, none⟩) n c) (rs'.set j { x with id := z + (y : Int), pa := z + (y : Int) + 1 }) ∧ W1.ownsRow B 2 1 x.wv n1 xw ∧ W1.ownsRow B 2 1 x.dv n2 xd ∧ Tn (LBk (.slice (some ⟨g, 0, none⟩) n c) rs) wr W1 ∧ g < W1.heap.size) := ⟨h2, hxw1, hxd1, hT1, by rw [hW1]; simpa using hgl⟩
      have HF : Hid ((∀ q, x.wv.ownBlock = some q → q ≠ g) ∧ (∀ q, x.dv.ownBlock = some q → q ≠ g) ∧ (∀ q, x.wv.ownBlock = some q → x.dv.ownBlock ≠ some q) ∧ (∀ q, x.wv.ownBlock = some q → LBk (.slice (some ⟨g, 0, none⟩) n c) rs q) ∧ (∀ q, x.dv.ownBlock = some q → LBk (.slice (some ⟨g, 0, none⟩) n c) rs q)) := ⟨hwg, hdg, hwd, hwF, hdF⟩
      have HJ : Hid (j < ns.length ∧ j < rs'.length ∧ x = rs'[j] ∧ n1 = ns[j].1 ∧ n2 = ns[j].2 ∧ z2 = z + (y : Int) + 2) := ⟨hjl, hjr, hx, hn1, hn2, by omega⟩
      have HW1E : Hid (W1 = _) := hW1
      have hrw := hlm.row
      unfold OG at hrw
      rw [hlm.len, ← H.out.2.1] at hrw
      have f0 := World.ownsRow.frozenAt hrw (j * 5)
      have f1 := World.ownsRow.frozenAt hrw (j * 5 + 1)
      clear hrw
      have hbz := H.out.2.2.2.2 (j + 1) (by omega)
      rw [zS_at hjl, ← hn1, ← hn2, ← HR.out.1, ← H.out.2.2.2.1] at hbz
      have b0 : (0 : Int) ≤ (j : Int) := by omega
      have b1 : (j : Int) < (n : Int) := by omega
      have k1 : IntKind.i64.wrap (z + (y : Int) + 1) = z + (y : Int) + 1 := by rw [IntKind.wrap_i64]; omega
      have k2 : IntKind.i64.wrap (z + (y : Int) + 1 + 1) = z2 := by rw [IntKind.wrap_i64]; omega
      have hz2b : 0 ≤ z2 ∧ z2 ≤ 30000000 := by omega
      clear hyz hlm hsame htn hcell hx hn1 hn2 hxw hxd hxw1 hxd1 h1 h2 hW1 hT1 oth1 hwg hdg hwd hwF hdF hlb hx1 hgF hz2
      go_wp2_with (fail)
      rw [← HW1E.out]
      refine (markInt64S_to z2 hb1.1 (by omega) (by omega) (own_tight (v := .slice x.wa x.wn x.wc) HW1.out.2.1) (tight_lt _)).mono ?_
      rintro e W2 ⟨rfl, hm2, hc2⟩
      have hof2 : ∀ q, q < W1.heap.size → x.wv.ownBlock ≠ some q → W2.heap[q]? = W1.heap[q]? := fun q h1 h2 => hc2.off h1 h2
      have hg2 : W2.heap[g]? = W1.heap[g]? := hof2 g HW1.out.2.2.2.2 (fun e => HF.out.1 g e rfl)
      have row2 : OG 61 5 lrC W2 B (.slice (some ⟨g, 0, none⟩) n c) (rs'.set j { x with id := z + (y : Int), pa := z + (y : Int) + 1 }) := ownsRow_keep HW1.out.1 fun q hq => by
        have : g = q := Option.some.inj hq
        subst this; exact hg2
      obtain ⟨z3, hz3⟩ : ∃ u, u = z2 + (n1 : Int) := ⟨_, rfl⟩
      have HW2 : Hid (OG 61 5 lrC W2 B (.slice (some ⟨g, 0, none⟩) n c) (rs'.set j { x with id := z + (y : Int), pa := z + (y : Int) + 1 }) ∧ W2.ownsRow B 2 1 x.wv n1 (mkV z2 n1) ∧ W2.ownsRow B 2 1 x.dv n2 xd ∧ Tn (LBk (.slice (some ⟨g, 0, none⟩) n c) rs) wr W2 ∧ g < W2.heap.size) :=
        ⟨row2, own_back hm2 (fun q hq => (World.ownsRow.lt HW1.out.2.1 q hq).1), ownsRow_keep HW1.out.2.2.1 fun q hq => hof2 q (World.ownsRow.lt HW1.out.2.2.1 q hq).2 (fun e => HF.out.2.2.1 q e hq), HW1.out.2.2.2.1.trans (Tn.of_chg (v := x.wv) hc2 HF.out.2.2.2.1), Nat.lt_of_lt_of_le HW1.out.2.2.2.2 hc2.size⟩
      have HZ3 : Hid (z3 = z2 + (n1 : Int)) := hz3
      have HO2 : Hid (∀ q, q < W1.heap.size → x.wv.ownBlock ≠ some q → W2.heap[q]? = W1.heap[q]?) := hof2
      rw [← hz3]
      obtain ⟨gg, oo, cc, he9, _, hc9⟩ := (OG.rg lrC_len row2).pos (by rw [List.length_set]; have := HJ.out.2.1; omega)
      injection he9 with he9 hx2 hx3
      injection he9 with he9
      injection he9 with he9a he9b
      clear hx2 hx3
      subst he9a he9b
      obtain ⟨_, _, _, _, d4⟩ := lrC_at (hc9 j (by rw [List.length_set]; exact HJ.out.2.1))
      rw [List.getElem_set_self] at d4
      simp only [Nat.zero_add] at d4
      have hrw2 := row2
      unfold OG at hrw2
      rw [List.length_set, HR.out.2.1.len, ← H.out.2.1] at hrw2
      have f3 := World.ownsRow.frozenAt hrw2 (j * 5 + 3)
      have hex3 : ∃ u, W2.cell? ⟨g, j * 5 + 3, none⟩ = some u := by
        have := (lrC_at (hc9 j (by rw [List.length_set]; exact HJ.out.2.1))).2.2.2.1
        simp only [Nat.zero_add] at this
        exact ⟨_, this⟩
      obtain ⟨u3, d3⟩ := hex3
      have gl2 := HW2.out.2.2.2.2
      obtain ⟨r3, hr3⟩ : ∃ u, u = z3 % 3 := ⟨_, rfl⟩
      have hq3 : z3.tmod 3 = r3 := by rw [hr3]; exact Int.tmod_eq_emod_of_nonneg (by omega)
      obtain ⟨z4, hz4⟩ : ∃ u, u = z3 + 1 := ⟨_, rfl⟩
      have k3 : IntKind.i64.wrap (z3 + 1) = z4 := by rw [IntKind.wrap_i64]; omega
      have hr3b : 0 ≤ r3 ∧ r3 < 3 := by rw [hr3]; omega
      obtain ⟨W3, hW3⟩ : ∃ W, W = W2.setCell ⟨g, j * 5 + 3, none⟩ (.bool (r3 == 0)) := ⟨_, rfl⟩
      have h3 := og_set lrC_len row2 (j := j) (by rw [List.length_set]; exact HJ.out.2.1) (i := 3) (by omega) { x with id := z + (y : Int), pa := z + (y : Int) + 1, hd := (r3 == 0) } (.bool (r3 == 0)) (by rw [List.getElem_set_self]; rfl)
      simp only [List.set_set] at h3
      rw [← hW3] at h3
      have oth3 : ∀ q, q ≠ g → W3.heap[q]? = W2.heap[q]? := fun q hq => by rw [hW3, heap_setCell_other _ _ _ _ (by simpa using hq)]
      have HW3 : Hid (OG 61 5 lrC W3 B (.slice (some ⟨g, 0, none⟩) n c) (rs'.set j { x with id := z + (y : Int), pa := z + (y : Int) + 1, hd := (r3 == 0) }) ∧ W3.ownsRow B 2 1 x.wv n1 (mkV z2 n1) ∧ W3.ownsRow B 2 1 x.dv n2 xd ∧ Tn (LBk (.slice (some ⟨g, 0, none⟩) n c) rs) wr W3 ∧ g < W3.heap.size) :=
        ⟨h3, ownsRow_keep HW2.out.2.1 fun q hq => oth3 q (HF.out.1 q hq), ownsRow_keep HW2.out.2.2.1 fun q hq => oth3 q (HF.out.2.1 q hq), HW2.out.2.2.2.1.trans (by rw [hW3]; exact Tn.set _ _ (Or.inl rfl)), by rw [hW3]; simpa using gl2⟩
      have HW3E : Hid (W3 = _) := hW3
      have HZ4 : Hid (z4 = z3 + 1 ∧ r3 = z3 % 3) := ⟨hz4, hr3⟩
      have HZ4B : Hid (z4 = z2 + (n1 : Int) + 1) := by unfold Hid; omega
      have hz4b : 0 ≤ z4 ∧ z4 ≤ 40000000 := by omega
      clear hm2 hc2 hof2 hg2 row2 hc9 hrw2 hW3 h3 oth3 c0 c1 c2' c3 c4 f0 f1 hz3 hz4 hr3
      go_wp2_with (fail)
      rw [← HW3E.out]
      refine (markInt64S_to z4 hb1.2 (by omega) (by omega) (own_tight (v := .slice x.da x.dn x.dc) HW3.out.2.2.1) (tight_lt _)).mono ?_
      rintro e W4 ⟨rfl, hm4, hc4⟩
      have hof4 : ∀ q, q < W3.heap.size → x.dv.ownBlock ≠ some q → W4.heap[q]? = W3.heap[q]? := fun q h1 h2 => hc4.off h1 h2
      have HN : Hid (y + (3 + n1 + n2) = zS ns (j + 1) ∧ ∃ rs', LM W4 B (.slice (some ⟨g, 0, none⟩) n c) ns z (j + 1) rs' ∧ (wvO rs' = wvO rs ∧ dvO rs' = dvO rs ∧ rs'.length = rs.length) ∧ Tn (LBk (.slice (some ⟨g, 0, none⟩) n c) rs) w W4) := by
        obtain ⟨j1, j2, j3, j4, j5, j6⟩ := HJ.out
        have hT4 : Tn (LBk (.slice (some ⟨g, 0, none⟩) n c) rs) wr W4 := HW3.out.2.2.2.1.trans (Tn.of_chg (v := x.dv) hc4 HF.out.2.2.2.2)
        refine ⟨by rw [zS_at j1, ← HR.out.1, ← j4, ← j5], rs'.set j { x with id := z + (y : Int), pa := z + (y : Int) + 1, hd := (r3 == 0) }, ?_, ⟨by rw [wvO_set j2 (by rw [← j3]; rfl)]; exact HR.out.2.2.1.1, by rw [dvO_set j2 (by rw [← j3]; rfl)]; exact HR.out.2.2.1.2.1, by rw [List.length_set]; exact HR.out.2.2.1.2.2⟩, HR.out.2.2.2.trans hT4⟩
        have hzy : (y : Int) = (zS ns j : Int) := by rw [HR.out.1]
        refine HR.out.2.1.step (xr := nilV) (xw := nilV) (xd := nilV) j2 j1 ⟨by rw [← hzy], by rw [← hzy], ?_⟩ (by rw [← j3]; rfl) (by rw [← j3]; rfl) ?_ ?_ ?_ ?_
        · show (r3 == 0) = _
          have e3 : z + (zS ns j : Int) + 2 + (ns[j].1 : Int) = z3 := by rw [← hzy, ← j4]; have := HZ3.out; omega
          rw [e3, ← HZ4.out.2]
          rfl
        · exact ownsRow_keep HW3.out.1 fun q hq => hof4 q (World.ownsRow.lt HW3.out.1 q hq).2 fun e => by
            have : g = q := Option.some.inj hq
            exact HF.out.2.1 q e this.symm
        · rw [← j3, ← j4, ← hzy, show z + (y : Int) + 2 = z2 from j6.symm]
          exact ownsRow_keep HW3.out.2.1 fun q hq => hof4 q (World.ownsRow.lt HW3.out.2.1 q hq).2 (HF.out.2.2.1 q hq)
        · rw [← j3, ← j4, ← j5, ← hzy, show z + (y : Int) + 3 + (n1 : Int) = z4 by have := HZ4B.out; omega]
          exact own_back hm4 (fun q hq => (World.ownsRow.lt HW3.out.2.2.1 q hq).1)
        · intro q h1 h2 h3 h4
          rw [← j3] at h3 h4
          have hqg : q ≠ g := fun e => h2 (by rw [e]; rfl)
          have s1 := HW1.out.2.2.2.1.size
          have s2 := HW2.out.2.2.2.1.size
          have s3 := HW3.out.2.2.2.1.size
          have e1 : W1.heap[q]? = wr.heap[q]? := by rw [HW1E.out, heap_setCell_other _ _ _ _ (by simpa using hqg), heap_setCell_other _ _ _ _ (by simpa using hqg)]
          have e3 : W3.heap[q]? = W2.heap[q]? := by rw [HW3E.out, heap_setCell_other _ _ _ _ (by simpa using hqg)]
          exact (hof4 q (by omega) h4).trans (e3.trans ((HO2.out q (by omega) h3).trans e1))
      clear hm4 hc4 hof4 HW1 HW2 HW3 HF d3 d4 f3
      go_wp2
      go_roundw
      case rel => exact ⟨j + 1, y + (3 + n1 + n2), by omega, by go_num, by simp; have := HJ.out; have := HZ4B.out; omega, by omega, HN.out⟩
      case measure => simp [intOf]; omega
    · obtain rfl : j = n := by omega
      have HD : Hid (y = Z ∧ ∃ rs', LM wr B (.slice a j c) ns z j rs' ∧ (wvO rs' = wvO rs ∧ dvO rs' = dvO rs ∧ rs'.length = rs.length) ∧ Tn (LBk (.slice a j c) rs) w wr) := by
        exact ⟨by rw [hyz, H.out.2.2.2.1, ← H.out.2.1], rs', hlm, hsame, htn⟩
      clear hlm hsame htn hyz HR
      go_wp2
      go_returns
      exact ⟨by rw [HD.out.1]; rfl, HD.out.2⟩

end Go.Proofs.Ytcfjanignfbidaa
