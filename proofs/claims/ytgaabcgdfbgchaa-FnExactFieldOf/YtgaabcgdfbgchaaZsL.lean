/- Proved here: how the laws' package weighs, copies, compares, marks and holds lists of complex numbers; how one that came in is read. No condition. -/
import Derived.Test.YtgaabcgdfbgchaaZL
import Derived.Test.YtgaabcgdfbgchaaTyGen
import Derived.Test.YtgaabcgdfbgchaaChg
namespace Go.Proofs.Ytgaabcgdfbgchaa
open Go.ChangeShapes Go.WideShapes Go.ChangeAt Go.RowKit Go.Joins Go.Deep
set_option linter.unusedVariables false
set_option linter.unusedSimpArgs false

set_option maxHeartbeats 800000 in
theorem szZS_gen (a : Option Addr) (n c : Nat) (l : Int) (w : World) (h0 : 0 ≤ l) (h1 : l ≤ 1048576) (h2 : n ≤ maxLen) :
    Calls Try.prog 11 #[.slice a n c, .int .i64 l] w fun e w' => ∃ r, e = .returned (.int .i64 r) ∧ (r < 0 ∨ (0 ≤ r ∧ r ≤ l ∧ (n : Int) ≤ l)) ∧ Below w.heap.size w w' := by
  unfold maxLen at h2
  have hw : IntKind.i64.wrap (l - (n : Int)) = l - (n : Int) := by rw [IntKind.wrap_i64]; omega
  by_cases hn : l - (n : Int) < 0
  · go_enter Try.func11, Try.ntmps11
    go_wp2
    go_returns
    exact ⟨-1, rfl, Or.inl (by omega), Below.refl _ _⟩
  · go_enter Try.func11, Try.ntmps11
    go_wp2
    go_returns
    exact ⟨_, rfl, Or.inr ⟨by omega, by omega, by omega⟩, Below.refl _ _⟩

set_option maxRecDepth 10000 in
set_option maxHeartbeats 3200000 in
theorem toZS_any {w : World} {v : Value} {s : List Zf} (hn : s.length ≤ 1048576) (h : RZs w v s) :
    Calls Try.prog 13 #[v] w fun e w' => ∃ g, e = .returned (.slice (some ⟨g, 0, none⟩) s.length s.length) ∧ OZs w' w.heap.size (.slice (some ⟨g, 0, none⟩) s.length s.length) s ∧ Below w.heap.size w w' := by
  obtain ⟨a, c, rfl⟩ := h.form
  have H : Hid (RZs w (.slice a s.length c) s) := h
  clear h
  obtain ⟨i0, hi, hz0, hz1, hz2⟩ := info_parts info_z
  obtain ⟨n, hnn⟩ : ∃ n, n = s.length := ⟨_, rfl⟩
  have HN : Hid (n = s.length) := hnn
  rw [← hnn] at hn H ⊢
  clear hnn
  go_enter Try.func13, Try.ntmps13
  go_wp2_with (at_make; refine wpList_make_full _ rfl _ _ 30 rfl w.heap.size 24 i0 (.agg #[.float .f64 0, .float .f64 0]) 2 Try.underlying30 hi hz0 hz1 _ _ _ _ n rfl rfl rfl rfl (by rw [hz2]; omega) (by unfold maxLen; omega) (Nat.le_refl _) ?_; intro w2 hown2 hgrow2)
  have hb2 : Below w.heap.size w w2 := (Below.refl _ _).grown hgrow2 (Nat.le_refl _) (fun k h => by cases h)
  have HS : Hid (Fill 24 2 zC w2 w.heap.size w.heap.size n s 0 ∧ Below w.heap.size w w2) := ⟨⟨_, hown2, fun t ht => by omega⟩, hb2⟩
  clear hown2 hgrow2 hb2
  go_loopw [4] (fun i wr => ∃ j : Nat, j ≤ n ∧ i = .int .i64 j ∧ Hid (Fill 24 2 zC wr w.heap.size w.heap.size n s j ∧ Below w.heap.size w wr)) (fun i _ => n - (intOf i).toNat)
  case atStart => exact ⟨0, Nat.zero_le _, rfl, HS.out⟩
  case round =>
    clear HS
    obtain ⟨j, hjn, rfl, hR⟩ := hrel
    by_cases hlt : j < n
    · have hjl : j < s.length := by rw [← HN.out]; exact hlt
      obtain ⟨g, o, z, ha, hg, hz, c0, c1⟩ := rz_at (H.out.below hR.out.2) hlt
      subst ha
      have HX : Hid (z = s[j]) := by
        unfold Hid
        rw [List.getElem?_eq_getElem hjl] at hz
        injection hz with hz
        exact hz.symm
      clear hz
      have b0 : (0 : Int) ≤ (j : Int) := by omega
      have b1 : (j : Int) < (n : Int) := by omega
      go_wp2_with (fail)
      refine (toZ_any z _).mono ?_
      rintro e w3 ⟨rfl, hb3⟩
      have HF : Hid (Fill 24 2 zC w3 w.heap.size w.heap.size n s j ∧ Below w.heap.size w w3) := ⟨hR.out.1.below hb3, hR.out.2.trans (hb3.mono hR.out.2.size)⟩
      clear hb3 c0 c1 hg hR
      obtain ⟨⟨u0, g0⟩, f0⟩ := HF.out.1.there (j * 2) (by omega)
      obtain ⟨⟨u1, g1⟩, f1⟩ := HF.out.1.there (j * 2 + 1) (by omega)
      have HP : Hid (Fill 24 2 zC ((w3.setCell ⟨w.heap.size, j * 2, none⟩ (.float .f64 z.re)).setCell ⟨w.heap.size, j * 2 + 1, none⟩ (.float .f64 z.im)) w.heap.size w.heap.size n s (j + 1) ∧ Below w.heap.size w ((w3.setCell ⟨w.heap.size, j * 2, none⟩ (.float .f64 z.re)).setCell ⟨w.heap.size, j * 2 + 1, none⟩ (.float .f64 z.im))) := by
        have h1 := HF.out.1.put zC_len HN.out hjl
        rw [← HX.out] at h1
        simp only [zC, putsAt, Nat.add_zero] at h1
        exact ⟨h1, (HF.out.2.setCell (Nat.le_refl _) _).setCell (Nat.le_refl _) _⟩
      clear HF
      go_wp2
      go_roundw
      case rel => exact ⟨j + 1, by omega, by go_num, HP.out⟩
      case measure => simp [intOf]; omega
    · have HD : Hid (OZs wr w.heap.size (.slice (some ⟨w.heap.size, 0, none⟩) n n) s ∧ Below w.heap.size w wr) := ⟨hR.out.1.done zC_len HN.out (by rw [← HN.out]; omega), hR.out.2⟩
      clear hR
      go_wp2
      go_returns
      exact ⟨w.heap.size, rfl, HD.out.1, HD.out.2⟩

set_option maxRecDepth 10000 in
set_option maxHeartbeats 3200000 in
/-- Two lists of one value are alike. -/
theorem eqZS_v {w : World} {va vb : Value} {s t : List Zf} (hn : s.length ≤ 1099511627776) (hst : s.map Zf.v = t.map Zf.v) (ha : RZs w va s) (hb : RZs w vb t) :
    Calls Try.prog 16 #[va, vb] w fun e w' => e = .returned (.bool true) ∧ Below w.heap.size w w' := by
  obtain ⟨a1, c1', rfl⟩ := ha.form
  obtain ⟨a2, c2', rfl⟩ := hb.form
  have hl : s.length = t.length := by have h3 := congrArg List.length hst; simpa using h3
  obtain ⟨n, hnn⟩ : ∃ n, n = s.length := ⟨_, rfl⟩
  rw [← hl, ← hnn] at hb
  rw [← hnn] at ha hn ⊢
  rw [← hl, ← hnn]
  have H : Hid (RZs w (.slice a1 n c1') s ∧ RZs w (.slice a2 n c2') t ∧ n = s.length ∧ s.map Zf.v = t.map Zf.v) := ⟨ha, hb, hnn, hst⟩
  clear ha hb hnn hl hst
  go_enter Try.func16, Try.ntmps16
  go_wp2
  go_loopw [5] (fun i wr => ∃ j : Nat, j ≤ n ∧ i = .int .i64 j ∧ Hid (Below w.heap.size w wr)) (fun i _ => n - (intOf i).toNat)
  case atStart => exact ⟨0, Nat.zero_le _, rfl, Below.refl _ _⟩
  case round =>
    obtain ⟨j, hjn, rfl, hR⟩ := hrel
    by_cases hlt : j < n
    · obtain ⟨g, o, z, ha, hg, hz, c0, c1⟩ := rz_at (H.out.1.below hR.out) hlt
      obtain ⟨g', o', y, ha', hg', hy, d0, d1⟩ := rz_at (H.out.2.1.below hR.out) hlt
      subst ha ha'
      have HV : Hid (z.v = y.v) := by
        have h3 := congrArg (fun l => l[j]?) H.out.2.2.2
        simp only [List.getElem?_map, hz, hy, Option.map_some, Option.some.injEq] at h3
        exact h3
      clear hz hy
      have b0 : (0 : Int) ≤ (j : Int) := by omega
      have b1 : (j : Int) < (n : Int) := by omega
      go_wp2_with (fail)
      (refine wp_region_und (by kernel_rfl) (by kernel_rfl) (fun hund => ?_); (repeat (go_big_quiet_step (first | (go_at_call 10; refine und_call ?_ (eqZ_any z y (congrArg Zv.re HV.out) (congrArg Zv.im HV.out) _); simp)))); with_reducible refine wpQuiet_nil ?_; clear hund; intro W1 hb1; obtain ⟨hc1, hf1⟩ := bcell hb1)
      have HB : Hid (Below w.heap.size w W1) := hR.out.trans (hb1.mono hR.out.size)
      clear hb1 hc1 hf1
      go_wp2
      go_roundw
      case rel => exact ⟨j + 1, by omega, by go_num, HB.out⟩
      case measure => simp [intOf]; omega
    · go_wp2
      go_returns
      exact ⟨rfl, hR.out⟩

/-- Marks. -/
def mzK (k : Int) (n : Nat) : List Zf := (List.range n).map fun (i : Nat) => ⟨floatOfInt .f64 (k + 2 * (i : Int)), floatOfInt .f64 (k + 2 * (i : Int) + 1)⟩
theorem mzK_len (k : Int) (n : Nat) : (mzK k n).length = n := by simp [mzK]
theorem mzK_at {k : Int} {n j : Nat} (h : j < n) : (mzK k n)[j]? = some ⟨floatOfInt .f64 (k + 2 * (j : Int)), floatOfInt .f64 (k + 2 * (j : Int) + 1)⟩ := by simp [mzK, h]
theorem foi_num (k : Int) : fv (floatOfInt .f64 k) = some (floatOfInt .f64 k) := fv_write (.number (k < 0) k.natAbs 0) rfl
theorem foi_eq (k : Int) : (FloatKind.f64.format.order (floatOfInt .f64 k) (floatOfInt .f64 k) != some .eq) = false := by
  rw [show FloatKind.f64.format = Ieee.double from rfl, ord_self (foi_num k)]; rfl

set_option maxRecDepth 10000 in
set_option maxHeartbeats 3200000 in
theorem markZ {w : World} {B g n c : Nat} {s : List Zf} (k : Int) (hn : n ≤ 1048576) (hk0 : 0 ≤ k) (hk1 : k ≤ 1125899906842624) (h : OZs w B (.slice (some ⟨g, 0, none⟩) n c) s) :
    Calls Try.prog 17 #[.slice (some ⟨g, 0, none⟩) n c, .int .i64 k] w fun e w' => e = .returned (.int .i64 (k + 2 * (n : Int))) ∧ OZs w' B (.slice (some ⟨g, 0, none⟩) n c) (mzK k n) ∧ Only g w w' := by
  have hln : n = s.length := h.rg.len
  have H : Hid (OZs w B (.slice (some ⟨g, 0, none⟩) n c) s ∧ n = s.length) := ⟨h, hln⟩
  clear h hln
  go_enter Try.func17, Try.ntmps17
  go_wp2
  go_loopw [1, 5] (fun q i wr => ∃ j : Nat, j ≤ n ∧ i = .int .i64 j ∧ q = .int .i64 (k + 2 * (j : Int)) ∧ Hid (∃ ys : List Value, ys.length = n * 2 ∧ (∀ t, t < j * 2 → ys[t]? = ((mzK k n).flatMap zC)[t]?) ∧ wr.ownsRow B 24 2 (.slice (some ⟨g, 0, none⟩) n c) n ys ∧ Only g w wr)) (fun _ i _ => n - (intOf i).toNat)
  case atStart => exact ⟨0, Nat.zero_le _, rfl, by simp, _, by have := H.out.1.1; rw [← H.out.2] at this; exact this, fun t ht => by omega, by have h3 := H.out.1; unfold OZs OG at h3; rw [← H.out.2] at h3; exact h3, Only.refl _ _⟩
  case round =>
    obtain ⟨j, hjn, rfl, rfl, hR⟩ := hrel
    by_cases hlt : j < n
    · obtain ⟨ys, y1, y2, y3, y4⟩ := hR.out
      have b0 : (0 : Int) ≤ (j : Int) := by omega
      have b1 : (j : Int) < (n : Int) := by omega
      have f0 := World.ownsRow.frozenAt y3 (j * 2)
      have f1 := World.ownsRow.frozenAt y3 (j * 2 + 1)
      have g0 : ∃ u, wr.cell? ⟨g, j * 2, none⟩ = some u := by rw [World.ownsRow.cellAt y3 (j * 2) (by omega)]; exact ⟨_, List.getElem?_eq_getElem (by omega)⟩
      have g1 : ∃ u, wr.cell? ⟨g, j * 2 + 1, none⟩ = some u := by rw [World.ownsRow.cellAt y3 (j * 2 + 1) (by omega)]; exact ⟨_, List.getElem?_eq_getElem (by omega)⟩
      obtain ⟨u0, g0⟩ := g0
      obtain ⟨u1, g1⟩ := g1
      have e1 : IntKind.i64.wrap (k + 2 * (j : Int) + 1) = k + 2 * (j : Int) + 1 := by rw [IntKind.wrap_i64]; omega
      have e2 : IntKind.i64.wrap (k + 2 * (j : Int) + 1 + 1) = k + 2 * (j : Int) + 1 + 1 := by rw [IntKind.wrap_i64]; omega
      have HP : Hid (∃ ys : List Value, ys.length = n * 2 ∧ (∀ t, t < (j + 1) * 2 → ys[t]? = ((mzK k n).flatMap zC)[t]?) ∧ ((wr.setCell ⟨g, j * 2, none⟩ (.float .f64 (floatOfInt .f64 (k + 2 * (j : Int))))).setCell ⟨g, j * 2 + 1, none⟩ (.float .f64 (floatOfInt .f64 (k + 2 * (j : Int) + 1)))).ownsRow B 24 2 (.slice (some ⟨g, 0, none⟩) n c) n ys ∧ Only g w ((wr.setCell ⟨g, j * 2, none⟩ (.float .f64 (floatOfInt .f64 (k + 2 * (j : Int))))).setCell ⟨g, j * 2 + 1, none⟩ (.float .f64 (floatOfInt .f64 (k + 2 * (j : Int) + 1))))) := by
        have s1 := (World.ownsRow.stored y3 (j * 2) (.float .f64 (floatOfInt .f64 (k + 2 * (j : Int))))).1
        have s2 := (World.ownsRow.stored s1 (j * 2 + 1) (.float .f64 (floatOfInt .f64 (k + 2 * (j : Int) + 1)))).1
        refine ⟨_, by simp [y1], fun t ht => ?_, s2, (y4.set _ _).set _ _⟩
        have hm := mzK_at (k := k) hlt
        by_cases t1 : t = j * 2 + 1
        · subst t1
          rw [List.getElem?_set_self (by simp; omega), fm_get zC_len (mzK k n) j 1 (by rw [mzK_len]; exact hlt) (by omega)]
          rw [List.getElem?_eq_getElem (by rw [mzK_len]; exact hlt)] at hm
          injection hm with hm
          rw [hm]; rfl
        · rw [List.getElem?_set_ne (Ne.symm t1)]
          by_cases t0 : t = j * 2
          · subst t0
            rw [List.getElem?_set_self (by omega)]
            have h3 := fm_get zC_len (mzK k n) j 0 (by rw [mzK_len]; exact hlt) (by omega)
            rw [Nat.add_zero] at h3
            rw [h3]
            rw [List.getElem?_eq_getElem (by rw [mzK_len]; exact hlt)] at hm
            injection hm with hm
            rw [hm]; rfl
          · rw [List.getElem?_set_ne (Ne.symm t0)]
            exact y2 t (by omega)
      clear hR y1 y2 y3 y4
      go_wp2
      go_roundw
      case rel => exact ⟨j + 1, by omega, by go_num, by go_num, HP.out⟩
      case measure => simp [intOf]; omega
    · have HE : Hid (j = n ∧ OZs wr B (.slice (some ⟨g, 0, none⟩) n c) (mzK k n) ∧ Only g w wr) := by
        obtain ⟨ys, y1, y2, y3, y4⟩ := hR.out
        have hjn' : j = n := by omega
        refine ⟨hjn', ?_, y4⟩
        have e : ys = (mzK k n).flatMap zC := by
          apply List.ext_getElem?
          intro t
          rcases Nat.lt_or_ge t (n * 2) with ht | ht
          · exact y2 t (by omega)
          · rw [List.getElem?_eq_none (by omega), List.getElem?_eq_none (by rw [fm_length zC_len, mzK_len]; omega)]
        show World.ownsRow _ _ _ _ _ _ _
        rw [mzK_len, ← e]
        exact y3
      have b1 : ¬ (j : Int) < (n : Int) := by omega
      clear hR
      go_wp2
      go_returns
      exact ⟨by rw [← HE.out.1]; rfl, HE.out.2.1, HE.out.2.2⟩

set_option maxRecDepth 10000 in
set_option maxHeartbeats 3200000 in
theorem heldZ {w : World} {v : Value} {n : Nat} (k : Int) (hn : n ≤ 1048576) (hk0 : 0 ≤ k) (hk1 : k ≤ 1125899906842624) (h : RZs w v (mzK k n)) :
    Calls Try.prog 49 #[v, .int .i64 k] w fun e w' => e = .returned (.int .i64 (k + 2 * (n : Int))) ∧ w' = w := by
  obtain ⟨a, c, rfl⟩ := h.form
  rw [mzK_len] at h ⊢
  have H : Hid (RZs w (.slice a n c) (mzK k n)) := h
  clear h
  go_enter Try.func49, Try.ntmps49
  go_wp2
  go_loopw [1, 5] (fun q i wr => ∃ j : Nat, j ≤ n ∧ i = .int .i64 j ∧ q = .int .i64 (k + 2 * (j : Int)) ∧ wr = w) (fun _ i _ => n - (intOf i).toNat)
  case atStart => exact ⟨0, Nat.zero_le _, rfl, by simp, rfl⟩
  case round =>
    obtain ⟨j, hjn, rfl, rfl, rfl⟩ := hrel
    by_cases hlt : j < n
    · obtain ⟨g, o, z, ha, hg, hz, c0, c1⟩ := rz_at H.out hlt
      rw [mzK_at hlt] at hz
      injection hz with hz
      subst hz ha
      have b0 : (0 : Int) ≤ (j : Int) := by omega
      have b1 : (j : Int) < (n : Int) := by omega
      have q1 := foi_eq (k + 2 * (j : Int))
      have q2 := foi_eq (k + 2 * (j : Int) + 1)
      have e1 : IntKind.i64.wrap (k + 2 * (j : Int) + 1) = k + 2 * (j : Int) + 1 := by rw [IntKind.wrap_i64]; omega
      have e2 : IntKind.i64.wrap (k + 2 * (j : Int) + 1 + 1) = k + 2 * (j : Int) + 1 + 1 := by rw [IntKind.wrap_i64]; omega
      go_wp2
      go_roundw
      case rel => exact ⟨j + 1, by omega, by go_num, by go_num, by trivial⟩
      case measure => simp [intOf]; omega
    · have hjn' : Hid (j = n) := by unfold Hid; omega
      have b1 : ¬ (j : Int) < (n : Int) := by omega
      go_wp2
      go_returns
      exact ⟨by rw [← hjn'.out]; rfl, rfl⟩

set_option maxRecDepth 100000 in
theorem z_cells {H : Type} {enc : TypeId × Value → H} {W : World} {fuel : Nat} {cs : List Value} {x : DataW H × List MemPlace} (h : DataW.trod enc Try.prog W 0 (fun _ => true) true fuel 78 cs = some x) : ∃ a : Zf, cs = zC a ∧ True := by
  obtain ⟨y0, y1, n, hx, hl, h0, h1⟩ := trod_struct2 Try.underlying78 h
  have k2 : Try.prog.cellsOf 78 = 2 := by kernel_rfl
  have k1 : Try.prog.cellsOf 22 = 1 := by kernel_rfl
  rw [k2] at hl
  obtain ⟨c0, c1, rfl⟩ : ∃ c0 c1, cs = [c0, c1] := by
    match cs, hl with
    | [c0, c1], _ => exact ⟨c0, c1, rfl⟩
  obtain ⟨m0, f0, _, _⟩ := trod_flt Try.underlying22 h0
  obtain ⟨m1, f1, _, _⟩ := trod_flt Try.underlying22 h1
  simp [k1] at f0 f1
  subst f0 f1
  exact ⟨⟨m0, m1⟩, rfl, trivial⟩

set_option maxRecDepth 100000 in
/-- A list of complex numbers that came in. -/
theorem zs_open {H : Type} {enc : TypeId × Value → H} {W : World} {base : Nat} {v : Value} {d : DataW H} {p : List MemPlace}
    (hv : Value.okWide Try.prog W .any base 28 v) (h : DataW.Trod enc Try.prog W 0 (fun _ => true) true 28 v d p) :
    ∃ (a : Option Addr) (n c : Nat) (s : List Zf), v = .slice a n c ∧ RZs W (.slice a n c) s ∧ s.length ≤ maxLen := by
  obtain ⟨a0, len0, cap0, rfl⟩ := okWide_slice Try.underlying28 hv
  obtain ⟨fuel, hf⟩ := h
  have : Nonempty Zf := ⟨⟨0, 0⟩⟩
  obtain ⟨a, n, c, s, k, h1, h2, _⟩ := rg_of_trod (Q := fun _ => True) Try.underlying28 (show Try.prog.cellsOf 78 = 2 by kernel_rfl) (by omega) zC_len (fun _ _ _ h => z_cells h) hf
  simp [Value.cells] at k
  obtain ⟨rfl, rfl, rfl⟩ := k
  exact ⟨_, _, _, s, rfl, h1, h2⟩

end Go.Proofs.Ytgaabcgdfbgchaa
