/- Proved here: ordered and assists of the program. -/
import Derived.Test.YtfjcebgknpccbaaAsI
import Derived.Test.YtfjcebgknpccbaaLnV
namespace Go.Proofs.Ytfjcebgknpccbaa
open Go.RowKit
set_option linter.unusedVariables false
set_option linter.unusedSimpArgs false

theorem sort_any {w : World} {B : Nat} {v : Value} {xs : List Int} (h : IS w B v xs) (hs : xs.length ≤ 1000000) (hB : B ≤ w.heap.size) :
    Calls Try.prog 63 #[v] w fun e w' => e = .returned (.tuple #[]) ∧ IS w' B v (xs.mergeSort fun x y => decide (x ≤ y)) ∧ Below B w w' := by
  rcases h.2 with ⟨rfl, h0⟩ | ⟨g, cap, cur, rfl, _⟩
  · have hcon := AnyM.slices_Sort_int_none Try.sortI none 0 w
    change Calls Try.prog 63 _ _ _ at hcon
    refine hcon.mono ?_
    rintro e w' ⟨rfl, rfl⟩
    obtain rfl : xs = [] := List.length_eq_zero_iff.1 h0
    exact ⟨rfl, by rw [List.mergeSort_nil]; exact World.ownsRow_nil _ _ _ _, Below.refl _ _⟩
  · exact ht_sort h rfl hs

set_option maxHeartbeats 3200000 in
theorem impl_ord {w : World} {gl g0 n0 c0 g1 n1 c1 B : Nat} {xs ys : List Int} (k0 : w.cell? ⟨gl, 0, none⟩ = some (.slice (some ⟨g0, 0, none⟩) n0 c0)) (k1 : w.cell? ⟨gl, 1, none⟩ = some (.slice (some ⟨g1, 0, none⟩) n1 c1)) (hgl : gl < w.heap.size)
    (h0 : IS w B (.slice (some ⟨g0, 0, none⟩) n0 c0) xs) (h1 : IS w B (.slice (some ⟨g1, 0, none⟩) n1 c1) ys) (hn0 : n0 ≤ 1000) (hn1 : n1 ≤ 1000) :
    Calls Try.prog 55 #[.slice (some ⟨gl, 0, none⟩) 2 2] w fun e w' => ∃ r, e = .returned r ∧ IS w' w.heap.size r ((xs ++ ys).mergeSort fun x y => decide (x ≤ y)) ∧ Below w.heap.size w w' := by
  have e0 : n0 = xs.length := by obtain ⟨_, _, e⟩ := h0.form; injection e
  have e1 : n1 = ys.length := by obtain ⟨_, _, e⟩ := h1.form; injection e
  obtain ⟨zs, hzs⟩ : ∃ zs, zs = xs ++ ys := ⟨_, rfl⟩
  obtain ⟨ms, hms⟩ : ∃ ms, ms = zs.mergeSort fun x y => decide (x ≤ y) := ⟨_, rfl⟩
  have HL : Hid (zs.length ≤ 1000000 ∧ ms = zs.mergeSort fun x y => decide (x ≤ y)) := ⟨by rw [hzs, List.length_append]; omega, hms⟩
  have HC : Hid (Calls Try.prog 62 #[.slice (some ⟨gl, 0, none⟩) 2 2] w fun e w' => ∃ r, e = .returned r ∧ IS w' w.heap.size r zs ∧ Below w.heap.size w w') := by rw [hzs]; exact lib_concat k0 k1 hgl h0 h1 hn0 hn1
  rw [← hzs, ← hms]
  clear k0 k1 h0 h1 e0 e1 hgl hn0 hn1 hzs hms
  go_enter Try.func55, Try.ntmps55
  go_wp2_with (fail)
  refine HC.out.mono ?_
  rintro e w1 ⟨r1, rfl, hr1, hb1⟩
  obtain ⟨ra, rc, hrf⟩ := hr1.form
  obtain ⟨m, hm⟩ : ∃ m, m = zs.length := ⟨_, rfl⟩
  rw [← hm] at hrf
  subst hrf
  have HS : Hid (Calls Try.prog 63 #[.slice ra m rc] w1 fun e w' => e = .returned (.tuple #[]) ∧ IS w' w.heap.size (.slice ra m rc) ms ∧ Below w.heap.size w w') := by
    refine (sort_any hr1 HL.out.1 hb1.size).mono ?_
    rintro e w' ⟨rfl, h1, h2⟩
    exact ⟨rfl, by rw [HL.out.2]; exact h1, hb1.trans h2⟩
  clear hr1 hb1 hm
  go_wp2_with (fail)
  refine HS.out.mono ?_
  rintro e w2 ⟨rfl, hr2, hb2⟩
  have HR2 : Hid (IS w2 w.heap.size (.slice ra m rc) ms ∧ Below w.heap.size w w2) := ⟨hr2, hb2⟩
  clear hr2 hb2
  go_wp2
  go_returns
  exact ⟨_, rfl, HR2.out.1, HR2.out.2⟩

theorem rise_in {len : Int} : ∀ (ls : List Ln) (a : Int), -1 ≤ a → Rise len a ls → ∀ l ∈ ls, 0 ≤ l.f ∧ l.f < l.t ∧ l.t ≤ len
  | [], _, _, _, _, hl => by cases hl
  | x :: t, a, ha, h, l, hl => by
    rcases List.mem_cons.1 hl with rfl | hl
    · exact ⟨h.2.1, h.2.2.1, h.2.2.2.1⟩
    · exact rise_in t x.t (by have := h.2.1; have := h.2.2.1; omega) h.2.2.2.2 l hl

set_option maxRecDepth 10000 in
set_option maxHeartbeats 12800000 in
theorem impl_as {w : World} {v : Value} {ls : List Ln} (gap width : Int) (hg : 1 ≤ gap ∧ gap ≤ 60) (hw : 1 ≤ width ∧ width ≤ 60) (hn : ls.length ≤ 100) (hb : ∀ l ∈ ls, 0 ≤ l.f ∧ l.f < l.t ∧ l.t ≤ 60) (h : RG 2 lnC w v ls) :
    Calls Try.prog 57 #[v, .int .i64 gap, .int .i64 width] w fun e w' => ∃ r, e = .returned r ∧ OG 60 2 lnC w' w.heap.size r (asK gap width ls ls.length) ∧ Below w.heap.size w w' := by
  obtain ⟨a, c, rfl⟩ := h.form
  obtain ⟨n, hnn⟩ : ∃ n, n = ls.length := ⟨_, rfl⟩
  rw [← hnn] at h hn ⊢
  have H : Hid (RG 2 lnC w (.slice a n c) ls ∧ n = ls.length ∧ ∀ l ∈ ls, 0 ≤ l.f ∧ l.f < l.t ∧ l.t ≤ 60) := ⟨h, hnn, hb⟩
  clear h hnn hb
  obtain ⟨i0, hi, hz0, hz1, hz2⟩ := info_parts info_Line
  go_enter Try.func57, Try.ntmps57
  go_wp2
  go_loopw [7, 8] (fun o i wr => ∃ (k : Nat) (v : Value), 1 ≤ k ∧ k ≤ max n 1 ∧ v = o ∧ i = .int .i64 k ∧ Hid (OG 60 2 lnC wr w.heap.size v (asK gap width ls k) ∧ Below w.heap.size w wr)) (fun _ i _ => n - (intOf i).toNat)
  case atStart => exact ⟨1, _, Nat.le_refl _, by omega, rfl, rfl, by simp [asK]; exact World.ownsRow_nil _ _ _ _, Below.refl _ _⟩
  case round =>
    obtain ⟨k, v, hk1, hk, rfl, rfl, hR⟩ := hrel
    by_cases hlt : k < n
    · have b1 : (k : Int) < (n : Int) := by omega
      obtain ⟨kk, rfl⟩ : ∃ kk, k = kk + 1 := ⟨k - 1, by omega⟩
      have b0 : (0 : Int) ≤ ((kk + 1 : Nat) : Int) := by omega
      have hkl : kk + 1 < ls.length := by rw [← H.out.2.1]; exact hlt
      have hkl0 : kk < ls.length := by omega
      obtain ⟨gl, o, c2, he, hgl, hj⟩ := (H.out.1.below hR.out.2).pos (by omega)
      simp only [Value.slice.injEq] at he
      obtain ⟨rfl, hx1, hx2⟩ := he
      clear hx1 hx2
      obtain ⟨c0, c1⟩ := lnC_at (hj (kk + 1) hkl)
      obtain ⟨d0, d1⟩ := lnC_at (hj kk hkl0)
      obtain ⟨x, hx⟩ : ∃ x, x = ls[kk + 1] := ⟨_, rfl⟩
      obtain ⟨p, hp⟩ : ∃ x, x = ls[kk] := ⟨_, rfl⟩
      rw [← hx] at c0 c1
      rw [← hp] at d0 d1
      have hxb := H.out.2.2 x (by rw [hx]; exact List.getElem_mem _)
      have hpb := H.out.2.2 p (by rw [hp]; exact List.getElem_mem _)
      have HST : Hid (asK gap width ls (kk + 1 + 1) = asK gap width ls (kk + 1) ++ asOne gap width p x) := by
        unfold Hid
        rw [asK, if_neg (by omega), show kk + 1 - 1 = kk by omega, lnAt_get hkl0, lnAt_get hkl, hx, hp]
      have e9 : (((kk + 1 : Nat) : Int) - 1) = (kk : Int) := by omega
      have hw9 : IntKind.i64.wrap (kk : Int) = (kk : Int) := by rw [IntKind.wrap_i64]; omega
      have bk0 : (0 : Int) ≤ (kk : Int) := by omega
      have bk1 : (kk : Int) < (n : Int) := by omega
      have hlen : (asK gap width ls (kk + 1)).length ≤ 200 := by have := asK_len gap width ls (kk + 1); omega
      obtain ⟨Rm, hRm⟩ : ∃ R, R = x.f - p.t := ⟨_, rfl⟩
      have e1 : IntKind.i64.wrap (x.f - p.t) = Rm := by rw [IntKind.wrap_i64]; omega
      have e2 : IntKind.i64.wrap (width + 2) = width + 2 := by rw [IntKind.wrap_i64]; omega
      have hRb : -60 ≤ Rm ∧ Rm ≤ 60 := by omega
      have hsu := hR.out.1
      have HBL : Hid (Below w.heap.size w wr) := hR.out.2
      clear hx hp hj c1 d0
      by_cases hc1 : gap ≤ Rm
      · by_cases hc2 : width + 2 ≤ Rm
        · obtain ⟨A, hA⟩ : ∃ A, A = p.t + (Rm - width) / 2 := ⟨_, rfl⟩
          have hAb : 0 ≤ A ∧ A ≤ 200 := by omega
          have HSN : Hid (asK gap width ls (kk + 1 + 1) = asK gap width ls (kk + 1) ++ [⟨A, A + width⟩]) := by
            unfold Hid
            rw [HST.out, asOne, if_pos ⟨by omega, by omega⟩, ← hRm, ← hA]
          have e3 : IntKind.i64.wrap (Rm - width) = Rm - width := by rw [IntKind.wrap_i64]; omega
          have e4 : (Rm - width).tdiv 2 = (Rm - width) / 2 := Int.tdiv_eq_ediv_of_nonneg (by omega)
          have e5 : IntKind.i64.wrap ((Rm - width) / 2) = (Rm - width) / 2 := by rw [IntKind.wrap_i64]; omega
          have e6 : IntKind.i64.wrap (p.t + (Rm - width) / 2) = A := by rw [IntKind.wrap_i64]; omega
          have e7 : IntKind.i64.wrap (A + width) = A + width := by rw [IntKind.wrap_i64]; omega
          obtain ⟨va, vc, hvf⟩ := (OG.rg lnC_len hsu).form
          subst hvf
          obtain ⟨m, hm⟩ : ∃ m, m = (asK gap width ls (kk + 1)).length := ⟨_, rfl⟩
          have HM : Hid (m = (asK gap width ls (kk + 1)).length) := hm
          have HO : Hid (∀ W : World, Below wr.heap.size wr W → W.ownsRow w.heap.size 60 2 (.slice va m vc) m ((asK gap width ls (kk + 1)).flatMap lnC)) := fun W hW => by
            have h := OG.below hsu hW
            unfold OG at h
            rw [← hm] at h
            exact h
          have hm2 : m ≤ 200 := by omega
          have hszo : w.heap.size ≤ wr.heap.size := HBL.out.size
          rw [← hm]
          have HRM : Hid (Rm = x.f - p.t ∧ A = p.t + (Rm - width) / 2) := ⟨hRm, hA⟩
          clear hR hsu hm hlen HST hRm hA
          go_wp2_with (at_builtin; refine wpList_append_own _ rfl _ _ 25 rfl w.heap.size 60 i0 (.agg #[.int .i64 0, .int .i64 0]) 2 16 Try.underlying25 hi hz0 hz1 hz2 rfl (by decide) (.slice va m vc) m ((asK gap width ls (kk + 1)).flatMap lnC) rfl (HO.out _ (by (repeat' (first | (with_reducible exact Below.refl _ _) | (with_reducible assumption) | (with_reducible refine Below.setCell ?_ ?_ _) | (with_reducible refine Below.alloc ?_ ?_ _) | (with_reducible refine below_drewN ?_ _) | (with_reducible refine Below.drew ?_) | (with_reducible exact Nat.le_refl _) | omega | (simp; done) | (simp; omega))))) ⟨wr.heap.size, 0, none⟩ 1 1 (lnC ⟨A, A + width⟩) rfl rfl (World.news_of_block (cs := #[.int .i64 A, .int .i64 (A + width)]) (t := 60) (fr := (0, 0)) (heap_alloc_new wr _)) (by simp [lnC, Value.oneCell']) (by unfold maxLen; omega) (by omega) (by simp; omega) ?_; intro v6 w6 hown6 hgrow6 _)
          have R6 : Hid (OG 60 2 lnC w6 w.heap.size v6 (asK gap width ls (kk + 1 + 1)) ∧ Below w.heap.size w w6) := by
            refine ⟨?_, ?_⟩
            · rw [HSN.out]; exact OG.snocN (by rw [← HM.out]; exact hown6)
            · have hB := HBL.out
              refine (show Below w.heap.size w _ from by (repeat' (first | (with_reducible exact Below.refl _ _) | (with_reducible assumption) | (with_reducible refine Below.setCell ?_ ?_ _) | (with_reducible refine Below.alloc ?_ ?_ _) | (with_reducible refine below_drewN ?_ _) | (with_reducible refine Below.drew ?_) | (with_reducible exact Nat.le_refl _) | omega | (simp; done) | (simp; omega)))).grown hgrow6 (by simp; omega) (fun q hq => ?_)
              exact (World.ownsRow.lt (HO.out wr (Below.refl _ _)) q hq).1
          clear hown6 hgrow6 HO HSN HM
          go_wp2
          go_roundw
          case rel => exact ⟨kk + 1 + 1, v6, by omega, by omega, rfl, by go_num, R6.out⟩
          case measure => simp [intOf]; omega
        · have HN : Hid (OG 60 2 lnC wr w.heap.size v (asK gap width ls (kk + 1 + 1)) ∧ Below w.heap.size w wr) := by
            refine ⟨?_, HBL.out⟩
            rw [HST.out, asOne, if_neg (by omega), List.append_nil]; exact hsu
          clear hR hsu HST hRm
          go_wp2
          go_roundw
          case rel => exact ⟨kk + 1 + 1, v, by omega, by omega, rfl, by go_num, HN.out⟩
          case measure => simp [intOf]; omega
      · have HN : Hid (OG 60 2 lnC wr w.heap.size v (asK gap width ls (kk + 1 + 1)) ∧ Below w.heap.size w wr) := by
          refine ⟨?_, HBL.out⟩
          rw [HST.out, asOne, if_neg (by omega), List.append_nil]; exact hsu
        clear hR hsu HST hRm
        go_wp2
        go_roundw
        case rel => exact ⟨kk + 1 + 1, v, by omega, by omega, rfl, by go_num, HN.out⟩
        case measure => simp [intOf]; omega
    · have b1 : ¬ (k : Int) < (n : Int) := by omega
      have HD : Hid (OG 60 2 lnC wr w.heap.size v (asK gap width ls n) ∧ Below w.heap.size w wr) := by
        have h := hR.out
        rcases Nat.lt_or_ge k n with h1 | h1
        · exact absurd h1 hlt
        · rcases Nat.lt_or_ge n 1 with h2 | h2
          · have hk2 : k = 1 := by omega
            have hn2 : n = 0 := by omega
            rw [hk2] at h
            rw [hn2]
            have e : asK gap width ls 1 = asK gap width ls 0 := by simp [asK]
            rw [e] at h
            exact h
          · rw [show k = n by omega] at h; exact h
      clear hR
      go_wp2
      go_returns
      exact ⟨_, rfl, HD.out.1, HD.out.2⟩

end Go.Proofs.Ytfjcebgknpccbaa
