/- Proved here: ResidualsOf of the document's model: rdC, rdL. -/
import Derived.Test.YtdidmjgilnhncabOrC
import Derived.Test.YtdidmjgilnhncabPdS
import Derived.Test.YtdidmjgilnhncabMaS
import Derived.Test.YtdidmjgilnhncabFqS
import Derived.Deep.AppendLies
namespace Go.Proofs.Ytdidmjgilnhncab
open Go.RowKit
set_option linter.unusedVariables false
set_option linter.unusedSimpArgs false

theorem og_lit0 (w : World) (B : Nat) (hB : B ≤ w.heap.size) : OG 31 2 frC (w.alloc (.cells #[] 31)) B (.slice (some ⟨w.heap.size, 0, none⟩) 0 0) [] :=
  ⟨by simp, Or.inr ⟨w.heap.size, 0, _, rfl, hB, heap_alloc_new w _, by simp, by simp, by simp, by simp⟩⟩

set_option maxRecDepth 10000 in
set_option maxHeartbeats 25600000 in
theorem spec_rd (m : Mdl) {w : World} {v : Value} {s : List Mrk} (hn : s.length ≤ 1048576) (h : RG 4 maC w v s) :
    Calls Try.prog 34 #[v, .agg #[.int .i64 m.sx.n, .int .i64 m.sx.d, .int .i64 m.sy.n, .int .i64 m.sy.d, .int .i64 m.k.n, .int .i64 m.k.d, .int .i64 m.r.n, .int .i64 m.r.d]] w fun e w' => ∃ v', e = .returned (.agg #[.int .i64 (rdC s m), v']) ∧ OG 31 2 frC w' w.heap.size v' (rdL s m) ∧ Below w.heap.size w w' := by
  obtain ⟨a, c, rfl⟩ := h.form
  obtain ⟨n, hnn⟩ : ∃ n, n = s.length := ⟨_, rfl⟩
  obtain ⟨C, hC⟩ : ∃ C, C = rdC s m := ⟨_, rfl⟩
  obtain ⟨L, hL⟩ : ∃ L, L = rdL s m := ⟨_, rfl⟩
  obtain ⟨ms, hms⟩ : ∃ f, f = msF s := ⟨_, rfl⟩
  have HMS : Hid (∀ W, Below w.heap.size w W → Calls Try.prog 59 #[.slice a n c] W fun e w' => e = .returned (.int .i64 ms) ∧ Below W.heap.size W w') := fun W hW => by rw [hms, hnn]; exact spec_msF hn (h.below hW)
  rw [← hnn] at h ⊢
  rw [← hC, ← hL]
  have H : Hid (RG 4 maC w (.slice a n c) s ∧ n = s.length) := ⟨h, hnn⟩
  have HL : Hid (C = rdC s m ∧ L = rdL s m ∧ (C ≠ 0 → L = []) ∧ ms = msF s) := ⟨hC, hL, fun h0 => by rw [hL]; unfold rdL; rw [if_neg (by rw [← hC]; exact h0)], hms⟩
  clear h hnn hn hC hL hms
  obtain ⟨i0, hi, hz0, hz1, hz2⟩ := info_parts info_Frac
  obtain ⟨V, hV⟩ : ∃ V, V = (w.alloc (.cells #[.int .i64 m.sx.n, .int .i64 m.sx.d, .int .i64 m.sy.n, .int .i64 m.sy.d, .int .i64 m.k.n, .int .i64 m.k.d, .int .i64 m.r.n, .int .i64 m.r.d] 33)).alloc (.cells #[.int .i64 0, .slice none 0 0] 47) := ⟨_, rfl⟩
  obtain ⟨a1, h⟩ : ∃ a, a = m.sx.n := ⟨_, rfl⟩
  obtain ⟨a2, h2⟩ : ∃ a, a = m.sx.d := ⟨_, rfl⟩
  obtain ⟨b1, h3⟩ : ∃ a, a = m.sy.n := ⟨_, rfl⟩
  obtain ⟨b2, h4⟩ : ∃ a, a = m.sy.d := ⟨_, rfl⟩
  obtain ⟨k1, h5⟩ : ∃ a, a = m.k.n := ⟨_, rfl⟩
  obtain ⟨k2, h6⟩ : ∃ a, a = m.k.d := ⟨_, rfl⟩
  obtain ⟨r1, h7⟩ : ∃ a, a = m.r.n := ⟨_, rfl⟩
  obtain ⟨r2, h8⟩ : ∃ a, a = m.r.d := ⟨_, rfl⟩
  have HPR : Hid (∀ (W : World) (x y : Int), Calls Try.prog 61 #[.agg #[.int .i64 a1, .int .i64 a2, .int .i64 b1, .int .i64 b2, .int .i64 k1, .int .i64 k2, .int .i64 r1, .int .i64 r2], .int .i64 x, .int .i64 y] W fun e w' => e = .returned (.agg #[.int .i64 (prV m x y).c, .int .i64 (prV m x y).x.n, .int .i64 (prV m x y).x.d, .int .i64 (prV m x y).y.n, .int .i64 (prV m x y).y.d]) ∧ Below W.heap.size W w') := fun W x y => by rw [h, h2, h3, h4, h5, h6, h7, h8]; exact spec_prV m x y W
  have HMD : Hid (∀ W, Calls Try.prog 60 #[.agg #[.int .i64 a1, .int .i64 a2, .int .i64 b1, .int .i64 b2, .int .i64 k1, .int .i64 k2, .int .i64 r1, .int .i64 r2]] W fun e w' => e = .returned (.int .i64 (mdF m)) ∧ Below W.heap.size W w') := fun W => by rw [h, h2, h3, h4, h5, h6, h7, h8]; exact spec_mdF m W
  rw [← h, ← h2, ← h3, ← h4, ← h5, ← h6, ← h7, ← h8] at hV ⊢
  clear h h2 h3 h4 h5 h6 h7 h8
  have HV : Hid (V.heap[w.heap.size]? = some (.cells #[.int .i64 a1, .int .i64 a2, .int .i64 b1, .int .i64 b2, .int .i64 k1, .int .i64 k2, .int .i64 r1, .int .i64 r2] 33) ∧ V.heap[w.heap.size + 1]? = some (.cells #[.int .i64 0, .slice none 0 0] 47) ∧ Below w.heap.size w V ∧ V.heap.size = w.heap.size + 2) := by
    refine ⟨?_, ?_, by rw [hV]; (repeat' (first | (with_reducible exact Below.refl _ _) | (with_reducible assumption) | (with_reducible refine Below.setCell ?_ ?_ _) | (with_reducible refine Below.alloc ?_ ?_ _) | (with_reducible refine below_drewN ?_ _) | (with_reducible refine Below.drew ?_) | (with_reducible exact Nat.le_refl _) | omega | (simp; done) | (simp; omega))), by rw [hV]; simp⟩
    · rw [hV]; exact (Below.heap_alloc _ _ _ (by simp)).trans (heap_alloc_new w _)
    · rw [hV]; have := heap_alloc_new (w.alloc (.cells #[.int .i64 a1, .int .i64 a2, .int .i64 b1, .int .i64 b2, .int .i64 k1, .int .i64 k2, .int .i64 r1, .int .i64 r2] 33)) (.cells #[.int .i64 0, .slice none 0 0] 47); simpa using this
  go_enter Try.func34, Try.ntmps34
  go_upto_region 1 with fail
  rw [← hV]
  clear hV
  go_wp2_with (fail)
  refine (HMS.out _ HV.out.2.2.1).mono ?_
  rintro e w0 ⟨rfl, hb0⟩
  have HW0 : Hid (Below V.heap.size V w0) := hb0
  clear HMS hb0
  have jr := (HW0.out.block _ (ltOf HV.out.2.1)).trans HV.out.2.1
  have q0 := cellOf jr 0 rfl
  have q1 := cellOf jr 1 rfl
  have g0 := frozOf jr 0
  have g1 := frozOf jr 1
  have ql := ltOf jr
  clear jr
  by_cases hms0 : ms = 0
  case neg =>
    have HE : Hid (C = ms ∧ ms ≠ 0) := ⟨by rw [HL.out.1, rdC_ms (by rw [← HL.out.2.2.2]; exact hms0), HL.out.2.2.2], hms0⟩
    have hA : (ms != 0) = true := by simpa using hms0
    have HBZ : Hid (Below w.heap.size w w0 ∧ L = []) := ⟨HV.out.2.2.1.trans (HW0.out.mono HV.out.2.2.1.size), HL.out.2.2.1 (by rw [HE.out.1]; exact HE.out.2)⟩
    clear hms0 HW0 HV
    go_wp2
    try simp only [Exit.inBlock, Exit.then]
    refine bodyPost_ret (by simp [results, Try.results34, go_sem, q0, q1, ql]; try rfl) rfl ⟨_, by rw [HE.out.1] <;> rfl, by rw [HBZ.out.2]; exact og_nil _ _ _ _ _, ?_⟩
    have hb := HBZ.out.1
    (repeat' (first | (with_reducible exact Below.refl _ _) | (with_reducible assumption) | (with_reducible refine Below.setCell ?_ ?_ _) | (with_reducible refine Below.alloc ?_ ?_ _) | (with_reducible refine below_drewN ?_ _) | (with_reducible refine Below.drew ?_) | (with_reducible exact Nat.le_refl _) | omega | (simp; done) | (simp; omega)))

  have hA : (ms != 0) = false := by rw [hms0]; rfl
  have HMK : Hid (msF s = 0 ∧ C = rsC m s) := by
    have e : msF s = 0 := by rw [← HL.out.2.2.2]; exact hms0
    exact ⟨e, by rw [HL.out.1, rdC_rs e]⟩
  have hn20 : n ≤ 20 := by rw [H.out.2]; exact (msF_ok HMK.out.1).2.1
  clear hms0 q0 q1 g0 g1 ql
  obtain ⟨mf, hmf⟩ : ∃ f, f = mdF m := ⟨_, rfl⟩
  have HMD2 : Hid (∀ W, Calls Try.prog 60 #[.agg #[.int .i64 a1, .int .i64 a2, .int .i64 b1, .int .i64 b2, .int .i64 k1, .int .i64 k2, .int .i64 r1, .int .i64 r2]] W fun e w' => e = .returned (.int .i64 mf) ∧ Below W.heap.size W w') := fun W => by rw [hmf]; exact HMD.out W
  have HMF : Hid (mf = mdF m) := hmf
  clear HMD hmf
  have jm := (HW0.out.block _ (ltOf HV.out.1)).trans HV.out.1
  obtain ⟨p0, p1, p2, p3, p4, p5, p6, p7, pl⟩ := eight_c jm
  clear jm
  go_wp2_with (fail)
  refine (HMD2.out _).mono ?_
  rintro e w1 ⟨rfl, hb1⟩
  have HW1 : Hid (Below V.heap.size V w1) := HW0.out.trans (hb1.mono HW0.out.size)
  clear hb1 HW0 HMD2 p0 p1 p2 p3 p4 p5 p6 p7 pl
  have jr := (HW1.out.block _ (ltOf HV.out.2.1)).trans HV.out.2.1
  have q0 := cellOf jr 0 rfl
  have q1 := cellOf jr 1 rfl
  have g0 := frozOf jr 0
  have g1 := frozOf jr 1
  have ql := ltOf jr
  clear jr
  by_cases hmf0 : mf = 0
  case neg =>
    have HE : Hid (C = mf ∧ mf ≠ 0) := by
      refine ⟨?_, hmf0⟩
      have h2 := (msF_ok HMK.out.1).1
      rw [HMK.out.2]
      cases s with
      | nil => simp at h2
      | cons k t => rw [rsC_md (by rw [← HMF.out]; exact hmf0), HMF.out]
    have hA2 : (mf != 0) = true := by simpa using hmf0
    have HBZ : Hid (Below w.heap.size w w1 ∧ L = []) := ⟨HV.out.2.2.1.trans (HW1.out.mono HV.out.2.2.1.size), HL.out.2.2.1 (by rw [HE.out.1]; exact HE.out.2)⟩
    clear hmf0 HW1 HMF HMK HV
    go_wp2
    try simp only [Exit.inBlock, Exit.then]
    refine bodyPost_ret (by simp [results, Try.results34, go_sem, q0, q1, ql]; try rfl) rfl ⟨_, by rw [HE.out.1] <;> rfl, by rw [HBZ.out.2]; exact og_nil _ _ _ _ _, ?_⟩
    have hb := HBZ.out.1
    (repeat' (first | (with_reducible exact Below.refl _ _) | (with_reducible assumption) | (with_reducible refine Below.setCell ?_ ?_ _) | (with_reducible refine Below.alloc ?_ ?_ _) | (with_reducible refine below_drewN ?_ _) | (with_reducible refine Below.drew ?_) | (with_reducible exact Nat.le_refl _) | omega | (simp; done) | (simp; omega)))

  have hA2 : (mf != 0) = false := by rw [hmf0]; rfl
  clear hmf0 HMF q0 q1 g0 g1 ql
  have HW2 : Hid (Below V.heap.size V (w1.alloc (.cells #[] 31)) ∧ OG 31 2 frC (w1.alloc (.cells #[] 31)) V.heap.size (.slice (some ⟨w1.heap.size, 0, none⟩) 0 0) []) := ⟨HW1.out.alloc HW1.out.size _, og_lit0 w1 _ HW1.out.size⟩
  go_wp2
  go_loopw [7, 8] (fun u i wr => ∃ (k : Nat) (la : Option Addr) (lc : Nat), k ≤ n ∧ i = .int .i64 k ∧ u = .slice la (2 * k) lc ∧ Hid (C = rsC m (s.drop k) ∧ Below V.heap.size V wr ∧ OG 31 2 frC wr V.heap.size (.slice la (2 * k) lc) (rsL m (s.take k)))) (fun _ i _ => n - (intOf i).toNat)
  case atStart => exact ⟨0, _, 0, Nat.zero_le _, rfl, rfl, HMK.out.2, HW2.out.1, HW2.out.2⟩
  case round =>
    clear HW1 HW2
    obtain ⟨k, la, lc, hk, rfl, rfl, hR⟩ := hrel
    by_cases hlt : k < n
    · have hjl : k < s.length := by rw [← H.out.2]; exact hlt
      obtain ⟨g, o, c2, he, hg, hj⟩ := H.out.1.pos (by omega)
      simp only [Value.slice.injEq] at he
      obtain ⟨rfl, hx1, hx2⟩ := he
      clear hx1 hx2
      obtain ⟨c0, c1, c2', c3⟩ := maC_at (hj k hjl)
      obtain ⟨mk, hmk⟩ : ∃ x, x = s[k] := ⟨_, rfl⟩
      rw [← hmk] at c0 c1 c2' c3
      have hbd := (msF_ok HMK.out.1).2.2 mk (by rw [hmk]; exact List.getElem_mem hjl)
      have HN : Hid (C = (if rsc m mk ≠ 0 then rsc m mk else rsC m (s.drop (k + 1))) ∧ rsL m (s.take (k + 1)) = rsL m (s.take k) ++ [(rsX m mk).fr, (rsY m mk).fr]) := ⟨by rw [hR.out.1, rsC_drop hjl, hmk], by rw [hmk]; exact rsL_take hjl⟩
      obtain ⟨q, hq⟩ : ∃ q, q = 2 * k := ⟨_, rfl⟩
      have hqk : q ≤ 40 := by omega
      have HQ : Hid (q = 2 * k ∧ (rsL m (s.take k)).length = q) := ⟨hq, by rw [rsL_len, List.length_take, hq]; omega⟩
      rw [← hq] at hR ⊢
      clear hq hj hmk
      obtain ⟨cur, hcur⟩ : ∃ l, l = rsL m (s.take k) := ⟨_, rfl⟩
      rw [← hcur] at HN HQ hR
      clear hcur
      obtain ⟨x, y, dx, dy⟩ := mk
      have HAT : Hid (∀ W : World, Below V.heap.size V W → W.cell? ⟨g, o + k * 4, none⟩ = some (.int .i64 x) ∧ W.cell? ⟨g, o + k * 4 + 1, none⟩ = some (.int .i64 y) ∧ W.cell? ⟨g, o + k * 4 + 2, none⟩ = some (.int .i64 dx) ∧ W.cell? ⟨g, o + k * 4 + 3, none⟩ = some (.int .i64 dy) ∧ g < W.heap.size) := fun W hW => by
        have hw := HV.out.2.2.1.trans (hW.mono HV.out.2.2.1.size)
        exact ⟨(hw.cell (p := ⟨g, o + k * 4, none⟩) hg).trans c0, (hw.cell (p := ⟨g, o + k * 4 + 1, none⟩) hg).trans c1, (hw.cell (p := ⟨g, o + k * 4 + 2, none⟩) hg).trans c2', (hw.cell (p := ⟨g, o + k * 4 + 3, none⟩) hg).trans c3, Nat.lt_of_lt_of_le hg hw.size⟩
      clear c0 c1 c2' c3 hg
      obtain ⟨P, hP⟩ : ∃ P, P = prV m x y := ⟨_, rfl⟩
      have HP : Hid (∀ W, Calls Try.prog 61 #[.agg #[.int .i64 a1, .int .i64 a2, .int .i64 b1, .int .i64 b2, .int .i64 k1, .int .i64 k2, .int .i64 r1, .int .i64 r2], .int .i64 x, .int .i64 y] W fun e w' => e = .returned (.agg #[.int .i64 P.c, .int .i64 P.x.n, .int .i64 P.x.d, .int .i64 P.y.n, .int .i64 P.y.d]) ∧ Below W.heap.size W w') := fun W => by rw [hP]; exact HPR.out W x y
      obtain ⟨A, hAq⟩ : ∃ A, A = suQ (whole dx) P.x := ⟨_, rfl⟩
      obtain ⟨U, hUq⟩ : ∃ A, A = suQ (whole dy) P.y := ⟨_, rfl⟩
      have HSA : Hid (∀ W, Calls Try.prog 49 #[.agg #[.int .i64 dx, .int .i64 1], .agg #[.int .i64 P.x.n, .int .i64 P.x.d]] W fun e w' => e = .returned (.agg #[.int .i64 (A).c, .int .i64 (A).n, .int .i64 (A).d]) ∧ Below W.heap.size W w') := fun W => by rw [hAq]; exact spec_suQ (whole dx) P.x W
      have HSU : Hid (∀ W, Calls Try.prog 49 #[.agg #[.int .i64 dy, .int .i64 1], .agg #[.int .i64 P.y.n, .int .i64 P.y.d]] W fun e w' => e = .returned (.agg #[.int .i64 (U).c, .int .i64 (U).n, .int .i64 (U).d]) ∧ Below W.heap.size W w') := fun W => by rw [hUq]; exact spec_suQ (whole dy) P.y W
      have HRS : Hid (rsc m ⟨x, y, dx, dy⟩ = (if P.c ≠ 0 then P.c else if A.c ≠ 0 then A.c else U.c) ∧ (rsX m ⟨x, y, dx, dy⟩).fr = A.fr ∧ (rsY m ⟨x, y, dx, dy⟩).fr = U.fr ∧ (P.c = 0 → (A.c = 0 ∨ A.c = 3) ∧ (U.c = 0 ∨ U.c = 3))) := by
        rw [hAq, hUq, hP]
        refine ⟨rfl, rfl, rfl, fun h0 => ?_⟩
        have := rs_three (m := m) (k := ⟨x, y, dx, dy⟩) (by simp only; simp only at hbd; omega) h0
        exact ⟨this.1.2.2, this.2.2.2⟩
      clear hP hAq hUq hbd
      obtain ⟨pc, ⟨xn, xd⟩, ⟨yn, yd⟩⟩ := P
      obtain ⟨Ac, An, Ad⟩ := A
      obtain ⟨Uc, Un, Ud⟩ := U
      have HWr : Hid (Below V.heap.size V wr ∧ OG 31 2 frC wr V.heap.size (.slice la q lc) cur) := ⟨hR.out.2.1, hR.out.2.2⟩
      clear hR
      have bb0 : (0 : Int) ≤ (k : Int) := by omega
      have bb1 : (k : Int) < (n : Int) := by omega
      obtain ⟨c0, c1, c2', c3, hg⟩ := HAT.out _ HWr.out.1
      have jm := (HWr.out.1.block _ (ltOf HV.out.1)).trans HV.out.1
      obtain ⟨p0, p1, p2, p3, p4, p5, p6, p7, pl⟩ := eight_c jm
      clear jm
      go_wp2_with (fail)
      refine wp_region_float (by kernel_rfl) (fun hS => ?_)
      refine fl_take (i := 0) (d := 31) (v := .agg #[.int .i64 a1, .int .i64 a2, .int .i64 b1, .int .i64 b2, .int .i64 k1, .int .i64 k2, .int .i64 r1, .int .i64 r2]) rfl rfl rfl (by kernel_rfl) (by kernel_rfl) (by kernel_rfl) hS ?_ ?_
      · intro w' hk; go_simp
      simp only [Act.put, List.setIfInBounds_toArray, List.set_cons_zero, List.set_cons_succ]
      refine fl_take (i := 1) (d := 32) (v := .slice (some ⟨g, o, none⟩) n c) rfl rfl rfl (by kernel_rfl) (by kernel_rfl) (by kernel_rfl) hS ?_ ?_
      · intro w' hk; go_simp
      simp only [Act.put, List.setIfInBounds_toArray, List.set_cons_zero, List.set_cons_succ]
      refine fl_take (i := 2) (d := 33) (v := .int .i64 (k : Int)) rfl rfl rfl (by kernel_rfl) (by kernel_rfl) (by kernel_rfl) hS ?_ ?_
      · intro w' hk; go_simp
      simp only [Act.put, List.setIfInBounds_toArray, List.set_cons_zero, List.set_cons_succ]
      refine fl_take (i := 3) (d := 34) (v := .pointer (some ⟨g, o + k * 4, none⟩)) rfl rfl rfl (by kernel_rfl) (by kernel_rfl) (by kernel_rfl) hS ?_ ?_
      · intro w' hk; go_simp
      simp only [Act.put, List.setIfInBounds_toArray, List.set_cons_zero, List.set_cons_succ]
      refine fl_take (i := 4) (d := 35) (v := .pointer (some ⟨g, o + k * 4, none⟩)) rfl rfl rfl (by kernel_rfl) (by kernel_rfl) (by kernel_rfl) hS ?_ ?_
      · intro w' hk; go_simp
      simp only [Act.put, List.setIfInBounds_toArray, List.set_cons_zero, List.set_cons_succ]
      refine fl_take (i := 5) (d := 36) (v := .int .i64 x) rfl rfl rfl (by kernel_rfl) (by kernel_rfl) (by kernel_rfl) hS ?_ ?_
      · intro w' hk; go_simp
      simp only [Act.put, List.setIfInBounds_toArray, List.set_cons_zero, List.set_cons_succ]
      refine fl_take (i := 6) (d := 37) (v := .slice (some ⟨g, o, none⟩) n c) rfl rfl rfl (by kernel_rfl) (by kernel_rfl) (by kernel_rfl) hS ?_ ?_
      · intro w' hk; go_simp
      simp only [Act.put, List.setIfInBounds_toArray, List.set_cons_zero, List.set_cons_succ]
      refine fl_take (i := 7) (d := 38) (v := .int .i64 (k : Int)) rfl rfl rfl (by kernel_rfl) (by kernel_rfl) (by kernel_rfl) hS ?_ ?_
      · intro w' hk; go_simp
      simp only [Act.put, List.setIfInBounds_toArray, List.set_cons_zero, List.set_cons_succ]
      refine fl_take (i := 8) (d := 39) (v := .pointer (some ⟨g, o + k * 4, none⟩)) rfl rfl rfl (by kernel_rfl) (by kernel_rfl) (by kernel_rfl) hS ?_ ?_
      · intro w' hk; go_simp
      simp only [Act.put, List.setIfInBounds_toArray, List.set_cons_zero, List.set_cons_succ]
      refine fl_take (i := 9) (d := 40) (v := .pointer (some ⟨g, o + k * 4 + 1, none⟩)) rfl rfl rfl (by kernel_rfl) (by kernel_rfl) (by kernel_rfl) hS ?_ ?_
      · intro w' hk; go_simp
      simp only [Act.put, List.setIfInBounds_toArray, List.set_cons_zero, List.set_cons_succ]
      refine fl_take (i := 10) (d := 41) (v := .int .i64 y) rfl rfl rfl (by kernel_rfl) (by kernel_rfl) (by kernel_rfl) hS ?_ ?_
      · intro w' hk; go_simp
      simp only [Act.put, List.setIfInBounds_toArray, List.set_cons_zero, List.set_cons_succ]
      refine float_pend (z := #[.int .i64 0, .int .i64 0, .int .i64 0, .int .i64 0, .int .i64 0]) (T := 104) (ja := 12) (js := 13) rfl rfl rfl rfl rfl (fun a w => by go_simp) [11] _ _ _ (fun _ => False) (by kernel_rfl) (by kernel_rfl) ?_ (Nat.le_refl _) (fun _ h => h.elim) hS
      intro y10 hW10
      refine ⟨_, 42, _, _, rfl, rfl, by go_simp, (HP.out y10).mono ?_⟩
      rintro e z10 ⟨rfl, hb10⟩
      refine ⟨_, rfl, hb10, ?_⟩
      simp only [Act.put, List.setIfInBounds_toArray, List.set_cons_zero, List.set_cons_succ]
      unfold Fl
      refine after_store ?_ _ _ _ #[.int .i64 pc, .int .i64 xn, .int .i64 xd, .int .i64 yn, .int .i64 yd] (by rfl) (by rfl) (fun _ => by rfl) (fun _ => by rfl) (by simp) (by kernel_rfl) (by simp [Value.oneCell']) ?_
      · exact Nat.le_refl _
      intro Kp V2 hK hk1 hk2 hF hoth hsz hcell
      simp only [Act.put, List.setIfInBounds_toArray, List.set_cons_zero, List.set_cons_succ]
      refine NoPanic.normal ?_
      obtain ⟨op_, hoop_⟩ : ∃ o, V2.heap[Kp]? = some o := ⟨_, Array.getElem?_eq_getElem hk2⟩
      have TCop_ : Hid (∀ W : World, W.heap[Kp]? = some op_ → W.cell? ⟨Kp, 0, none⟩ = some (.int .i64 pc) ∧ W.cell? ⟨Kp, 1, none⟩ = some (.int .i64 xn) ∧ W.cell? ⟨Kp, 2, none⟩ = some (.int .i64 xd) ∧ W.cell? ⟨Kp, 3, none⟩ = some (.int .i64 yn) ∧ W.cell? ⟨Kp, 4, none⟩ = some (.int .i64 yd) ∧ Kp < W.heap.size) := fun W h => ⟨(cellSame hoop_ h 0).trans (hcell 0 _ rfl), (cellSame hoop_ h 1).trans (hcell 1 _ rfl), (cellSame hoop_ h 2).trans (hcell 2 _ rfl), (cellSame hoop_ h 3).trans (hcell 3 _ rfl), (cellSame hoop_ h 4).trans (hcell 4 _ rfl), ltOf h⟩
      have HW2 : Hid (V2.heap[Kp]? = some op_ ∧ Below V.heap.size V V2 ∧ OG 31 2 frC V2 V.heap.size (.slice la q lc) cur) := ⟨hoop_, HWr.out.1.trans (hK.2.mono HWr.out.1.size), HWr.out.2.below hK.2⟩
      clear hK hk1 hk2 hF hoth hsz hcell hS hW10 hb10 hoop_ HWr HP c0 c1 c2' c3 hg p0 p1 p2 p3 p4 p5 p6 p7 pl
      obtain ⟨u0, u1, u2, u3, u4, ul⟩ := TCop_.out _ HW2.out.1
      by_cases hpc : pc = 0
      case neg =>
        have HE : Hid (C = pc ∧ pc ≠ 0) := by
          refine ⟨?_, hpc⟩
          have e1 : rsc m ⟨x, y, dx, dy⟩ = pc := by rw [HRS.out.1]; exact if_pos hpc
          rw [HN.out.1, e1, if_pos hpc]
        have hA3 : (pc != 0) = true := by simpa using hpc
        have jr := (HW2.out.2.1.block _ (ltOf HV.out.2.1)).trans HV.out.2.1
        have q0 := cellOf jr 0 rfl
        have q1 := cellOf jr 1 rfl
        have g0 := frozOf jr 0
        have g1 := frozOf jr 1
        have ql := ltOf jr
        clear jr
        have HBZ : Hid (Below w.heap.size w V2 ∧ L = []) := ⟨HV.out.2.2.1.trans (HW2.out.2.1.mono HV.out.2.2.1.size), HL.out.2.2.1 (by rw [HE.out.1]; exact HE.out.2)⟩
        clear hpc HW2 HN HRS HV
        go_wp2
        try simp only [Exit.inBlock, Exit.then]
        refine bodyPost_ret (by simp [results, Try.results34, go_sem, q0, q1, ql]; try rfl) rfl ⟨_, by rw [HE.out.1] <;> rfl, by rw [HBZ.out.2]; exact og_nil _ _ _ _ _, ?_⟩
        have hb := HBZ.out.1
        (repeat' (first | (with_reducible exact Below.refl _ _) | (with_reducible assumption) | (with_reducible refine Below.setCell ?_ ?_ _) | (with_reducible refine Below.alloc ?_ ?_ _) | (with_reducible refine below_drewN ?_ _) | (with_reducible refine Below.drew ?_) | (with_reducible exact Nat.le_refl _) | omega | (simp; done) | (simp; omega)))

      have hA3 : (pc != 0) = false := by rw [hpc]; rfl
      have HRS2 : Hid (rsc m ⟨x, y, dx, dy⟩ = (if Ac ≠ 0 then Ac else Uc) ∧ (rsX m ⟨x, y, dx, dy⟩).fr = ⟨An, Ad⟩ ∧ (rsY m ⟨x, y, dx, dy⟩).fr = ⟨Un, Ud⟩ ∧ (Ac = 0 ∨ Ac = 3) ∧ (Uc = 0 ∨ Uc = 3)) := by
        refine ⟨?_, HRS.out.2.1, HRS.out.2.2.1, HRS.out.2.2.2 hpc⟩
        rw [HRS.out.1]; exact if_neg (by simpa using hpc)
      clear HRS hpc
      go_wp2_with (fail)
      obtain ⟨c0, c1, c2', c3, hg⟩ := HAT.out _ HW2.out.2.1
      refine wp_region_float (by kernel_rfl) (fun hS => ?_)
      refine fl_take (i := 0) (d := 49) (v := .slice (some ⟨g, o, none⟩) n c) rfl rfl rfl (by kernel_rfl) (by kernel_rfl) (by kernel_rfl) hS ?_ ?_
      · intro w' hk; go_simp
      simp only [Act.put, List.setIfInBounds_toArray, List.set_cons_zero, List.set_cons_succ]
      refine fl_take (i := 1) (d := 50) (v := .int .i64 (k : Int)) rfl rfl rfl (by kernel_rfl) (by kernel_rfl) (by kernel_rfl) hS ?_ ?_
      · intro w' hk; go_simp
      simp only [Act.put, List.setIfInBounds_toArray, List.set_cons_zero, List.set_cons_succ]
      refine fl_take (i := 2) (d := 51) (v := .pointer (some ⟨g, o + k * 4, none⟩)) rfl rfl rfl (by kernel_rfl) (by kernel_rfl) (by kernel_rfl) hS ?_ ?_
      · intro w' hk; go_simp
      simp only [Act.put, List.setIfInBounds_toArray, List.set_cons_zero, List.set_cons_succ]
      refine fl_take (i := 3) (d := 52) (v := .pointer (some ⟨g, o + k * 4 + 2, none⟩)) rfl rfl rfl (by kernel_rfl) (by kernel_rfl) (by kernel_rfl) hS ?_ ?_
      · intro w' hk; go_simp
      simp only [Act.put, List.setIfInBounds_toArray, List.set_cons_zero, List.set_cons_succ]
      refine fl_take (i := 4) (d := 53) (v := .int .i64 dx) rfl rfl rfl (by kernel_rfl) (by kernel_rfl) (by kernel_rfl) hS ?_ ?_
      · intro w' hk; go_simp
      simp only [Act.put, List.setIfInBounds_toArray, List.set_cons_zero, List.set_cons_succ]
      refine fl_take (i := 6) (d := 55) (v := .pointer (some ⟨Kp, 1, none⟩)) rfl rfl rfl (by kernel_rfl) (by kernel_rfl) (by kernel_rfl) hS ?_ ?_
      · intro w' hk; go_simp
      simp only [Act.put, List.setIfInBounds_toArray, List.set_cons_zero, List.set_cons_succ]
      refine fl_take (i := 7) (d := 56) (v := .agg #[.int .i64 xn, .int .i64 xd]) rfl rfl rfl (by kernel_rfl) (by kernel_rfl) (by kernel_rfl) hS ?_ ?_
      · intro w' hk; go_simp
      simp only [Act.put, List.setIfInBounds_toArray, List.set_cons_zero, List.set_cons_succ]
      refine float_pend (z := #[.int .i64 0, .int .i64 0, .int .i64 0]) (T := 38) (ja := 9) (js := 10) rfl rfl rfl rfl rfl (fun a w => by go_simp) [5, 8] _ _ _ (fun _ => False) (by kernel_rfl) (by kernel_rfl) ?_ (Nat.le_refl _) (fun _ h => h.elim) hS
      intro y20 hW20
      refine ⟨_, 54, _, _, rfl, rfl, by go_simp, (spec_int dx y20).mono ?_⟩
      rintro e z20 ⟨rfl, hb20⟩
      refine ⟨_, rfl, hb20, ?_⟩
      simp only [Act.put, List.setIfInBounds_toArray, List.set_cons_zero, List.set_cons_succ]
      intro y21 hW21
      refine ⟨_, 57, _, _, rfl, rfl, by go_simp, (HSA.out y21).mono ?_⟩
      rintro e z21 ⟨rfl, hb21⟩
      refine ⟨_, rfl, hb21, ?_⟩
      simp only [Act.put, List.setIfInBounds_toArray, List.set_cons_zero, List.set_cons_succ]
      unfold Fl
      refine after_store ?_ _ _ _ #[.int .i64 Ac, .int .i64 An, .int .i64 Ad] (by rfl) (by rfl) (fun _ => by rfl) (fun _ => by rfl) (by simp) (by kernel_rfl) (by simp [Value.oneCell']) ?_
      · exact Nat.le_refl _
      intro Ka V3 hK hk1 hk2 hF hoth hsz hcell
      simp only [Act.put, List.setIfInBounds_toArray, List.set_cons_zero, List.set_cons_succ]
      refine NoPanic.normal ?_
      obtain ⟨oa, hooa⟩ : ∃ o, V3.heap[Ka]? = some o := ⟨_, Array.getElem?_eq_getElem hk2⟩
      have TCoa : Hid (∀ W : World, W.heap[Ka]? = some oa → W.cell? ⟨Ka, 0, none⟩ = some (.int .i64 Ac) ∧ W.cell? ⟨Ka, 1, none⟩ = some (.int .i64 An) ∧ W.cell? ⟨Ka, 2, none⟩ = some (.int .i64 Ad) ∧ Ka < W.heap.size) := fun W h => ⟨(cellSame hooa h 0).trans (hcell 0 _ rfl), (cellSame hooa h 1).trans (hcell 1 _ rfl), (cellSame hooa h 2).trans (hcell 2 _ rfl), ltOf h⟩
      have HW3 : Hid (V3.heap[Kp]? = some op_ ∧ V3.heap[Ka]? = some oa ∧ Below V.heap.size V V3 ∧ OG 31 2 frC V3 V.heap.size (.slice la q lc) cur) := ⟨(hK.2.block _ (ltOf HW2.out.1)).trans HW2.out.1, hooa, HW2.out.2.1.trans (hK.2.mono HW2.out.2.1.size), HW2.out.2.2.below hK.2⟩
      clear hK hk1 hk2 hF hoth hsz hcell hS hW20 hb20 hW21 hb21 hooa HW2 HSA c0 c1 c2' c3 hg
      clear u0 u1 u2 u3 u4 ul
      obtain ⟨u0, u1, u2, u3, u4, ul⟩ := TCop_.out _ HW3.out.1
      go_wp2_with (fail)
      obtain ⟨c0, c1, c2', c3, hg⟩ := HAT.out _ HW3.out.2.2.1
      refine wp_region_float (by kernel_rfl) (fun hS => ?_)
      refine fl_take (i := 0) (d := 58) (v := .slice (some ⟨g, o, none⟩) n c) rfl rfl rfl (by kernel_rfl) (by kernel_rfl) (by kernel_rfl) hS ?_ ?_
      · intro w' hk; go_simp
      simp only [Act.put, List.setIfInBounds_toArray, List.set_cons_zero, List.set_cons_succ]
      refine fl_take (i := 1) (d := 59) (v := .int .i64 (k : Int)) rfl rfl rfl (by kernel_rfl) (by kernel_rfl) (by kernel_rfl) hS ?_ ?_
      · intro w' hk; go_simp
      simp only [Act.put, List.setIfInBounds_toArray, List.set_cons_zero, List.set_cons_succ]
      refine fl_take (i := 2) (d := 60) (v := .pointer (some ⟨g, o + k * 4, none⟩)) rfl rfl rfl (by kernel_rfl) (by kernel_rfl) (by kernel_rfl) hS ?_ ?_
      · intro w' hk; go_simp
      simp only [Act.put, List.setIfInBounds_toArray, List.set_cons_zero, List.set_cons_succ]
      refine fl_take (i := 3) (d := 61) (v := .pointer (some ⟨g, o + k * 4 + 3, none⟩)) rfl rfl rfl (by kernel_rfl) (by kernel_rfl) (by kernel_rfl) hS ?_ ?_
      · intro w' hk; go_simp
      simp only [Act.put, List.setIfInBounds_toArray, List.set_cons_zero, List.set_cons_succ]
      refine fl_take (i := 4) (d := 62) (v := .int .i64 dy) rfl rfl rfl (by kernel_rfl) (by kernel_rfl) (by kernel_rfl) hS ?_ ?_
      · intro w' hk; go_simp
      simp only [Act.put, List.setIfInBounds_toArray, List.set_cons_zero, List.set_cons_succ]
      refine fl_take (i := 6) (d := 64) (v := .pointer (some ⟨Kp, 3, none⟩)) rfl rfl rfl (by kernel_rfl) (by kernel_rfl) (by kernel_rfl) hS ?_ ?_
      · intro w' hk; go_simp
      simp only [Act.put, List.setIfInBounds_toArray, List.set_cons_zero, List.set_cons_succ]
      refine fl_take (i := 7) (d := 65) (v := .agg #[.int .i64 yn, .int .i64 yd]) rfl rfl rfl (by kernel_rfl) (by kernel_rfl) (by kernel_rfl) hS ?_ ?_
      · intro w' hk; go_simp
      simp only [Act.put, List.setIfInBounds_toArray, List.set_cons_zero, List.set_cons_succ]
      refine float_pend (z := #[.int .i64 0, .int .i64 0, .int .i64 0]) (T := 38) (ja := 9) (js := 10) rfl rfl rfl rfl rfl (fun a w => by go_simp) [5, 8] _ _ _ (fun _ => False) (by kernel_rfl) (by kernel_rfl) ?_ (Nat.le_refl _) (fun _ h => h.elim) hS
      intro y30 hW30
      refine ⟨_, 63, _, _, rfl, rfl, by go_simp, (spec_int dy y30).mono ?_⟩
      rintro e z30 ⟨rfl, hb30⟩
      refine ⟨_, rfl, hb30, ?_⟩
      simp only [Act.put, List.setIfInBounds_toArray, List.set_cons_zero, List.set_cons_succ]
      intro y31 hW31
      refine ⟨_, 66, _, _, rfl, rfl, by go_simp, (HSU.out y31).mono ?_⟩
      rintro e z31 ⟨rfl, hb31⟩
      refine ⟨_, rfl, hb31, ?_⟩
      simp only [Act.put, List.setIfInBounds_toArray, List.set_cons_zero, List.set_cons_succ]
      unfold Fl
      refine after_store ?_ _ _ _ #[.int .i64 Uc, .int .i64 Un, .int .i64 Ud] (by rfl) (by rfl) (fun _ => by rfl) (fun _ => by rfl) (by simp) (by kernel_rfl) (by simp [Value.oneCell']) ?_
      · exact Nat.le_refl _
      intro Ku V4 hK hk1 hk2 hF hoth hsz hcell
      simp only [Act.put, List.setIfInBounds_toArray, List.set_cons_zero, List.set_cons_succ]
      refine NoPanic.normal ?_
      obtain ⟨ou, hoou⟩ : ∃ o, V4.heap[Ku]? = some o := ⟨_, Array.getElem?_eq_getElem hk2⟩
      have TCou : Hid (∀ W : World, W.heap[Ku]? = some ou → W.cell? ⟨Ku, 0, none⟩ = some (.int .i64 Uc) ∧ W.cell? ⟨Ku, 1, none⟩ = some (.int .i64 Un) ∧ W.cell? ⟨Ku, 2, none⟩ = some (.int .i64 Ud) ∧ Ku < W.heap.size) := fun W h => ⟨(cellSame hoou h 0).trans (hcell 0 _ rfl), (cellSame hoou h 1).trans (hcell 1 _ rfl), (cellSame hoou h 2).trans (hcell 2 _ rfl), ltOf h⟩
      have HW4 : Hid (V4.heap[Kp]? = some op_ ∧ V4.heap[Ka]? = some oa ∧ V4.heap[Ku]? = some ou ∧ Below V.heap.size V V4 ∧ OG 31 2 frC V4 V.heap.size (.slice la q lc) cur) := ⟨(hK.2.block _ (ltOf HW3.out.1)).trans HW3.out.1, (hK.2.block _ (ltOf HW3.out.2.1)).trans HW3.out.2.1, hoou, HW3.out.2.2.1.trans (hK.2.mono HW3.out.2.2.1.size), HW3.out.2.2.2.below hK.2⟩
      clear hK hk1 hk2 hF hoth hsz hcell hS hW30 hb30 hW31 hb31 hoou HW3 HSU c0 c1 c2' c3 hg
      clear u0 u1 u2 u3 u4 ul
      obtain ⟨s0, s1, s2, sl⟩ := TCoa.out _ HW4.out.2.1
      obtain ⟨t0, t1, t2, tl⟩ := TCou.out _ HW4.out.2.2.1
      have jr := (HW4.out.2.2.2.1.block _ (ltOf HV.out.2.1)).trans HV.out.2.1
      have q0 := cellOf jr 0 rfl
      have q1 := cellOf jr 1 rfl
      have g0 := frozOf jr 0
      have g1 := frozOf jr 1
      have ql := ltOf jr
      clear jr
      by_cases hAc : Ac = 0
      case neg =>
        have HE : Hid (C = 3 ∧ (3 : Int) ≠ 0) := by
          refine ⟨?_, by decide⟩
          have h3 : Ac = 3 := by have := HRS2.out.2.2.2.1; omega
          rw [HN.out.1, HRS2.out.1, if_pos (show Ac ≠ 0 from hAc), if_pos hAc, h3]
        have hA4 : (Ac != 0) = true := by simpa using hAc
        have HBZ : Hid (Below w.heap.size w V4 ∧ L = []) := ⟨HV.out.2.2.1.trans (HW4.out.2.2.2.1.mono HV.out.2.2.1.size), HL.out.2.2.1 (by rw [HE.out.1]; exact HE.out.2)⟩
        clear hAc HW4 HN HRS2 HV
        go_wp2
        try simp only [Exit.inBlock, Exit.then]
        refine bodyPost_ret (by simp [results, Try.results34, go_sem, q0, q1, ql]; try rfl) rfl ⟨_, by rw [HE.out.1] <;> rfl, by rw [HBZ.out.2]; exact og_nil _ _ _ _ _, ?_⟩
        have hb := HBZ.out.1
        (repeat' (first | (with_reducible exact Below.refl _ _) | (with_reducible assumption) | (with_reducible refine Below.setCell ?_ ?_ _) | (with_reducible refine Below.alloc ?_ ?_ _) | (with_reducible refine below_drewN ?_ _) | (with_reducible refine Below.drew ?_) | (with_reducible exact Nat.le_refl _) | omega | (simp; done) | (simp; omega)))

      have hA4 : (Ac != 0) = false := by rw [hAc]; rfl
      by_cases hUc : Uc = 0
      case neg =>
        have HE : Hid (C = 3 ∧ (3 : Int) ≠ 0) := by
          refine ⟨?_, by decide⟩
          have h3 : Uc = 3 := by have := HRS2.out.2.2.2.2; omega
          rw [HN.out.1, HRS2.out.1, if_neg (show ¬ Ac ≠ 0 by simpa using hAc), if_pos hUc, h3]
        have hA5 : (Uc != 0) = true := by simpa using hUc
        have HBZ : Hid (Below w.heap.size w V4 ∧ L = []) := ⟨HV.out.2.2.1.trans (HW4.out.2.2.2.1.mono HV.out.2.2.1.size), HL.out.2.2.1 (by rw [HE.out.1]; exact HE.out.2)⟩
        clear hAc hUc HW4 HN HRS2 HV
        go_wp2
        try simp only [Exit.inBlock, Exit.then]
        refine bodyPost_ret (by simp [results, Try.results34, go_sem, q0, q1, ql]; try rfl) rfl ⟨_, by rw [HE.out.1] <;> rfl, by rw [HBZ.out.2]; exact og_nil _ _ _ _ _, ?_⟩
        have hb := HBZ.out.1
        (repeat' (first | (with_reducible exact Below.refl _ _) | (with_reducible assumption) | (with_reducible refine Below.setCell ?_ ?_ _) | (with_reducible refine Below.alloc ?_ ?_ _) | (with_reducible refine below_drewN ?_ _) | (with_reducible refine Below.drew ?_) | (with_reducible exact Nat.le_refl _) | omega | (simp; done) | (simp; omega)))

      have hA5 : (Uc != 0) = false := by rw [hUc]; rfl
      clear q0 q1 g0 g1 ql
      have HN2 : Hid (C = rsC m (s.drop (k + 1)) ∧ rsL m (s.take (k + 1)) = cur ++ [⟨An, Ad⟩, ⟨Un, Ud⟩]) := by
        refine ⟨?_, by rw [HN.out.2, HRS2.out.2.1, HRS2.out.2.2.1]⟩
        have e : rsc m ⟨x, y, dx, dy⟩ = 0 := by rw [HRS2.out.1, if_neg (show ¬ Ac ≠ 0 by simpa using hAc), hUc]
        rw [HN.out.1, e]; rfl
      have HO : Hid (∀ W : World, Below V4.heap.size V4 W → W.ownsRow V.heap.size 31 2 (.slice la q lc) q (cur.flatMap frC)) := fun W hW => by
        have h := HW4.out.2.2.2.2.below hW
        unfold OG at h
        rw [HQ.out.2] at h; exact h
      have hszo : V.heap.size ≤ V4.heap.size := HW4.out.2.2.2.1.size
      clear HN HRS2 hAc hUc
      go_wp2_with (at_builtin; refine wpList_append_own _ rfl _ _ 45 rfl V.heap.size 31 i0 (.agg #[.int .i64 0, .int .i64 0]) 2 16 Try.underlying45 hi hz0 hz1 hz2 rfl (by decide) (.slice la q lc) q (cur.flatMap frC) rfl (HO.out _ (by (repeat' (first | (with_reducible exact Below.refl _ _) | (with_reducible assumption) | (with_reducible refine Below.setCell ?_ ?_ _) | (with_reducible refine Below.alloc ?_ ?_ _) | (with_reducible refine below_drewN ?_ _) | (with_reducible refine Below.drew ?_) | (with_reducible exact Nat.le_refl _) | omega | (simp; done) | (simp; omega))))) ⟨V4.heap.size, 0, none⟩ 2 2 [.int .i64 An, .int .i64 Ad, .int .i64 Un, .int .i64 Ud] rfl rfl (World.news_of_block (cs := #[.int .i64 An, .int .i64 Ad, .int .i64 Un, .int .i64 Ud]) (t := 31) (fr := (0, 0)) (heap_alloc_new V4 _)) (by simp [Value.oneCell']) (by unfold maxLen; omega) (by omega) (by simp; omega) ?_; intro v6 w6 hown6 hgrow6 hnn6)
      have R6 : Hid (∃ la' lc', v6 = .slice la' (2 * (k + 1)) lc' ∧ OG 31 2 frC w6 V.heap.size (.slice la' (2 * (k + 1)) lc') (rsL m (s.take (k + 1))) ∧ Below V.heap.size V w6) := by
        obtain ⟨la', lc', hv6⟩ : ∃ a c, v6 = .slice a (q + 2) c := by
          rcases hown6.2 with ⟨rfl, h0⟩ | ⟨g, cap, cur, rfl, _⟩
          · omega
          · exact ⟨_, _, rfl⟩
        subst hv6
        have e : q + 2 = 2 * (k + 1) := by have := HQ.out.1; omega
        refine ⟨la', lc', by rw [e], ?_, ?_⟩
        · rw [HN2.out.2]
          unfold OG
          rw [List.length_append, HQ.out.2, ← e, List.flatMap_append]
          exact hown6
        · refine (show Below V.heap.size V _ from (HW4.out.2.2.2.1.alloc hszo _)).grown hgrow6 (by simp; omega) (fun q hq => ?_)
          exact (World.ownsRow.lt (HO.out V4 (Below.refl _ _)) q hq).1
      obtain ⟨la', lc', hv6, R7⟩ := R6.out
      have R8 : Hid (OG 31 2 frC w6 V.heap.size (.slice la' (2 * (k + 1)) lc') (rsL m (s.take (k + 1))) ∧ Below V.heap.size V w6) := R7
      clear hown6 hgrow6 hnn6 HO R6 R7 HW4 HQ s0 s1 s2 sl t0 t1 t2 tl
      subst hv6
      go_wp2
      go_roundw
      case rel => exact ⟨k + 1, la', lc', by omega, by go_num, by first | rfl | trivial, HN2.out.1, R8.out.2, R8.out.1⟩
      case measure => simp [intOf]; omega
    · have HE : Hid (C = 0 ∧ L = rsL m s) := by
        have e := hR.out.1
        rw [List.drop_eq_nil_of_le (by rw [← H.out.2]; omega)] at e
        have e0 : C = 0 := e
        refine ⟨e0, ?_⟩
        rw [HL.out.2.1]; unfold rdL; rw [if_pos (by rw [← HL.out.1]; exact e0)]
      have HF : Hid (OG 31 2 frC wr V.heap.size (.slice la (2 * k) lc) L ∧ Below V.heap.size V wr) := by
        refine ⟨?_, hR.out.2.1⟩
        have h := hR.out.2.2
        rw [List.take_of_length_le (by rw [← H.out.2]; omega)] at h
        rw [HE.out.2]; exact h
      clear hR
      have jr := (HF.out.2.block _ (ltOf HV.out.2.1)).trans HV.out.2.1
      have q0 := cellOf jr 0 rfl
      have q1 := cellOf jr 1 rfl
      have g0 := frozOf jr 0
      have g1 := frozOf jr 1
      have ql := ltOf jr
      clear jr
      obtain ⟨q, hq⟩ : ∃ q, q = 2 * k := ⟨_, rfl⟩
      rw [← hq] at HF ⊢
      clear hq
      go_wp2
      try simp only [Exit.inBlock, Exit.then]
      refine bodyPost_ret (by simp [results, Try.results34, go_sem, q0, q1, ql]; try rfl) rfl ⟨.slice la q lc, by rw [HE.out.1] <;> rfl, ?_, ?_⟩
      · have hlt : ∀ g, (Value.slice la q lc).ownBlock = some g → V.heap.size ≤ g := fun g hg => (World.ownsRow.lt HF.out.1 g hg).1
        have hsz := HV.out.2.2.2
        exact OG.low (ownsRow_keep HF.out.1 fun g hg => by
          have := hlt g hg
          rw [heap_setCell_other _ _ _ _ (by simp; omega), heap_setCell_other _ _ _ _ (by simp; omega)]) (by omega)
      · have hb : Below w.heap.size w wr := HV.out.2.2.1.trans (HF.out.2.mono HV.out.2.2.1.size)
        (repeat' (first | (with_reducible exact Below.refl _ _) | (with_reducible assumption) | (with_reducible refine Below.setCell ?_ ?_ _) | (with_reducible refine Below.alloc ?_ ?_ _) | (with_reducible refine below_drewN ?_ _) | (with_reducible refine Below.drew ?_) | (with_reducible exact Nat.le_refl _) | omega | (simp; done) | (simp; omega)))

end Go.Proofs.Ytdidmjgilnhncab
