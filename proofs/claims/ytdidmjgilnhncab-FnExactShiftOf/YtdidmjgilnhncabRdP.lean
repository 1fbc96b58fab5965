/- Proved here: ResidualsOf of the program: rdC, rdL. -/
import Derived.Test.YtdidmjgilnhncabOrC
import Derived.Test.YtdidmjgilnhncabPdI
import Derived.Test.YtdidmjgilnhncabMaI
import Derived.Test.YtdidmjgilnhncabFqS
import Derived.Deep.AppendLies
namespace Go.Proofs.Ytdidmjgilnhncab
open Go.RowKit
set_option linter.unusedVariables false
set_option linter.unusedSimpArgs false

set_option maxRecDepth 10000 in
set_option maxHeartbeats 25600000 in
theorem impl_rd (m : Mdl) {w : World} {v : Value} {s : List Mrk} (hn : s.length ≤ 1048576) (h : RG 4 maC w v s) :
    Calls Try.prog 41 #[v, .agg #[.int .i64 m.sx.n, .int .i64 m.sx.d, .int .i64 m.sy.n, .int .i64 m.sy.d, .int .i64 m.k.n, .int .i64 m.k.d, .int .i64 m.r.n, .int .i64 m.r.d]] w fun e w' => ∃ v', e = .returned (.agg #[.int .i64 (rdC s m), v']) ∧ OG 31 2 frC w' w.heap.size v' (rdL s m) ∧ Below w.heap.size w w' := by
  obtain ⟨a, c, rfl⟩ := h.form
  obtain ⟨n, hnn⟩ : ∃ n, n = s.length := ⟨_, rfl⟩
  obtain ⟨C, hC⟩ : ∃ C, C = rdC s m := ⟨_, rfl⟩
  obtain ⟨L, hL⟩ : ∃ L, L = rdL s m := ⟨_, rfl⟩
  obtain ⟨ms, hms⟩ : ∃ f, f = msF s := ⟨_, rfl⟩
  have HMS : Hid (∀ W, Below w.heap.size w W → Calls Try.prog 65 #[.slice a n c] W fun e w' => e = .returned (.int .i64 ms) ∧ Below W.heap.size W w') := fun W hW => by rw [hms, hnn]; exact impl_msF hn (h.below hW)
  rw [← hnn] at h ⊢
  rw [← hC, ← hL]
  have H : Hid (RG 4 maC w (.slice a n c) s ∧ n = s.length) := ⟨h, hnn⟩
  have HL : Hid (C = rdC s m ∧ L = rdL s m ∧ (C ≠ 0 → L = []) ∧ ms = msF s) := ⟨hC, hL, fun h0 => by rw [hL]; unfold rdL; rw [if_neg (by rw [← hC]; exact h0)], hms⟩
  clear h hnn hn hC hL hms
  obtain ⟨i0, hi, hz0, hz1, hz2⟩ := info_parts info_Frac
  obtain ⟨V, hV⟩ : ∃ V, V = (w.alloc (.cells #[.int .i64 m.sx.n, .int .i64 m.sx.d, .int .i64 m.sy.n, .int .i64 m.sy.d, .int .i64 m.k.n, .int .i64 m.k.d, .int .i64 m.r.n, .int .i64 m.r.d] 33)).alloc (.cells #[.int .i64 0, .slice none 0 0] 47) := ⟨_, rfl⟩
  obtain ⟨a1, h⟩ : ∃ a, a = m.sx.n := ⟨_, rfl⟩
  obtain ⟨a2, h2⟩ : ∃ a, a = m.sx.d := ⟨_, rfl⟩
  obtain ⟨b1, h3⟩ : ∃ a, a = m.sy.n := ⟨_, rfl⟩
  obtain ⟨b2, h4⟩ : ∃ a, a = m.sy.d := ⟨_, rfl⟩
  obtain ⟨k1, h5⟩ : ∃ a, a = m.k.n := ⟨_, rfl⟩
  obtain ⟨k2, h6⟩ : ∃ a, a = m.k.d := ⟨_, rfl⟩
  obtain ⟨r1, h7⟩ : ∃ a, a = m.r.n := ⟨_, rfl⟩
  obtain ⟨r2, h8⟩ : ∃ a, a = m.r.d := ⟨_, rfl⟩
  have HPR : Hid (∀ (W : World) (x y : Int), Calls Try.prog 66 #[.agg #[.int .i64 a1, .int .i64 a2, .int .i64 b1, .int .i64 b2, .int .i64 k1, .int .i64 k2, .int .i64 r1, .int .i64 r2], .int .i64 x, .int .i64 y] W fun e w' => e = .returned (.agg #[.int .i64 (prV m x y).c, .int .i64 (prV m x y).x.n, .int .i64 (prV m x y).x.d, .int .i64 (prV m x y).y.n, .int .i64 (prV m x y).y.d]) ∧ Below W.heap.size W w') := fun W x y => by rw [h, h2, h3, h4, h5, h6, h7, h8]; exact impl_prV m x y W
  skip
  rw [← h, ← h2, ← h3, ← h4, ← h5, ← h6, ← h7, ← h8] at hV ⊢
  clear h h2 h3 h4 h5 h6 h7 h8
  have HV : Hid (V.heap[w.heap.size]? = some (.cells #[.int .i64 a1, .int .i64 a2, .int .i64 b1, .int .i64 b2, .int .i64 k1, .int .i64 k2, .int .i64 r1, .int .i64 r2] 33) ∧ V.heap[w.heap.size + 1]? = some (.cells #[.int .i64 0, .slice none 0 0] 47) ∧ Below w.heap.size w V ∧ V.heap.size = w.heap.size + 2) := by
    refine ⟨?_, ?_, by rw [hV]; (repeat' (first | (with_reducible exact Below.refl _ _) | (with_reducible assumption) | (with_reducible refine Below.setCell ?_ ?_ _) | (with_reducible refine Below.alloc ?_ ?_ _) | (with_reducible refine below_drewN ?_ _) | (with_reducible refine Below.drew ?_) | (with_reducible exact Nat.le_refl _) | omega | (simp; done) | (simp; omega))), by rw [hV]; simp⟩
    · rw [hV]; exact (Below.heap_alloc _ _ _ (by simp)).trans (heap_alloc_new w _)
    · rw [hV]; have := heap_alloc_new (w.alloc (.cells #[.int .i64 a1, .int .i64 a2, .int .i64 b1, .int .i64 b2, .int .i64 k1, .int .i64 k2, .int .i64 r1, .int .i64 r2] 33)) (.cells #[.int .i64 0, .slice none 0 0] 47); simpa using this
  go_enter Try.func41, Try.ntmps41
  go_upto_region 1 with fail
  rw [← hV]
  clear hV
  go_wp2_with (fail)
  refine (HMS.out _ HV.out.2.2.1).mono ?_
  rintro e w0 ⟨rfl, hb0⟩
  have HW0 : Hid (Below V.heap.size V w0) := hb0
  clear HMS hb0
  have jr := (HW0.out.block _ (ltOf HV.out.2.1)).trans HV.out.2.1
  have q0 := cellOf jr 0 rfl
  have q1 := cellOf jr 1 rfl
  have g0 := frozOf jr 0
  have g1 := frozOf jr 1
  have ql := ltOf jr
  clear jr
  by_cases hms0 : ms = 0
  case neg =>
    have HE : Hid (C = ms ∧ ms ≠ 0) := ⟨by rw [HL.out.1, rdC_ms (by rw [← HL.out.2.2.2]; exact hms0), HL.out.2.2.2], hms0⟩
    have hA : (ms != 0) = true := by simpa using hms0
    have HBZ : Hid (Below w.heap.size w w0 ∧ L = []) := ⟨HV.out.2.2.1.trans (HW0.out.mono HV.out.2.2.1.size), HL.out.2.2.1 (by rw [HE.out.1]; exact HE.out.2)⟩
    clear hms0 HW0 HV
    go_wp2
    try simp only [Exit.inBlock, Exit.then]
    refine bodyPost_ret (by simp [results, Try.results41, go_sem, q0, q1, ql]; try rfl) rfl ⟨_, by rw [HE.out.1] <;> rfl, by rw [HBZ.out.2]; exact og_nil _ _ _ _ _, ?_⟩
    have hb := HBZ.out.1
    (repeat' (first | (with_reducible exact Below.refl _ _) | (with_reducible assumption) | (with_reducible refine Below.setCell ?_ ?_ _) | (with_reducible refine Below.alloc ?_ ?_ _) | (with_reducible refine below_drewN ?_ _) | (with_reducible refine Below.drew ?_) | (with_reducible exact Nat.le_refl _) | omega | (simp; done) | (simp; omega)))

  have hA : (ms != 0) = false := by rw [hms0]; rfl
  have HMK : Hid (msF s = 0 ∧ C = rsC m s) := by
    have e : msF s = 0 := by rw [← HL.out.2.2.2]; exact hms0
    exact ⟨e, by rw [HL.out.1, rdC_rs e]⟩
  have hn20 : n ≤ 20 := by rw [H.out.2]; exact (msF_ok HMK.out.1).2.1
  clear hms0 q0 q1 g0 g1 ql
  go_wp2
  go_loopw [6, 21] (fun u i wr => ∃ (k : Nat) (la : Option Addr) (lc : Nat), k ≤ n ∧ i = .int .i64 k ∧ u = .slice la (2 * k) lc ∧ Hid (C = rsC m (s.drop k) ∧ Below V.heap.size V wr ∧ OG 31 2 frC wr V.heap.size (.slice la (2 * k) lc) (rsL m (s.take k)))) (fun _ i _ => n - (intOf i).toNat)
  case atStart => exact ⟨0, none, 0, Nat.zero_le _, rfl, rfl, HMK.out.2, HW0.out, og_nil _ _ _ _ _⟩
  case round =>
    clear HW0
    obtain ⟨k, la, lc, hk, rfl, rfl, hR⟩ := hrel
    by_cases hlt : k < n
    · have hjl : k < s.length := by rw [← H.out.2]; exact hlt
      obtain ⟨g, o, c2, he, hg, hj⟩ := (H.out.1.below (HV.out.2.2.1.trans (hR.out.2.1.mono HV.out.2.2.1.size))).pos (by omega)
      simp only [Value.slice.injEq] at he
      obtain ⟨rfl, hx1, hx2⟩ := he
      clear hx1 hx2
      obtain ⟨c0, c1, c2', c3⟩ := maC_at (hj k hjl)
      obtain ⟨mk, hmk⟩ : ∃ x, x = s[k] := ⟨_, rfl⟩
      rw [← hmk] at c0 c1 c2' c3
      have hbd := (msF_ok HMK.out.1).2.2 mk (by rw [hmk]; exact List.getElem_mem hjl)
      have HN : Hid (C = (if rsc m mk ≠ 0 then rsc m mk else rsC m (s.drop (k + 1))) ∧ rsL m (s.take (k + 1)) = rsL m (s.take k) ++ [(rsX m mk).fr, (rsY m mk).fr]) := ⟨by rw [hR.out.1, rsC_drop hjl, hmk], by rw [hmk]; exact rsL_take hjl⟩
      obtain ⟨q, hq⟩ : ∃ q, q = 2 * k := ⟨_, rfl⟩
      have hqk : q ≤ 40 := by omega
      have HQ : Hid (q = 2 * k ∧ (rsL m (s.take k)).length = q) := ⟨hq, by rw [rsL_len, List.length_take, hq]; omega⟩
      rw [← hq] at hR ⊢
      clear hq hj hmk
      obtain ⟨cur, hcur⟩ : ∃ l, l = rsL m (s.take k) := ⟨_, rfl⟩
      rw [← hcur] at HN HQ hR
      clear hcur
      have jm := (hR.out.2.1.block _ (ltOf HV.out.1)).trans HV.out.1
      obtain ⟨p0, p1, p2, p3, p4, p5, p6, p7, pl⟩ := eight_c jm
      clear jm
      obtain ⟨x, y, dx, dy⟩ := mk
      obtain ⟨P, hP⟩ : ∃ P, P = prV m x y := ⟨_, rfl⟩
      have HP : Hid (∀ W, Calls Try.prog 66 #[.agg #[.int .i64 a1, .int .i64 a2, .int .i64 b1, .int .i64 b2, .int .i64 k1, .int .i64 k2, .int .i64 r1, .int .i64 r2], .int .i64 x, .int .i64 y] W fun e w' => e = .returned (.agg #[.int .i64 P.c, .int .i64 P.x.n, .int .i64 P.x.d, .int .i64 P.y.n, .int .i64 P.y.d]) ∧ Below W.heap.size W w') := fun W => by rw [hP]; exact HPR.out W x y
      obtain ⟨A, hAq⟩ : ∃ A, A = suQ (whole dx) P.x := ⟨_, rfl⟩
      obtain ⟨U, hUq⟩ : ∃ A, A = suQ (whole dy) P.y := ⟨_, rfl⟩
      have HSA : Hid (∀ W, Calls Try.prog 67 #[.agg #[.int .i64 dx, .int .i64 1], .agg #[.int .i64 P.x.n, .int .i64 P.x.d]] W fun e w' => e = .returned (.agg #[.int .i64 (A).c, .int .i64 (A).n, .int .i64 (A).d]) ∧ Below W.heap.size W w') := fun W => by rw [hAq]; exact impl_suQ (whole dx) P.x W
      have HSU : Hid (∀ W, Calls Try.prog 67 #[.agg #[.int .i64 dy, .int .i64 1], .agg #[.int .i64 P.y.n, .int .i64 P.y.d]] W fun e w' => e = .returned (.agg #[.int .i64 (U).c, .int .i64 (U).n, .int .i64 (U).d]) ∧ Below W.heap.size W w') := fun W => by rw [hUq]; exact impl_suQ (whole dy) P.y W
      have HWdx : Hid (∀ W, Calls Try.prog 45 #[.int .i64 dx] W fun e w' => e = .returned (.agg #[.int .i64 dx, .int .i64 1]) ∧ Below W.heap.size W w') := fun W => impl_whole dx W
      have HWdy : Hid (∀ W, Calls Try.prog 45 #[.int .i64 dy] W fun e w' => e = .returned (.agg #[.int .i64 dy, .int .i64 1]) ∧ Below W.heap.size W w') := fun W => impl_whole dy W
      have HRS : Hid (rsc m ⟨x, y, dx, dy⟩ = (if P.c ≠ 0 then P.c else if A.c ≠ 0 then A.c else U.c) ∧ (rsX m ⟨x, y, dx, dy⟩).fr = A.fr ∧ (rsY m ⟨x, y, dx, dy⟩).fr = U.fr) := by
        rw [hAq, hUq, hP]; exact ⟨rfl, rfl, rfl⟩
      clear hP hAq hUq hbd
      obtain ⟨pc, ⟨xn, xd⟩, ⟨yn, yd⟩⟩ := P
      obtain ⟨Ac, An, Ad⟩ := A
      obtain ⟨Uc, Un, Ud⟩ := U
      have HWr : Hid (Below V.heap.size V wr ∧ OG 31 2 frC wr V.heap.size (.slice la q lc) cur) := ⟨hR.out.2.1, by
        have h := hR.out.2.2
        exact h⟩
      clear hR
      have b0 : (0 : Int) ≤ (k : Int) := by omega
      have b1 : (k : Int) < (n : Int) := by omega
      go_wp2_with (fail)
      refine (HP.out _).mono ?_
      rintro e w1 ⟨rfl, hb1⟩
      have HW1 : Hid (w1.heap[wr.heap.size]? = some (.cells #[.int .i64 x, .int .i64 y, .int .i64 dx, .int .i64 dy] 75) ∧ Below V.heap.size V w1 ∧ OG 31 2 frC w1 V.heap.size (.slice la q lc) cur) := by
        have hb2 : Below wr.heap.size wr w1 := (show Below wr.heap.size wr _ from by (repeat' (first | (with_reducible exact Below.refl _ _) | (with_reducible assumption) | (with_reducible refine Below.setCell ?_ ?_ _) | (with_reducible refine Below.alloc ?_ ?_ _) | (with_reducible refine below_drewN ?_ _) | (with_reducible refine Below.drew ?_) | (with_reducible exact Nat.le_refl _) | omega | (simp; done) | (simp; omega)))).trans (hb1.mono (by simp))
        exact ⟨(hb1.block _ (by simp)).trans (heap_alloc_new wr _), HWr.out.1.trans (hb2.mono HWr.out.1.size), HWr.out.2.below hb2⟩
      clear hb1 HP HWr c0 c1 c2' c3 hg p0 p1 p2 p3 p4 p5 p6 p7 pl
      obtain ⟨Km, hKm⟩ : ∃ K, K = wr.heap.size := ⟨_, rfl⟩
      rw [← hKm] at HW1 ⊢
      clear hKm
      have jr := (HW1.out.2.1.block _ (ltOf HV.out.2.1)).trans HV.out.2.1
      have q0 := cellOf jr 0 rfl
      have q1 := cellOf jr 1 rfl
      have g0 := frozOf jr 0
      have g1 := frozOf jr 1
      have ql := ltOf jr
      clear jr
      by_cases hpc : pc = 0
      case neg =>
        have HE : Hid (C = pc ∧ pc ≠ 0) := by
          refine ⟨?_, hpc⟩
          have e1 : rsc m ⟨x, y, dx, dy⟩ = pc := by rw [HRS.out.1]; exact if_pos hpc
          rw [HN.out.1, e1, if_pos hpc]
        have hA2 : (pc != 0) = true := by simpa using hpc
        have HBZ : Hid (Below w.heap.size w w1 ∧ L = []) := ⟨HV.out.2.2.1.trans (HW1.out.2.1.mono HV.out.2.2.1.size), HL.out.2.2.1 (by rw [HE.out.1]; exact HE.out.2)⟩
        clear hpc HW1 HN HRS HV
        go_wp2
        try simp only [Exit.inBlock, Exit.then]
        refine bodyPost_ret (by simp [results, Try.results41, go_sem, q0, q1, ql]; try rfl) rfl ⟨_, by rw [HE.out.1] <;> rfl, by rw [HBZ.out.2]; exact og_nil _ _ _ _ _, ?_⟩
        have hb := HBZ.out.1
        (repeat' (first | (with_reducible exact Below.refl _ _) | (with_reducible assumption) | (with_reducible refine Below.setCell ?_ ?_ _) | (with_reducible refine Below.alloc ?_ ?_ _) | (with_reducible refine below_drewN ?_ _) | (with_reducible refine Below.drew ?_) | (with_reducible exact Nat.le_refl _) | omega | (simp; done) | (simp; omega)))

      have hA2 : (pc != 0) = false := by rw [hpc]; rfl
      have HRS2 : Hid (rsc m ⟨x, y, dx, dy⟩ = (if Ac ≠ 0 then Ac else Uc) ∧ (rsX m ⟨x, y, dx, dy⟩).fr = ⟨An, Ad⟩ ∧ (rsY m ⟨x, y, dx, dy⟩).fr = ⟨Un, Ud⟩) := by
        refine ⟨?_, HRS.out.2.1, HRS.out.2.2⟩
        rw [HRS.out.1]; exact if_neg (by simpa using hpc)
      clear HRS hpc q0 q1 g0 g1 ql
      go_wp2_with (fail)
      obtain ⟨V2, hV2⟩ : ∃ V, V = w1.alloc (.cells #[.int .i64 pc, .int .i64 xn, .int .i64 xd, .int .i64 yn, .int .i64 yd] 104) := ⟨_, rfl⟩
      rw [← hV2]
      obtain ⟨Kp, hKp⟩ : ∃ K, K = w1.heap.size := ⟨_, rfl⟩
      rw [← hKp]
      have HW2 : Hid (V2.heap[Km]? = some (.cells #[.int .i64 x, .int .i64 y, .int .i64 dx, .int .i64 dy] 75) ∧ V2.heap[Kp]? = some (.cells #[.int .i64 pc, .int .i64 xn, .int .i64 xd, .int .i64 yn, .int .i64 yd] 104) ∧ Below V.heap.size V V2 ∧ OG 31 2 frC V2 V.heap.size (.slice la q lc) cur) := by
        have hb2 : Below w1.heap.size w1 V2 := by rw [hV2]; (repeat' (first | (with_reducible exact Below.refl _ _) | (with_reducible assumption) | (with_reducible refine Below.setCell ?_ ?_ _) | (with_reducible refine Below.alloc ?_ ?_ _) | (with_reducible refine below_drewN ?_ _) | (with_reducible refine Below.drew ?_) | (with_reducible exact Nat.le_refl _) | omega | (simp; done) | (simp; omega)))
        exact ⟨(hb2.block _ (ltOf HW1.out.1)).trans HW1.out.1, by rw [hV2, hKp]; exact heap_alloc_new w1 _, HW1.out.2.1.trans (hb2.mono HW1.out.2.1.size), HW1.out.2.2.below hb2⟩
      clear hV2 hKp HW1
      have s10 := cellOf HW2.out.1 2 rfl
      have s11 := cellOf HW2.out.2.1 1 rfl
      have s12 := cellOf HW2.out.2.1 2 rfl
      have s13 := ltOf HW2.out.1
      have s14 := ltOf HW2.out.2.1
      refine wp_region_float (by kernel_rfl) (fun hS => ?_)
      refine fl_take (i := 0) (d := 37) (v := .pointer (some ⟨Km, 2, none⟩)) rfl rfl rfl (by kernel_rfl) (by kernel_rfl) (by kernel_rfl) hS ?_ ?_
      · intro w' hk; go_simp
      simp only [Act.put, List.setIfInBounds_toArray, List.set_cons_zero, List.set_cons_succ]
      refine fl_take (i := 1) (d := 38) (v := .int .i64 dx) rfl rfl rfl (by kernel_rfl) (by kernel_rfl) (by kernel_rfl) hS ?_ ?_
      · intro w' hk; go_simp
      simp only [Act.put, List.setIfInBounds_toArray, List.set_cons_zero, List.set_cons_succ]
      refine fl_take (i := 3) (d := 40) (v := .pointer (some ⟨Kp, 1, none⟩)) rfl rfl rfl (by kernel_rfl) (by kernel_rfl) (by kernel_rfl) hS ?_ ?_
      · intro w' hk; go_simp
      simp only [Act.put, List.setIfInBounds_toArray, List.set_cons_zero, List.set_cons_succ]
      refine fl_take (i := 4) (d := 41) (v := .agg #[.int .i64 xn, .int .i64 xd]) rfl rfl rfl (by kernel_rfl) (by kernel_rfl) (by kernel_rfl) hS ?_ ?_
      · intro w' hk; go_simp
      simp only [Act.put, List.setIfInBounds_toArray, List.set_cons_zero, List.set_cons_succ]
      refine float_pend (z := #[.int .i64 0, .int .i64 0, .int .i64 0]) (T := 38) (ja := 6) (js := 7) rfl rfl rfl rfl rfl (fun a w => by go_simp) [2, 5] _ _ _ (fun _ => False) (by kernel_rfl) (by kernel_rfl) ?_ (Nat.le_refl _) (fun _ h => h.elim) hS
      intro y10 hW10
      refine ⟨_, 39, _, _, rfl, rfl, by go_simp, (HWdx.out y10).mono ?_⟩
      rintro e z10 ⟨rfl, hb10⟩
      refine ⟨_, rfl, hb10, ?_⟩
      simp only [Act.put, List.setIfInBounds_toArray, List.set_cons_zero, List.set_cons_succ]
      intro y11 hW11
      refine ⟨_, 42, _, _, rfl, rfl, by go_simp, (HSA.out y11).mono ?_⟩
      rintro e z11 ⟨rfl, hb11⟩
      refine ⟨_, rfl, hb11, ?_⟩
      simp only [Act.put, List.setIfInBounds_toArray, List.set_cons_zero, List.set_cons_succ]
      unfold Fl
      refine after_store ?_ _ _ _ #[.int .i64 Ac, .int .i64 An, .int .i64 Ad] (by rfl) (by rfl) (fun _ => by rfl) (fun _ => by rfl) (by simp) (by kernel_rfl) (by simp [Value.oneCell']) ?_
      · exact Nat.le_refl _
      intro Ka V3 hK hk1 hk2 hF hoth hsz hcell
      simp only [Act.put, List.setIfInBounds_toArray, List.set_cons_zero, List.set_cons_succ]
      refine NoPanic.normal ?_
      obtain ⟨oa, hooa⟩ : ∃ o, V3.heap[Ka]? = some o := ⟨_, Array.getElem?_eq_getElem hk2⟩
      have TCoa : Hid (∀ W : World, W.heap[Ka]? = some oa → W.cell? ⟨Ka, 0, none⟩ = some (.int .i64 Ac) ∧ W.cell? ⟨Ka, 1, none⟩ = some (.int .i64 An) ∧ W.cell? ⟨Ka, 2, none⟩ = some (.int .i64 Ad) ∧ Ka < W.heap.size) := fun W h => ⟨(cellSame hooa h 0).trans (hcell 0 _ rfl), (cellSame hooa h 1).trans (hcell 1 _ rfl), (cellSame hooa h 2).trans (hcell 2 _ rfl), ltOf h⟩
      have HW3 : Hid (V3.heap[Km]? = some (.cells #[.int .i64 x, .int .i64 y, .int .i64 dx, .int .i64 dy] 75) ∧ V3.heap[Kp]? = some (.cells #[.int .i64 pc, .int .i64 xn, .int .i64 xd, .int .i64 yn, .int .i64 yd] 104) ∧ V3.heap[Ka]? = some oa ∧ Below V.heap.size V V3 ∧ OG 31 2 frC V3 V.heap.size (.slice la q lc) cur) := ⟨(hK.2.block _ (ltOf HW2.out.1)).trans HW2.out.1, (hK.2.block _ (ltOf HW2.out.2.1)).trans HW2.out.2.1, hooa, HW2.out.2.2.1.trans (hK.2.mono HW2.out.2.2.1.size), HW2.out.2.2.2.below hK.2⟩
      clear hK hk1 hk2 hF hoth hsz hcell hooa hS hW10 hb10 hW11 hb11 HW2 HSA s10 s11 s12 s13 s14
      go_wp2_with (fail)
      have s20 := cellOf HW3.out.1 3 rfl
      have s21 := cellOf HW3.out.2.1 3 rfl
      have s22 := cellOf HW3.out.2.1 4 rfl
      have s23 := ltOf HW3.out.1
      have s24 := ltOf HW3.out.2.1
      refine wp_region_float (by kernel_rfl) (fun hS => ?_)
      refine fl_take (i := 0) (d := 43) (v := .pointer (some ⟨Km, 3, none⟩)) rfl rfl rfl (by kernel_rfl) (by kernel_rfl) (by kernel_rfl) hS ?_ ?_
      · intro w' hk; go_simp
      simp only [Act.put, List.setIfInBounds_toArray, List.set_cons_zero, List.set_cons_succ]
      refine fl_take (i := 1) (d := 44) (v := .int .i64 dy) rfl rfl rfl (by kernel_rfl) (by kernel_rfl) (by kernel_rfl) hS ?_ ?_
      · intro w' hk; go_simp
      simp only [Act.put, List.setIfInBounds_toArray, List.set_cons_zero, List.set_cons_succ]
      refine fl_take (i := 3) (d := 46) (v := .pointer (some ⟨Kp, 3, none⟩)) rfl rfl rfl (by kernel_rfl) (by kernel_rfl) (by kernel_rfl) hS ?_ ?_
      · intro w' hk; go_simp
      simp only [Act.put, List.setIfInBounds_toArray, List.set_cons_zero, List.set_cons_succ]
      refine fl_take (i := 4) (d := 47) (v := .agg #[.int .i64 yn, .int .i64 yd]) rfl rfl rfl (by kernel_rfl) (by kernel_rfl) (by kernel_rfl) hS ?_ ?_
      · intro w' hk; go_simp
      simp only [Act.put, List.setIfInBounds_toArray, List.set_cons_zero, List.set_cons_succ]
      refine float_pend (z := #[.int .i64 0, .int .i64 0, .int .i64 0]) (T := 38) (ja := 6) (js := 7) rfl rfl rfl rfl rfl (fun a w => by go_simp) [2, 5] _ _ _ (fun _ => False) (by kernel_rfl) (by kernel_rfl) ?_ (Nat.le_refl _) (fun _ h => h.elim) hS
      intro y20 hW20
      refine ⟨_, 45, _, _, rfl, rfl, by go_simp, (HWdy.out y20).mono ?_⟩
      rintro e z20 ⟨rfl, hb20⟩
      refine ⟨_, rfl, hb20, ?_⟩
      simp only [Act.put, List.setIfInBounds_toArray, List.set_cons_zero, List.set_cons_succ]
      intro y21 hW21
      refine ⟨_, 48, _, _, rfl, rfl, by go_simp, (HSU.out y21).mono ?_⟩
      rintro e z21 ⟨rfl, hb21⟩
      refine ⟨_, rfl, hb21, ?_⟩
      simp only [Act.put, List.setIfInBounds_toArray, List.set_cons_zero, List.set_cons_succ]
      unfold Fl
      refine after_store ?_ _ _ _ #[.int .i64 Uc, .int .i64 Un, .int .i64 Ud] (by rfl) (by rfl) (fun _ => by rfl) (fun _ => by rfl) (by simp) (by kernel_rfl) (by simp [Value.oneCell']) ?_
      · exact Nat.le_refl _
      intro Ku V4 hK hk1 hk2 hF hoth hsz hcell
      simp only [Act.put, List.setIfInBounds_toArray, List.set_cons_zero, List.set_cons_succ]
      refine NoPanic.normal ?_
      obtain ⟨ou, hoou⟩ : ∃ o, V4.heap[Ku]? = some o := ⟨_, Array.getElem?_eq_getElem hk2⟩
      have TCou : Hid (∀ W : World, W.heap[Ku]? = some ou → W.cell? ⟨Ku, 0, none⟩ = some (.int .i64 Uc) ∧ W.cell? ⟨Ku, 1, none⟩ = some (.int .i64 Un) ∧ W.cell? ⟨Ku, 2, none⟩ = some (.int .i64 Ud) ∧ Ku < W.heap.size) := fun W h => ⟨(cellSame hoou h 0).trans (hcell 0 _ rfl), (cellSame hoou h 1).trans (hcell 1 _ rfl), (cellSame hoou h 2).trans (hcell 2 _ rfl), ltOf h⟩
      have HW4 : Hid (V4.heap[Km]? = some (.cells #[.int .i64 x, .int .i64 y, .int .i64 dx, .int .i64 dy] 75) ∧ V4.heap[Kp]? = some (.cells #[.int .i64 pc, .int .i64 xn, .int .i64 xd, .int .i64 yn, .int .i64 yd] 104) ∧ V4.heap[Ka]? = some oa ∧ V4.heap[Ku]? = some ou ∧ Below V.heap.size V V4 ∧ OG 31 2 frC V4 V.heap.size (.slice la q lc) cur) := ⟨(hK.2.block _ (ltOf HW3.out.1)).trans HW3.out.1, (hK.2.block _ (ltOf HW3.out.2.1)).trans HW3.out.2.1, (hK.2.block _ (ltOf HW3.out.2.2.1)).trans HW3.out.2.2.1, hoou, HW3.out.2.2.2.1.trans (hK.2.mono HW3.out.2.2.2.1.size), HW3.out.2.2.2.2.below hK.2⟩
      clear hK hk1 hk2 hF hoth hsz hcell hoou hS hW20 hb20 hW21 hb21 HW3 HSU s20 s21 s22 s23 s24
      obtain ⟨s0, s1, s2, sl⟩ := TCoa.out _ HW4.out.2.2.1
      obtain ⟨t0, t1, t2, tl⟩ := TCou.out _ HW4.out.2.2.2.1
      obtain ⟨G, hG⟩ : ∃ G, G = orL [Ac, Uc] := ⟨_, rfl⟩
      have HOR : Hid (∀ (W : World) (g : Nat), W.heap[g]? = some (.cells #[.int .i64 Ac, .int .i64 Uc] 2) → Calls Try.prog 68 #[.slice (some ⟨g, 0, none⟩) 2 2] W fun e w' => e = .returned (.int .i64 G) ∧ w' = W) := fun W g hg => by rw [hG]; exact or_two hg
      have HGR : Hid (rsc m ⟨x, y, dx, dy⟩ = G) := by
        unfold Hid; rw [HRS2.out.1, hG]
        by_cases h : Ac = 0
        · simp [orL, h]
        · simp [orL, h]
      clear hG
      go_wp2_with (fail)
      refine (HOR.out _ _ (heap_alloc_new V4 _)).mono ?_
      rintro e w5 ⟨rfl, hw5⟩
      have HW5 : Hid (w5.heap[Km]? = some (.cells #[.int .i64 x, .int .i64 y, .int .i64 dx, .int .i64 dy] 75) ∧ w5.heap[Kp]? = some (.cells #[.int .i64 pc, .int .i64 xn, .int .i64 xd, .int .i64 yn, .int .i64 yd] 104) ∧ w5.heap[Ka]? = some oa ∧ w5.heap[Ku]? = some ou ∧ Below V.heap.size V w5 ∧ OG 31 2 frC w5 V.heap.size (.slice la q lc) cur) := by
        have hb2 : Below V4.heap.size V4 w5 := by rw [hw5]; (repeat' (first | (with_reducible exact Below.refl _ _) | (with_reducible assumption) | (with_reducible refine Below.setCell ?_ ?_ _) | (with_reducible refine Below.alloc ?_ ?_ _) | (with_reducible refine below_drewN ?_ _) | (with_reducible refine Below.drew ?_) | (with_reducible exact Nat.le_refl _) | omega | (simp; done) | (simp; omega)))
        exact ⟨(hb2.block _ (ltOf HW4.out.1)).trans HW4.out.1, (hb2.block _ (ltOf HW4.out.2.1)).trans HW4.out.2.1, (hb2.block _ (ltOf HW4.out.2.2.1)).trans HW4.out.2.2.1, (hb2.block _ (ltOf HW4.out.2.2.2.1)).trans HW4.out.2.2.2.1, HW4.out.2.2.2.2.1.trans (hb2.mono HW4.out.2.2.2.2.1.size), HW4.out.2.2.2.2.2.below hb2⟩
      clear hw5 HW4 HOR s0 s1 s2 sl t0 t1 t2 tl
      obtain ⟨s0, s1, s2, sl⟩ := TCoa.out _ HW5.out.2.2.1
      obtain ⟨t0, t1, t2, tl⟩ := TCou.out _ HW5.out.2.2.2.1
      by_cases hG0 : G = 0
      case neg =>
        have HE : Hid (C = G ∧ G ≠ 0) := ⟨by rw [HN.out.1, HGR.out, if_pos hG0], hG0⟩
        have hA3 : (G != 0) = true := by simpa using hG0
        have jr := (HW5.out.2.2.2.2.1.block _ (ltOf HV.out.2.1)).trans HV.out.2.1
        have q0 := cellOf jr 0 rfl
        have q1 := cellOf jr 1 rfl
        have g0 := frozOf jr 0
        have g1 := frozOf jr 1
        have ql := ltOf jr
        clear jr
        have HBZ : Hid (Below w.heap.size w w5 ∧ L = []) := ⟨HV.out.2.2.1.trans (HW5.out.2.2.2.2.1.mono HV.out.2.2.1.size), HL.out.2.2.1 (by rw [HE.out.1]; exact HE.out.2)⟩
        clear hG0 HW5 HN HGR HRS2 HV
        go_wp2
        try simp only [Exit.inBlock, Exit.then]
        refine bodyPost_ret (by simp [results, Try.results41, go_sem, q0, q1, ql]; try rfl) rfl ⟨_, by rw [HE.out.1] <;> rfl, by rw [HBZ.out.2]; exact og_nil _ _ _ _ _, ?_⟩
        have hb := HBZ.out.1
        (repeat' (first | (with_reducible exact Below.refl _ _) | (with_reducible assumption) | (with_reducible refine Below.setCell ?_ ?_ _) | (with_reducible refine Below.alloc ?_ ?_ _) | (with_reducible refine below_drewN ?_ _) | (with_reducible refine Below.drew ?_) | (with_reducible exact Nat.le_refl _) | omega | (simp; done) | (simp; omega)))

      have hA3 : (G != 0) = false := by rw [hG0]; rfl
      have HN2 : Hid (C = rsC m (s.drop (k + 1)) ∧ rsL m (s.take (k + 1)) = cur ++ [⟨An, Ad⟩, ⟨Un, Ud⟩]) := by
        refine ⟨?_, by rw [HN.out.2, HRS2.out.2.1, HRS2.out.2.2]⟩
        rw [HN.out.1, HGR.out]; exact if_neg (by simpa using hG0)
      have HO : Hid (∀ W : World, Below w5.heap.size w5 W → W.ownsRow V.heap.size 31 2 (.slice la q lc) q (cur.flatMap frC)) := fun W hW => by
        have h := HW5.out.2.2.2.2.2.below hW
        unfold OG at h
        rw [HQ.out.2] at h; exact h
      have hszo : V.heap.size ≤ w5.heap.size := HW5.out.2.2.2.2.1.size
      clear HN HGR HRS2 hG0
      go_wp2_with (at_builtin; refine wpList_append_own _ rfl _ _ 45 rfl V.heap.size 31 i0 (.agg #[.int .i64 0, .int .i64 0]) 2 16 Try.underlying45 hi hz0 hz1 hz2 rfl (by decide) (.slice la q lc) q (cur.flatMap frC) rfl (HO.out _ (by (repeat' (first | (with_reducible exact Below.refl _ _) | (with_reducible assumption) | (with_reducible refine Below.setCell ?_ ?_ _) | (with_reducible refine Below.alloc ?_ ?_ _) | (with_reducible refine below_drewN ?_ _) | (with_reducible refine Below.drew ?_) | (with_reducible exact Nat.le_refl _) | omega | (simp; done) | (simp; omega))))) ⟨w5.heap.size, 0, none⟩ 2 2 [.int .i64 An, .int .i64 Ad, .int .i64 Un, .int .i64 Ud] rfl rfl (World.news_of_block (cs := #[.int .i64 An, .int .i64 Ad, .int .i64 Un, .int .i64 Ud]) (t := 31) (fr := (0, 0)) (heap_alloc_new w5 _)) (by simp [Value.oneCell']) (by unfold maxLen; omega) (by omega) (by simp; omega) ?_; intro v6 w6 hown6 hgrow6 hnn6)
      have R6 : Hid (∃ la' lc', v6 = .slice la' (2 * (k + 1)) lc' ∧ OG 31 2 frC w6 V.heap.size (.slice la' (2 * (k + 1)) lc') (rsL m (s.take (k + 1))) ∧ Below V.heap.size V w6) := by
        obtain ⟨la', lc', hv6⟩ : ∃ a c, v6 = .slice a (q + 2) c := by
          rcases hown6.2 with ⟨rfl, h0⟩ | ⟨g, cap, cur, rfl, _⟩
          · omega
          · exact ⟨_, _, rfl⟩
        subst hv6
        have e : q + 2 = 2 * (k + 1) := by have := HQ.out.1; omega
        refine ⟨la', lc', by rw [e], ?_, ?_⟩
        · rw [HN2.out.2]
          unfold OG
          rw [List.length_append, HQ.out.2, ← e, List.flatMap_append]
          exact hown6
        · refine (show Below V.heap.size V _ from (HW5.out.2.2.2.2.1.alloc hszo _)).grown hgrow6 (by simp; omega) (fun q hq => ?_)
          exact (World.ownsRow.lt (HO.out w5 (Below.refl _ _)) q hq).1
      obtain ⟨la', lc', hv6, R7⟩ := R6.out
      have R8 : Hid (OG 31 2 frC w6 V.heap.size (.slice la' (2 * (k + 1)) lc') (rsL m (s.take (k + 1))) ∧ Below V.heap.size V w6) := R7
      clear hown6 hgrow6 hnn6 HO R6 R7 HW5 HQ s0 s1 s2 sl t0 t1 t2 tl
      subst hv6
      go_wp2
      go_roundw
      case rel => exact ⟨k + 1, la', lc', by omega, by go_num, by first | rfl | trivial, HN2.out.1, R8.out.2, R8.out.1⟩
      case measure => simp [intOf]; omega
    · have HE : Hid (C = 0 ∧ L = rsL m s) := by
        have e := hR.out.1
        rw [List.drop_eq_nil_of_le (by rw [← H.out.2]; omega)] at e
        have e0 : C = 0 := e
        refine ⟨e0, ?_⟩
        rw [HL.out.2.1]; unfold rdL; rw [if_pos (by rw [← HL.out.1]; exact e0)]
      have HF : Hid (OG 31 2 frC wr V.heap.size (.slice la (2 * k) lc) L ∧ Below V.heap.size V wr) := by
        refine ⟨?_, hR.out.2.1⟩
        have h := hR.out.2.2
        rw [List.take_of_length_le (by rw [← H.out.2]; omega)] at h
        rw [HE.out.2]; exact h
      clear hR
      have jr := (HF.out.2.block _ (ltOf HV.out.2.1)).trans HV.out.2.1
      have q0 := cellOf jr 0 rfl
      have q1 := cellOf jr 1 rfl
      have g0 := frozOf jr 0
      have g1 := frozOf jr 1
      have ql := ltOf jr
      clear jr
      obtain ⟨q, hq⟩ : ∃ q, q = 2 * k := ⟨_, rfl⟩
      rw [← hq] at HF ⊢
      clear hq
      go_wp2
      try simp only [Exit.inBlock, Exit.then]
      refine bodyPost_ret (by simp [results, Try.results41, go_sem, q0, q1, ql]; try rfl) rfl ⟨.slice la q lc, by rw [HE.out.1] <;> rfl, ?_, ?_⟩
      · have hlt : ∀ g, (Value.slice la q lc).ownBlock = some g → V.heap.size ≤ g := fun g hg => (World.ownsRow.lt HF.out.1 g hg).1
        have hsz := HV.out.2.2.2
        exact OG.low (ownsRow_keep HF.out.1 fun g hg => by
          have := hlt g hg
          rw [heap_setCell_other _ _ _ _ (by simp; omega), heap_setCell_other _ _ _ _ (by simp; omega)]) (by omega)
      · have hb : Below w.heap.size w wr := HV.out.2.2.1.trans (HF.out.2.mono HV.out.2.2.1.size)
        (repeat' (first | (with_reducible exact Below.refl _ _) | (with_reducible assumption) | (with_reducible refine Below.setCell ?_ ?_ _) | (with_reducible refine Below.alloc ?_ ?_ _) | (with_reducible refine below_drewN ?_ _) | (with_reducible refine Below.drew ?_) | (with_reducible exact Nat.le_refl _) | omega | (simp; done) | (simp; omega)))

end Go.Proofs.Ytdidmjgilnhncab
