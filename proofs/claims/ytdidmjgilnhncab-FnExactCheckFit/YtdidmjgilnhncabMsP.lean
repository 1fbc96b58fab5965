/- Proved here: MissOf of the program: moQ. -/
import Derived.Test.YtdidmjgilnhncabOrC
import Derived.Test.YtdidmjgilnhncabRdP
import Derived.Test.YtdidmjgilnhncabFsQ
import Derived.Deep.AppendLies
namespace Go.Proofs.Ytdidmjgilnhncab
open Go.RowKit
set_option linter.unusedVariables false
set_option linter.unusedSimpArgs false

theorem info_fsq : (Try.prog.info? 89).map (fun i => (i.zero, i.size, i.bytes)) = some (some (.agg #[.int .i64 0, .int .i64 0]), 2, 16) := by kernel_rfl

set_option maxRecDepth 10000 in
set_option maxHeartbeats 25600000 in
theorem impl_mo (m : Mdl) {w : World} {v : Value} {s : List Mrk} (hn : s.length ≤ 1048576) (h : RG 4 maC w v s) :
    Calls Try.prog 14 #[v, .agg #[.int .i64 m.sx.n, .int .i64 m.sx.d, .int .i64 m.sy.n, .int .i64 m.sy.d, .int .i64 m.k.n, .int .i64 m.k.d, .int .i64 m.r.n, .int .i64 m.r.d]] w fun e w' => e = .returned (.agg #[.int .i64 (moQ s m).c, .int .i64 (moQ s m).n, .int .i64 (moQ s m).d]) ∧ Below w.heap.size w w' := by
  obtain ⟨a, c, rfl⟩ := h.form
  obtain ⟨n, hnn⟩ : ∃ n, n = s.length := ⟨_, rfl⟩
  obtain ⟨Q, hQ⟩ : ∃ Q, Q = moQ s m := ⟨_, rfl⟩
  rw [← hQ]
  have HQ : Hid (Q = moQ s m) := hQ
  clear hQ
  obtain ⟨C, hC⟩ : ∃ C, C = rdC s m := ⟨_, rfl⟩
  obtain ⟨L, hL⟩ : ∃ L, L = rdL s m := ⟨_, rfl⟩
  have HRD : Hid (∀ W, Below w.heap.size w W → Calls Try.prog 41 #[.slice a n c, .agg #[.int .i64 m.sx.n, .int .i64 m.sx.d, .int .i64 m.sy.n, .int .i64 m.sy.d, .int .i64 m.k.n, .int .i64 m.k.d, .int .i64 m.r.n, .int .i64 m.r.d]] W fun e w' => ∃ v', e = .returned (.agg #[.int .i64 C, v']) ∧ OG 31 2 frC w' W.heap.size v' L ∧ Below W.heap.size W w') := fun W hW => by rw [hC, hL, hnn]; exact impl_rd m hn (h.below hW)
  have HL : Hid (C = rdC s m ∧ L = rdL s m ∧ L.length ≤ 40) := ⟨hC, hL, by rw [hL]; exact rdL_len _ _⟩
  rw [← hnn] at h ⊢
  have H : Hid (RG 4 maC w (.slice a n c) s ∧ n = s.length) := ⟨h, hnn⟩
  clear h hnn hn hC hL
  obtain ⟨V, hV⟩ : ∃ V, V = (w.alloc (.cells #[.int .i64 m.sx.n, .int .i64 m.sx.d, .int .i64 m.sy.n, .int .i64 m.sy.d, .int .i64 m.k.n, .int .i64 m.k.d, .int .i64 m.r.n, .int .i64 m.r.d] 33)).alloc (.cells #[.int .i64 0, .int .i64 0, .int .i64 0] 38) := ⟨_, rfl⟩
  obtain ⟨a1, h⟩ : ∃ a, a = m.sx.n := ⟨_, rfl⟩
  obtain ⟨a2, h2⟩ : ∃ a, a = m.sx.d := ⟨_, rfl⟩
  obtain ⟨b1, h3⟩ : ∃ a, a = m.sy.n := ⟨_, rfl⟩
  obtain ⟨b2, h4⟩ : ∃ a, a = m.sy.d := ⟨_, rfl⟩
  obtain ⟨k1, h5⟩ : ∃ a, a = m.k.n := ⟨_, rfl⟩
  obtain ⟨k2, h6⟩ : ∃ a, a = m.k.d := ⟨_, rfl⟩
  obtain ⟨r1, h7⟩ : ∃ a, a = m.r.n := ⟨_, rfl⟩
  obtain ⟨r2, h8⟩ : ∃ a, a = m.r.d := ⟨_, rfl⟩
  rw [← h, ← h2, ← h3, ← h4, ← h5, ← h6, ← h7, ← h8] at hV HRD ⊢
  clear h h2 h3 h4 h5 h6 h7 h8
  have HV : Hid (V.heap[w.heap.size]? = some (.cells #[.int .i64 a1, .int .i64 a2, .int .i64 b1, .int .i64 b2, .int .i64 k1, .int .i64 k2, .int .i64 r1, .int .i64 r2] 33) ∧ V.heap[w.heap.size + 1]? = some (.cells #[.int .i64 0, .int .i64 0, .int .i64 0] 38) ∧ Below w.heap.size w V ∧ V.heap.size = w.heap.size + 2) := by
    refine ⟨?_, ?_, by rw [hV]; (repeat' (first | (with_reducible exact Below.refl _ _) | (with_reducible assumption) | (with_reducible refine Below.setCell ?_ ?_ _) | (with_reducible refine Below.alloc ?_ ?_ _) | (with_reducible refine below_drewN ?_ _) | (with_reducible refine Below.drew ?_) | (with_reducible exact Nat.le_refl _) | omega | (simp; done) | (simp; omega))), by rw [hV]; simp⟩
    · rw [hV]; exact (Below.heap_alloc _ _ _ (by simp)).trans (heap_alloc_new w _)
    · rw [hV]; have := heap_alloc_new (w.alloc (.cells #[.int .i64 a1, .int .i64 a2, .int .i64 b1, .int .i64 b2, .int .i64 k1, .int .i64 k2, .int .i64 r1, .int .i64 r2] 33)) (.cells #[.int .i64 0, .int .i64 0, .int .i64 0] 38); simpa using this
  obtain ⟨p0, p1, p2, p3, p4, p5, p6, p7, pl⟩ := eight_c HV.out.1
  go_enter Try.func14, Try.ntmps14
  go_upto_region 1 with fail
  rw [← hV]
  clear hV
  go_wp2_with (fail)
  refine (HRD.out _ HV.out.2.2.1).mono ?_
  rintro e w1 ⟨v', rfl, ho1, hb1⟩
  obtain ⟨ra, rc, hrv⟩ := (OG.rg frC_len ho1).form
  obtain ⟨rn, hrn⟩ : ∃ r, r = L.length := ⟨_, rfl⟩
  rw [← hrn] at hrv
  subst hrv
  have hr40 : rn ≤ 40 := by rw [hrn]; exact HL.out.2.2
  have HW1 : Hid (OG 31 2 frC w1 V.heap.size (.slice ra rn rc) L ∧ Below V.heap.size V w1 ∧ rn = L.length) := ⟨ho1, hb1, hrn⟩
  clear HRD ho1 hb1 hrn p0 p1 p2 p3 p4 p5 p6 p7 pl
  have jr := (HW1.out.2.1.block _ (ltOf HV.out.2.1)).trans HV.out.2.1
  obtain ⟨q0, q1, q2, g0, g1, g2, ql⟩ := three_c jr
  clear jr
  by_cases hC0 : C = 0
  case neg =>
    have HE : Hid (Q = ⟨C, 0, 0⟩) := by unfold Hid; rw [HQ.out, moQ_bad (by rw [← HL.out.1]; exact hC0), HL.out.1]
    have hA : (C != 0) = true := by simpa using hC0
    have HBZ : Hid (Below w.heap.size w w1) := HV.out.2.2.1.trans (HW1.out.2.1.mono HV.out.2.2.1.size)
    clear hC0 HW1 HV
    go_wp2
    try simp only [Exit.inBlock, Exit.then]
    refine bodyPost_ret (by simp [results, Try.results14, go_sem, q0, q1, q2, ql]; try rfl) rfl ⟨by rw [HE.out] <;> rfl, ?_⟩
    have hb := HBZ.out
    (repeat' (first | (with_reducible exact Below.refl _ _) | (with_reducible assumption) | (with_reducible refine Below.setCell ?_ ?_ _) | (with_reducible refine Below.alloc ?_ ?_ _) | (with_reducible refine below_drewN ?_ _) | (with_reducible refine Below.drew ?_) | (with_reducible exact Nat.le_refl _) | omega | (simp; done) | (simp; omega)))

  have hA : (C != 0) = false := by rw [hC0]; rfl
  have HE : Hid (Q = zq (sumA (whole 0) (sqL L))) := by unfold Hid; rw [HQ.out, moQ_ok (by rw [← HL.out.1]; exact hC0), HL.out.2.1]
  clear hC0 q0 q1 q2 g0 g1 g2 ql
  obtain ⟨V2, hV2⟩ : ∃ V, V = w1.alloc (.cells #[.int .i64 C, .slice ra rn rc] 47) := ⟨_, rfl⟩
  have HW2 : Hid (RG 2 frC V2 (.slice ra rn rc) L ∧ Below V.heap.size V V2 ∧ rn = L.length) := by
    have hb2 : Below w1.heap.size w1 V2 := by rw [hV2]; (repeat' (first | (with_reducible exact Below.refl _ _) | (with_reducible assumption) | (with_reducible refine Below.setCell ?_ ?_ _) | (with_reducible refine Below.alloc ?_ ?_ _) | (with_reducible refine below_drewN ?_ _) | (with_reducible refine Below.drew ?_) | (with_reducible exact Nat.le_refl _) | omega | (simp; done) | (simp; omega)))
    exact ⟨(OG.rg frC_len HW1.out.1).below hb2, HW1.out.2.1.trans (hb2.mono HW1.out.2.1.size), HW1.out.2.2⟩
  clear HW1
  obtain ⟨i0, hi, hz0, hz1, hz2⟩ := info_parts info_fsq
  go_wp2
  rw [← hV2]
  clear hV2
  go_loopw [6, 21] (fun u i wr => ∃ (k : Nat) (la : Option Addr) (lc : Nat), k ≤ rn ∧ i = .int .i64 k ∧ u = .slice la k lc ∧ Hid (Below V2.heap.size V2 wr ∧ OG 89 2 fsqC wr V2.heap.size (.slice la k lc) ((L.take k).map FQ.mk))) (fun _ i _ => rn - (intOf i).toNat)
  case atStart => exact ⟨0, none, 0, Nat.zero_le _, rfl, rfl, Below.refl _ _, og_nil _ _ _ _ _⟩
  case round =>
    obtain ⟨k, la, lc, hk, rfl, rfl, hR⟩ := hrel
    by_cases hlt : k < rn
    · have hjl : k < L.length := by rw [← HW2.out.2.2]; exact hlt
      obtain ⟨g, o, c2, he, hg, hj⟩ := (HW2.out.1.below hR.out.1).pos (by omega)
      simp only [Value.slice.injEq] at he
      obtain ⟨rfl, hx1, hx2⟩ := he
      clear hx1 hx2
      obtain ⟨c0, c1⟩ := frC_at (hj k hjl)
      obtain ⟨x, hx⟩ : ∃ x, x = L[k] := ⟨_, rfl⟩
      rw [← hx] at c0 c1
      obtain ⟨cur, hcur⟩ : ∃ l, l = (L.take k).map FQ.mk := ⟨_, rfl⟩
      have HN : Hid ((L.take (k + 1)).map FQ.mk = cur ++ [⟨x⟩] ∧ cur.length = k) := by
        rw [hcur]
        refine ⟨?_, by rw [List.length_map, List.length_take]; omega⟩
        rw [List.take_succ_eq_append_getElem hjl, List.map_append, hx]; rfl
      rw [← hcur] at hR
      have HWr : Hid (Below V2.heap.size V2 wr ∧ OG 89 2 fsqC wr V2.heap.size (.slice la k lc) cur) := hR.out
      clear hR hcur hx hj
      have HO : Hid (∀ W : World, Below wr.heap.size wr W → W.ownsRow V2.heap.size 89 2 (.slice la k lc) k (cur.flatMap fsqC)) := fun W hW => by
        have h := HWr.out.2.below hW
        unfold OG at h
        rw [HN.out.2] at h; exact h
      have hszo : V2.heap.size ≤ wr.heap.size := HWr.out.1.size
      have b0 : (0 : Int) ≤ (k : Int) := by omega
      have b1' : (k : Int) < (rn : Int) := by omega
      go_wp2_with (at_builtin; refine wpList_append_own _ rfl _ _ 87 rfl V2.heap.size 89 i0 (.agg #[.int .i64 0, .int .i64 0]) 2 16 Try.underlying87 hi hz0 hz1 hz2 rfl (by decide) (.slice la k lc) k (cur.flatMap fsqC) rfl (HO.out _ (by (repeat' (first | (with_reducible exact Below.refl _ _) | (with_reducible assumption) | (with_reducible refine Below.setCell ?_ ?_ _) | (with_reducible refine Below.alloc ?_ ?_ _) | (with_reducible refine below_drewN ?_ _) | (with_reducible refine Below.drew ?_) | (with_reducible exact Nat.le_refl _) | omega | (simp; done) | (simp; omega))))) ⟨wr.heap.size + 1, 0, none⟩ 1 1 [.int .i64 x.n, .int .i64 x.d] rfl rfl (World.news_of_block (cs := #[.int .i64 x.n, .int .i64 x.d]) (t := 89) (fr := (0, 0)) (al_second wr _ _)) (by simp [Value.oneCell']) (by unfold maxLen; omega) (by omega) (by simp; omega) ?_; intro v6 w6 hown6 hgrow6 hnn6)
      have R6 : Hid (∃ la' lc', v6 = .slice la' (k + 1) lc' ∧ OG 89 2 fsqC w6 V2.heap.size (.slice la' (k + 1) lc') ((L.take (k + 1)).map FQ.mk) ∧ Below V2.heap.size V2 w6) := by
        obtain ⟨la', lc', hv6⟩ : ∃ a c, v6 = .slice a (k + 1) c := by
          rcases hown6.2 with ⟨rfl, h0⟩ | ⟨g, cap, cur, rfl, _⟩
          · omega
          · exact ⟨_, _, rfl⟩
        subst hv6
        refine ⟨la', lc', rfl, ?_, ?_⟩
        · rw [HN.out.1]
          unfold OG
          rw [List.length_append, HN.out.2, List.flatMap_append]
          exact hown6
        · refine (show Below V2.heap.size V2 _ from ((HWr.out.1.alloc hszo _).alloc (by simp; omega) _)).grown hgrow6 (by simp; omega) (fun q hq => ?_)
          exact (World.ownsRow.lt (HO.out wr (Below.refl _ _)) q hq).1
      obtain ⟨la', lc', hv6, R7⟩ := R6.out
      have R8 : Hid (OG 89 2 fsqC w6 V2.heap.size (.slice la' (k + 1) lc') ((L.take (k + 1)).map FQ.mk) ∧ Below V2.heap.size V2 w6) := R7
      clear hown6 hgrow6 hnn6 HO R6 R7 HWr c0 c1 hg
      subst hv6
      go_wp2
      go_roundw
      case rel => exact ⟨k + 1, la', lc', by omega, by go_num, by first | rfl | trivial, R8.out.2, R8.out.1⟩
      case measure => simp [intOf]; omega
    · have HF : Hid (RG 2 fsqC wr (.slice la k lc) (L.map FQ.mk) ∧ Below V.heap.size V wr) := by
        have h := hR.out.2
        rw [List.take_of_length_le (by rw [← HW2.out.2.2]; omega)] at h
        exact ⟨OG.rg fsqC_len h, HW2.out.2.1.trans (hR.out.1.mono HW2.out.2.1.size)⟩
      clear hR
      have HS : Hid (∀ W, Below wr.heap.size wr W → Calls Try.prog 44 #[.slice la k lc, .agg #[.int .i64 0, .int .i64 1]] W fun e w' => e = .returned (.agg #[.int .i64 (Q).c, .int .i64 (Q).n, .int .i64 (Q).d]) ∧ Below W.heap.size W w') := fun W hW => by
        have h := impl_fromQ (whole 0) (by have := HL.out.2.2; simp; omega) (HF.out.1.below hW)
        have e : Q = zq (sumA (whole 0) ((L.map FQ.mk).map fsqQ)) := by rw [HE.out, List.map_map]; rfl
        rw [e]; exact h
      have HWH : Hid (∀ W, Calls Try.prog 45 #[.int .i64 0] W fun e w' => e = .returned (.agg #[.int .i64 0, .int .i64 1]) ∧ Below W.heap.size W w') := fun W => impl_whole 0 W
      clear HE
      obtain ⟨Qc, Qn, Qd⟩ := Q
      go_wp2_with (fail)
      refine (HWH.out _).mono ?_
      rintro e w5 ⟨rfl, hb5⟩
      go_wp2_with (fail)
      refine (HS.out _ hb5).mono ?_
      rintro e w6 ⟨rfl, hb6⟩
      have HB6 : Hid (Below V.heap.size V w6) := HF.out.2.trans ((hb5.trans (hb6.mono hb5.size)).mono HF.out.2.size)
      clear hb5 hb6 HS HWH HF
      have jr := (HB6.out.block _ (ltOf HV.out.2.1)).trans HV.out.2.1
      obtain ⟨q0, q1, q2, g0, g1, g2, ql⟩ := three_c jr
      clear jr
      have HBZ : Hid (Below w.heap.size w w6) := HV.out.2.2.1.trans (HB6.out.mono HV.out.2.2.1.size)
      clear HV HB6
      go_wp2
      try simp only [Exit.inBlock, Exit.then]
      refine bodyPost_ret (by simp [results, Try.results14, go_sem, q0, q1, q2, ql]; try rfl) rfl ⟨rfl, ?_⟩
      have hb := HBZ.out
      (repeat' (first | (with_reducible exact Below.refl _ _) | (with_reducible assumption) | (with_reducible refine Below.setCell ?_ ?_ _) | (with_reducible refine Below.alloc ?_ ?_ _) | (with_reducible refine below_drewN ?_ _) | (with_reducible refine Below.drew ?_) | (with_reducible exact Nat.le_refl _) | omega | (simp; done) | (simp; omega)))

end Go.Proofs.Ytdidmjgilnhncab
