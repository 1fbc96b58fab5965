/- Proved here: the text of a recipe, of the program. -/
import Derived.Test.YtnljomeacnjmmaaDoorXlI
import Derived.Test.YtnljomeacnjmmaaDoorXfM
import Derived.Test.YtnljomeacnjmmaaDoorXrI
import Derived.Test.YtnljomeacnjmmaaDoorReg
namespace Go.Proofs.YtnljomeacnjmmaaDoor
open Go.ChangeShapes Go.WideShapes Go.ChangeAt Go.RowKit Go.Joins
set_option linter.unusedVariables false
set_option linter.unusedSimpArgs false


theorem OKb.at {b q : Nat} {w w' : World} {o : Obj} (h : OKb b w w') (hq : w.heap[q]? = some o) (hn : q ≠ b) (ho : ∀ c fz, o ≠ .cells c 5 fz) : w'.heap[q]? = some o :=
  h q o hq (by intro e; injection e with e; exact hn e) ho
set_option maxRecDepth 100000 in
set_option maxHeartbeats 25600000 in
theorem impl_fo (r : Rr) (c : Rp) (W : World) (ht : Hid (Tab W)) (hs : smRp 1048576 c) (h : Rr1 W r c) :
    Calls Tryd.prog 17 #[.agg #[.string r.nm, .slice r.pa r.pn r.pc, .slice r.sa r.sn r.sc]] W fun e w' => e = .returned (.string (foS c)) ∧ Below W.heap.size W w' := by
  obtain ⟨rs, hrg, hrel⟩ := h.ss
  obtain ⟨K, hK⟩ : ∃ K, K = rfK c := ⟨_, rfl⟩
  obtain ⟨F, hF⟩ : ∃ F, F = foS c := ⟨_, rfl⟩
  have hpl : r.pn = c.ps.length := h.ps.len
  have hsl : r.sn = c.ss.length := h.ss.len
  have hsr : r.sn = rs.length := hrg.len
  have HF : Hid (∀ X, Below W.heap.size W X → Calls Tryd.prog 16 #[.agg #[.string r.nm, .slice r.pa r.pn r.pc, .slice r.sa r.sn r.sc]] X fun e w' => e = .returned (.int .i64 K) ∧ Below X.heap.size X w') := fun X hb => by rw [hK]; exact impl_rf r c X (ht.out.step hb) hs (h.below hb)
  rw [← hF]
  obtain ⟨V0, hV0⟩ : ∃ V, V = W.alloc (.cells #[.string r.nm, .slice r.pa r.pn r.pc, .slice r.sa r.sn r.sc] 33) := ⟨_, rfl⟩
  have HB0 : Hid (Below W.heap.size W V0 ∧ V0.heap[W.heap.size]? = some (.cells #[.string r.nm, .slice r.pa r.pn r.pc, .slice r.sa r.sn r.sc] 33)) := ⟨by rw [hV0]; (repeat' (first | (with_reducible exact Below.refl _ _) | (with_reducible assumption) | (with_reducible refine Below.setCell ?_ ?_ _) | (with_reducible refine Below.alloc ?_ ?_ _) | (with_reducible refine below_drewN ?_ _) | (with_reducible refine Below.drew ?_) | (with_reducible exact Nat.le_refl _) | omega | (simp; done) | (simp; omega))), by rw [hV0]; exact heap_alloc_new _ _⟩
  have HV0 : Hid (V0 = W.alloc (.cells #[.string r.nm, .slice r.pa r.pn r.pc, .slice r.sa r.sn r.sc] 33)) := hV0
  clear hV0
  by_cases hk0 : K = 0
  case neg =>
    have hF0 : F = ⟨#[]⟩ := by rw [hF]; unfold foS; rw [← hK, if_neg hk0]
    subst hF0
    clear hK hF hpl hsl hsr h hs hrg hrel ht
    go_enter Tryd.func17, Tryd.ntmps17
    go_wp2_with (fail)
    rw [← HV0.out]
    clear HV0
    refine (HF.out _ HB0.out.1).mono ?_
    rintro e w1 ⟨rfl, hb1⟩
    have HB1 : Hid (Below W.heap.size W w1) := HB0.out.1.trans (hb1.mono HB0.out.1.size)
    clear hb1 HB0 HF
    go_wp2
    go_returns
    exact ⟨rfl, HB1.out⟩
  have hok := rp_ok (hK.symm.trans hk0)
  have HFF : Hid (F = if 4000 < (foT c).size then ⟨#[]⟩ else foT c) := by unfold Hid; rw [hF]; unfold foS; rw [← hK, if_pos hk0]
  have hpn20 : r.pn ≤ 20 := by have := hok.pn; omega
  have hsn40 : r.sn ≤ 40 := by have := hok.sn; omega
  have hnm : r.nm.size ≤ 16 := by rw [h.nm]; exact (nameK_len hok.nm).2
  have HP : Hid (RG 4 pmC W (.slice r.pa r.pn r.pc) c.ps ∧ r.pn = c.ps.length ∧ ∀ (i : Nat) (hi : i < c.ps.length), (c.ps[i]).nm.size ≤ 16 ∧ ∀ n ∈ [(c.ps[i]).lo, (c.ps[i]).hi, (c.ps[i]).ba], -1000000000 ≤ n ∧ n ≤ 1000000000) := ⟨h.ps, hpl, fun i hi => by
    have hp := hok.ps i hi
    have h1 := hp.lo
    have h2 := hp.hi
    have h3 := hp.ba
    refine ⟨(nameK_len hp.nm).2, fun n hn => ?_⟩
    simp only [List.mem_cons, List.not_mem_nil, or_false] at hn
    rcases hn with rfl | rfl | rfl <;> omega⟩
  have HS : Hid (RG 5 rsC W (.slice r.sa r.sn r.sc) rs ∧ r.sn = c.ss.length ∧ r.sn = rs.length) := ⟨hrg, hsl, hsr⟩
  have HST : Hid (∀ (i : Nat) (hi : i < c.ss.length) (hi' : i < rs.length), (rs[i]).nm = (c.ss[i]).nm ∧ (c.ss[i]).nm.size ≤ 16 ∧ (rs[i]).sn = (c.ss[i]).ss.length ∧ (rs[i]).sn ≤ 8 ∧ RG 4 seC W (.slice (rs[i]).sa (rs[i]).sn (rs[i]).sc) (c.ss[i]).ss ∧ (vtS (c.ss[i]).t).size ≤ 2002000001 ∧
      (∀ X, Tab X → Calls Tryd.prog 34 #[.agg #[.int .i64 (rs[i]).t.k, .int .i64 (rs[i]).t.n, .string (rs[i]).t.s]] X fun e w' => e = .returned (.string (vtS (c.ss[i]).t)) ∧ Below X.heap.size X w') ∧
      ∀ (j : Nat) (hj : j < (c.ss[i]).ss.length), ((c.ss[i]).ss[j]).nm.size ≤ 16 ∧ (vtS ((c.ss[i]).ss[j]).v).size ≤ 2002000001 ∧ ∀ X, Tab X → Calls Tryd.prog 34 #[.agg #[.int .i64 ((c.ss[i]).ss[j]).v.k, .int .i64 ((c.ss[i]).ss[j]).v.n, .string ((c.ss[i]).ss[j]).v.s]] X fun e w' => e = .returned (.string (vtS ((c.ss[i]).ss[j]).v)) ∧ Below X.heap.size X w') := fun i hi hi' => by
    have hr1 := hrel.at_ i hi' hi
    have hsp := hok.ss i hi
    have hsm := hs.ss i hi
    have hm1 := hsm.t
    unfold smV at hm1
    refine ⟨hr1.nm, (nameK_len hsp.nm).2, hr1.ss.len, by rw [hr1.ss.len]; exact hsp.few, hr1.ss, vtS_size _ (by omega), fun X hb => by rw [hr1.t]; exact impl_vt _ X hb (by omega), fun j hj => ?_⟩
    have hm2 := (hsm.ss j hj).2
    exact ⟨(nameK_len (hsp.ss j hj).nm).2, vtS_size _ (by omega), fun X hb => impl_vt _ X hb (by omega)⟩
  have HRN : Hid (r.nm = c.nm) := h.nm
  subst hk0
  clear hK hF hpl hsl hsr h hs hrg hrel hok
  go_enter Tryd.func17, Tryd.ntmps17
  go_wp2_with (fail)
  rw [← HV0.out]
  clear HV0
  refine (HF.out _ HB0.out.1).mono ?_
  rintro e w1 ⟨rfl, hb1⟩
  have HB1 : Hid (Below W.heap.size W w1 ∧ w1.heap[W.heap.size]? = some (.cells #[.string r.nm, .slice r.pa r.pn r.pc, .slice r.sa r.sn r.sc] 33)) := ⟨HB0.out.1.trans (hb1.mono HB0.out.1.size), (hb1.block _ (ltQ HB0.out.2)).trans HB0.out.2⟩
  clear hb1 HB0 HF
  obtain ⟨b, hb⟩ : ∃ b, b = w1.heap.size := ⟨_, rfl⟩
  obtain ⟨V1, hV1⟩ : ∃ V, V = w1.alloc (.cells #[.pointer none, .slice none 0 0] 75) := ⟨_, rfl⟩
  have HBW : Hid (Below W.heap.size W V1 ∧ W.heap.size < b ∧ V1.heap[W.heap.size]? = some (.cells #[.string r.nm, .slice r.pa r.pn r.pc, .slice r.sa r.sn r.sc] 33) ∧ V1.heap.size = b + 1) := ⟨by rw [hV1]; exact HB1.out.1.alloc HB1.out.1.size _, by rw [hb]; exact ltQ HB1.out.2, by rw [hV1]; exact (Below.heap_alloc _ _ _ (ltQ HB1.out.2)).trans HB1.out.2, by rw [hV1, hb]; simp⟩
  have HTB : Hid (TBb b V1) := fun X hX => ht.out.step (HBW.out.1.trans (hX.mono (by have := HBW.out.2.1; omega)))
  have HSB : Hid (SBu b b (⟨#[]⟩ : ByteArray).data.toList V1) := by
    unfold Hid; rw [hV1, hb]; exact SBu.new w1
  have HWX : Hid (∀ X, Below b V1 X → Below W.heap.size W X ∧ X.heap[W.heap.size]? = some (.cells #[.string r.nm, .slice r.pa r.pn r.pc, .slice r.sa r.sn r.sc] 33)) := fun X hX => ⟨HBW.out.1.trans (hX.mono (by have := HBW.out.2.1; omega)), (hX.block _ HBW.out.2.1).trans HBW.out.2.2.1⟩
  have HV1 : Hid (V1 = w1.alloc (.cells #[.pointer none, .slice none 0 0] 75) ∧ b = w1.heap.size) := ⟨hV1, hb⟩
  obtain ⟨p0, p1, p2, pf, pl⟩ := three_at HBW.out.2.2.1
  clear pf hV1 hb ht
  have HL0 : Hid (Calls Tryd.prog 33 #[.pointer (some ⟨b, 0, none⟩), .string (⟨#[114, 101, 99, 105, 112, 101, 32]⟩ ++ r.nm), .slice none 0 0] V1 fun e w' => (∃ v, e = .returned v) ∧ SBa b b ((⟨#[]⟩ : ByteArray) ++ linN (wRec ++ r.nm) []).data.toList w' ∧ Below b V1 w' ∧ OKb b V1 w') := impl_wl b b ⟨#[]⟩ (wRec ++ r.nm) _ [] V1 HTB.out HSB.out (NSl.nil _) (fun n hn => by cases hn) (by simp) (by rw [ba_size]; have e1 : (⟨#[]⟩ : ByteArray).size = 0 := rfl; have e2 : wRec.size = 7 := rfl; omega)
  obtain ⟨q0, q1, q2, qf, ql⟩ := three_at HB1.out.2
  clear qf
  go_wp2_with (fail)
  rw [← HV1.out.1, ← HV1.out.2]
  clear HV1 p0 p1 p2 pl q0 q1 q2 ql HB1
  refine HL0.out.mono ?_
  rintro e w2 ⟨⟨v2, rfl⟩, h2, hb2, ho2⟩
  have HB2 : Hid (SBu b b (linN (wRec ++ c.nm) []).data.toList w2 ∧ Below b V1 w2) := by
    refine ⟨?_, hb2⟩
    have := h2.bu
    rw [HRN.out] at this
    have e9 : (⟨#[]⟩ : ByteArray) ++ linN (wRec ++ c.nm) [] = linN (wRec ++ c.nm) [] := by apply ByteArray.ext; simp [ByteArray.data_append]
    rw [e9] at this
    exact this
  obtain ⟨p0, p1, p2, pf, pl⟩ := three_at (HWX.out _ HB2.out.2).2
  clear h2 hb2 ho2 HL0 HSB pf
  go_wp2
  clear p0 p1 p2 pl
  go_loopw [20] (fun i wr => ∃ (t : Nat) (Y : ByteArray), i = .int .i64 t ∧ t ≤ r.pn ∧ Y.size ≤ (t + 1) * 10000000000 ∧ Hid (Y = linN (wRec ++ c.nm) [] ++ catN (fun i => prT (c.ps.getD i pmD)) t ∧ SBu b b Y.data.toList wr ∧ Below b V1 wr)) (fun i _ => r.pn - (intOf i).toNat)
  case atStart =>
    refine ⟨0, linN (wRec ++ c.nm) [], rfl, Nat.zero_le _, ?_, (ba_nil _).symm, HB2.out⟩
    have h1 := linN_size (wRec ++ c.nm) [] (fun n hn => by cases hn)
    rw [ba_size, ← HRN.out] at h1
    rw [← HRN.out]
    have e2 : wRec.size = 7 := rfl
    have e3 : ([] : List Int).length = 0 := rfl
    omega
  case round =>
    clear HB2
    obtain ⟨t, Y, rfl, htt, hYs, hR⟩ := hrel
    by_cases hlt : t < r.pn
    · have htl : t < c.ps.length := by rw [← HP.out.2.1]; exact hlt
      obtain ⟨g, o, c2, he, hg, hj⟩ := (HP.out.1.below (HWX.out _ hR.out.2.2).1).pos (by omega)
      simp only [Value.slice.injEq] at he
      obtain ⟨hx0, hx1, hx2⟩ := he
      clear hx1 hx2
      obtain ⟨c0, c1, c2, c3⟩ := pmC_at (hj t htl)
      obtain ⟨y, hy⟩ : ∃ y, y = c.ps[t] := ⟨_, rfl⟩
      rw [← hy] at c0 c1 c2 c3
      obtain ⟨hyn, hyb⟩ := HP.out.2.2 t htl
      rw [← hy] at hyn hyb
      have hLs := prT_size y hyn hyb
      have hlow := hR.out.2.1.lo
      obtain ⟨VP, hVP⟩ : ∃ V, V = (wr.alloc (.cells #[.string y.nm, .int .i64 y.lo, .int .i64 y.hi, .int .i64 y.ba] 56)).alloc (.cells #[.int .i64 y.lo, .int .i64 y.hi, .int .i64 y.ba] 2) := ⟨_, rfl⟩
      have hbP : Below wr.heap.size wr VP := by rw [hVP]; (repeat' (first | (with_reducible exact Below.refl _ _) | (with_reducible assumption) | (with_reducible refine Below.setCell ?_ ?_ _) | (with_reducible refine Below.alloc ?_ ?_ _) | (with_reducible refine below_drewN ?_ _) | (with_reducible refine Below.drew ?_) | (with_reducible exact Nat.le_refl _) | omega | (simp; done) | (simp; omega)))
      have HBP : Hid (Below b V1 VP) := hR.out.2.2.trans (hbP.mono (by omega))
      have HLn : Hid (Calls Tryd.prog 33 #[.pointer (some ⟨b, 0, none⟩), .string (⟨#[112, 97, 114, 97, 109, 32]⟩ ++ y.nm), .slice (some ⟨wr.heap.size + 1, 0, none⟩) 3 3] VP fun e w' => (∃ v, e = .returned v) ∧ SBa b b (Y ++ prT y).data.toList w' ∧ Below b VP w' ∧ OKb b VP w') := by
        refine impl_wl b b Y (wPar ++ y.nm) _ [y.lo, y.hi, y.ba] VP (HTB.out.step HBP.out) (hR.out.2.1.next hbP) ⟨_, rfl, fun _ => ⟨_, (0, 0), rfl, ?_⟩⟩ hyb (by simp) ?_
        · rw [hVP]; exact heap_alloc_at1 wr _ _
        · rw [ba_size]; have e2 : wPar.size = 6 := rfl; omega
      have HY : Hid (Y ++ prT y = linN (wRec ++ c.nm) [] ++ catN (fun i => prT (c.ps.getD i pmD)) (t + 1)) := by
        unfold Hid
        rw [catN_snoc, getD_at htl, ← hy, ← ba_assoc, hR.out.1]
      have HVP : Hid (VP = (wr.alloc (.cells #[.string y.nm, .int .i64 y.lo, .int .i64 y.hi, .int .i64 y.ba] 56)).alloc (.cells #[.int .i64 y.lo, .int .i64 y.hi, .int .i64 y.ba] 2)) := hVP
      have hsa : r.pa = some ⟨g, o, none⟩ := hx0
      clear hj hy hyb hR hx0 hVP hbP
      have b0 : (0 : Int) ≤ (t : Int) := by omega
      have b1 : (t : Int) < (r.pn : Int) := by omega
      go_wp2_with (fail)
      rw [← HVP.out]
      clear HVP
      refine HLn.out.mono ?_
      rintro e w5 ⟨⟨v5, rfl⟩, h5, hb5, ho5⟩
      have HB5 : Hid (SBu b b (Y ++ prT y).data.toList w5 ∧ Below b V1 w5) := ⟨h5.bu, HBP.out.trans hb5⟩
      clear h5 hb5 ho5 HLn HBP c0 c1 c2 c3 hg
      go_wp2
      try rw [← hsa]
      go_roundw
      case rel => exact ⟨t + 1, Y ++ prT y, by go_num, by omega, by rw [ba_size]; push_cast; omega, HY.out, HB5.out⟩
      case measure => simp [intOf]; omega
    · have HY : Hid (Y = linN (wRec ++ c.nm) [] ++ catN (fun i => prT (c.ps.getD i pmD)) c.ps.length ∧ SBu b b Y.data.toList wr ∧ Below b V1 wr) := by
        have e : t = c.ps.length := by have := HP.out.2.1; omega
        rw [← e]; exact hR.out
      have hYs2 : Y.size ≤ 210000000000 := by omega
      obtain ⟨p0, p1, p2, pf, pl⟩ := three_at (HWX.out _ hR.out.2.2).2
      clear hR hYs HP pf
      go_wp2
      clear p0 p1 p2 pl
      go_loopw [39] (fun i wr => ∃ (t : Nat) (Z : ByteArray), i = .int .i64 t ∧ t ≤ r.sn ∧ Z.size ≤ 210000000000 + t * 90000000000 ∧ Hid (Z = Y ++ catN (fun i => spT (c.ss.getD i spD)) t ∧ SBu b b Z.data.toList wr ∧ Below b V1 wr)) (fun i _ => r.sn - (intOf i).toNat)
      case atStart => exact ⟨0, Y, rfl, Nat.zero_le _, by omega, (ba_nil _).symm, HY.out.2⟩
      case round =>
        have HYY : Hid (Y = linN (wRec ++ c.nm) [] ++ catN (fun i => prT (c.ps.getD i pmD)) c.ps.length) := HY.out.1
        clear HY
        obtain ⟨t, Z, rfl, htt, hZs, hR⟩ := hrel
        by_cases hlt : t < r.sn
        · have htl : t < c.ss.length := by rw [← HS.out.2.1]; exact hlt
          have htr : t < rs.length := by rw [← HS.out.2.2]; exact hlt
          obtain ⟨g, o, c2, he, hg, hj⟩ := (HS.out.1.below (HWX.out _ hR.out.2.2).1).pos (by omega)
          simp only [Value.slice.injEq] at he
          obtain ⟨hx0, hx1, hx2⟩ := he
          clear hx1 hx2
          obtain ⟨c0, c1, c2, c3, c4⟩ := rsC_at (hj t htr)
          obtain ⟨y, hy⟩ : ∃ y, y = rs[t] := ⟨_, rfl⟩
          obtain ⟨d, hd⟩ : ∃ d, d = c.ss[t] := ⟨_, rfl⟩
          rw [← hy] at c0 c1 c2 c3 c4
          obtain ⟨f1, f2, f3, f4, f5, f6, f7, f8⟩ := HST.out t htl htr
          rw [← hy, ← hd] at f1 f3 f5 f7
          rw [← hy] at f4
          rw [← hd] at f2 f6 f8
          obtain ⟨U, hU⟩ : ∃ U, U = vtS d.t := ⟨_, rfl⟩
          rw [← hU] at f6 f7
          have hyn : y.nm.size ≤ 16 := by rw [f1]; exact f2
          have hlow := hR.out.2.1.lo
          obtain ⟨V, hV⟩ : ∃ V, V = wr.alloc (.cells #[.string y.nm, .int .i64 y.t.k, .int .i64 y.t.n, .string y.t.s, .slice y.sa y.sn y.sc] 64) := ⟨_, rfl⟩
          obtain ⟨q, hq⟩ : ∃ q, q = wr.heap.size := ⟨_, rfl⟩
          have hbV : Below wr.heap.size wr V := by rw [hV]; (repeat' (first | (with_reducible exact Below.refl _ _) | (with_reducible assumption) | (with_reducible refine Below.setCell ?_ ?_ _) | (with_reducible refine Below.alloc ?_ ?_ _) | (with_reducible refine below_drewN ?_ _) | (with_reducible refine Below.drew ?_) | (with_reducible exact Nat.le_refl _) | omega | (simp; done) | (simp; omega)))
          have HB3 : Hid (SBu b b Z.data.toList V ∧ Below b V1 V ∧ V.heap[q]? = some (.cells #[.string y.nm, .int .i64 y.t.k, .int .i64 y.t.n, .string y.t.s, .slice y.sa y.sn y.sc] 64) ∧ q ≠ b) := ⟨hR.out.2.1.next hbV, hR.out.2.2.trans (hbV.mono (by omega)), by rw [hV, hq]; exact heap_alloc_new _ _, by omega⟩
          have HVT : Hid (∀ X, Below b V1 X → Calls Tryd.prog 34 #[.agg #[.int .i64 y.t.k, .int .i64 y.t.n, .string y.t.s]] X fun e w' => e = .returned (.string U) ∧ Below X.heap.size X w') := fun X hX => f7 X (HTB.out X hX)
          have HLn : Hid (∀ X, SBu b b Z.data.toList X → Below b V1 X → Calls Tryd.prog 33 #[.pointer (some ⟨b, 0, none⟩), .string (((⟨#[115, 116, 101, 112, 32]⟩ ++ y.nm) ++ ⟨#[32]⟩) ++ U), .slice none 0 0] X fun e w' => (∃ v, e = .returned v) ∧ SBa b b (Z ++ stT d).data.toList w' ∧ Below b X w' ∧ OKb b X w') := fun X hX1 hX2 => by
            have hw := impl_wl b b Z (((wStp ++ y.nm) ++ ⟨#[32]⟩) ++ U) _ [] X (HTB.out.step hX2) hX1 (NSl.nil _) (fun n hn => by cases hn) (by simp) (by rw [ba_size, ba_size, ba_size, one_size]; have e2 : wStp.size = 5 := rfl; omega)
            have e9 : linN (((wStp ++ y.nm) ++ ⟨#[32]⟩) ++ U) [] = stT d := by rw [f1, hU]; rfl
            rw [e9] at hw
            exact hw
          have hst : (stT d).size ≤ 10000000000 := by
            have := val_line_size wStp d.nm U (by decide) f2 f6
            rw [hU] at this
            exact this
          have HZ1 : Hid (Z = Y ++ catN (fun i => spT (c.ss.getD i spD)) t ∧ d = c.ss[t]) := ⟨hR.out.1, hd⟩
          have HSE : Hid (RG 4 seC W (.slice y.sa y.sn y.sc) d.ss ∧ y.sn = d.ss.length ∧ ∀ (j : Nat) (hj : j < d.ss.length), (d.ss[j]).nm.size ≤ 16 ∧ (vtS (d.ss[j]).v).size ≤ 2002000001 ∧ ∀ X, Tab X → Calls Tryd.prog 34 #[.agg #[.int .i64 (d.ss[j]).v.k, .int .i64 (d.ss[j]).v.n, .string (d.ss[j]).v.s]] X fun e w' => e = .returned (.string (vtS (d.ss[j]).v)) ∧ Below X.heap.size X w') := ⟨f5, f3, f8⟩
          have HV : Hid (V = wr.alloc (.cells #[.string y.nm, .int .i64 y.t.k, .int .i64 y.t.n, .string y.t.s, .slice y.sa y.sn y.sc] 64) ∧ q = wr.heap.size) := ⟨hV, hq⟩
          have hsa : r.sa = some ⟨g, o, none⟩ := hx0
          have hy8 : y.sn ≤ 8 := f4
          have hUs := f6
          clear hj hy hd f1 f2 f3 f4 f5 f6 f7 f8 hU hR hx0 hV hq hbV
          have b0 : (0 : Int) ≤ (t : Int) := by omega
          have b1 : (t : Int) < (r.sn : Int) := by omega
          go_wp2_with (fail)
          rw [← HV.out.1, ← HV.out.2]
          clear HV c0 c1 c2 c3 c4 hg
          refine wp_region_holdsA (S := fun w' => w'.heap[q]? = some (.cells #[.string y.nm, .int .i64 y.t.k, .int .i64 y.t.n, .string y.t.s, .slice y.sa y.sn y.sc] 64)) (by kernel_rfl) HB3.out.2.2.1 (fun hS => ?_)
          refine fl_takeA (i := 0) (d := 43) (v := .pointer (some ⟨q, 0, none⟩)) rfl rfl rfl (by kernel_rfl) (by kernel_rfl) (by kernel_rfl) hS ?_ ?_
          · intro w' hk; obtain ⟨a0, a1, a2, a3, a4, af, al⟩ := five_at hk; go_simp
          simp only [Act.put, List.setIfInBounds_toArray, List.set_cons_zero, List.set_cons_succ]
          refine fl_takeA (i := 1) (d := 44) (v := .string y.nm) rfl rfl rfl (by kernel_rfl) (by kernel_rfl) (by kernel_rfl) hS ?_ ?_
          · intro w' hk; obtain ⟨a0, a1, a2, a3, a4, af, al⟩ := five_at hk; go_simp
          simp only [Act.put, List.setIfInBounds_toArray, List.set_cons_zero, List.set_cons_succ]
          refine fl_takeA (i := 2) (d := 45) (v := .string (⟨#[115, 116, 101, 112, 32]⟩ ++ y.nm)) rfl rfl rfl (by kernel_rfl) (by kernel_rfl) (by kernel_rfl) hS ?_ ?_
          · intro w' hk; obtain ⟨a0, a1, a2, a3, a4, af, al⟩ := five_at hk; go_simp; omega
          simp only [Act.put, List.setIfInBounds_toArray, List.set_cons_zero, List.set_cons_succ]
          refine fl_takeA (i := 3) (d := 46) (v := .string ((⟨#[115, 116, 101, 112, 32]⟩ ++ y.nm) ++ ⟨#[32]⟩)) rfl rfl rfl (by kernel_rfl) (by kernel_rfl) (by kernel_rfl) hS ?_ ?_
          · intro w' hk; obtain ⟨a0, a1, a2, a3, a4, af, al⟩ := five_at hk; go_simp; omega
          simp only [Act.put, List.setIfInBounds_toArray, List.set_cons_zero, List.set_cons_succ]
          refine fl_takeA (i := 4) (d := 47) (v := .pointer (some ⟨q, 1, none⟩)) rfl rfl rfl (by kernel_rfl) (by kernel_rfl) (by kernel_rfl) hS ?_ ?_
          · intro w' hk; obtain ⟨a0, a1, a2, a3, a4, af, al⟩ := five_at hk; go_simp
          simp only [Act.put, List.setIfInBounds_toArray, List.set_cons_zero, List.set_cons_succ]
          refine fl_takeA (i := 5) (d := 48) (v := .agg #[.int .i64 y.t.k, .int .i64 y.t.n, .string y.t.s]) rfl rfl rfl (by kernel_rfl) (by kernel_rfl) (by kernel_rfl) hS ?_ ?_
          · intro w' hk; obtain ⟨a0, a1, a2, a3, a4, af, al⟩ := five_at hk; go_simp
          simp only [Act.put, List.setIfInBounds_toArray, List.set_cons_zero, List.set_cons_succ]
          refine wpAnyH_all (rs := [6]) (by kernel_rfl) (by simp) ?_
          intro i hi
          obtain rfl : i = 6 := by simpa using hi
          refine op_call (d := 49) rfl rfl rfl (by go_simp) ((HVT.out V.drew (HB3.out.2.1.drew)).mono ?_)
          rintro e y1 ⟨rfl, hb5⟩
          have hbY : Below V.heap.size V y1 := ((Below.refl _ _).drew).trans (hb5.mono (by simp))
          have hS1 : y1.heap[q]? = some (.cells #[.string y.nm, .int .i64 y.t.k, .int .i64 y.t.n, .string y.t.s, .slice y.sa y.sn y.sc] 64) := (hbY.block _ (ltQ HB3.out.2.2.1)).trans HB3.out.2.2.1
          refine ⟨_, rfl, hS1, ?_⟩
          simp only [Act.put, List.setIfInBounds_toArray, List.set_cons_zero, List.set_cons_succ]
          have hlowV := HB3.out.1.lo
          have HY1 : Hid (SBu b b Z.data.toList y1 ∧ Below b V1 y1) := ⟨HB3.out.1.next hbY, HB3.out.2.1.trans (hbY.mono (by omega))⟩
          refine wpAnyH_all (rs := [7]) (by kernel_rfl) (by simp) ?_
          intro i hi
          obtain rfl : i = 7 := by simpa using hi
          refine op_val (d := 50) (v := .string (((⟨#[115, 116, 101, 112, 32]⟩ ++ y.nm) ++ ⟨#[32]⟩) ++ U)) (w' := y1) rfl rfl rfl (by go_simp; omega) ?_
          simp only [Act.put, List.setIfInBounds_toArray, List.set_cons_zero, List.set_cons_succ]
          refine ⟨hS1, ?_⟩
          refine wpAnyH_all (rs := [8]) (by kernel_rfl) (by simp) ?_
          intro i hi
          obtain rfl : i = 8 := by simpa using hi
          refine op_call (d := 51) rfl rfl rfl (by go_simp) ((HLn.out y1 HY1.out.1 HY1.out.2).mono ?_)
          rintro e y2 ⟨⟨v2, rfl⟩, h6, hb6, ho6⟩
          have hS2 : y2.heap[q]? = some (.cells #[.string y.nm, .int .i64 y.t.k, .int .i64 y.t.n, .string y.t.s, .slice y.sa y.sn y.sc] 64) := ho6.at hS1 HB3.out.2.2.2 (fun c fz e => by injection e with _ e _; exact absurd e (by decide))
          refine ⟨_, rfl, hS2, ?_⟩
          simp only [Act.put, List.setIfInBounds_toArray, List.set_cons_zero, List.set_cons_succ]
          refine wpAnyH_done (by kernel_rfl) (NoPanic.normal ?_) _
          have HB5 : Hid (SBu b b (Z ++ stT d).data.toList y2 ∧ Below b V1 y2) := ⟨h6.bu, HY1.out.2.trans hb6⟩
          obtain ⟨a0, a1, a2, a3, a4, af, al⟩ := five_at hS2
          clear hS hS1 hS2 h6 hb6 ho6 hbY hb5 HY1 HB3 HLn HVT af
          obtain ⟨Z1, hZ1⟩ : ∃ Z1, Z1 = Z ++ stT d := ⟨_, rfl⟩
          have hZ1s : Z1.size ≤ 210000000000 + t * 90000000000 + 10000000000 := by rw [hZ1, ba_size]; omega
          rw [← hZ1] at HB5
          have HZ2 : Hid (Z1 = Z ++ stT d) := hZ1
          clear hZ1
          go_wp2
          clear a0 a1 a2 a3 a4 al
          go_loopw [55] (fun i wr => ∃ (k : Nat) (Q : ByteArray), i = .int .i64 k ∧ k ≤ y.sn ∧ Q.size ≤ 210000000000 + t * 90000000000 + 10000000000 + k * 10000000000 ∧ Hid (Q = Z1 ++ catN (fun j => seT (d.ss.getD j seD)) k ∧ SBu b b Q.data.toList wr ∧ Below b V1 wr)) (fun i _ => y.sn - (intOf i).toNat)
          case atStart => exact ⟨0, Z1, rfl, Nat.zero_le _, by omega, (ba_nil _).symm, HB5.out⟩
          case round =>
            clear HB5
            obtain ⟨k, Q, rfl, hkk, hQs, hR⟩ := hrel
            by_cases hlk : k < y.sn
            · have hkl : k < d.ss.length := by rw [← HSE.out.2.1]; exact hlk
              obtain ⟨g2, o2, c2, he, hg, hj⟩ := (HSE.out.1.below (HWX.out _ hR.out.2.2).1).pos (by omega)
              simp only [Value.slice.injEq] at he
              obtain ⟨hx0, hx1, hx2⟩ := he
              clear hx1 hx2
              obtain ⟨e0, e1, e2, e3⟩ := seC_at (hj k hkl)
              obtain ⟨x, hx⟩ : ∃ x, x = d.ss[k] := ⟨_, rfl⟩
              rw [← hx] at e0 e1 e2 e3
              obtain ⟨f1, f3, f7⟩ := HSE.out.2.2 k hkl
              rw [← hx] at f1 f3 f7
              obtain ⟨U2, hU⟩ : ∃ U, U = vtS x.v := ⟨_, rfl⟩
              rw [← hU] at f3 f7
              have hlow2 := hR.out.2.1.lo
              obtain ⟨V, hV⟩ : ∃ V, V = wr.alloc (.cells #[.string x.nm, .int .i64 x.v.k, .int .i64 x.v.n, .string x.v.s] 67) := ⟨_, rfl⟩
              obtain ⟨q, hq⟩ : ∃ q, q = wr.heap.size := ⟨_, rfl⟩
              have hbV : Below wr.heap.size wr V := by rw [hV]; (repeat' (first | (with_reducible exact Below.refl _ _) | (with_reducible assumption) | (with_reducible refine Below.setCell ?_ ?_ _) | (with_reducible refine Below.alloc ?_ ?_ _) | (with_reducible refine below_drewN ?_ _) | (with_reducible refine Below.drew ?_) | (with_reducible exact Nat.le_refl _) | omega | (simp; done) | (simp; omega)))
              have HB3 : Hid (SBu b b Q.data.toList V ∧ Below b V1 V ∧ V.heap[q]? = some (.cells #[.string x.nm, .int .i64 x.v.k, .int .i64 x.v.n, .string x.v.s] 67) ∧ q ≠ b) := ⟨hR.out.2.1.next hbV, hR.out.2.2.trans (hbV.mono (by omega)), by rw [hV, hq]; exact heap_alloc_new _ _, by omega⟩
              have HVT : Hid (∀ X, Below b V1 X → Calls Tryd.prog 34 #[.agg #[.int .i64 x.v.k, .int .i64 x.v.n, .string x.v.s]] X fun e w' => e = .returned (.string U2) ∧ Below X.heap.size X w') := fun X hX => f7 X (HTB.out X hX)
              have HLn : Hid (∀ X, SBu b b Q.data.toList X → Below b V1 X → Calls Tryd.prog 33 #[.pointer (some ⟨b, 0, none⟩), .string (((⟨#[115, 101, 116, 32]⟩ ++ x.nm) ++ ⟨#[32]⟩) ++ U2), .slice none 0 0] X fun e w' => (∃ v, e = .returned v) ∧ SBa b b (Q ++ seT x).data.toList w' ∧ Below b X w' ∧ OKb b X w') := fun X hX1 hX2 => by
                have hw := impl_wl b b Q (((wSet ++ x.nm) ++ ⟨#[32]⟩) ++ U2) _ [] X (HTB.out.step hX2) hX1 (NSl.nil _) (fun n hn => by cases hn) (by simp) (by rw [ba_size, ba_size, ba_size, one_size]; have e2 : wSet.size = 4 := rfl; omega)
                have e9 : linN (((wSet ++ x.nm) ++ ⟨#[32]⟩) ++ U2) [] = seT x := by rw [hU]; rfl
                rw [e9] at hw
                exact hw
              have hst2 : (seT x).size ≤ 10000000000 := by
                have := val_line_size wSet x.nm U2 (by decide) f1 f3
                rw [hU] at this
                exact this
              have HQ1 : Hid (Q ++ seT x = Z1 ++ catN (fun j => seT (d.ss.getD j seD)) (k + 1)) := by
                unfold Hid; rw [catN_snoc, getD_at hkl, ← hx, ← ba_assoc, hR.out.1]
              have HV : Hid (V = wr.alloc (.cells #[.string x.nm, .int .i64 x.v.k, .int .i64 x.v.n, .string x.v.s] 67) ∧ q = wr.heap.size) := ⟨hV, hq⟩
              have hs2 : y.sa = some ⟨g2, o2, none⟩ := hx0
              clear hj hx f7 hU hR hx0 hV hq hbV
              have b2 : (0 : Int) ≤ (k : Int) := by omega
              have b3 : (k : Int) < (y.sn : Int) := by omega
              go_wp2_with (fail)
              rw [← HV.out.1, ← HV.out.2]
              clear HV e0 e1 e2 e3 hg
              refine wp_region_holdsA (S := fun w' => w'.heap[q]? = some (.cells #[.string x.nm, .int .i64 x.v.k, .int .i64 x.v.n, .string x.v.s] 67)) (by kernel_rfl) HB3.out.2.2.1 (fun hS => ?_)
              refine fl_takeA (i := 0) (d := 59) (v := .pointer (some ⟨q, 0, none⟩)) rfl rfl rfl (by kernel_rfl) (by kernel_rfl) (by kernel_rfl) hS ?_ ?_
              · intro w' hk; obtain ⟨a0, a1, a2, a3, af, al⟩ := quad_at hk; go_simp
              simp only [Act.put, List.setIfInBounds_toArray, List.set_cons_zero, List.set_cons_succ]
              refine fl_takeA (i := 1) (d := 60) (v := .string x.nm) rfl rfl rfl (by kernel_rfl) (by kernel_rfl) (by kernel_rfl) hS ?_ ?_
              · intro w' hk; obtain ⟨a0, a1, a2, a3, af, al⟩ := quad_at hk; go_simp
              simp only [Act.put, List.setIfInBounds_toArray, List.set_cons_zero, List.set_cons_succ]
              refine fl_takeA (i := 2) (d := 61) (v := .string (⟨#[115, 101, 116, 32]⟩ ++ x.nm)) rfl rfl rfl (by kernel_rfl) (by kernel_rfl) (by kernel_rfl) hS ?_ ?_
              · intro w' hk; obtain ⟨a0, a1, a2, a3, af, al⟩ := quad_at hk; go_simp; omega
              simp only [Act.put, List.setIfInBounds_toArray, List.set_cons_zero, List.set_cons_succ]
              refine fl_takeA (i := 3) (d := 62) (v := .string ((⟨#[115, 101, 116, 32]⟩ ++ x.nm) ++ ⟨#[32]⟩)) rfl rfl rfl (by kernel_rfl) (by kernel_rfl) (by kernel_rfl) hS ?_ ?_
              · intro w' hk; obtain ⟨a0, a1, a2, a3, af, al⟩ := quad_at hk; go_simp; omega
              simp only [Act.put, List.setIfInBounds_toArray, List.set_cons_zero, List.set_cons_succ]
              refine fl_takeA (i := 4) (d := 63) (v := .pointer (some ⟨q, 1, none⟩)) rfl rfl rfl (by kernel_rfl) (by kernel_rfl) (by kernel_rfl) hS ?_ ?_
              · intro w' hk; obtain ⟨a0, a1, a2, a3, af, al⟩ := quad_at hk; go_simp
              simp only [Act.put, List.setIfInBounds_toArray, List.set_cons_zero, List.set_cons_succ]
              refine fl_takeA (i := 5) (d := 64) (v := .agg #[.int .i64 x.v.k, .int .i64 x.v.n, .string x.v.s]) rfl rfl rfl (by kernel_rfl) (by kernel_rfl) (by kernel_rfl) hS ?_ ?_
              · intro w' hk; obtain ⟨a0, a1, a2, a3, af, al⟩ := quad_at hk; go_simp
              simp only [Act.put, List.setIfInBounds_toArray, List.set_cons_zero, List.set_cons_succ]
              refine wpAnyH_all (rs := [6]) (by kernel_rfl) (by simp) ?_
              intro i hi
              obtain rfl : i = 6 := by simpa using hi
              refine op_call (d := 65) rfl rfl rfl (by go_simp) ((HVT.out V.drew (HB3.out.2.1.drew)).mono ?_)
              rintro e y1 ⟨rfl, hb5⟩
              have hbY : Below V.heap.size V y1 := ((Below.refl _ _).drew).trans (hb5.mono (by simp))
              have hS1 : y1.heap[q]? = some (.cells #[.string x.nm, .int .i64 x.v.k, .int .i64 x.v.n, .string x.v.s] 67) := (hbY.block _ (ltQ HB3.out.2.2.1)).trans HB3.out.2.2.1
              refine ⟨_, rfl, hS1, ?_⟩
              simp only [Act.put, List.setIfInBounds_toArray, List.set_cons_zero, List.set_cons_succ]
              have hlowV := HB3.out.1.lo
              have HY1 : Hid (SBu b b Q.data.toList y1 ∧ Below b V1 y1) := ⟨HB3.out.1.next hbY, HB3.out.2.1.trans (hbY.mono (by omega))⟩
              refine wpAnyH_all (rs := [7]) (by kernel_rfl) (by simp) ?_
              intro i hi
              obtain rfl : i = 7 := by simpa using hi
              refine op_val (d := 66) (v := .string (((⟨#[115, 101, 116, 32]⟩ ++ x.nm) ++ ⟨#[32]⟩) ++ U2)) (w' := y1) rfl rfl rfl (by go_simp; omega) ?_
              simp only [Act.put, List.setIfInBounds_toArray, List.set_cons_zero, List.set_cons_succ]
              refine ⟨hS1, ?_⟩
              refine wpAnyH_all (rs := [8]) (by kernel_rfl) (by simp) ?_
              intro i hi
              obtain rfl : i = 8 := by simpa using hi
              refine op_call (d := 67) rfl rfl rfl (by go_simp) ((HLn.out y1 HY1.out.1 HY1.out.2).mono ?_)
              rintro e y2 ⟨⟨v2, rfl⟩, h6, hb6, ho6⟩
              have hS2 : y2.heap[q]? = some (.cells #[.string x.nm, .int .i64 x.v.k, .int .i64 x.v.n, .string x.v.s] 67) := ho6.at hS1 HB3.out.2.2.2 (fun c fz e => by injection e with _ e _; exact absurd e (by decide))
              refine ⟨_, rfl, hS2, ?_⟩
              simp only [Act.put, List.setIfInBounds_toArray, List.set_cons_zero, List.set_cons_succ]
              refine wpAnyH_done (by kernel_rfl) (NoPanic.normal ?_) _
              have HB5 : Hid (SBu b b (Q ++ seT x).data.toList y2 ∧ Below b V1 y2) := ⟨h6.bu, HY1.out.2.trans hb6⟩
              clear hS hS1 hS2 h6 hb6 ho6 hbY hb5 HY1 HB3 HLn HVT
              go_wp2
              try rw [← hs2]
              go_roundw
              case rel => exact ⟨k + 1, Q ++ seT x, by go_num, by omega, by rw [ba_size]; push_cast; omega, HQ1.out, HB5.out⟩
              case measure => simp [intOf]; omega
            · have HE : Hid (Q = Y ++ catN (fun i => spT (c.ss.getD i spD)) (t + 1) ∧ SBu b b Q.data.toList wr ∧ Below b V1 wr) := by
                refine ⟨?_, hR.out.2⟩
                have ek : k = d.ss.length := by have := HSE.out.2.1; omega
                rw [hR.out.1, HZ2.out, HZ1.out.1, catN_snoc, getD_at htl, ← HZ1.out.2, ek]
                unfold spT
                simp only [ba_assoc]
              have hQs2 : Q.size ≤ 210000000000 + (t + 1) * 90000000000 := by omega
              clear hR hQs
              go_wp2
              try rw [← hsa]
              go_roundw
              case rel => exact ⟨t + 1, Q, by go_num, by omega, by push_cast at hQs2 ⊢; omega, HE.out⟩
              case measure => simp [intOf]; omega
        · have HE : Hid (Z = foT c ∧ Below b V1 wr ∧ SBu b b Z.data.toList wr) := by
            refine ⟨?_, hR.out.2.2, hR.out.2.1⟩
            have et : t = c.ss.length := by have := HS.out.2.1; omega
            rw [hR.out.1, et, HYY.out]; rfl
          have hlen : ∀ X, SBu b b Z.data.toList X → Calls Tryd.prog 35 #[.pointer (some ⟨b, 0, none⟩)] X fun e w' => e = .returned (.int .i64 (Z.size : Int)) ∧ w' = X := fun X hX => by
            have := Tryd.Builder_Len b b _ X hX
            rw [Lib.byteCells_length] at this
            exact this
          have HLE : Hid (∀ X, SBu b b Z.data.toList X → Calls Tryd.prog 35 #[.pointer (some ⟨b, 0, none⟩)] X fun e w' => e = .returned (.int .i64 (Z.size : Int)) ∧ w' = X) := hlen
          have hlow := hR.out.2.1.lo
          clear hR hlen
          go_wp2_with (fail)
          refine (HLE.out wr HE.out.2.2).mono ?_
          rintro e w7 ⟨rfl, rfl⟩
          clear HLE
          by_cases hbig : 4000 < Z.size
          · have hFe : F = ⟨#[]⟩ := by rw [HFF.out, ← HE.out.1, if_pos hbig]
            subst hFe
            clear HFF
            have hbig2 : (4000 : Int) < (Z.size : Int) := by omega
            go_wp2
            go_returns
            exact ⟨rfl, (HWX.out _ HE.out.2.1).1⟩
          · have hFe : F = Z := by rw [HFF.out, ← HE.out.1, if_neg hbig]
            subst hFe
            clear HFF
            have hbig2 : ¬ (4000 : Int) < (F.size : Int) := by omega
            have HST2 : Hid (Calls Tryd.prog 36 #[.pointer (some ⟨b, 0, none⟩)] w7 fun e w' => e = .returned (.string F) ∧ Below b w7 w') := Tryd.Builder_String_any b b F.data.toList w7 HE.out.2.2 (by omega)
            go_wp2_with (fail)
            refine HST2.out.mono ?_
            rintro e w8 ⟨rfl, hb8⟩
            have HB8 : Hid (Below W.heap.size W w8) := (HWX.out _ (HE.out.2.1.trans hb8)).1
            clear hb8 HST2
            go_wp2
            go_returns
            exact ⟨rfl, HB8.out⟩

end Go.Proofs.YtnljomeacnjmmaaDoor
